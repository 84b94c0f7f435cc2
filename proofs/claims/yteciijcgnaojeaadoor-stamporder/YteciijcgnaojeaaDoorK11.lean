/- The order of timestamps as texts, and parts of them. No program in it. -/
import Derived.Test.YteciijcgnaojeaaDoorT1
import Derived.Test.YteciijcgnaojeaaDoorCal
import Derived.Lib.Strings
namespace Go.Proofs.YteciijcgnaojeaaDoor
set_option linter.unusedVariables false
set_option linter.unusedSimpArgs false

theorem u_lt {a b : Int} (a1 : 0 ≤ a) (a2 : a ≤ 255) (b1 : 0 ≤ b) (b2 : b ≤ 255) : (u a < u b) ↔ a < b := by
  have h1 := u_toNat a1 a2
  have h2 := u_toNat b1 b2
  rw [UInt8.lt_iff_toNat_lt]
  omega
theorem u_inj {a b : Int} (a1 : 0 ≤ a) (a2 : a ≤ 255) (b1 : 0 ≤ b) (b2 : b ≤ 255) (h : u a = u b) : a = b := by
  have h1 := u_toNat a1 a2
  have h2 := u_toNat b1 b2
  have := congrArg UInt8.toNat h
  omega
theorem bl_cons (a b : UInt8) (x y : List UInt8) : Op.bytesLess (a :: x) (b :: y) = (decide (a < b) || (a == b && Op.bytesLess x y)) := rfl
theorem bl_dig {a b : Int} (a1 : 0 ≤ a) (a2 : a ≤ 255) (b1 : 0 ≤ b) (b2 : b ≤ 255) (x y : List UInt8) :
    Op.bytesLess (u a :: x) (u b :: y) = true ↔ (a < b ∨ a = b ∧ Op.bytesLess x y = true) := by
  rw [bl_cons]
  simp only [Bool.or_eq_true, decide_eq_true_eq, Bool.and_eq_true, beq_iff_eq]
  rw [u_lt a1 a2 b1 b2]
  constructor
  · rintro (h | ⟨h, k⟩)
    · exact Or.inl h
    · exact Or.inr ⟨u_inj a1 a2 b1 b2 h, k⟩
  · rintro (h | ⟨h, k⟩)
    · exact Or.inl h
    · exact Or.inr ⟨by rw [h], k⟩
theorem bl_same (c : UInt8) (x y : List UInt8) : Op.bytesLess (c :: x) (c :: y) = true ↔ Op.bytesLess x y = true := by
  rw [bl_cons]; simp [UInt8.lt_irrefl]
theorem bl_nil : ¬ Op.bytesLess [] [] = true := by simp [Op.bytesLess]
theorem bl_d2 {a b : Int} (a1 : 0 ≤ a) (a2 : a < 100) (b1 : 0 ≤ b) (b2 : b < 100) (x y : List UInt8) :
    Op.bytesLess (d2 a ++ x) (d2 b ++ y) = true ↔ (a < b ∨ a = b ∧ Op.bytesLess x y = true) := by
  unfold d2
  simp only [List.cons_append, List.nil_append]
  rw [bl_dig (by omega) (by omega) (by omega) (by omega), bl_dig (by omega) (by omega) (by omega) (by omega)]
  constructor
  · rintro (h | ⟨h, (k | ⟨k, l⟩)⟩)
    · left; omega
    · left; omega
    · right; exact ⟨by omega, l⟩
  · rintro (h | ⟨h, l⟩)
    · by_cases c : a / 10 < b / 10
      · left; omega
      · right; exact ⟨by omega, Or.inl (by omega)⟩
    · right; exact ⟨by omega, Or.inr ⟨by omega, l⟩⟩
theorem bl_d4 {a b : Int} (a1 : 0 ≤ a) (a2 : a < 10000) (b1 : 0 ≤ b) (b2 : b < 10000) (x y : List UInt8) :
    Op.bytesLess (d4 a ++ x) (d4 b ++ y) = true ↔ (a < b ∨ a = b ∧ Op.bytesLess x y = true) := by
  have e : ∀ n : Int, d4 n = u (48 + n / 1000) :: u (48 + n / 100 % 10) :: u (48 + n / 10 % 10) :: u (48 + n % 10) :: [] := fun n => rfl
  rw [e a, e b]
  simp only [List.cons_append, List.nil_append]
  rw [bl_dig (by omega) (by omega) (by omega) (by omega), bl_dig (by omega) (by omega) (by omega) (by omega), bl_dig (by omega) (by omega) (by omega) (by omega), bl_dig (by omega) (by omega) (by omega) (by omega)]
  have ha : a = 1000 * (a / 1000) + 100 * (a / 100 % 10) + 10 * (a / 10 % 10) + a % 10 := by omega
  have hb : b = 1000 * (b / 1000) + 100 * (b / 100 % 10) + 10 * (b / 10 % 10) + b % 10 := by omega
  have x1 : 0 ≤ a / 100 % 10 ∧ a / 100 % 10 ≤ 9 ∧ 0 ≤ a / 10 % 10 ∧ a / 10 % 10 ≤ 9 ∧ 0 ≤ a % 10 ∧ a % 10 ≤ 9 := by omega
  have x2 : 0 ≤ b / 100 % 10 ∧ b / 100 % 10 ≤ 9 ∧ 0 ≤ b / 10 % 10 ∧ b / 10 % 10 ≤ 9 ∧ 0 ≤ b % 10 ∧ b % 10 ≤ 9 := by omega
  clear a1 a2 b1 b2
  generalize a / 1000 = p3 at ha x1 ⊢
  generalize a / 100 % 10 = p2 at ha x1 ⊢
  generalize a / 10 % 10 = p1 at ha x1 ⊢
  generalize a % 10 = p0 at ha x1 ⊢
  generalize b / 1000 = q3 at hb x2 ⊢
  generalize b / 100 % 10 = q2 at hb x2 ⊢
  generalize b / 10 % 10 = q1 at hb x2 ⊢
  generalize b % 10 = q0 at hb x2 ⊢
  by_cases q : Op.bytesLess x y = true
  · simp only [q, and_true]; omega
  · simp only [q, and_false, or_false]; simp; omega
/-- the date in a timestamp -/
def dateL (y m d : Int) : List UInt8 := d4 y ++ 45 :: (d2 m ++ 45 :: d2 d)
/-- the time of day in a timestamp -/
def clockL (r : Int) : List UInt8 := d2 (r / 3600) ++ 58 :: (d2 (r / 60 % 60) ++ 58 :: d2 (r % 60))
theorem stampL_parts (y m d r : Int) : stampL y m d r = dateL y m d ++ 84 :: clockL r := by unfold stampL dateL clockL; simp
theorem dateL_len (y m d : Int) : (dateL y m d).length = 10 := by simp [dateL, d2, d4]
theorem clockL_len (r : Int) : (clockL r).length = 8 := by simp [clockL, d2]
theorem stampL_len (y m d r : Int) : (stampL y m d r).length = 19 := by rw [stampL_parts]; simp [dateL_len, clockL_len]
theorem part_head {a b : List UInt8} {n : Nat} (h : a.length = n) : ((S (a ++ b)).extract 0 n).toList = a := by
  rw [ByteArray.toList_eq, Lib.extract_data]
  simp [S, h]
theorem part_tail {a b : List UInt8} {n k : Nat} (h : a.length = n) (hk : (a ++ b).length = k) : ((S (a ++ b)).extract n k).toList = b := by
  rw [ByteArray.toList_eq, Lib.extract_data]
  have : k - n = b.length := by rw [List.length_append] at hk; omega
  simp [S, h, this]
theorem bl_date {y m d a b c : Int} (h : Cal.Valid y m d) (k : Cal.Valid a b c) : Op.bytesLess (dateL y m d) (dateL a b c) = true ↔ Cal.days y m d < Cal.days a b c := by
  obtain ⟨h1, h2, h3, h4, h5, h6⟩ := h
  obtain ⟨k1, k2, k3, k4, k5, k6⟩ := k
  have h7 := (Cal.ml_bd y h3 h4).2
  have k7 := (Cal.ml_bd a k3 k4).2
  rw [Cal.days_iff ⟨h1, h2, h3, h4, h5, h6⟩ ⟨k1, k2, k3, k4, k5, k6⟩]
  unfold dateL
  rw [bl_d4 (by omega) (by omega) (by omega) (by omega), bl_same, bl_d2 (by omega) (by omega) (by omega) (by omega), bl_same]
  have e : Op.bytesLess (d2 d) (d2 c) = true ↔ d < c := by
    have := bl_d2 (a := d) (b := c) (by omega) (by omega) (by omega) (by omega) [] []
    simp only [List.append_nil] at this
    rw [this]; simp [bl_nil]
  rw [e]
theorem bl_stamp {y m d r a b c q : Int} (h : Cal.Valid y m d) (k : Cal.Valid a b c) (r1 : 0 ≤ r) (r2 : r < 86400) (q1 : 0 ≤ q) (q2 : q < 86400) :
    Op.bytesLess (stampL y m d r) (stampL a b c q) = true ↔ 86400 * Cal.days y m d + r < 86400 * Cal.days a b c + q := by
  have hd := bl_date h k
  have iff2 := Cal.days_iff h k
  have inj := fun e => Cal.days_inj h k e
  obtain ⟨h1, h2, h3, h4, h5, h6⟩ := h
  obtain ⟨k1, k2, k3, k4, k5, k6⟩ := k
  have h7 := (Cal.ml_bd y h3 h4).2
  have k7 := (Cal.ml_bd a k3 k4).2
  unfold stampL
  rw [bl_d4 (by omega) (by omega) (by omega) (by omega), bl_same, bl_d2 (by omega) (by omega) (by omega) (by omega), bl_same, bl_d2 (by omega) (by omega) (by omega) (by omega), bl_same,
    bl_d2 (by omega) (by omega) (by omega) (by omega), bl_same, bl_d2 (by omega) (by omega) (by omega) (by omega), bl_same]
  have e : Op.bytesLess (d2 (r % 60)) (d2 (q % 60)) = true ↔ r % 60 < q % 60 := by
    have := bl_d2 (a := r % 60) (b := q % 60) (by omega) (by omega) (by omega) (by omega) [] []
    simp only [List.append_nil] at this
    rw [this]; simp [bl_nil]
  rw [e]
  clear hd e
  by_cases z : Cal.days y m d = Cal.days a b c
  · obtain ⟨e1, e2, e3⟩ := inj z
    subst e1 e2 e3
    constructor
    · intro hh; omega
    · intro hh; omega
  · by_cases l : Cal.days y m d < Cal.days a b c
    · have := iff2.1 l
      constructor
      · intro _; omega
      · intro _; omega
    · have n1 : ¬ (y < a ∨ y = a ∧ (m < b ∨ m = b ∧ d < c)) := fun hh => l (iff2.2 hh)
      have n2 : ¬ (y = a ∧ m = b ∧ d = c) := fun ⟨e1, e2, e3⟩ => z (by rw [e1, e2, e3])
      constructor
      · intro hh; omega
      · intro hh; omega
end Go.Proofs.YteciijcgnaojeaaDoor
