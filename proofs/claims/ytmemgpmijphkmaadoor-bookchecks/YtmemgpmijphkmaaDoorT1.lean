/- What the reference's small functions on texts return: chr, Digits, fixed. -/
import Derived.Test.YtmemgpmijphkmaaDoorProg
import Derived.Test.YtmemgpmijphkmaaDoorG0
import Derived.Lib.Hide
namespace Go.Proofs.YtmemgpmijphkmaaDoor
set_option linter.unusedVariables false
set_option linter.unusedSimpArgs false
open Go.RowKit

theorem conv_one (n : Int) (w : World) (h1 : 0 ≤ n) (h2 : n ≤ 255) :
    (convert 77 9 (.slice (some ⟨w.heap.size, 0, none⟩) 1 1)).run Tryd.prog (w.alloc (.cells #[.int .u8 n] 5)) = .ok (.string (S [u n])) (w.alloc (.cells #[.int .u8 n] 5)) := by
  refine run_convert_bytes_back (P := Tryd.prog) (w.alloc (.cells #[.int .u8 n] 5)) 77 9 5 ⟨w.heap.size, 0, none⟩ 1 [u n] Tryd.underlying77 Tryd.underlying5 Tryd.underlying9 ?_
  intro j hj
  obtain rfl : j = 0 := by simpa using hj
  have : (Addr.add ⟨w.heap.size, 0, none⟩ 0) = ⟨w.heap.size, 0, none⟩ := rfl
  rw [this, World.cell?_alloc_new]
  simp [u_toNat h1 h2]

/-- the decimal digits of a number -/
def dg (n : Nat) : List UInt8 := if n < 10 then [u (n + 48)] else dg (n / 10) ++ [u ((n % 10 : Nat) + 48)]
/-- the same of an integer that is not below 0 -/
def dz (n : Int) : List UInt8 := dg n.toNat
theorem dz_small {n : Int} (h0 : 0 ≤ n) (h : n < 10) : dz n = [u (48 + n)] := by
  unfold dz; rw [dg, if_pos (by omega)]; congr 2; omega
theorem dz_big {n : Int} (h0 : 0 ≤ n) (h : ¬ n < 10) : dz n = dz (n / 10) ++ [u (48 + n % 10)] := by
  unfold dz; rw [dg, if_neg (by omega)]
  have e1 : n.toNat / 10 = (n / 10).toNat := by omega
  have e2 : ((n.toNat % 10 : Nat) : Int) + 48 = 48 + n % 10 := by omega
  rw [e1, e2]
theorem dz_len : ∀ (k : Nat) (n : Int), 0 ≤ n → n < 10 ^ (k + 1) → 1 ≤ (dz n).length ∧ (dz n).length ≤ k + 1 := by
  intro k
  induction k with
  | zero => intro n h0 h; rw [dz_small h0 (by simpa using h)]; simp
  | succ k ih =>
    intro n h0 h
    by_cases c : n < 10
    · rw [dz_small h0 c]; simp
    · rw [dz_big h0 c]
      have := ih (n / 10) (by omega) (by rw [Int.pow_succ] at h; omega)
      simp; omega

theorem pow_bd {k : Nat} (h : k ≤ 17) : (10 : Int) ^ (k + 1) ≤ 1000000000000000000 := by
  have : (10 : Nat) ^ (k + 1) ≤ 10 ^ 18 := Nat.pow_le_pow_right (by omega) (by omega)
  have e : ((10 : Nat) ^ (k + 1) : Nat) = ((10 : Int) ^ (k + 1)) := by simp
  omega

/-- two digits -/
def d2 (n : Int) : List UInt8 := [u (48 + n / 10), u (48 + n % 10)]
/-- four digits -/
def d4 (n : Int) : List UInt8 := [u (48 + n / 1000), u (48 + n / 100 % 10), u (48 + n / 10 % 10), u (48 + n % 10)]
@[go_sem] theorem d2_length (n : Int) : (d2 n).length = 2 := rfl
@[go_sem] theorem d4_length (n : Int) : (d4 n).length = 4 := rfl
theorem dz_d2 {n : Int} (h1 : 10 ≤ n) (h2 : n < 100) : dz n = d2 n := by
  rw [dz_big (by omega) (by omega), dz_small (by omega) (by omega)]; rfl
theorem dz_d4 {n : Int} (h1 : 1000 ≤ n) (h2 : n < 10000) : dz n = d4 n := by
  rw [dz_big (by omega) (by omega), dz_big (by omega) (by omega), dz_big (by omega) (by omega), dz_small (by omega) (by omega)]
  have e1 : n / 10 / 10 / 10 = n / 1000 := by omega
  have e2 : n / 10 / 10 % 10 = n / 100 % 10 := by omega
  rw [e1, e2]; rfl
theorem d2_small {n : Int} (h1 : 0 ≤ n) (h2 : n < 10) : d2 n = 48 :: dz n := by
  rw [dz_small h1 h2]
  have e1 : n / 10 = 0 := by omega
  have e2 : n % 10 = n := by omega
  simp only [d2, e1, e2]; rfl

/-- a duration that is not below 0 as text -/
def spanL0 (n : Int) : List UInt8 := dz (n / 3600) ++ 58 :: (d2 (n / 60 % 60) ++ (if n % 60 = 0 then [] else 58 :: d2 (n % 60)))
/-- a duration as text -/
def spanL (n : Int) : List UInt8 := if n < 0 then 45 :: spanL0 (-n) else spanL0 n

theorem spanL0_len (n : Int) (h1 : 0 ≤ n) (h2 : n ≤ 604800) : (spanL0 n).length ≤ 20 := by
  have hl := (dz_len 8 (n / 3600) (by omega) (by omega)).2
  unfold spanL0; split <;> simp [d2] <;> omega

/-- a time as text -/
def stampL (y m d r : Int) : List UInt8 := d4 y ++ 45 :: (d2 m ++ 45 :: (d2 d ++ 84 :: (d2 (r / 3600) ++ 58 :: (d2 (r / 60 % 60) ++ 58 :: d2 (r % 60)))))
end Go.Proofs.YtmemgpmijphkmaaDoor
