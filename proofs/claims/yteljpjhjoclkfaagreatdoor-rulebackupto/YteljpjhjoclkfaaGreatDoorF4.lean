/- What the reference's numeral returns, for every text. -/
import Derived.Test.YteljpjhjoclkfaaGreatDoorT0
import Derived.Deep.QuietTactic
import Derived.BigQuiet
namespace Go.Proofs.YteljpjhjoclkfaaGreatDoor
set_option linter.unusedVariables false
set_option linter.unusedSimpArgs false
open Go.RowKit

theorem bt_app {l : List UInt8} (r : List UInt8) {k : Nat} (h : k < l.length) : bt (l ++ r) k = bt l k := by
  unfold bt; simp [List.getD, List.getElem?_append_left h]
theorem bt_last (l : List UInt8) (c : UInt8) : bt (l ++ [c]) l.length = (c.toNat : Int) := by
  unfold bt; simp [List.getD]
theorem numv_app (l r : List UInt8) : ∀ k, k ≤ l.length → numv (l ++ r) 0 k = numv l 0 k := by
  intro k
  induction k with
  | zero => intro _; rfl
  | succ k ih =>
    intro hk
    unfold numv
    rw [ih (by omega), Nat.zero_add, bt_app r (by omega)]
theorem Tells.snoc {l : List UInt8} {m r : Int} (h : Tells l m) (r1 : 0 ≤ r) (r2 : r < 10) : Tells (l ++ [u (48 + r)]) (10 * m + r) := by
  have hu := u_toNat (n := 48 + r) (by omega) (by omega)
  refine ⟨fun j hj => ?_, ?_⟩
  · simp at hj
    by_cases c : j < l.length
    · rw [bt_app _ c]; exact h.1 j c
    · have e : j = l.length := by omega
      rw [e, bt_last, hu]; omega
  · rw [List.length_append, List.length_singleton]
    unfold numv
    rw [numv_app l _ l.length (Nat.le_refl _), h.2, Nat.zero_add, bt_last, hu]
    omega
theorem tells_all : ∀ (k : Nat) (n : Int), 0 ≤ n → n < 10 ^ (k + 1) → Tells (dz n) n := by
  intro k
  induction k with
  | zero => intro n h0 h; rw [dz_small h0 (by simpa using h)]; exact tells1 h0 (by simpa using h)
  | succ k ih =>
    intro n h0 h
    by_cases c : n < 10
    · rw [dz_small h0 c]; exact tells1 h0 c
    · rw [dz_big h0 c]
      have := (ih (n / 10) (by omega) (by rw [Int.pow_succ] at h; omega)).snoc (r := n % 10) (by omega) (by omega)
      have e : 10 * (n / 10) + n % 10 = n := by omega
      rw [e] at this
      exact this
theorem dz_inj9 {a b : Int} (a1 : 0 ≤ a) (a2 : a < 1000000000) (b1 : 0 ≤ b) (b2 : b < 1000000000) (h : dz a = dz b) : a = b := by
  have x := (tells_all 8 a a1 (by omega)).2
  have y := (tells_all 8 b b1 (by omega)).2
  rw [h] at x
  omega
/-- a text that is a number in decimal -/
def IsNum (l : List UInt8) (n : Int) : Prop := (0 ≤ n ∧ n < 1000000000) ∧ dz n = l
theorem isNum_one {l : List UInt8} {a b : Int} (h : IsNum l a) (g : IsNum l b) : a = b := dz_inj9 h.1.1 h.1.2 g.1.1 g.1.2 (h.2.trans g.2.symm)
/-- a number and whether there is one -/
abbrev numE (a : Int) (b : Bool) : Ending := .returned (.tuple #[.int .i64 a, .bool b])
/-- what numeral answers -/
def NumA (l : List UInt8) (e : Ending) : Prop := (∃ n, IsNum l n ∧ e = numE n true) ∨ ((¬ ∃ n, IsNum l n) ∧ ∃ x : Int, 0 ≤ x ∧ x < 1000000000 ∧ e = numE x false)
theorem toList_size (s : ByteArray) : s.toList.length = s.size := by rw [ByteArray.toList_eq]; exact Array.length_toList
theorem isNum_dig {l : List UInt8} {n : Int} (h : IsNum l n) : ∀ j, j < l.length → 48 ≤ bt l j ∧ bt l j ≤ 57 := by
  have := (tells_all 8 n h.1.1 (by have := h.1.2; omega)).1
  rw [h.2] at this
  exact this
theorem isNum_val {l : List UInt8} {n : Int} (h : IsNum l n) : numv l 0 l.length = n := by
  have := (tells_all 8 n h.1.1 (by have := h.1.2; omega)).2
  rw [h.2] at this
  exact this
theorem isNum_len {l : List UInt8} {n : Int} (h : IsNum l n) : 1 ≤ l.length ∧ l.length ≤ 9 := by
  have := dz_len 8 n h.1.1 (by have := h.1.2; omega)
  rw [h.2] at this
  exact this

set_option maxHeartbeats 2000000 in
theorem rnumeral_mid (s : ByteArray) (w : World) (h1 : 1 ≤ s.size) (h9 : s.size ≤ 9) :
    Calls Tryz.prog 20 #[.string s] w fun e w' => NumA s.toList e ∧ Gr w w' := by
  have HL := Lib.hid (toList_size s)
  have e1 : (s.toList == []) = false := by
    cases h : s.toList with
    | nil => have := toList_size s; rw [h] at this; simp at this; omega
    | cons a b => rfl
  have gt : ¬ (9 : Int) < (s.size : Int) := by omega
  have gt' := ltF gt
  obtain ⟨cap, w2, hconv, hg2, hca⟩ := to_bytes s w
  have HC := Lib.hid hca
  have G2 := Lib.hid hg2
  clear hca hg2
  generalize w.heap.size = g at hconv HC
  go_enter Tryz.func20, Tryz.ntmps20
  go_wp2
  clear hconv
  go_loop [4, 17] (fun v i => ∃ k : Nat, k ≤ s.size ∧ (∀ j, j < k → 48 ≤ bt s.toList j ∧ bt s.toList j ≤ 57) ∧ i = .int .i64 k ∧ v = .int .i64 (numv s.toList 0 k)) (fun _ i => s.size - (intOf i).toNat)
  case atStart => exact ⟨0, Nat.zero_le _, fun j hj => absurd hj (by omega), rfl, rfl⟩
  case round =>
    obtain ⟨k, hk, hall, rfl, rfl⟩ := hrel
    have HA := Lib.hid hall
    have nb := numv_bd s.toList 0 k (fun j hj => by simpa using hall j hj) k (Nat.le_refl _)
    have p9 : (10 : Int) ^ k ≤ 1000000000 := by
      have : (10 : Nat) ^ k ≤ 10 ^ 9 := Nat.pow_le_pow_right (by omega) (by omega)
      have e : ((10 : Nat) ^ k : Nat) = ((10 : Int) ^ k) := by simp
      omega
    have nb1 := nb.1
    have nb2 : numv s.toList 0 k < 1000000000 := by omega
    clear nb p9 hall
    by_cases hlt : k < s.size
    · have hcell := HC.out k hlt
      have cb := bt_bd s.toList k
      obtain ⟨cb1, cb2⟩ := cb
      by_cases c1 : bt s.toList k < 48
      · have NB : Hid (¬ ∃ n, IsNum s.toList n) := fun ⟨n, hn⟩ => by have := (isNum_dig hn k (by rw [HL.out]; exact hlt)).1; omega
        generalize bt s.toList k = c at hcell c1 cb1 cb2
        go_wp2
        go_ret2
        exact ⟨Or.inr ⟨NB.out, 0, by omega, by omega, rfl⟩, G2.out⟩
      · have c1' := ltF c1
        by_cases c2 : 57 < bt s.toList k
        · have NB : Hid (¬ ∃ n, IsNum s.toList n) := fun ⟨n, hn⟩ => by have := (isNum_dig hn k (by rw [HL.out]; exact hlt)).2; omega
          generalize bt s.toList k = c at hcell c1 c1' c2 cb1 cb2
          go_wp2
          go_ret2
          exact ⟨Or.inr ⟨NB.out, 0, by omega, by omega, rfl⟩, G2.out⟩
        · have c2' := ltF c2
          have E : Hid (numv s.toList 0 (k + 1) = 10 * numv s.toList 0 k + (bt s.toList k - 48)) := by simp [Hid, numv]
          have AS : Hid (∀ j, j < k + 1 → 48 ≤ bt s.toList j ∧ bt s.toList j ≤ 57) := fun j hj => by
            by_cases e : j = k
            · rw [e]; omega
            · exact HA.out j (by omega)
          generalize bt s.toList k = c at hcell c1 c1' c2 c2' cb1 cb2 E
          go_wp2
          go_round
          case rel => exact ⟨k + 1, by omega, AS.out, by go_num, by rw [E.out]⟩
          case measure => simp [intOf]; omega
    · obtain rfl : k = s.size := by omega
      have V : Hid (∀ n, IsNum s.toList n → n = numv s.toList 0 s.size) := fun n hn => by have := isNum_val hn; rw [HL.out] at this; exact this.symm
      have YES : Hid (dz (numv s.toList 0 s.size) = s.toList → IsNum s.toList (numv s.toList 0 s.size)) := fun h => ⟨⟨nb1, nb2⟩, h⟩
      generalize numv s.toList 0 s.size = x at V YES nb1 nb2 ⊢
      have D := Lib.hid (digits_any 8 x w2 nb1 (by omega) (by omega))
      by_cases eq : dz x = s.toList
      · have eq' : (dz x == s.toList) = true := by simpa using eq
        have A := Lib.hid (show NumA s.toList (numE x true) from Or.inl ⟨x, YES.out eq, rfl⟩)
        clear V YES eq
        generalize dz x = l at D eq'
        go_wp2_with fail
        refine D.out.mono ?_
        rintro e w3 ⟨rfl, hg3⟩
        go_wp2_with fail
        go_ret2
        exact ⟨A.out, G2.out.trans hg3⟩
      · have eq' : (dz x == s.toList) = false := by simpa using eq
        have A := Lib.hid (show NumA s.toList (numE x false) from Or.inr ⟨fun ⟨n, hn⟩ => eq (by have := V.out n hn; rw [← this]; exact hn.2), x, nb1, nb2, rfl⟩)
        clear V YES eq
        generalize dz x = l at D eq'
        go_wp2_with fail
        refine D.out.mono ?_
        rintro e w3 ⟨rfl, hg3⟩
        go_wp2_with fail
        go_ret2
        exact ⟨A.out, G2.out.trans hg3⟩

set_option maxHeartbeats 400000 in
theorem rnumeral_long (s : ByteArray) (w : World) (h9 : 9 < s.size) (hm : s.size ≤ maxLen) :
    Calls Tryz.prog 20 #[.string s] w fun e w' => NumA s.toList e ∧ Gr w w' := by
  unfold maxLen at hm
  have e1 : (s.toList == []) = false := by
    cases h : s.toList with
    | nil => have := toList_size s; rw [h] at this; simp at this; omega
    | cons a b => rfl
  have gt : (9 : Int) < (s.size : Int) := by omega
  have NB : Hid (¬ ∃ n, IsNum s.toList n) := fun ⟨n, hn⟩ => by have := (isNum_len hn).2; rw [toList_size] at this; omega
  go_enter Tryz.func20, Tryz.ntmps20
  go_wp2
  go_ret2
  exact ⟨Or.inr ⟨NB.out, 0, by omega, by omega, rfl⟩, by first | exact Gr.refl _ | exact (Gr.refl _).drewN _⟩

set_option maxHeartbeats 400000 in
theorem rnumeral_none (w : World) :
    Calls Tryz.prog 20 #[.string ⟨#[]⟩] w fun e w' => NumA [] e ∧ Gr w w' := by
  have NB : Hid (¬ ∃ n, IsNum [] n) := fun ⟨n, hn⟩ => by have := (isNum_len hn).1; simp at this
  go_enter Tryz.func20, Tryz.ntmps20
  go_wp2
  go_ret2
  exact ⟨Or.inr ⟨NB.out, 0, by omega, by omega, rfl⟩, by first | exact Gr.refl _ | exact (Gr.refl _).drewN _⟩

theorem rnumeral (s : ByteArray) (w : World) (hm : s.size ≤ maxLen) :
    Calls Tryz.prog 20 #[.string s] w fun e w' => NumA s.toList e ∧ Gr w w' := by
  by_cases h0 : s.size = 0
  · have e : s = ⟨#[]⟩ := by
      cases s with
      | mk d => have : d.size = 0 := h0
                congr 1; exact Array.size_eq_zero_iff.1 this
    subst e
    have e2 : (⟨#[]⟩ : ByteArray).toList = [] := by rw [ByteArray.toList_eq]
    rw [e2]
    exact rnumeral_none w
  · by_cases h9 : s.size ≤ 9
    · exact rnumeral_mid s w (by omega) h9
    · exact rnumeral_long s w (by omega) hm
end Go.Proofs.YteljpjhjoclkfaaGreatDoor
