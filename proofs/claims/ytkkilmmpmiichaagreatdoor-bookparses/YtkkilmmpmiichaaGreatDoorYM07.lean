/- Numbers as digits: no colon among them, and what they tell. No program in it. What the reference's RuleText returns, for every rule. What the reference's numeral returns, for every text. Texts cut at a sign, words between signs. No program in it. What the reference's RuleText returns, for every rule. -/
import Derived.Test.YtkkilmmpmiichaaGreatDoorYM01
import Derived.Test.YtkkilmmpmiichaaGreatDoorYM03
import Derived.Deep.RegionHeld3
import Derived.Test.YtkkilmmpmiichaaGreatDoorYM05
import Derived.Test.YtkkilmmpmiichaaGreatDoorYM06
import Derived.Deep.QuietTactic
import Derived.BigQuiet
import Derived.Lib.SplitLaws
import Derived.Test.YtkkilmmpmiichaaGreatDoorYM04
namespace Go.Proofs.YtkkilmmpmiichaaGreatDoor
set_option linter.unusedVariables false
set_option linter.unusedSimpArgs false
theorem u_ne {n : Int} (h1 : 48 ≤ n) (h2 : n ≤ 57) : ¬ (58 : UInt8) = u n := fun e => by
  have h := congrArg UInt8.toNat e
  have := u_toNat (n := n) (by omega) (by omega)
  have h3 : (58 : UInt8).toNat = 58 := rfl
  omega
theorem d2_no {n : Int} (h1 : 0 ≤ n) (h2 : n < 100) : 58 ∉ d2 n := by
  unfold d2
  simp only [List.mem_cons, List.not_mem_nil, or_false]
  rintro (h | h)
  · exact u_ne (by omega) (by omega) h
  · exact u_ne (by omega) (by omega) h
theorem dz_no : ∀ (k : Nat) (n : Int), 0 ≤ n → n < 10 ^ (k + 1) → 58 ∉ dz n := by
  intro k
  induction k with
  | zero =>
    intro n h0 h
    have h10 : n < 10 := by simpa using h
    rw [dz_small h0 h10]; simp only [List.mem_cons, List.not_mem_nil, or_false]; exact u_ne (by omega) (by omega)
  | succ k ih =>
    intro n h0 h
    by_cases c : n < 10
    · rw [dz_small h0 c]; simp only [List.mem_cons, List.not_mem_nil, or_false]; exact u_ne (by omega) (by omega)
    · rw [dz_big h0 c]
      simp only [List.mem_append, List.mem_cons, List.not_mem_nil, or_false]
      rintro (h' | h')
      · exact ih (n / 10) (by omega) (by rw [Int.pow_succ] at h; omega) h'
      · exact u_ne (by omega) (by omega) h'

/-- a list of digits that tells a number -/
def Tells (l : List UInt8) (n : Int) : Prop := (∀ j, j < l.length → 48 ≤ bt l j ∧ bt l j ≤ 57) ∧ numv l 0 l.length = n
theorem tells1 {n : Int} (h1 : 0 ≤ n) (h2 : n < 10) : Tells [u (48 + n)] n := by
  have k := u_toNat (n := 48 + n) (by omega) (by omega)
  refine ⟨fun j hj => ?_, ?_⟩
  · obtain rfl : j = 0 := by simpa using hj
    simp only [bt, List.getD_cons_zero]; omega
  · simp [numv, bt]; omega
theorem tells2 {n : Int} (h1 : 0 ≤ n) (h2 : n < 100) : Tells (d2 n) n := by
  have k := u_toNat (n := 48 + n / 10) (by omega) (by omega)
  have k' := u_toNat (n := 48 + n % 10) (by omega) (by omega)
  unfold d2
  refine ⟨fun j hj => ?_, ?_⟩
  · have : j = 0 ∨ j = 1 := by simp at hj; omega
    rcases this with e | e <;> subst e <;> simp [bt] <;> omega
  · simp [numv, bt]; omega
theorem tells3 {n : Int} (h1 : 100 ≤ n) (h2 : n < 1000) : Tells (dz n) n ∧ (dz n).length = 3 := by
  have k := u_toNat (n := 48 + n / 10 / 10) (by omega) (by omega)
  have k' := u_toNat (n := 48 + n / 10 % 10) (by omega) (by omega)
  have k'' := u_toNat (n := 48 + n % 10) (by omega) (by omega)
  have e : dz n = [u (48 + n / 10 / 10), u (48 + n / 10 % 10), u (48 + n % 10)] := by
    rw [dz_big (by omega) (by omega), dz_big (by omega) (by omega), dz_small (by omega) (by omega)]; rfl
  rw [e]
  refine ⟨⟨fun j hj => ?_, ?_⟩, rfl⟩
  · have : j = 0 ∨ j = 1 ∨ j = 2 := by simp at hj; omega
    rcases this with e | e | e <;> subst e <;> simp [bt] <;> omega
  · simp [numv, bt]; omega
theorem tells_dz {n : Int} (h1 : 0 ≤ n) (h2 : n < 1000) : Tells (dz n) n ∧ 1 ≤ (dz n).length ∧ (dz n).length ≤ 3 := by
  by_cases a : n < 10
  · rw [dz_small h1 a]; exact ⟨tells1 h1 a, by simp, by simp⟩
  · by_cases b : n < 100
    · rw [dz_d2 (by omega) b]; exact ⟨tells2 h1 b, by simp [d2], by simp [d2]⟩
    · have := tells3 (n := n) (by omega) h2
      exact ⟨this.1, by omega, by omega⟩
theorem dz_inj {a b : Int} (a1 : 0 ≤ a) (a2 : a < 1000) (b1 : 0 ≤ b) (b2 : b < 1000) (h : dz a = dz b) : a = b := by
  have x := (tells_dz a1 a2).1.2
  have y := (tells_dz b1 b2).1.2
  rw [h] at x
  omega
end Go.Proofs.YtkkilmmpmiichaaGreatDoor
namespace Go.Proofs.YtkkilmmpmiichaaGreatDoor
set_option linter.unusedVariables false
set_option linter.unusedSimpArgs false
open Go.RowKit
/-- the letter of a clock -/
def suf (by' : Int) : List UInt8 := if by' = 0 then [] else if by' = 1 then [115] else [117]
/-- a rule as text -/
def ruleL (nm lt : List UInt8) (fr tto mo k d n at' by' sv : Int) : List UInt8 :=
  [114, 117, 108, 101, 32] ++ nm ++ [32] ++ dz fr ++ [32] ++ dz tto ++ [32] ++ dz mo ++ [32] ++ dayL k d n ++ [32] ++ spanL at' ++ suf by' ++ [32] ++ spanL sv ++ [32] ++ lt
theorem name_len {l : List UInt8} (h : isNameB l = true) : l.length ≤ 20 := by
  unfold isNameB at h; simp at h; omega
theorem abbr_len {l : List UInt8} (h : isAbbrB l = true) : l.length ≤ 8 := by
  unfold isAbbrB at h; simp at h; omega
theorem dayL_len {k d n : Int} (h : DayOk k d n) : (dayL k d n).length ≤ 20 := by
  have bd := dayOk_bd h
  have tl := tells_dz (n := n) (by omega) (by omega)
  unfold dayL
  split
  · omega
  · split
    · simp [wk_length]
    · split <;> simp [wk_length] <;> omega
theorem spanL_len {n : Int} (h1 : -604800 ≤ n) (h2 : n ≤ 604800) : (spanL n).length ≤ 21 := by
  unfold spanL; split
  · have := spanL0_len (-n) (by omega) (by omega); simp; omega
  · have := spanL0_len n (by omega) (by omega); omega

theorem suf_len (by' : Int) : (suf by').length ≤ 1 := by unfold suf; split <;> (try split) <;> simp
end Go.Proofs.YtkkilmmpmiichaaGreatDoor
namespace Go.Proofs.YtkkilmmpmiichaaGreatDoor
set_option linter.unusedVariables false
set_option linter.unusedSimpArgs false
open Go.RowKit
theorem bt_app {l : List UInt8} (r : List UInt8) {k : Nat} (h : k < l.length) : bt (l ++ r) k = bt l k := by
  unfold bt; simp [List.getD, List.getElem?_append_left h]
theorem bt_last (l : List UInt8) (c : UInt8) : bt (l ++ [c]) l.length = (c.toNat : Int) := by
  unfold bt; simp [List.getD]
theorem numv_app (l r : List UInt8) : ∀ k, k ≤ l.length → numv (l ++ r) 0 k = numv l 0 k := by
  intro k
  induction k with
  | zero => intro _; rfl
  | succ k ih =>
    intro hk
    unfold numv
    rw [ih (by omega), Nat.zero_add, bt_app r (by omega)]
theorem Tells.snoc {l : List UInt8} {m r : Int} (h : Tells l m) (r1 : 0 ≤ r) (r2 : r < 10) : Tells (l ++ [u (48 + r)]) (10 * m + r) := by
  have hu := u_toNat (n := 48 + r) (by omega) (by omega)
  refine ⟨fun j hj => ?_, ?_⟩
  · simp at hj
    by_cases c : j < l.length
    · rw [bt_app _ c]; exact h.1 j c
    · have e : j = l.length := by omega
      rw [e, bt_last, hu]; omega
  · rw [List.length_append, List.length_singleton]
    unfold numv
    rw [numv_app l _ l.length (Nat.le_refl _), h.2, Nat.zero_add, bt_last, hu]
    omega
theorem tells_all : ∀ (k : Nat) (n : Int), 0 ≤ n → n < 10 ^ (k + 1) → Tells (dz n) n := by
  intro k
  induction k with
  | zero => intro n h0 h; rw [dz_small h0 (by simpa using h)]; exact tells1 h0 (by simpa using h)
  | succ k ih =>
    intro n h0 h
    by_cases c : n < 10
    · rw [dz_small h0 c]; exact tells1 h0 c
    · rw [dz_big h0 c]
      have := (ih (n / 10) (by omega) (by rw [Int.pow_succ] at h; omega)).snoc (r := n % 10) (by omega) (by omega)
      have e : 10 * (n / 10) + n % 10 = n := by omega
      rw [e] at this
      exact this
theorem dz_inj9 {a b : Int} (a1 : 0 ≤ a) (a2 : a < 1000000000) (b1 : 0 ≤ b) (b2 : b < 1000000000) (h : dz a = dz b) : a = b := by
  have x := (tells_all 8 a a1 (by omega)).2
  have y := (tells_all 8 b b1 (by omega)).2
  rw [h] at x
  omega
/-- a text that is a number in decimal -/
def IsNum (l : List UInt8) (n : Int) : Prop := (0 ≤ n ∧ n < 1000000000) ∧ dz n = l
theorem isNum_one {l : List UInt8} {a b : Int} (h : IsNum l a) (g : IsNum l b) : a = b := dz_inj9 h.1.1 h.1.2 g.1.1 g.1.2 (h.2.trans g.2.symm)
/-- a number and whether there is one -/
abbrev numE (a : Int) (b : Bool) : Ending := .returned (.tuple #[.int .i64 a, .bool b])
/-- what numeral answers -/
def NumA (l : List UInt8) (e : Ending) : Prop := (∃ n, IsNum l n ∧ e = numE n true) ∨ ((¬ ∃ n, IsNum l n) ∧ ∃ x : Int, 0 ≤ x ∧ x < 1000000000 ∧ e = numE x false)
theorem toList_size (s : ByteArray) : s.toList.length = s.size := by rw [ByteArray.toList_eq]; exact Array.length_toList
theorem isNum_dig {l : List UInt8} {n : Int} (h : IsNum l n) : ∀ j, j < l.length → 48 ≤ bt l j ∧ bt l j ≤ 57 := by
  have := (tells_all 8 n h.1.1 (by have := h.1.2; omega)).1
  rw [h.2] at this
  exact this
theorem isNum_val {l : List UInt8} {n : Int} (h : IsNum l n) : numv l 0 l.length = n := by
  have := (tells_all 8 n h.1.1 (by have := h.1.2; omega)).2
  rw [h.2] at this
  exact this
theorem isNum_len {l : List UInt8} {n : Int} (h : IsNum l n) : 1 ≤ l.length ∧ l.length ≤ 9 := by
  have := dz_len 8 n h.1.1 (by have := h.1.2; omega)
  rw [h.2] at this
  exact this

set_option maxHeartbeats 2000000 in
theorem rnumeral_mid (s : ByteArray) (w : World) (h1 : 1 ≤ s.size) (h9 : s.size ≤ 9) :
    Calls Tryz.prog 35 #[.string s] w fun e w' => NumA s.toList e ∧ Gr w w' := by
  have HL := Lib.hid (toList_size s)
  have e1 : (s.toList == []) = false := by
    cases h : s.toList with
    | nil => have := toList_size s; rw [h] at this; simp at this; omega
    | cons a b => rfl
  have gt : ¬ (9 : Int) < (s.size : Int) := by omega
  have gt' := ltF gt
  obtain ⟨cap, w2, hconv, hg2, hca⟩ := to_bytes s w
  have HC := Lib.hid hca
  have G2 := Lib.hid hg2
  clear hca hg2
  generalize w.heap.size = g at hconv HC
  go_enter Tryz.func35, Tryz.ntmps35
  go_wp2
  clear hconv
  go_loop [4, 17] (fun v i => ∃ k : Nat, k ≤ s.size ∧ (∀ j, j < k → 48 ≤ bt s.toList j ∧ bt s.toList j ≤ 57) ∧ i = .int .i64 k ∧ v = .int .i64 (numv s.toList 0 k)) (fun _ i => s.size - (intOf i).toNat)
  case atStart => exact ⟨0, Nat.zero_le _, fun j hj => absurd hj (by omega), rfl, rfl⟩
  case round =>
    obtain ⟨k, hk, hall, rfl, rfl⟩ := hrel
    have HA := Lib.hid hall
    have nb := numv_bd s.toList 0 k (fun j hj => by simpa using hall j hj) k (Nat.le_refl _)
    have p9 : (10 : Int) ^ k ≤ 1000000000 := by
      have : (10 : Nat) ^ k ≤ 10 ^ 9 := Nat.pow_le_pow_right (by omega) (by omega)
      have e : ((10 : Nat) ^ k : Nat) = ((10 : Int) ^ k) := by simp
      omega
    have nb1 := nb.1
    have nb2 : numv s.toList 0 k < 1000000000 := by omega
    clear nb p9 hall
    by_cases hlt : k < s.size
    · have hcell := HC.out k hlt
      have cb := bt_bd s.toList k
      obtain ⟨cb1, cb2⟩ := cb
      by_cases c1 : bt s.toList k < 48
      · have NB : Hid (¬ ∃ n, IsNum s.toList n) := fun ⟨n, hn⟩ => by have := (isNum_dig hn k (by rw [HL.out]; exact hlt)).1; omega
        generalize bt s.toList k = c at hcell c1 cb1 cb2
        go_wp2
        go_ret2
        exact ⟨Or.inr ⟨NB.out, 0, by omega, by omega, rfl⟩, G2.out⟩
      · have c1' := ltF c1
        by_cases c2 : 57 < bt s.toList k
        · have NB : Hid (¬ ∃ n, IsNum s.toList n) := fun ⟨n, hn⟩ => by have := (isNum_dig hn k (by rw [HL.out]; exact hlt)).2; omega
          generalize bt s.toList k = c at hcell c1 c1' c2 cb1 cb2
          go_wp2
          go_ret2
          exact ⟨Or.inr ⟨NB.out, 0, by omega, by omega, rfl⟩, G2.out⟩
        · have c2' := ltF c2
          have E : Hid (numv s.toList 0 (k + 1) = 10 * numv s.toList 0 k + (bt s.toList k - 48)) := by simp [Hid, numv]
          have AS : Hid (∀ j, j < k + 1 → 48 ≤ bt s.toList j ∧ bt s.toList j ≤ 57) := fun j hj => by
            by_cases e : j = k
            · rw [e]; omega
            · exact HA.out j (by omega)
          generalize bt s.toList k = c at hcell c1 c1' c2 c2' cb1 cb2 E
          go_wp2
          go_round
          case rel => exact ⟨k + 1, by omega, AS.out, by go_num, by rw [E.out]⟩
          case measure => simp [intOf]; omega
    · obtain rfl : k = s.size := by omega
      have V : Hid (∀ n, IsNum s.toList n → n = numv s.toList 0 s.size) := fun n hn => by have := isNum_val hn; rw [HL.out] at this; exact this.symm
      have YES : Hid (dz (numv s.toList 0 s.size) = s.toList → IsNum s.toList (numv s.toList 0 s.size)) := fun h => ⟨⟨nb1, nb2⟩, h⟩
      generalize numv s.toList 0 s.size = x at V YES nb1 nb2 ⊢
      have D := Lib.hid (digits_any 8 x w2 nb1 (by omega) (by omega))
      by_cases eq : dz x = s.toList
      · have eq' : (dz x == s.toList) = true := by simpa using eq
        have A := Lib.hid (show NumA s.toList (numE x true) from Or.inl ⟨x, YES.out eq, rfl⟩)
        clear V YES eq
        generalize dz x = l at D eq'
        go_wp2_with fail
        refine D.out.mono ?_
        rintro e w3 ⟨rfl, hg3⟩
        go_wp2_with fail
        go_ret2
        exact ⟨A.out, G2.out.trans hg3⟩
      · have eq' : (dz x == s.toList) = false := by simpa using eq
        have A := Lib.hid (show NumA s.toList (numE x false) from Or.inr ⟨fun ⟨n, hn⟩ => eq (by have := V.out n hn; rw [← this]; exact hn.2), x, nb1, nb2, rfl⟩)
        clear V YES eq
        generalize dz x = l at D eq'
        go_wp2_with fail
        refine D.out.mono ?_
        rintro e w3 ⟨rfl, hg3⟩
        go_wp2_with fail
        go_ret2
        exact ⟨A.out, G2.out.trans hg3⟩

set_option maxHeartbeats 400000 in
theorem rnumeral_long (s : ByteArray) (w : World) (h9 : 9 < s.size) (hm : s.size ≤ maxLen) :
    Calls Tryz.prog 35 #[.string s] w fun e w' => NumA s.toList e ∧ Gr w w' := by
  unfold maxLen at hm
  have e1 : (s.toList == []) = false := by
    cases h : s.toList with
    | nil => have := toList_size s; rw [h] at this; simp at this; omega
    | cons a b => rfl
  have gt : (9 : Int) < (s.size : Int) := by omega
  have NB : Hid (¬ ∃ n, IsNum s.toList n) := fun ⟨n, hn⟩ => by have := (isNum_len hn).2; rw [toList_size] at this; omega
  go_enter Tryz.func35, Tryz.ntmps35
  go_wp2
  go_ret2
  exact ⟨Or.inr ⟨NB.out, 0, by omega, by omega, rfl⟩, by first | exact Gr.refl _ | exact (Gr.refl _).drewN _⟩

set_option maxHeartbeats 400000 in
theorem rnumeral_none (w : World) :
    Calls Tryz.prog 35 #[.string ⟨#[]⟩] w fun e w' => NumA [] e ∧ Gr w w' := by
  have NB : Hid (¬ ∃ n, IsNum [] n) := fun ⟨n, hn⟩ => by have := (isNum_len hn).1; simp at this
  go_enter Tryz.func35, Tryz.ntmps35
  go_wp2
  go_ret2
  exact ⟨Or.inr ⟨NB.out, 0, by omega, by omega, rfl⟩, by first | exact Gr.refl _ | exact (Gr.refl _).drewN _⟩

theorem rnumeral (s : ByteArray) (w : World) (hm : s.size ≤ maxLen) :
    Calls Tryz.prog 35 #[.string s] w fun e w' => NumA s.toList e ∧ Gr w w' := by
  by_cases h0 : s.size = 0
  · have e : s = ⟨#[]⟩ := by
      cases s with
      | mk d => have : d.size = 0 := h0
                congr 1; exact Array.size_eq_zero_iff.1 this
    subst e
    have e2 : (⟨#[]⟩ : ByteArray).toList = [] := by rw [ByteArray.toList_eq]
    rw [e2]
    exact rnumeral_none w
  · by_cases h9 : s.size ≤ 9
    · exact rnumeral_mid s w (by omega) h9
    · exact rnumeral_long s w (by omega) hm
end Go.Proofs.YtkkilmmpmiichaaGreatDoor
namespace Go.Proofs.YtkkilmmpmiichaaGreatDoor
set_option linter.unusedVariables false
set_option linter.unusedSimpArgs false
theorem index_sep (c : UInt8) (b : List UInt8) : ∀ a : List UInt8, c ∉ a → Lib.index (a ++ c :: b) [c] = a.length
  | [], _ => by simp [Lib.index, List.isPrefixOf]
  | x :: a, h => by
    have hc : (c == x) = false := by
      have : ¬ c = x := fun e => h (by simp [e])
      simpa using this
    have ih := index_sep c b a (fun hm => h (List.mem_cons_of_mem _ hm))
    simp only [List.cons_append, Lib.index, List.isPrefixOf, hc, Bool.false_and, ih]
    have hn : ((a.length : Int) == -1) = false := by simp
    simp [hn]
theorem index_nosep (c : UInt8) : ∀ a : List UInt8, c ∉ a → Lib.index a [c] = -1
  | [], _ => by simp [Lib.index]
  | x :: a, h => by
    have hc : (c == x) = false := by
      have : ¬ c = x := fun e => h (by simp [e])
      simpa using this
    have ih := index_nosep c a (fun hm => h (List.mem_cons_of_mem _ hm))
    simp [Lib.index, List.isPrefixOf, hc, ih]
theorem split_no {c : UInt8} {a : List UInt8} (h : c ∉ a) : Lib.split a [c] = [a] := by
  unfold Lib.split
  rw [Lib.count_miss (index_nosep c a h)]
  rfl
theorem split_at {c : UInt8} {a : List UInt8} (b : List UInt8) (h : c ∉ a) : Lib.split (a ++ c :: b) [c] = a :: Lib.split b [c] := by
  unfold Lib.split
  have hi := index_sep c b a h
  have hc := Lib.count_hit (s := a ++ c :: b) (sub := [c]) (i := a.length) (by simp) hi
  have hd : (a ++ c :: b).drop (a.length + 1) = b := by simp
  simp only [List.length_cons, List.length_nil, Nat.zero_add] at hc
  rw [hd] at hc
  rw [hc, Nat.add_comm, Lib.splitK]
  have hm : ¬ (Lib.index (a ++ c :: b) [c] == -1) = true := fun e => by have := beq_iff_eq.1 e; omega
  rw [if_neg hm, hi]
  simp
theorem sep_cases (c : UInt8) (l : List UInt8) : c ∉ l ∨ ∃ a b, l = a ++ c :: b ∧ c ∉ a := by
  by_cases h : c ∈ l
  · right
    induction l with
    | nil => simp at h
    | cons x l ih =>
      by_cases e : x = c
      · exact ⟨[], l, by simp [e], by simp⟩
      · have hm : c ∈ l := by
          rcases List.mem_cons.1 h with q | q
          · exact absurd q.symm e
          · exact q
        obtain ⟨a, b, rfl, ha⟩ := ih hm
        exact ⟨x :: a, b, rfl, by intro q; rcases List.mem_cons.1 q with q | q; exact e q.symm; exact ha q⟩
  · exact Or.inl h
/-- words with a sign between them -/
def jn (c : UInt8) : List (List UInt8) → List UInt8
  | [] => []
  | [w] => w
  | w :: v :: ws => w ++ c :: jn c (v :: ws)
theorem split_ne (c : UInt8) (l : List UInt8) : ∃ w ws, Lib.split l [c] = w :: ws := by
  rcases sep_cases c l with h | ⟨a, b, rfl, h⟩
  · exact ⟨l, [], split_no h⟩
  · exact ⟨a, _, split_at b h⟩
theorem jn_split (c : UInt8) : ∀ (n : Nat) (l : List UInt8), l.length ≤ n → jn c (Lib.split l [c]) = l := by
  intro n
  induction n with
  | zero => intro l h; have e : l = [] := List.length_eq_zero_iff.1 (by omega); subst e; rw [split_no (by simp)]; rfl
  | succ n ih =>
    intro l h
    rcases sep_cases c l with h' | ⟨a, b, rfl, h'⟩
    · rw [split_no h']; rfl
    · rw [split_at b h']
      obtain ⟨w, ws, e⟩ := split_ne c b
      rw [e]
      unfold jn
      rw [← e, ih b (by simp at h; omega)]
theorem split_jn {c : UInt8} : ∀ {ws : List (List UInt8)} (_ : ws ≠ []) (_ : ∀ w ∈ ws, c ∉ w), Lib.split (jn c ws) [c] = ws
  | [], h, _ => absurd rfl h
  | [w], _, h => split_no (h w (by simp))
  | w :: v :: ws, _, h => by
    unfold jn
    rw [split_at _ (h w (by simp)), split_jn (ws := v :: ws) (by simp) (fun x hx => h x (List.mem_cons_of_mem _ hx))]
theorem lettersB_all {s o : List UInt8} : ∀ {n : Nat}, lettersB s o n = true → ∀ j, j < n → (alnum (bt s j) || inB o (bt s j) o.length) = true := by
  intro n
  induction n with
  | zero => intro _ j hj; omega
  | succ n ih =>
    intro h j hj
    unfold lettersB at h
    simp only [Bool.and_eq_true] at h
    by_cases e : j = n
    · rw [e]; exact h.2
    · exact ih h.1 j (by omega)
theorem no_blank_of {l : List UInt8} (h : ∀ j, j < l.length → ¬ bt l j = 32) : 32 ∉ l := fun hm => by
  obtain ⟨j, hj, e⟩ := List.getElem_of_mem hm
  refine h j hj ?_
  unfold bt
  simp [List.getD, List.getElem?_eq_getElem hj, e]
theorem name_blank {l : List UInt8} (h : isNameB l = true) : 32 ∉ l := by
  unfold isNameB at h
  simp only [Bool.and_eq_true] at h
  exact no_blank_of fun j hj e => by
    have := lettersB_all h.1.1.2 j hj
    rw [e] at this
    revert this; decide
theorem abbr_blank {l : List UInt8} (h : isAbbrB l = true) : 32 ∉ l := by
  unfold isAbbrB at h
  simp only [Bool.and_eq_true] at h
  exact no_blank_of fun j hj e => by
    have := lettersB_all h.2 j hj
    rw [e] at this
    revert this; decide
end Go.Proofs.YtkkilmmpmiichaaGreatDoor
namespace Go.Proofs.YtkkilmmpmiichaaGreatDoor
set_option linter.unusedVariables false
set_option linter.unusedSimpArgs false
open Go.RowKit
theorem ruleC_zero {nm lt : List UInt8} {fr tto mo k d n at' by' sv : Int} : ruleC nm lt fr tto mo k d n at' by' sv = 0 ↔ RuleSyn nm lt ∧ RuleNum fr tto mo ∧ DayOk k d n ∧ RuleRest mo n at' by' sv := by
  unfold ruleC
  constructor
  · intro h
    split at h
    · split at h
      · split at h
        · split at h
          · rename_i a b c d'; exact ⟨a, b, c, d'⟩
          · cases h
        · cases h
      · cases h
    · cases h
  · rintro ⟨a, b, c, d'⟩
    rw [if_pos a, if_pos b, if_pos c, if_pos d']
/-- what RuleText answers -/
def ruleTextA (nm lt : List UInt8) (fr tto mo k d n at' by' sv : Int) : Ending :=
  if ruleC nm lt fr tto mo k d n at' by' sv = 0 then strInt (S (ruleL nm lt fr tto mo k d n at' by' sv)) 0 else strInt (S []) (ruleC nm lt fr tto mo k d n at' by' sv)
end Go.Proofs.YtkkilmmpmiichaaGreatDoor
