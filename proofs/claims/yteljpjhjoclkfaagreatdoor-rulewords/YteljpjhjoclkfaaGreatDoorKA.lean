/- What the project's function number returns, and the test of a part of a duration. The function literal that checks a part of a duration: what it returns and what it leaves in the variable that it captures. strings.Cut at a colon, for texts of every length; the width of a number. -/
import Derived.Test.YteljpjhjoclkfaaGreatDoorT1
import Derived.Test.YteljpjhjoclkfaaGreatDoorB0
import Derived.Deep.QuietTactic
import Derived.BigQuiet
import Derived.OneCell
import Derived.Test.YteljpjhjoclkfaaGreatDoorShelf
import Derived.Lib.CutLaws
import Derived.Lib.IndexBytes
namespace Go.Proofs.YteljpjhjoclkfaaGreatDoor
set_option linter.unusedVariables false
set_option linter.unusedSimpArgs false
open Go.RowKit

theorem toList_len (s : ByteArray) : s.toList.length = s.size := by rw [ByteArray.toList_eq]; exact Array.length_toList
/-- a text of one to four digits -/
def okN (l : List UInt8) : Prop := 1 ≤ l.length ∧ l.length ≤ 4 ∧ ∀ j, j < l.length → 48 ≤ bt l j ∧ bt l j ≤ 57
open Classical in
/-- the number that it tells; 0 of another text -/
noncomputable def nv (l : List UInt8) : Int := if okN l then numv l 0 l.length else 0
open Classical in
noncomputable def nok (l : List UInt8) : Bool := decide (okN l)
theorem nv_yes {l : List UInt8} (h : okN l) : nv l = numv l 0 l.length := by unfold nv; rw [if_pos h]
theorem nv_no {l : List UInt8} (h : ¬ okN l) : nv l = 0 := by unfold nv; rw [if_neg h]
theorem nok_yes {l : List UInt8} (h : okN l) : nok l = true := by unfold nok; simp [h]
theorem nok_no {l : List UInt8} (h : ¬ okN l) : nok l = false := by unfold nok; simp [h]
theorem nv_bd (l : List UInt8) : 0 ≤ nv l ∧ nv l ≤ 9999 := by
  by_cases h : okN l
  · rw [nv_yes h]
    have b := numv_bd l 0 l.length (fun j hj => by simpa using h.2.2 j hj) l.length (Nat.le_refl _)
    have p : (10 : Int) ^ l.length ≤ 10000 := by
      have : l.length = 1 ∨ l.length = 2 ∨ l.length = 3 ∨ l.length = 4 := by have := h.1; have := h.2.1; omega
      rcases this with e | e | e | e <;> rw [e] <;> decide
    omega
  · rw [nv_no h]; omega
/-- a number and whether there is one -/
abbrev numB (a : Int) (b : Bool) : Ending := .returned (.tuple #[.int .i64 a, .bool b])
theorem numB_yes {l : List UInt8} (h : okN l) : numB (numv l 0 l.length) true = numB (nv l) (nok l) := by rw [nv_yes h, nok_yes h]
theorem numB_no {l : List UInt8} (h : ¬ okN l) : numB 0 false = numB (nv l) (nok l) := by rw [nv_no h, nok_no h]
theorem all_succ2 {p : Nat → Prop} {k : Nat} (h : ∀ j, j < k → p j) (hk : p k) : ∀ j, j < k + 1 → p j := fun j hj => by
  by_cases e : j = k
  · rw [e]; exact hk
  · exact h j (by omega)

set_option maxHeartbeats 400000 in
theorem isDigit_any (c : Int) (w : World) (h1 : 0 ≤ c) (h2 : c ≤ 255) :
    Calls Tryz.prog 95 #[.int .u8 c] w fun e w' => e = .returned (.bool (decide (48 ≤ c ∧ c ≤ 57))) ∧ Gr w w' := by
  by_cases c1 : 48 ≤ c
  · by_cases c2 : c ≤ 57
    · have e : decide (48 ≤ c ∧ c ≤ 57) = true := by simp; omega
      have E := Lib.hid e
      clear e
      go_enter Tryz.func95, Tryz.ntmps95
      go_wp2
      go_ret
      exact ⟨by first | rfl | exact ret_bool E.out.symm, by first | exact Gr.refl _ | exact (Gr.refl _).drewN _⟩
    · have e : decide (48 ≤ c ∧ c ≤ 57) = false := by simp; omega
      have E := Lib.hid e
      have c2' : decide (c ≤ 57) = false := by simpa using c2
      clear e
      go_enter Tryz.func95, Tryz.ntmps95
      go_wp2
      go_ret
      exact ⟨by first | rfl | exact ret_bool E.out.symm, by first | exact Gr.refl _ | exact (Gr.refl _).drewN _⟩
  · have e : decide (48 ≤ c ∧ c ≤ 57) = false := by simp; omega
    have E := Lib.hid e
    have c1' : decide (48 ≤ c) = false := by simpa using c1
    clear e
    go_enter Tryz.func95, Tryz.ntmps95
    go_wp2
    go_ret
    exact ⟨by first | rfl | exact ret_bool E.out.symm, by first | exact Gr.refl _ | exact (Gr.refl _).drewN _⟩

set_option maxHeartbeats 1000000 in
theorem number_short (s : ByteArray) (w : World) (hs : s.size ≤ 4) (h1 : 1 ≤ s.size) (hne : ¬ s = ByteArray.empty) :
    Calls Tryz.prog 69 #[.string s] w fun e w' => e = numB (nv s.toList) (nok s.toList) ∧ Gr w w' := by
  have gt : ¬ (4 : Int) < (s.size : Int) := by omega
  have HL := Lib.hid (toList_len s)
  have HNE := Lib.hid hne
  have e1 : (s.toList == []) = false := by
    have := toList_len s
    cases h : s.toList with
    | nil => rw [h] at this; simp at this; omega
    | cons a b => rfl
  go_enter Tryz.func69, Tryz.ntmps69
  go_wp2
  go_loopw [4, 15] (fun v i wr => ∃ k : Nat, k ≤ s.size ∧ (∀ j, j < k → 48 ≤ bt s.toList j ∧ bt s.toList j ≤ 57) ∧ i = .int .i64 k ∧ v = .int .i64 (numv s.toList 0 k) ∧ Gr w wr) (fun _ i _ => s.size - (intOf i).toNat)
  case atStart => exact ⟨0, Nat.zero_le _, fun j hj => absurd hj (by omega), rfl, rfl, by first | exact Gr.refl _ | exact (Gr.refl _).drewN _⟩
  case round =>
    obtain ⟨k, hk, hall, rfl, rfl, hg⟩ := hrel
    have HA := Lib.hid hall
    have nb := numv_bd s.toList 0 k (fun j hj => by simpa using hall j hj) k (Nat.le_refl _)
    have p4 : (10 : Int) ^ k ≤ 10000 := by
      have : k = 0 ∨ k = 1 ∨ k = 2 ∨ k = 3 ∨ k = 4 := by omega
      rcases this with e | e | e | e | e <;> subst e <;> decide
    have nb1 := nb.1
    have nb2 : numv s.toList 0 k < 10000 := by omega
    clear nb p4 hall
    by_cases hlt : k < s.size
    · have gS : ∀ w, (Instr.index 9 (.string s) (.int .i64 (k : Int))).run Tryz.prog w = .ok (.int .u8 (bt s.toList k)) w := fun w => idx s k (by omega) w
      have cb := bt_bd s.toList k
      have cb1 := cb.1
      have cb2 := cb.2
      clear cb
      by_cases c : 48 ≤ bt s.toList k ∧ bt s.toList k ≤ 57
      · have c1 := c.1
        have c2 := c.2
        have AS := Lib.hid (all_succ2 HA.out c)
        have E : Hid (numv s.toList 0 (k + 1) = 10 * numv s.toList 0 k + (bt s.toList k - 48)) := by simp [Hid, numv]
        have D : decide (48 ≤ bt s.toList k ∧ bt s.toList k ≤ 57) = true := by simp; omega
        have I := fun w => isDigit_any (bt s.toList k) w cb1 cb2
        rw [D] at I
        have I' := Lib.hid I
        clear c D I
        generalize bt s.toList k = c at gS c1 c2 E cb1 cb2 I' ⊢
        go_wp2_with fail
        refine (I'.out wr).mono ?_
        rintro e w2 ⟨rfl, hg2⟩
        go_wp2_with fail
        go_roundw
        case rel => exact ⟨k + 1, by omega, AS.out, by go_num, by rw [E.out], hg.trans hg2⟩
        case measure => simp [intOf]; omega
      · have NB : Hid (¬ okN s.toList) := fun hh => c (hh.2.2 k (by rw [HL.out]; exact hlt))
        have D : decide (48 ≤ bt s.toList k ∧ bt s.toList k ≤ 57) = false := by simp; omega
        have I := fun w => isDigit_any (bt s.toList k) w cb1 cb2
        rw [D] at I
        have I' := Lib.hid I
        clear c D I
        generalize bt s.toList k = c at gS cb1 cb2 I' ⊢
        go_wp2_with fail
        refine (I'.out wr).mono ?_
        rintro e w2 ⟨rfl, hg2⟩
        go_wp2_with fail
        go_ret2
        exact ⟨numB_no NB.out, hg.trans hg2⟩
    · obtain rfl : k = s.size := by omega
      have OK : Hid (okN s.toList) := ⟨by rw [HL.out]; exact h1, by rw [HL.out]; exact hs, fun j hj => HA.out j (by rw [HL.out] at hj; exact hj)⟩
      go_wp2
      go_ret2
      exact ⟨by have := numB_yes OK.out; rw [HL.out] at this; exact this, hg⟩

set_option maxHeartbeats 400000 in
theorem number_long (s : ByteArray) (w : World) (hs : 4 < s.size) (hm : s.size ≤ maxLen) (hne : ¬ s = ByteArray.empty) :
    Calls Tryz.prog 69 #[.string s] w fun e w' => e = numB (nv s.toList) (nok s.toList) ∧ Gr w w' := by
  unfold maxLen at hm
  have gt : (4 : Int) < (s.size : Int) := by omega
  have NB : Hid (¬ okN s.toList) := fun hh => by have := hh.2.1; rw [toList_len] at this; omega
  have e1 : (s.toList == []) = false := by
    have := toList_len s
    cases h : s.toList with
    | nil => rw [h] at this; simp at this; omega
    | cons a b => rfl
  clear hne
  go_enter Tryz.func69, Tryz.ntmps69
  go_wp2
  go_ret2
  exact ⟨numB_no NB.out, by first | exact Gr.refl _ | exact (Gr.refl _).drewN _⟩

set_option maxHeartbeats 400000 in
theorem number_none (w : World) :
    Calls Tryz.prog 69 #[.string ⟨#[]⟩] w fun e w' => e = numB (nv []) (nok []) ∧ Gr w w' := by
  have NB : Hid (¬ okN []) := fun hh => by have := hh.1; simp at this
  go_enter Tryz.func69, Tryz.ntmps69
  go_wp2
  go_ret2
  exact ⟨numB_no NB.out, by first | exact Gr.refl _ | exact (Gr.refl _).drewN _⟩

theorem number_any (s : ByteArray) (w : World) (hm : s.size ≤ maxLen) :
    Calls Tryz.prog 69 #[.string s] w fun e w' => e = numB (nv s.toList) (nok s.toList) ∧ Gr w w' := by
  by_cases h0 : s.size = 0
  · have e : s = ⟨#[]⟩ := by
      cases s with
      | mk d => have : d.size = 0 := h0
                congr 1; exact Array.size_eq_zero_iff.1 this
    subst e
    have e2 : (⟨#[]⟩ : ByteArray).toList = [] := by rw [ByteArray.toList_eq]
    rw [e2]
    exact number_none w
  · have hne : ¬ s = ByteArray.empty := fun e => by subst e; exact h0 rfl
    by_cases h4 : s.size ≤ 4
    · exact number_short s w h4 (by omega) hne
    · exact number_long s w (by omega) hm hne
end Go.Proofs.YteljpjhjoclkfaaGreatDoor

namespace Go.Proofs.YteljpjhjoclkfaaGreatDoor
set_option linter.unusedVariables false
set_option linter.unusedSimpArgs false
open Go.RowKit

/-- a variable of type bool of the call's own, and what it holds -/
def Box (w : World) (b : Nat) (v : Bool) : Prop := w.heap[b]? = some (.cells #[.bool v] 4 (0, 0))
theorem Box.cell {w : World} {b : Nat} {v : Bool} (h : Box w b v) : w.cell? ⟨b, 0, none⟩ = some (.bool v) := by
  unfold Box at h; simp [World.cell?, h]
theorem Box.frozen {w : World} {b : Nat} {v : Bool} (h : Box w b v) : w.frozen? ⟨b, 0, none⟩ = false := by
  unfold Box at h; simp [World.frozen?, h]
theorem Box.lt {w : World} {b : Nat} {v : Bool} (h : Box w b v) : b < w.heap.size := by
  unfold Box at h
  by_cases c : b < w.heap.size
  · exact c
  · rw [Array.getElem?_eq_none (by omega)] at h; cases h
theorem Box.gr {w w' : World} {b : Nat} {v : Bool} (h : Box w b v) (g : Gr w w') : Box w' b v := by
  unfold Box; rw [Below.block g b h.lt]; exact h
theorem Box.set {w : World} {b : Nat} {v : Bool} (h : Box w b v) (u : Bool) : Box (w.setCell ⟨b, 0, none⟩ (.bool u)) b u := by
  exact one_setCell h
theorem Box.drewN {w : World} {b : Nat} {v : Bool} (h : Box w b v) (n : Nat) : Box (w.drewN n) b v := h
/-- is the part a number of so many digits between two bounds? -/
noncomputable def chk (l : List UInt8) (dgt lo hi : Int) : Bool := nok l && decide ((l.length : Int) = dgt) && decide (lo ≤ nv l) && decide (nv l ≤ hi)
/-- what the literal leaves -/
def Checked (b : Nat) (w : World) (x : Int) (u : Bool) (e : Ending) (w' : World) : Prop := e = .returned (.int .i64 x) ∧ Box w' b u ∧ Below b w w'

set_option maxHeartbeats 1000000 in
theorem check_any (s : ByteArray) (g : Bool) (dgt lo hi : Int) (b : Nat) (w : World) (hm : s.size ≤ maxLen) (hb : Box w b g) :
    Calls Tryz.prog 68 #[.string s, .int .i64 dgt, .int .i64 lo, .int .i64 hi, .pointer (some ⟨b, 0, none⟩)] w (Checked b w (nv s.toList) (g && chk s.toList dgt lo hi)) := by
  have K := Lib.hid (number_any s w hm)
  have L := toList_len s
  unfold maxLen at hm
  have HB := Lib.hid hb
  have D : Hid (chk s.toList dgt lo hi = (nok s.toList && decide ((s.size : Int) = dgt) && decide (lo ≤ nv s.toList) && decide (nv s.toList ≤ hi))) := by unfold Hid chk; rw [L]
  clear hb L
  generalize chk s.toList dgt lo hi = C at D ⊢
  generalize nv s.toList = x at K D ⊢
  generalize nok s.toList = o at K D ⊢
  have last : ∀ (w1 : World), Gr w w1 → ∀ (u : Bool), u = (g && C) → ∀ n, Checked b w x (g && C) (.returned (.int .i64 x)) ((w1.setCell ⟨b, 0, none⟩ (.bool u)).drewN n) := fun w1 hg u hu n => by
    subst hu
    exact ⟨rfl, ((HB.out.gr hg).set _).drewN n, below_drewN (Below.setCell (Below.mono hg (Nat.le_of_lt HB.out.lt)) (Nat.le_refl b) _) n⟩
  have LAST := Lib.hid last
  clear last
  cases g with
  | false =>
    go_enter Tryz.func68, Tryz.ntmps68
    go_wp2_with fail
    refine K.out.mono ?_
    rintro e w1 ⟨rfl, hg⟩
    have hc := (HB.out.gr hg).cell
    have hf := (HB.out.gr hg).frozen
    go_wp2
    go_ret
    exact LAST.out w1 hg _ (by rw [D.out]; rfl) 0
  | true =>
    cases o with
    | false =>
      go_enter Tryz.func68, Tryz.ntmps68
      go_wp2_with fail
      refine K.out.mono ?_
      rintro e w1 ⟨rfl, hg⟩
      have hc := (HB.out.gr hg).cell
      have hf := (HB.out.gr hg).frozen
      go_wp2
      go_ret
      exact LAST.out w1 hg _ (by rw [D.out]; rfl) 0
    | true =>
      by_cases h1 : (s.size : Int) = dgt
      · have h1' : ((s.size : Int) == dgt) = true := by simp [h1]
        have d1 : Hid (decide ((s.size : Int) = dgt) = true) := by simp [Hid, h1]
        clear h1
        by_cases h2 : lo ≤ x
        · have d2 : Hid (decide (lo ≤ x) = true) := by simp [Hid, h2]
          by_cases h3 : x ≤ hi
          · have d3 : Hid (decide (x ≤ hi) = true) := by simp [Hid, h3]
            go_enter Tryz.func68, Tryz.ntmps68
            go_wp2_with fail
            refine K.out.mono ?_
            rintro e w1 ⟨rfl, hg⟩
            have hc := (HB.out.gr hg).cell
            have hf := (HB.out.gr hg).frozen
            go_wp2
            go_ret
            exact LAST.out w1 hg _ (by rw [D.out, d1.out, d2.out, d3.out]; rfl) 0
          · have d3 : Hid (decide (x ≤ hi) = false) := by simpa [Hid] using h3
            have h3' : decide (x ≤ hi) = false := d3.out
            go_enter Tryz.func68, Tryz.ntmps68
            go_wp2_with fail
            refine K.out.mono ?_
            rintro e w1 ⟨rfl, hg⟩
            have hc := (HB.out.gr hg).cell
            have hf := (HB.out.gr hg).frozen
            go_wp2
            go_ret
            exact LAST.out w1 hg _ (by rw [D.out, d1.out, d2.out, d3.out]; rfl) 0
        · have d2 : Hid (decide (lo ≤ x) = false) := by simpa [Hid] using h2
          have h2' : decide (lo ≤ x) = false := d2.out
          go_enter Tryz.func68, Tryz.ntmps68
          go_wp2_with fail
          refine K.out.mono ?_
          rintro e w1 ⟨rfl, hg⟩
          have hc := (HB.out.gr hg).cell
          have hf := (HB.out.gr hg).frozen
          go_wp2
          go_ret
          exact LAST.out w1 hg _ (by rw [D.out, d1.out, d2.out]; rfl) 0
      · have h1' : ((s.size : Int) == dgt) = false := by simp [h1]
        have d1 : Hid (decide ((s.size : Int) = dgt) = false) := by simp [Hid, h1]
        clear h1
        go_enter Tryz.func68, Tryz.ntmps68
        go_wp2_with fail
        refine K.out.mono ?_
        rintro e w1 ⟨rfl, hg⟩
        have hc := (HB.out.gr hg).cell
        have hf := (HB.out.gr hg).frozen
        go_wp2
        go_ret
        exact LAST.out w1 hg _ (by rw [D.out, d1.out]; rfl) 0
end Go.Proofs.YteljpjhjoclkfaaGreatDoor

namespace Go.Proofs.YteljpjhjoclkfaaGreatDoor
set_option linter.unusedVariables false
set_option linter.unusedSimpArgs false
open Go.RowKit

set_option maxHeartbeats 1000000 in
set_option maxRecDepth 100000 in
theorem colon_index (s : ByteArray) (w : World) :
    Calls Tryz.prog 91 #[.string s, .string ⟨#[58]⟩] w fun e w' => e = .returned (.int .i64 (Lib.index s.data.toList [58])) ∧ w = w' := by
  by_cases h : s = ⟨#[58]⟩
  · subst h
    have E : Hid (Lib.index (⟨#[58]⟩ : ByteArray).data.toList [58] = 0) := by unfold Hid; decide
    generalize Lib.index (⟨#[58]⟩ : ByteArray).data.toList [58] = q at E ⊢
    go_enter Tryz.func91, Tryz.ntmps91
    go_wp2_with fail
    go_ret
    exact ⟨ret_int E.out.symm, rfl⟩
  · have e1 : (([58] : List UInt8) == s.toList) = false := by
      cases hq : ([58] : List UInt8) == s.toList with
      | false => rfl
      | true =>
        have := eq_of_beq hq
        exact absurd (by rw [S_of s, ← this]; rfl) h
    have e3 : ¬ (⟨#[58]⟩ : ByteArray) = s := fun x => h x.symm
    have E := Lib.hid (Lib.index_one s.data.toList 58)
    clear h
    go_enter Tryz.func91, Tryz.ntmps91
    go_wp2_with fail
    refine (Tryz.stringslite_IndexByte s 58 w).mono ?_
    rintro e w1 ⟨rfl, rfl⟩
    go_wp2_with fail
    go_ret
    exact ⟨by rw [E.out]; rfl, rfl⟩

/-- what Cut returns -/
abbrev cut3 (a b : List UInt8) (f : Bool) : Ending := .returned (.tuple #[.string (S a), .string (S b), .bool f])
def cutL (l : List UInt8) : List UInt8 × List UInt8 × Bool := Lib.cut l [58]
theorem tup3 {a a' b b' : ByteArray} {c c' : Bool} (h1 : a' = a) (h2 : b' = b) (h3 : c' = c) : Ending.returned (.tuple #[.string a, .string b, .bool c]) = .returned (.tuple #[.string a', .string b', .bool c']) := by rw [h1, h2, h3]

set_option maxHeartbeats 1000000 in
theorem cut_lite (s : ByteArray) (w : World) (hm : s.size ≤ maxLen) :
    Calls Tryz.prog 97 #[.string s, .string ⟨#[58]⟩] w fun e w' => e = cut3 (cutL s.toList).1 (cutL s.toList).2.1 (cutL s.toList).2.2 ∧ Gr w w' := by
  unfold maxLen at hm
  have K := Lib.hid (colon_index s w)
  rcases Lib.indexB_cases s ⟨#[58]⟩ with hix | ⟨i, hix, hroom⟩
  · obtain ⟨e1, e2, e3⟩ := Lib.cutB_miss s ⟨#[58]⟩ hix
    have hix' : Lib.index s.data.toList [58] = -1 := hix
    rw [hix'] at K
    have E1 : Hid (S (cutL s.toList).1 = s) := by unfold Hid cutL; rw [ByteArray.toList_eq]; exact e1
    have E2 : Hid (S (cutL s.toList).2.1 = ⟨#[]⟩) := by unfold Hid cutL; rw [ByteArray.toList_eq]; exact e2
    have E3 : Hid ((cutL s.toList).2.2 = false) := by unfold Hid cutL; rw [ByteArray.toList_eq]; exact e3
    clear e1 e2 e3 hix hix'
    go_enter Tryz.func97, Tryz.ntmps97
    go_wp2_with fail
    refine K.out.mono ?_
    rintro e w1 ⟨rfl, rfl⟩
    go_wp2_with fail
    go_ret3
    exact ⟨tup3 E1.out E2.out E3.out, Gr.refl _⟩
  · obtain ⟨e1, e2, e3⟩ := Lib.cutB_hit s ⟨#[58]⟩ i hix
    have hix' : Lib.index s.data.toList [58] = i := hix
    rw [hix'] at K
    have E1 : Hid (S (cutL s.toList).1 = s.extract 0 i) := by unfold Hid cutL; rw [ByteArray.toList_eq]; exact e1
    have E2 : Hid (S (cutL s.toList).2.1 = s.extract (i + 1) s.size) := by unfold Hid cutL; rw [ByteArray.toList_eq]; exact e2
    have E3 : Hid ((cutL s.toList).2.2 = true) := by unfold Hid cutL; rw [ByteArray.toList_eq]; exact e3
    have hr : i + 1 ≤ s.size := hroom
    clear e1 e2 e3 hix hix' hroom
    have c1 : (0 : Int) ≤ ↑i := by omega
    have c2 : (↑i : Int) ≤ ↑s.size := by omega
    have c3 : (0 : Int) ≤ ↑i + 1 := by omega
    have c4 : (↑i + 1 : Int) ≤ ↑s.size := by omega
    go_enter Tryz.func97, Tryz.ntmps97
    go_wp2_with fail
    refine K.out.mono ?_
    rintro e w1 ⟨rfl, rfl⟩
    go_wp2_with fail
    go_quiet (fail)
    go_wp2
    go_ret3
    exact ⟨tup3 E1.out E2.out E3.out, (Gr.refl _).drewN _⟩

set_option maxHeartbeats 400000 in
theorem cut_any (s : ByteArray) (w : World) (hm : s.size ≤ maxLen) :
    Calls Tryz.prog 71 #[.string s, .string ⟨#[58]⟩] w fun e w' => e = cut3 (cutL s.toList).1 (cutL s.toList).2.1 (cutL s.toList).2.2 ∧ Gr w w' := by
  have K := Lib.hid (cut_lite s w hm)
  generalize (cutL s.toList).2.2 = c at K ⊢
  generalize (cutL s.toList).2.1 = b at K ⊢
  generalize (cutL s.toList).1 = a at K ⊢
  go_enter Tryz.func71, Tryz.ntmps71
  go_wp2_with fail
  refine K.out.mono ?_
  rintro e w1 ⟨rfl, hg⟩
  go_wp2_with fail
  go_ret3
  exact ⟨rfl, hg⟩

/-- how many digits are left when the leading zeros are dropped, at least one -/
def wid (l : List UInt8) : Int := max 1 ((l.dropWhile (· == 48)).length : Int)

set_option maxHeartbeats 400000 in
theorem width_any (s : ByteArray) (w : World) (hm : s.size ≤ maxLen) :
    Calls Tryz.prog 72 #[.string s] w fun e w' => e = .returned (.int .i64 (wid s.toList)) ∧ Gr w w' := by
  unfold maxLen at hm
  have K := Tryz.strings_TrimLeft_one s 48 (by decide) w
  have e0 : (⟨(Lib.trimLeftB s.data.toList 48).toArray⟩ : ByteArray) = S (s.toList.dropWhile (· == 48)) := by rw [ByteArray.toList_eq]; rfl
  rw [e0] at K
  have hle : (s.toList.dropWhile (· == 48)).length ≤ s.size := by rw [← toList_len s]; exact (List.dropWhile_suffix _).length_le
  have K' := Lib.hid K
  clear K e0
  unfold wid
  generalize s.toList.dropWhile (· == 48) = l at K' hle ⊢
  go_enter Tryz.func72, Tryz.ntmps72
  go_wp2_with fail
  refine K'.out.mono ?_
  rintro e w1 ⟨rfl, rfl⟩
  go_wp2_with fail
  go_ret
  exact ⟨rfl, Gr.refl _⟩
end Go.Proofs.YteljpjhjoclkfaaGreatDoor
