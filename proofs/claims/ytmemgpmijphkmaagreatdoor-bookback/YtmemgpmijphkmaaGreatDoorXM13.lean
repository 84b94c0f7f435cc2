/- What the project's function number returns, and the test of a part of a duration. -/
import Derived.Deep.QuietTactic
import Derived.BigQuiet
import Derived.Test.YtmemgpmijphkmaaGreatDoorXM01
import Derived.Test.YtmemgpmijphkmaaGreatDoorXM04
namespace Go.Proofs.YtmemgpmijphkmaaGreatDoor
set_option linter.unusedVariables false
set_option linter.unusedSimpArgs false
open Go.RowKit
theorem toList_len (s : ByteArray) : s.toList.length = s.size := by rw [ByteArray.toList_eq]; exact Array.length_toList
/-- a text of one tto four digits -/
def okN (l : List UInt8) : Prop := 1 ≤ l.length ∧ l.length ≤ 4 ∧ ∀ j, j < l.length → 48 ≤ bt l j ∧ bt l j ≤ 57
open Classical in
/-- the number that it tells; 0 of another text -/
noncomputable def nv (l : List UInt8) : Int := if okN l then numv l 0 l.length else 0
open Classical in
noncomputable def nok (l : List UInt8) : Bool := decide (okN l)
theorem nv_yes {l : List UInt8} (h : okN l) : nv l = numv l 0 l.length := by unfold nv; rw [if_pos h]
theorem nv_no {l : List UInt8} (h : ¬ okN l) : nv l = 0 := by unfold nv; rw [if_neg h]
theorem nok_yes {l : List UInt8} (h : okN l) : nok l = true := by unfold nok; simp [h]
theorem nok_no {l : List UInt8} (h : ¬ okN l) : nok l = false := by unfold nok; simp [h]
theorem nv_bd (l : List UInt8) : 0 ≤ nv l ∧ nv l ≤ 9999 := by
  by_cases h : okN l
  · rw [nv_yes h]
    have b := numv_bd l 0 l.length (fun j hj => by simpa using h.2.2 j hj) l.length (Nat.le_refl _)
    have p : (10 : Int) ^ l.length ≤ 10000 := by
      have : l.length = 1 ∨ l.length = 2 ∨ l.length = 3 ∨ l.length = 4 := by have := h.1; have := h.2.1; omega
      rcases this with e | e | e | e <;> rw [e] <;> decide
    omega
  · rw [nv_no h]; omega
/-- a number and whether there is one -/
abbrev numB (a : Int) (b : Bool) : Ending := .returned (.tuple #[.int .i64 a, .bool b])
theorem numB_yes {l : List UInt8} (h : okN l) : numB (numv l 0 l.length) true = numB (nv l) (nok l) := by rw [nv_yes h, nok_yes h]
theorem numB_no {l : List UInt8} (h : ¬ okN l) : numB 0 false = numB (nv l) (nok l) := by rw [nv_no h, nok_no h]
theorem all_succ2 {p : Nat → Prop} {k : Nat} (h : ∀ j, j < k → p j) (hk : p k) : ∀ j, j < k + 1 → p j := fun j hj => by
  by_cases e : j = k
  · rw [e]; exact hk
  · exact h j (by omega)

set_option maxHeartbeats 400000 in
theorem isDigit_any (c : Int) (w : World) (h1 : 0 ≤ c) (h2 : c ≤ 255) :
    Calls Tryz.prog 170 #[.int .u8 c] w fun e w' => e = .returned (.bool (decide (48 ≤ c ∧ c ≤ 57))) ∧ Gr w w' := by
  by_cases c1 : 48 ≤ c
  · by_cases c2 : c ≤ 57
    · have e : decide (48 ≤ c ∧ c ≤ 57) = true := by simp; omega
      have E := Lib.hid e
      clear e
      go_enter Tryz.func170, Tryz.ntmps170
      go_wp2
      go_ret
      exact ⟨by first | rfl | exact ret_bool E.out.symm, by first | exact Gr.refl _ | exact (Gr.refl _).drewN _⟩
    · have e : decide (48 ≤ c ∧ c ≤ 57) = false := by simp; omega
      have E := Lib.hid e
      have c2' : decide (c ≤ 57) = false := by simpa using c2
      clear e
      go_enter Tryz.func170, Tryz.ntmps170
      go_wp2
      go_ret
      exact ⟨by first | rfl | exact ret_bool E.out.symm, by first | exact Gr.refl _ | exact (Gr.refl _).drewN _⟩
  · have e : decide (48 ≤ c ∧ c ≤ 57) = false := by simp; omega
    have E := Lib.hid e
    have c1' : decide (48 ≤ c) = false := by simpa using c1
    clear e
    go_enter Tryz.func170, Tryz.ntmps170
    go_wp2
    go_ret
    exact ⟨by first | rfl | exact ret_bool E.out.symm, by first | exact Gr.refl _ | exact (Gr.refl _).drewN _⟩

set_option maxHeartbeats 1000000 in
theorem number_short (s : ByteArray) (w : World) (hs : s.size ≤ 4) (h1 : 1 ≤ s.size) (hne : ¬ s = ByteArray.empty) :
    Calls Tryz.prog 155 #[.string s] w fun e w' => e = numB (nv s.toList) (nok s.toList) ∧ Gr w w' := by
  have gt : ¬ (4 : Int) < (s.size : Int) := by omega
  have HL := Lib.hid (toList_len s)
  have HNE := Lib.hid hne
  have e1 : (s.toList == []) = false := by
    have := toList_len s
    cases h : s.toList with
    | nil => rw [h] at this; simp at this; omega
    | cons a b => rfl
  go_enter Tryz.func155, Tryz.ntmps155
  go_wp2
  go_loopw [4, 15] (fun v i wr => ∃ k : Nat, k ≤ s.size ∧ (∀ j, j < k → 48 ≤ bt s.toList j ∧ bt s.toList j ≤ 57) ∧ i = .int .i64 k ∧ v = .int .i64 (numv s.toList 0 k) ∧ Gr w wr) (fun _ i _ => s.size - (intOf i).toNat)
  case atStart => exact ⟨0, Nat.zero_le _, fun j hj => absurd hj (by omega), rfl, rfl, by first | exact Gr.refl _ | exact (Gr.refl _).drewN _⟩
  case round =>
    obtain ⟨k, hk, hall, rfl, rfl, hg⟩ := hrel
    have HA := Lib.hid hall
    have nb := numv_bd s.toList 0 k (fun j hj => by simpa using hall j hj) k (Nat.le_refl _)
    have p4 : (10 : Int) ^ k ≤ 10000 := by
      have : k = 0 ∨ k = 1 ∨ k = 2 ∨ k = 3 ∨ k = 4 := by omega
      rcases this with e | e | e | e | e <;> subst e <;> decide
    have nb1 := nb.1
    have nb2 : numv s.toList 0 k < 10000 := by omega
    clear nb p4 hall
    by_cases hlt : k < s.size
    · have gS : ∀ w, (Instr.index 9 (.string s) (.int .i64 (k : Int))).run Tryz.prog w = .ok (.int .u8 (bt s.toList k)) w := fun w => idx s k (by omega) w
      have cb := bt_bd s.toList k
      have cb1 := cb.1
      have cb2 := cb.2
      clear cb
      by_cases c : 48 ≤ bt s.toList k ∧ bt s.toList k ≤ 57
      · have c1 := c.1
        have c2 := c.2
        have AS := Lib.hid (all_succ2 HA.out c)
        have E : Hid (numv s.toList 0 (k + 1) = 10 * numv s.toList 0 k + (bt s.toList k - 48)) := by simp [Hid, numv]
        have D : decide (48 ≤ bt s.toList k ∧ bt s.toList k ≤ 57) = true := by simp; omega
        have I := fun w => isDigit_any (bt s.toList k) w cb1 cb2
        rw [D] at I
        have I' := Lib.hid I
        clear c D I
        generalize bt s.toList k = c at gS c1 c2 E cb1 cb2 I' ⊢
        go_wp2_with fail
        refine (I'.out wr).mono ?_
        rintro e w2 ⟨rfl, hg2⟩
        go_wp2_with fail
        go_roundw
        case rel => exact ⟨k + 1, by omega, AS.out, by go_num, by rw [E.out], hg.trans hg2⟩
        case measure => simp [intOf]; omega
      · have NB : Hid (¬ okN s.toList) := fun hh => c (hh.2.2 k (by rw [HL.out]; exact hlt))
        have D : decide (48 ≤ bt s.toList k ∧ bt s.toList k ≤ 57) = false := by simp; omega
        have I := fun w => isDigit_any (bt s.toList k) w cb1 cb2
        rw [D] at I
        have I' := Lib.hid I
        clear c D I
        generalize bt s.toList k = c at gS cb1 cb2 I' ⊢
        go_wp2_with fail
        refine (I'.out wr).mono ?_
        rintro e w2 ⟨rfl, hg2⟩
        go_wp2_with fail
        go_ret2
        exact ⟨numB_no NB.out, hg.trans hg2⟩
    · obtain rfl : k = s.size := by omega
      have OK : Hid (okN s.toList) := ⟨by rw [HL.out]; exact h1, by rw [HL.out]; exact hs, fun j hj => HA.out j (by rw [HL.out] at hj; exact hj)⟩
      go_wp2
      go_ret2
      exact ⟨by have := numB_yes OK.out; rw [HL.out] at this; exact this, hg⟩

set_option maxHeartbeats 400000 in
theorem number_long (s : ByteArray) (w : World) (hs : 4 < s.size) (hm : s.size ≤ maxLen) (hne : ¬ s = ByteArray.empty) :
    Calls Tryz.prog 155 #[.string s] w fun e w' => e = numB (nv s.toList) (nok s.toList) ∧ Gr w w' := by
  unfold maxLen at hm
  have gt : (4 : Int) < (s.size : Int) := by omega
  have NB : Hid (¬ okN s.toList) := fun hh => by have := hh.2.1; rw [toList_len] at this; omega
  have e1 : (s.toList == []) = false := by
    have := toList_len s
    cases h : s.toList with
    | nil => rw [h] at this; simp at this; omega
    | cons a b => rfl
  clear hne
  go_enter Tryz.func155, Tryz.ntmps155
  go_wp2
  go_ret2
  exact ⟨numB_no NB.out, by first | exact Gr.refl _ | exact (Gr.refl _).drewN _⟩

set_option maxHeartbeats 400000 in
theorem number_none (w : World) :
    Calls Tryz.prog 155 #[.string ⟨#[]⟩] w fun e w' => e = numB (nv []) (nok []) ∧ Gr w w' := by
  have NB : Hid (¬ okN []) := fun hh => by have := hh.1; simp at this
  go_enter Tryz.func155, Tryz.ntmps155
  go_wp2
  go_ret2
  exact ⟨numB_no NB.out, by first | exact Gr.refl _ | exact (Gr.refl _).drewN _⟩

theorem number_any (s : ByteArray) (w : World) (hm : s.size ≤ maxLen) :
    Calls Tryz.prog 155 #[.string s] w fun e w' => e = numB (nv s.toList) (nok s.toList) ∧ Gr w w' := by
  by_cases h0 : s.size = 0
  · have e : s = ⟨#[]⟩ := by
      cases s with
      | mk d => have : d.size = 0 := h0
                congr 1; exact Array.size_eq_zero_iff.1 this
    subst e
    have e2 : (⟨#[]⟩ : ByteArray).toList = [] := by rw [ByteArray.toList_eq]
    rw [e2]
    exact number_none w
  · have hne : ¬ s = ByteArray.empty := fun e => by subst e; exact h0 rfl
    by_cases h4 : s.size ≤ 4
    · exact number_short s w h4 (by omega) hne
    · exact number_long s w (by omega) hm hne
end Go.Proofs.YtmemgpmijphkmaaGreatDoor
