/- What the project's ReadStamp returns, for every input. -/
import Derived.Test.YtmemgpmijphkmaaGreatDoorVM15
import Derived.Test.YtmemgpmijphkmaaGreatDoorVM29
namespace Go.Proofs.YtmemgpmijphkmaaGreatDoor
set_option linter.unusedVariables false
set_option linter.unusedSimpArgs false
open Go.RowKit
/-- does the text have the form of a timestamp? -/
def formed (l : List UInt8) : Prop := l.length = 19 ∧ ∀ j, j < 19 → fits l j
open Classical in
noncomputable def formB (l : List UInt8) : Bool := decide (formed l)
theorem form_yes {l : List UInt8} (h : formed l) : true = formB l := by unfold formB; simp [h]
theorem form_no {l : List UInt8} (h : ¬ formed l) : false = formB l := by unfold formB; simp [h]

set_option maxHeartbeats 2000000 in
theorem hasForm_19 (s : ByteArray) (w : World) (hs : s.size = 19) :
    Calls Tryz.prog 158 #[.string s] w fun e w' => e = .returned (.bool (formB s.toList)) ∧ Gr w w' := by
  have HS := Lib.hid hs
  have HL : Hid (s.toList.length = 19) := by unfold Hid; rw [toList_len]; exact hs
  go_enter Tryz.func158, Tryz.ntmps158
  go_wp2
  go_loopw [9] (fun i wr => ∃ k : Nat, k ≤ 19 ∧ (∀ j, j < k → fits s.toList j) ∧ i = .int .i64 k ∧ Gr w wr) (fun i _ => 19 - (intOf i).toNat)
  case atStart => exact ⟨0, Nat.zero_le _, fun j hj => absurd hj (by omega), rfl, by first | exact Gr.refl _ | exact (Gr.refl _).drewN _⟩
  case round =>
    obtain ⟨k, hk, hall, rfl, hg⟩ := hrel
    have HA := Lib.hid hall
    clear hall
    by_cases hlt : k < 19
    · have gS : ∀ w, (Instr.index 9 (.string s) (.int .i64 (k : Int))).run Tryz.prog w = .ok (.int .u8 (bt s.toList k)) w := fun w => idx s k (by omega) w
      have gF : ∀ w, (Instr.index 9 (.string ⟨#[48, 48, 48, 48, 45, 48, 48, 45, 48, 48, 84, 48, 48, 58, 48, 48, 58, 48, 48]⟩) (.int .i64 (k : Int))).run Tryz.prog w = .ok (.int .u8 (bt stampForm k)) w := fun w => by
        have := idx (S stampForm) k (by rw [S_size]; exact hlt) w
        rw [S_toList] at this; exact this
      clear hs
      by_cases f1 : bt stampForm k = 48
      · have f2 : (bt stampForm k != 48) = false := by simp [f1]
        have f3 : (bt stampForm k == 48) = true := by simp [f1]
        have cb := bt_bd s.toList k
        have I := fun w => isDigit_any (bt s.toList k) w cb.1 cb.2
        by_cases c : 48 ≤ bt s.toList k ∧ bt s.toList k ≤ 57
        · have D : decide (48 ≤ bt s.toList k ∧ bt s.toList k ≤ 57) = true := by simp; omega
          rw [D] at I
          have I' := Lib.hid I
          have FIT : Hid (∀ j, j < k + 1 → fits s.toList j) := all_succ2 HA.out (fits_digit f1 (by omega) (by omega))
          clear c D I cb f1
          generalize bt s.toList k = c at gS I' ⊢
          generalize bt stampForm k = f at gF f2 f3 ⊢
          go_wp2_with fail
          go_quiet (fail)
          go_wp2_with fail
          refine (I'.out _).mono ?_
          rintro e w2 ⟨rfl, hg2⟩
          go_wp2_with fail
          go_roundw
          case rel => exact ⟨k + 1, by omega, FIT.out, by go_num, (hg.drewN _).trans hg2⟩
          case measure => simp [intOf]; omega
        · have D : decide (48 ≤ bt s.toList k ∧ bt s.toList k ≤ 57) = false := by simp; omega
          rw [D] at I
          have I' := Lib.hid I
          have NB : Hid (¬ formed s.toList) := fun hh => c (digit_of (hh.2 k hlt) f1)
          clear c D I cb f1
          generalize bt s.toList k = c at gS I' ⊢
          generalize bt stampForm k = f at gF f2 f3 ⊢
          go_wp2_with fail
          go_quiet (fail)
          go_wp2_with fail
          refine (I'.out _).mono ?_
          rintro e w2 ⟨rfl, hg2⟩
          go_wp2_with fail
          go_ret
          exact ⟨ret_bool (form_no NB.out), (hg.drewN _).trans hg2⟩
      · have f2 : (bt stampForm k != 48) = true := by simp [f1]
        have f3 : (bt stampForm k == 48) = false := by simp [f1]
        by_cases c : bt s.toList k = bt stampForm k
        · have c' : (bt s.toList k != bt stampForm k) = false := by simp [c]
          have FIT : Hid (∀ j, j < k + 1 → fits s.toList j) := all_succ2 HA.out (fits_sign f1 c)
          clear c f1
          generalize bt s.toList k = c at gS c' ⊢
          generalize bt stampForm k = f at gF f2 f3 c' ⊢
          go_wp2_with fail
          go_quiet (fail)
          go_wp2
          go_roundw
          case rel => exact ⟨k + 1, by omega, FIT.out, by go_num, by first | exact hg.drewN _ | exact (hg.drewN _).drewN _⟩
          case measure => simp [intOf]; omega
        · have c' : (bt s.toList k != bt stampForm k) = true := by simp [c]
          have NB : Hid (¬ formed s.toList) := fun hh => c (sign_of (hh.2 k hlt) f1)
          clear c f1
          generalize bt s.toList k = c at gS c' ⊢
          generalize bt stampForm k = f at gF f2 f3 c' ⊢
          go_wp2_with fail
          go_quiet (fail)
          go_wp2
          go_ret
          exact ⟨ret_bool (form_no NB.out), by first | exact hg.drewN _ | exact (hg.drewN _).drewN _⟩
    · obtain rfl : k = 19 := by omega
      have OK : Hid (formed s.toList) := ⟨HL.out, HA.out⟩
      clear hs
      go_wp2
      go_ret
      exact ⟨ret_bool (form_yes OK.out), hg⟩

set_option maxHeartbeats 400000 in
theorem hasForm_other (s : ByteArray) (w : World) (hs : ¬ s.size = 19) (hm : s.size ≤ maxLen) :
    Calls Tryz.prog 158 #[.string s] w fun e w' => e = .returned (.bool (formB s.toList)) ∧ Gr w w' := by
  unfold maxLen at hm
  have NB : Hid (¬ formed s.toList) := fun hh => hs (by rw [← toList_len]; exact hh.1)
  have t : ((s.size : Int) != 19) = true := by simp; omega
  go_enter Tryz.func158, Tryz.ntmps158
  go_wp2
  go_ret
  exact ⟨ret_bool (form_no NB.out), Gr.refl _⟩

theorem hasForm_any (s : ByteArray) (w : World) (hm : s.size ≤ maxLen) :
    Calls Tryz.prog 158 #[.string s] w fun e w' => e = .returned (.bool (formB s.toList)) ∧ Gr w w' := by
  by_cases h : s.size = 19
  · exact hasForm_19 s w h
  · exact hasForm_other s w h hm

theorem numv_extract (s : ByteArray) (i n : Nat) (h : i + n ≤ s.size) : ∀ k, k ≤ n → numv (s.extract i (i + n)).toList 0 k = numv s.toList i k := by
  intro k
  induction k with
  | zero => intro _; rfl
  | succ k ih =>
    intro hk
    unfold numv
    rw [ih (by omega), Nat.zero_add, bt_extract s i n k h (by omega)]

set_option maxHeartbeats 400000 in
theorem part_any (s : ByteArray) (b i n : Nat) (iz jz : Int) (hi : (i : Int) = iz) (hj : ((i + n : Nat) : Int) = jz) (w : World) (hs : s.size ≤ 1000) (hc : w.cell? ⟨b, 0, none⟩ = some (.string s)) (h : i + n ≤ s.size) (h1 : 1 ≤ n) (hn : n ≤ 4) (hd : ∀ j, j < n → 48 ≤ bt s.toList (i + j) ∧ bt s.toList (i + j) ≤ 57) :
    Calls Tryz.prog 159 #[.int .i64 iz, .int .i64 jz, .pointer (some ⟨b, 0, none⟩)] w fun e w' => e = .returned (.int .i64 (numv s.toList i n)) ∧ Gr w w' := by
  have hx := size_extract s i n h
  have ok : okN (s.extract i (i + n)).toList := by
    refine ⟨by rw [toList_len, hx]; exact h1, by rw [toList_len, hx]; exact hn, fun j hj => ?_⟩
    rw [toList_len, hx] at hj
    rw [bt_extract s i n j h hj]; exact hd j hj
  have K := fun w => number_any (s.extract i (i + n)) w (by rw [hx]; unfold maxLen; omega)
  rw [nv_yes ok, nok_yes ok, toList_len, hx, numv_extract s i n h n (Nat.le_refl _)] at K
  subst hi hj
  generalize numv s.toList i n = x at K ⊢
  have K' := Lib.hid K
  clear K ok hx hd
  have c1 : (0 : Int) ≤ ↑i := by omega
  have c2 : (↑i : Int) ≤ ↑(i + n) := by omega
  have c3 : (↑(i + n) : Int) ≤ ↑s.size := by omega
  go_enter Tryz.func159, Tryz.ntmps159
  go_wp2_with fail
  refine (K'.out w).mono ?_
  rintro e w2 ⟨rfl, hg2⟩
  go_wp2_with fail
  go_ret
  exact ⟨rfl, hg2⟩
end Go.Proofs.YtmemgpmijphkmaaGreatDoor
