/- What the project's functions on names return: isLetter, isDigit, IsName, IsAbbr of package rule. Plain arithmetic of the calendar, no program in it: leap years, lengths of months, the number of a day, that each day number of the supported years has exactly one date. What the reference's functions on days of months return: DayCheck, IsTime, DayOf. What the reference's RuleCheck returns, for every rule. What the reference's DayOf returns, for every input. Formats of abbreviations: texts cut at a sign, what Abbr answers. No program in it. Books as data: rules, eras, zones, links; slices of them in memory. No function of the program in it. -/
import Derived.Test.YtkmgildnhnjepaaPM02
import Derived.Test.YtkmgildnhnjepaaPM01
import Derived.Deep.QuietTactic
import Derived.BigQuiet
import Derived.Lib.Replace
import Derived.Lib.SplitLaws
namespace Go.Proofs.Ytkmgildnhnjepaa
set_option linter.unusedVariables false
set_option linter.unusedSimpArgs false
open Go.RowKit
/-- a letter; a digit -/
def letB (c : Int) : Bool := (decide (97 ≤ c) && decide (c ≤ 122)) || (decide (65 ≤ c) && decide (c ≤ 90))
def digB (c : Int) : Bool := decide (48 ≤ c) && decide (c ≤ 57)
theorem alnum_eq (c : Int) : alnum c = (letB c || digB c) := by
  unfold alnum letB digB
  rw [Bool.eq_iff_iff]; simp; omega
theorem inB2 (c : Int) : inB [43, 45] c 2 = ((c == 43) || (c == 45)) := by simp [inB, bt]
set_option maxHeartbeats 400000 in
theorem pletter_any (c : Int) (w : World) (h1 : 0 ≤ c) (h2 : c ≤ 255) :
    Calls Try.prog 18 #[.int .u8 c] w fun e w' => e = .returned (.bool (letB c)) ∧ w = w' := by
  have hc : (0 ≤ c ∧ c ≤ 64) ∨ (65 ≤ c ∧ c ≤ 90) ∨ (91 ≤ c ∧ c ≤ 96) ∨ (97 ≤ c ∧ c ≤ 122) ∨ (123 ≤ c ∧ c ≤ 255) := by omega
  rcases hc with ⟨g1, g2⟩ | ⟨g1, g2⟩ | ⟨g1, g2⟩ | ⟨g1, g2⟩ | ⟨g1, g2⟩
  · have f97 : decide (97 ≤ c) = false := by simp; omega
    have f122 : decide (c ≤ 122) = true := by simp; omega
    have f65 : decide (65 ≤ c) = false := by simp; omega
    have f90 : decide (c ≤ 90) = true := by simp; omega
    have E := Lib.hid (show letB c = false by simp only [letB, f97, f122, f65, f90]; rfl)
    go_enter Try.func18, Try.ntmps18
    go_wp2
    go_ret
    exact ⟨ret_bool E.out.symm, rfl⟩
  · have f97 : decide (97 ≤ c) = false := by simp; omega
    have f122 : decide (c ≤ 122) = true := by simp; omega
    have f65 : decide (65 ≤ c) = true := by simp; omega
    have f90 : decide (c ≤ 90) = true := by simp; omega
    have E := Lib.hid (show letB c = true by simp only [letB, f97, f122, f65, f90]; rfl)
    go_enter Try.func18, Try.ntmps18
    go_wp2
    go_ret
    exact ⟨ret_bool E.out.symm, rfl⟩
  · have f97 : decide (97 ≤ c) = false := by simp; omega
    have f122 : decide (c ≤ 122) = true := by simp; omega
    have f65 : decide (65 ≤ c) = true := by simp; omega
    have f90 : decide (c ≤ 90) = false := by simp; omega
    have E := Lib.hid (show letB c = false by simp only [letB, f97, f122, f65, f90]; rfl)
    go_enter Try.func18, Try.ntmps18
    go_wp2
    go_ret
    exact ⟨ret_bool E.out.symm, rfl⟩
  · have f97 : decide (97 ≤ c) = true := by simp; omega
    have f122 : decide (c ≤ 122) = true := by simp; omega
    have f65 : decide (65 ≤ c) = true := by simp; omega
    have f90 : decide (c ≤ 90) = false := by simp; omega
    have E := Lib.hid (show letB c = true by simp only [letB, f97, f122, f65, f90]; rfl)
    go_enter Try.func18, Try.ntmps18
    go_wp2
    go_ret
    exact ⟨ret_bool E.out.symm, rfl⟩
  · have f97 : decide (97 ≤ c) = true := by simp; omega
    have f122 : decide (c ≤ 122) = false := by simp; omega
    have f65 : decide (65 ≤ c) = true := by simp; omega
    have f90 : decide (c ≤ 90) = false := by simp; omega
    have E := Lib.hid (show letB c = false by simp only [letB, f97, f122, f65, f90]; rfl)
    go_enter Try.func18, Try.ntmps18
    go_wp2
    go_ret
    exact ⟨ret_bool E.out.symm, rfl⟩

set_option maxHeartbeats 400000 in
theorem pdigit_any (c : Int) (w : World) (h1 : 0 ≤ c) (h2 : c ≤ 255) :
    Calls Try.prog 19 #[.int .u8 c] w fun e w' => e = .returned (.bool (digB c)) ∧ w = w' := by
  have hc : (0 ≤ c ∧ c ≤ 47) ∨ (48 ≤ c ∧ c ≤ 57) ∨ (58 ≤ c ∧ c ≤ 255) := by omega
  rcases hc with ⟨g1, g2⟩ | ⟨g1, g2⟩ | ⟨g1, g2⟩
  · have f48 : decide (48 ≤ c) = false := by simp; omega
    have f57 : decide (c ≤ 57) = true := by simp; omega
    have E := Lib.hid (show digB c = false by simp only [digB, f48, f57]; rfl)
    go_enter Try.func19, Try.ntmps19
    go_wp2
    go_ret
    exact ⟨ret_bool E.out.symm, rfl⟩
  · have f48 : decide (48 ≤ c) = true := by simp; omega
    have f57 : decide (c ≤ 57) = true := by simp; omega
    have E := Lib.hid (show digB c = true by simp only [digB, f48, f57]; rfl)
    go_enter Try.func19, Try.ntmps19
    go_wp2
    go_ret
    exact ⟨ret_bool E.out.symm, rfl⟩
  · have f48 : decide (48 ≤ c) = true := by simp; omega
    have f57 : decide (c ≤ 57) = false := by simp; omega
    have E := Lib.hid (show digB c = false by simp only [digB, f48, f57]; rfl)
    go_enter Try.func19, Try.ntmps19
    go_wp2
    go_ret
    exact ⟨ret_bool E.out.symm, rfl⟩

set_option maxHeartbeats 1000000 in
theorem pabbr_out (s : ByteArray) (w : World) (h : s.size < 1 ∨ 8 < s.size) (hs : s.size ≤ maxLen) :
    Calls Try.prog 10 #[.string s] w fun e w' => e = .returned (.bool (isAbbrB s.toList)) ∧ w = w' := by
  have Q := Lib.hid (isAbbrB_eq s)
  unfold maxLen at hs
  by_cases h1 : s.size < 1
  · have R := Lib.hid (show isAbbrB s.toList = false by rw [Q.out, show decide (1 ≤ s.size) = false from decide_eq_false (by omega)]; rfl)
    have t1 : decide ((s.size : Int) < 1) = true := ltT (by omega)
    clear h
    go_enter Try.func10, Try.ntmps10
    go_wp2_with fail
    go_ret
    exact ⟨ret_bool R.out.symm, rfl⟩
  · have t1 : decide ((s.size : Int) < 1) = false := ltF (by omega)
    have R := Lib.hid (show isAbbrB s.toList = false by rw [Q.out, show decide (s.size ≤ 8) = false from decide_eq_false (by omega)]; simp)
    have t2 : decide (8 < (s.size : Int)) = true := ltT (by omega)
    clear h
    go_enter Try.func10, Try.ntmps10
    go_wp2_with fail
    go_ret
    exact ⟨ret_bool R.out.symm, rfl⟩

set_option maxHeartbeats 4000000 in
theorem pabbr_in (s : ByteArray) (w : World) (h1 : 1 ≤ s.size) (h2 : s.size ≤ 8) :
    Calls Try.prog 10 #[.string s] w fun e w' => e = .returned (.bool (isAbbrB s.toList)) ∧ w = w' := by
  have R := Lib.hid (show isAbbrB s.toList = lettersB s.toList [43, 45] s.size by
    rw [isAbbrB_eq s]
    have e1 : decide (1 ≤ s.size) = true := decide_eq_true (by omega)
    have e2 : decide (s.size ≤ 8) = true := decide_eq_true (by omega)
    rw [e1, e2]; simp)
  have t1 : decide ((s.size : Int) < 1) = false := ltF (by omega)
  have t2 : decide (8 < (s.size : Int)) = false := ltF (by omega)
  go_enter Try.func10, Try.ntmps10
  go_wp2_with fail
  go_loop [14] (fun i => ∃ k : Nat, k ≤ s.size ∧ i = .int .i64 k ∧ lettersB s.toList [43, 45] k = true) (fun i => s.size - (intOf i).toNat)
  case atStart => exact ⟨0, Nat.zero_le _, rfl, rfl⟩
  case round =>
    obtain ⟨k, hk, rfl, hlk⟩ := hrel
    have LK := Lib.hid hlk
    clear hlk
    by_cases hlt : k < s.size
    · have gS : ∀ w, (Instr.index 9 (.string s) (.int .i64 (k : Int))).run Try.prog w = .ok (.int .u8 (bt s.toList k)) w := fun w => idx s k (by omega) w
      have LS := Lib.hid (show lettersB s.toList [43, 45] (k + 1) = (lettersB s.toList [43, 45] k && (alnum (bt s.toList k) || inB [43, 45] (bt s.toList k) 2)) by rfl)
      have LN : Hid ((alnum (bt s.toList k) || inB [43, 45] (bt s.toList k) 2) = false → lettersB s.toList [43, 45] s.size = false) := fun h => lettersB_no h s.size hlt
      have cb := bt_bd s.toList k
      generalize bt s.toList k = c at gS LS LN cb
      obtain ⟨cb1, cb2⟩ := cb
      have KL0 := fun w => pletter_any c w cb1 cb2
      have KD0 := fun w => pdigit_any c w cb1 cb2
      have AE := Lib.hid (alnum_eq c)
      have IE := Lib.hid (inB2 c)
      generalize letB c = bl at KL0 AE
      generalize digB c = bd at KD0 AE
      have KL := Lib.hid KL0
      have KD := Lib.hid KD0
      clear KL0 KD0
      cases bl with
      | true =>
        have YES := Lib.hid (show (alnum c || inB [43, 45] c 2) = true by rw [AE.out, IE.out]; simp)
        clear AE IE LN
        go_wp2_with fail
        refine (KL.out w).mono ?_
        rintro e w2 ⟨rfl, rfl⟩
        go_wp2_with fail
        go_round
        case rel => exact ⟨k + 1, by omega, by go_num, by rw [LS.out, YES.out]; simp [LK.out]⟩
        case measure => simp [intOf]; omega
      | false =>
        cases bd with
        | true =>
          have YES := Lib.hid (show (alnum c || inB [43, 45] c 2) = true by rw [AE.out, IE.out]; simp)
          clear AE IE LN
          go_wp2_with fail
          refine (KL.out w).mono ?_
          rintro e w2 ⟨rfl, rfl⟩
          go_wp2_with fail
          refine (KD.out w).mono ?_
          rintro e w3 ⟨rfl, rfl⟩
          go_wp2_with fail
          go_round
          case rel => exact ⟨k + 1, by omega, by go_num, by rw [LS.out, YES.out]; simp [LK.out]⟩
          case measure => simp [intOf]; omega
        | false =>
          by_cases x43 : c = 43
          · have b43 : (c == 43) = true := beqT x43
            have d43 : (c != 43) = false := bneF x43
            have YES := Lib.hid (show (alnum c || inB [43, 45] c 2) = true by rw [AE.out, IE.out, b43]; simp)
            clear AE IE LN
            clear x43
            go_wp2_with fail
            refine (KL.out w).mono ?_
            rintro e w2 ⟨rfl, rfl⟩
            go_wp2_with fail
            refine (KD.out w).mono ?_
            rintro e w3 ⟨rfl, rfl⟩
            go_wp2_with fail
            go_round
            case rel => exact ⟨k + 1, by omega, by go_num, by rw [LS.out, YES.out]; simp [LK.out]⟩
            case measure => simp [intOf]; omega
          have b43 : (c == 43) = false := beqF x43
          have d43 : (c != 43) = true := bneT x43
          clear x43
          by_cases x45 : c = 45
          · have b45 : (c == 45) = true := beqT x45
            have d45 : (c != 45) = false := bneF x45
            have YES := Lib.hid (show (alnum c || inB [43, 45] c 2) = true by rw [AE.out, IE.out, b43, b45]; simp)
            clear AE IE LN
            clear x45
            go_wp2_with fail
            refine (KL.out w).mono ?_
            rintro e w2 ⟨rfl, rfl⟩
            go_wp2_with fail
            refine (KD.out w).mono ?_
            rintro e w3 ⟨rfl, rfl⟩
            go_wp2_with fail
            go_round
            case rel => exact ⟨k + 1, by omega, by go_num, by rw [LS.out, YES.out]; simp [LK.out]⟩
            case measure => simp [intOf]; omega
          have b45 : (c == 45) = false := beqF x45
          have d45 : (c != 45) = true := bneT x45
          clear x45
          have NO := Lib.hid (LN.out (show (alnum c || inB [43, 45] c 2) = false by rw [AE.out, IE.out, b43, b45]; rfl))
          clear AE IE LN LS
          go_wp2_with fail
          refine (KL.out w).mono ?_
          rintro e w2 ⟨rfl, rfl⟩
          go_wp2_with fail
          refine (KD.out w).mono ?_
          rintro e w3 ⟨rfl, rfl⟩
          go_wp2_with fail
          go_ret
          exact ⟨ret_bool (by rw [R.out, NO.out]), rfl⟩
    · obtain rfl : k = s.size := by omega
      go_wp2_with fail
      go_ret
      exact ⟨ret_bool (by rw [R.out, LK.out]), rfl⟩

theorem pabbr_any (s : ByteArray) (w : World) (hs : s.size ≤ maxLen) :
    Calls Try.prog 10 #[.string s] w fun e w' => e = .returned (.bool (isAbbrB s.toList)) ∧ w = w' := by
  by_cases h : s.size < 1 ∨ 8 < s.size
  · exact pabbr_out s w h hs
  · exact pabbr_in s w (by omega) (by omega)
end Go.Proofs.Ytkmgildnhnjepaa
namespace Go.Proofs.Ytkmgildnhnjepaa.Cal
set_option linter.unusedVariables false
set_option linter.unusedSimpArgs false
def leap (y : Int) : Bool := y % 4 == 0 && (y % 100 != 0 || y % 400 == 0)
def lp (y : Int) : Int := if leap y then 1 else 0
def tab : List Int := [31, 28, 31, 30, 31, 30, 31, 31, 30, 31, 30, 31]
def ml (y m : Int) : Int := if m = 2 then 28 + lp y else tab.getD (m - 1).toNat 0
end Go.Proofs.Ytkmgildnhnjepaa.Cal
namespace Go.Proofs.Ytkmgildnhnjepaa
set_option linter.unusedVariables false
set_option linter.unusedSimpArgs false
open Go.RowKit
def DayOk (k d n : Int) : Prop := (1 ≤ k ∧ k ≤ 4) ∧ (0 ≤ d ∧ d ≤ 6) ∧ (k = 1 → d = 0) ∧ (k = 2 → n = 0) ∧ (k ≠ 2 → 1 ≤ n ∧ n ≤ 31)
instance (k d n : Int) : Decidable (DayOk k d n) := by unfold DayOk; infer_instance
end Go.Proofs.Ytkmgildnhnjepaa
namespace Go.Proofs.Ytkmgildnhnjepaa
set_option linter.unusedVariables false
set_option linter.unusedSimpArgs false
open Go.RowKit
/-- its words can be read -/
def RuleSyn (nm lt : List UInt8) : Prop := isNameB nm = true ∧ (lt = [45] ∨ isAbbrB lt = true)
def RuleNum (fr tto mo : Int) : Prop := (1900 ≤ fr ∧ fr ≤ 2100) ∧ (1900 ≤ tto ∧ tto ≤ 2100) ∧ fr ≤ tto ∧ 1 ≤ mo ∧ mo ≤ 12
def RuleRest (mo n at' by' sv : Int) : Prop := n ≤ Cal.ml 1999 mo ∧ (-604800 ≤ at' ∧ at' ≤ 604800) ∧ (0 ≤ by' ∧ by' ≤ 2) ∧ 0 ≤ sv ∧ sv ≤ 10800
instance (nm lt : List UInt8) : Decidable (RuleSyn nm lt) := by unfold RuleSyn; infer_instance
instance (fr tto mo : Int) : Decidable (RuleNum fr tto mo) := by unfold RuleNum; infer_instance
instance (mo n at' by' sv : Int) : Decidable (RuleRest mo n at' by' sv) := by unfold RuleRest; infer_instance
/-- a rule lies in a block of its own -/
def RuleAt (w W : World) (b : Nat) (nm : ByteArray) (fr tto mo k d n at' by' sv : Int) (lt : ByteArray) : Prop :=
  W.cell? ⟨b, 0, none⟩ = some (.string nm) ∧ W.cell? ⟨b, 1, none⟩ = some (.int .i64 fr) ∧ W.cell? ⟨b, 2, none⟩ = some (.int .i64 tto) ∧ W.cell? ⟨b, 3, none⟩ = some (.int .i64 mo) ∧ W.cell? ⟨b, 4, none⟩ = some (.int .i64 k) ∧
  W.cell? ⟨b, 5, none⟩ = some (.int .i64 d) ∧ W.cell? ⟨b, 6, none⟩ = some (.int .i64 n) ∧ W.cell? ⟨b, 7, none⟩ = some (.int .i64 at') ∧ W.cell? ⟨b, 8, none⟩ = some (.int .i64 by') ∧ W.cell? ⟨b, 9, none⟩ = some (.int .i64 sv) ∧
  W.cell? ⟨b, 10, none⟩ = some (.string lt) ∧ Gr w W
theorem RuleAt.gr {w W W' : World} {b : Nat} {nm : ByteArray} {fr tto mo k d n at' by' sv : Int} {lt : ByteArray} (h : RuleAt w W b nm fr tto mo k d n at' by' sv lt) (g : Gr W W') : RuleAt w W' b nm fr tto mo k d n at' by' sv lt := by
  obtain ⟨h0, h1, h2, h3, h4, h5, h6, h7, h8, h9, h10, hg⟩ := h
  exact ⟨g.holds h0, g.holds h1, g.holds h2, g.holds h3, g.holds h4, g.holds h5, g.holds h6, g.holds h7, g.holds h8, g.holds h9, g.holds h10, hg.trans g⟩
theorem RuleAt.new (w : World) (T : TypeId) (nm : ByteArray) (fr tto mo k d n at' by' sv : Int) (lt : ByteArray) :
    RuleAt w (w.alloc (.cells #[.string nm, .int .i64 fr, .int .i64 tto, .int .i64 mo, .int .i64 k, .int .i64 d, .int .i64 n, .int .i64 at', .int .i64 by', .int .i64 sv, .string lt] T)) w.heap.size nm fr tto mo k d n at' by' sv lt := by
  refine ⟨?_, ?_, ?_, ?_, ?_, ?_, ?_, ?_, ?_, ?_, ?_, Gr.alloc _ _⟩ <;> (rw [World.cell?_alloc_new]; rfl)

set_option maxHeartbeats 400000 in
theorem routside (x lo hi : Int) (w : World) :
    Calls Try.prog 13 #[.int .i64 x, .int .i64 lo, .int .i64 hi] w fun e w' => e = .returned (.bool (decide (¬ (lo ≤ x ∧ x ≤ hi)))) ∧ w = w' := by
  by_cases h1 : x < lo
  · have E : Hid (decide (¬ (lo ≤ x ∧ x ≤ hi)) = true) := by unfold Hid; simp; omega
    generalize decide (¬ (lo ≤ x ∧ x ≤ hi)) = q at E ⊢
    go_enter Try.func13, Try.ntmps13
    go_wp2
    go_ret
    exact ⟨ret_bool E.out.symm, rfl⟩
  · have h1' := ltF h1
    by_cases h2 : hi < x
    · have E : Hid (decide (¬ (lo ≤ x ∧ x ≤ hi)) = true) := by unfold Hid; simp; omega
      generalize decide (¬ (lo ≤ x ∧ x ≤ hi)) = q at E ⊢
      go_enter Try.func13, Try.ntmps13
      go_wp2
      go_ret
      exact ⟨ret_bool E.out.symm, rfl⟩
    · have h2' := ltF h2
      have E : Hid (decide (¬ (lo ≤ x ∧ x ≤ hi)) = false) := by unfold Hid; simp; omega
      generalize decide (¬ (lo ≤ x ∧ x ≤ hi)) = q at E ⊢
      go_enter Try.func13, Try.ntmps13
      go_wp2
      go_ret
      exact ⟨ret_bool E.out.symm, rfl⟩
theorem routside_in {x lo hi : Int} (h : lo ≤ x ∧ x ≤ hi) (w : World) : Calls Try.prog 13 #[.int .i64 x, .int .i64 lo, .int .i64 hi] w fun e w' => e = .returned (.bool false) ∧ w = w' := by
  have := routside x lo hi w
  rw [show decide (¬ (lo ≤ x ∧ x ≤ hi)) = false by simp; omega] at this
  exact this
theorem routside_out {x lo hi : Int} (h : ¬ (lo ≤ x ∧ x ≤ hi)) (w : World) : Calls Try.prog 13 #[.int .i64 x, .int .i64 lo, .int .i64 hi] w fun e w' => e = .returned (.bool true) ∧ w = w' := by
  have := routside x lo hi w
  rw [show decide (¬ (lo ≤ x ∧ x ≤ hi)) = true by simp; omega] at this
  exact this
end Go.Proofs.Ytkmgildnhnjepaa
namespace Go.Proofs.Ytkmgildnhnjepaa
set_option linter.unusedVariables false
set_option linter.unusedSimpArgs false
open Go.RowKit
/-- the first day from one on that is a given weekday -/
def nd (a d : Int) : Int := a + (d - (a + 135146)) % 7
end Go.Proofs.Ytkmgildnhnjepaa
namespace Go.Proofs.Ytkmgildnhnjepaa
set_option linter.unusedVariables false
set_option linter.unusedSimpArgs false
theorem abbr_len1 {l : List UInt8} (h : isAbbrB l = true) : 1 ≤ l.length ∧ l.length ≤ 8 := by
  unfold isAbbrB at h
  simp only [Bool.and_eq_true, decide_eq_true_eq] at h
  exact h.1
end Go.Proofs.Ytkmgildnhnjepaa
namespace Go.Proofs.Ytkmgildnhnjepaa
set_option linter.unusedVariables false
set_option linter.unusedSimpArgs false
open Go.RowKit
/-- a rule -/
structure RuD where
  nm : ByteArray
  fr : Int
  tt : Int
  mo : Int
  k : Int
  d : Int
  n : Int
  at' : Int
  by' : Int
  sv : Int
  lt : ByteArray
/-- an era -/
structure EraD where
  off : Int
  ru : ByteArray
  sv : Int
  fm : ByteArray
  un : Int
/-- a zone, and where its eras lie -/
structure ZonD where
  nm : ByteArray
  A : Option Addr
  c : Nat
  eras : List EraD
/-- a link -/
structure LinD where
  nm : ByteArray
  to' : ByteArray
instance : Inhabited RuD := ⟨⟨.empty, 0, 0, 0, 0, 0, 0, 0, 0, 0, .empty⟩⟩
instance : Inhabited EraD := ⟨⟨0, .empty, 0, .empty, 0⟩⟩
instance : Inhabited ZonD := ⟨⟨.empty, none, 0, []⟩⟩
instance : Inhabited LinD := ⟨⟨.empty, .empty⟩⟩
def RuD.cells (r : RuD) : List Value := [.string r.nm, .int .i64 r.fr, .int .i64 r.tt, .int .i64 r.mo, .int .i64 r.k, .int .i64 r.d, .int .i64 r.n, .int .i64 r.at', .int .i64 r.by', .int .i64 r.sv, .string r.lt]
def EraD.cells (e : EraD) : List Value := [.int .i64 e.off, .string e.ru, .int .i64 e.sv, .string e.fm, .int .i64 e.un]
def ZonD.cells (z : ZonD) : List Value := [.string z.nm, .slice z.A z.eras.length z.c]
def LinD.cells (l : LinD) : List Value := [.string l.nm, .string l.to']
/-- the slice at A holds the things of l, each in k cells -/
def Row {α : Type} (w : World) (k : Nat) (e : α → List Value) (A : Option Addr) (l : List α) : Prop :=
  ∀ i x, l[i]? = some x → ∃ b off, A = some ⟨b, off, none⟩ ∧ b < w.heap.size ∧ ∀ j v, (e x)[j]? = some v → w.cell? ⟨b, off + i * k + j, none⟩ = some v
theorem Row.gr {α : Type} {w w' : World} {k : Nat} {e : α → List Value} {A : Option Addr} {l : List α} (h : Row w k e A l) (g : Gr w w') : Row w' k e A l := fun i x hx => by
  obtain ⟨b, off, rfl, hb, hc⟩ := h i x hx
  exact ⟨b, off, rfl, Nat.lt_of_lt_of_le hb g.size, fun j v hv => g.holds (hc j v hv)⟩
theorem Row.nil {α : Type} (w : World) (k : Nat) (e : α → List Value) (A : Option Addr) : Row w k e A ([] : List α) := fun i x hx => by simp at hx
theorem Row.take {α : Type} {w : World} {k : Nat} {e : α → List Value} {A : Option Addr} {l : List α} (h : Row w k e A l) (n : Nat) : Row w k e A (l.take n) := fun i x hx => by
  rw [List.getElem?_take] at hx
  split at hx
  · exact h i x hx
  · cases hx
/-- a slice and its bounds -/
def SlOk (n c : Nat) : Prop := n ≤ c ∧ c ≤ maxLen
/-- what is known of texts that came in -/
def RuD.In (r : RuD) : Prop := r.nm.size ≤ maxLen ∧ r.lt.size ≤ maxLen
def EraD.In (e : EraD) : Prop := e.ru.size ≤ maxLen ∧ e.fm.size ≤ maxLen ∧ (-9223372036854775808 ≤ e.un ∧ e.un ≤ 9223372036854775807)
def LinD.In (l : LinD) : Prop := l.nm.size ≤ maxLen ∧ l.to'.size ≤ maxLen
/-- the eras of a zone lie where it says -/
def ZonD.At (w : World) (z : ZonD) : Prop := z.nm.size ≤ maxLen ∧ SlOk z.eras.length z.c ∧ Row w 5 EraD.cells z.A z.eras ∧ ∀ e ∈ z.eras, e.In
theorem ZonD.At.gr {w w' : World} {z : ZonD} (h : z.At w) (g : Gr w w') : z.At w' := ⟨h.1, h.2.1, h.2.2.1.gr g, h.2.2.2⟩
/-- a book and where its parts lie -/
structure BokD where
  Ar : Option Addr
  cr : Nat
  rs : List RuD
  Az : Option Addr
  cz : Nat
  zs : List ZonD
  Al : Option Addr
  cl : Nat
  ls : List LinD
abbrev BokD.v0 (b : BokD) : Value := .slice b.Ar b.rs.length b.cr
abbrev BokD.v1 (b : BokD) : Value := .slice b.Az b.zs.length b.cz
abbrev BokD.v2 (b : BokD) : Value := .slice b.Al b.ls.length b.cl
def RusAt (w : World) (A : Option Addr) (c : Nat) (l : List RuD) : Prop := SlOk l.length c ∧ Row w 11 RuD.cells A l ∧ ∀ r ∈ l, r.In
def ZosAt (w : World) (A : Option Addr) (c : Nat) (l : List ZonD) : Prop := SlOk l.length c ∧ Row w 2 ZonD.cells A l ∧ ∀ z ∈ l, z.At w
def LisAt (w : World) (A : Option Addr) (c : Nat) (l : List LinD) : Prop := SlOk l.length c ∧ Row w 2 LinD.cells A l ∧ ∀ x ∈ l, x.In
def BokD.At (w : World) (b : BokD) : Prop := RusAt w b.Ar b.cr b.rs ∧ ZosAt w b.Az b.cz b.zs ∧ LisAt w b.Al b.cl b.ls
theorem RusAt.gr {w w' : World} {A : Option Addr} {c : Nat} {l : List RuD} (h : RusAt w A c l) (g : Gr w w') : RusAt w' A c l := ⟨h.1, h.2.1.gr g, h.2.2⟩
theorem ZosAt.gr {w w' : World} {A : Option Addr} {c : Nat} {l : List ZonD} (h : ZosAt w A c l) (g : Gr w w') : ZosAt w' A c l := ⟨h.1, h.2.1.gr g, fun z hz => (h.2.2 z hz).gr g⟩
theorem LisAt.gr {w w' : World} {A : Option Addr} {c : Nat} {l : List LinD} (h : LisAt w A c l) (g : Gr w w') : LisAt w' A c l := ⟨h.1, h.2.1.gr g, h.2.2⟩
theorem BokD.At.gr {w w' : World} {b : BokD} (h : b.At w) (g : Gr w w') : b.At w' := ⟨h.1.gr g, h.2.1.gr g, h.2.2.gr g⟩
theorem get_mem {α : Type} {l : List α} {i : Nat} {x : α} (h : l[i]? = some x) : x ∈ l := List.mem_of_getElem? h
theorem get_lt {α : Type} {l : List α} {i : Nat} (h : i < l.length) : ∃ x, l[i]? = some x := ⟨l[i], List.getElem?_eq_getElem h⟩

/-- the first error of n tests -/
def fe (f : Nat → Int) : Nat → Int
  | 0 => 0
  | n + 1 => if fe f n = 0 then f n else fe f n
theorem fe_hit {f : Nat → Int} {k : Nat} (h : fe f k = 0) (hk : f k ≠ 0) : ∀ n, k < n → fe f n = f k
  | 0, h0 => by omega
  | n + 1, h0 => by
    unfold fe
    by_cases e : k = n
    · subst e; rw [if_pos h]
    · have := fe_hit h hk n (by omega)
      rw [this, if_neg hk]
theorem fe_step {f : Nat → Int} {k : Nat} (h : fe f k = 0) (hk : f k = 0) : fe f (k + 1) = 0 := by unfold fe; rw [if_pos h, hk]
theorem fe_zero {f : Nat → Int} : ∀ n, fe f n = 0 ↔ ∀ i, i < n → f i = 0
  | 0 => ⟨fun _ i hi => by omega, fun _ => rfl⟩
  | n + 1 => by
    unfold fe
    by_cases e : fe f n = 0
    · rw [if_pos e]
      have := (fe_zero n).1 e
      constructor
      · intro h i hi
        by_cases q : i = n
        · rw [q]; exact h
        · exact this i (by omega)
      · intro h; exact h n (by omega)
    · rw [if_neg e]
      constructor
      · intro h; exact absurd h e
      · intro h; exact (fe_zero n).2 (fun i hi => h i (by omega))
end Go.Proofs.Ytkmgildnhnjepaa
