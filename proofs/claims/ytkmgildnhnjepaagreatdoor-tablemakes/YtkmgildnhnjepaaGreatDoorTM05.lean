/- What the project's functions on names return: isLetter, isDigit, IsName, IsAbbr of package rule. -/
import Derived.Test.YtkmgildnhnjepaaGreatDoorTM04
namespace Go.Proofs.YtkmgildnhnjepaaGreatDoor
set_option linter.unusedVariables false
set_option linter.unusedSimpArgs false
open Go.RowKit
/-- a letter; a digit -/
def letB (c : Int) : Bool := (decide (97 ≤ c) && decide (c ≤ 122)) || (decide (65 ≤ c) && decide (c ≤ 90))
def digB (c : Int) : Bool := decide (48 ≤ c) && decide (c ≤ 57)
theorem alnum_eq (c : Int) : alnum c = (letB c || digB c) := by
  unfold alnum letB digB
  rw [Bool.eq_iff_iff]; simp; omega
theorem inB3 (c : Int) : inB [95, 47, 45] c 3 = ((c == 95) || (c == 47) || (c == 45)) := by simp [inB, bt]
theorem inB2 (c : Int) : inB [43, 45] c 2 = ((c == 43) || (c == 45)) := by simp [inB, bt]
theorem name_first (l : List UInt8) : (alnum (bt l 0) && (decide (bt l 0 < 48) || decide (57 < bt l 0))) = letB (bt l 0) := by
  unfold alnum letB
  rw [Bool.eq_iff_iff]; simp; omega
theorem pname_eq (s : ByteArray) : isNameB s.toList = (decide (1 ≤ s.size) && decide (s.size ≤ 20) && lettersB s.toList [95, 47, 45] s.size && letB (bt s.toList 0)) := by
  rw [isNameB_eq, Bool.and_assoc _ (alnum _), name_first]

set_option maxHeartbeats 400000 in
theorem pletter_any (c : Int) (w : World) (h1 : 0 ≤ c) (h2 : c ≤ 255) :
    Calls Tryz.prog 62 #[.int .u8 c] w fun e w' => e = .returned (.bool (letB c)) ∧ w = w' := by
  have hc : (0 ≤ c ∧ c ≤ 64) ∨ (65 ≤ c ∧ c ≤ 90) ∨ (91 ≤ c ∧ c ≤ 96) ∨ (97 ≤ c ∧ c ≤ 122) ∨ (123 ≤ c ∧ c ≤ 255) := by omega
  rcases hc with ⟨g1, g2⟩ | ⟨g1, g2⟩ | ⟨g1, g2⟩ | ⟨g1, g2⟩ | ⟨g1, g2⟩
  · have f97 : decide (97 ≤ c) = false := by simp; omega
    have f122 : decide (c ≤ 122) = true := by simp; omega
    have f65 : decide (65 ≤ c) = false := by simp; omega
    have f90 : decide (c ≤ 90) = true := by simp; omega
    have E := Lib.hid (show letB c = false by simp only [letB, f97, f122, f65, f90]; rfl)
    go_enter Tryz.func62, Tryz.ntmps62
    go_wp2
    go_ret
    exact ⟨ret_bool E.out.symm, rfl⟩
  · have f97 : decide (97 ≤ c) = false := by simp; omega
    have f122 : decide (c ≤ 122) = true := by simp; omega
    have f65 : decide (65 ≤ c) = true := by simp; omega
    have f90 : decide (c ≤ 90) = true := by simp; omega
    have E := Lib.hid (show letB c = true by simp only [letB, f97, f122, f65, f90]; rfl)
    go_enter Tryz.func62, Tryz.ntmps62
    go_wp2
    go_ret
    exact ⟨ret_bool E.out.symm, rfl⟩
  · have f97 : decide (97 ≤ c) = false := by simp; omega
    have f122 : decide (c ≤ 122) = true := by simp; omega
    have f65 : decide (65 ≤ c) = true := by simp; omega
    have f90 : decide (c ≤ 90) = false := by simp; omega
    have E := Lib.hid (show letB c = false by simp only [letB, f97, f122, f65, f90]; rfl)
    go_enter Tryz.func62, Tryz.ntmps62
    go_wp2
    go_ret
    exact ⟨ret_bool E.out.symm, rfl⟩
  · have f97 : decide (97 ≤ c) = true := by simp; omega
    have f122 : decide (c ≤ 122) = true := by simp; omega
    have f65 : decide (65 ≤ c) = true := by simp; omega
    have f90 : decide (c ≤ 90) = false := by simp; omega
    have E := Lib.hid (show letB c = true by simp only [letB, f97, f122, f65, f90]; rfl)
    go_enter Tryz.func62, Tryz.ntmps62
    go_wp2
    go_ret
    exact ⟨ret_bool E.out.symm, rfl⟩
  · have f97 : decide (97 ≤ c) = true := by simp; omega
    have f122 : decide (c ≤ 122) = false := by simp; omega
    have f65 : decide (65 ≤ c) = true := by simp; omega
    have f90 : decide (c ≤ 90) = false := by simp; omega
    have E := Lib.hid (show letB c = false by simp only [letB, f97, f122, f65, f90]; rfl)
    go_enter Tryz.func62, Tryz.ntmps62
    go_wp2
    go_ret
    exact ⟨ret_bool E.out.symm, rfl⟩

set_option maxHeartbeats 400000 in
theorem pdigit_any (c : Int) (w : World) (h1 : 0 ≤ c) (h2 : c ≤ 255) :
    Calls Tryz.prog 63 #[.int .u8 c] w fun e w' => e = .returned (.bool (digB c)) ∧ w = w' := by
  have hc : (0 ≤ c ∧ c ≤ 47) ∨ (48 ≤ c ∧ c ≤ 57) ∨ (58 ≤ c ∧ c ≤ 255) := by omega
  rcases hc with ⟨g1, g2⟩ | ⟨g1, g2⟩ | ⟨g1, g2⟩
  · have f48 : decide (48 ≤ c) = false := by simp; omega
    have f57 : decide (c ≤ 57) = true := by simp; omega
    have E := Lib.hid (show digB c = false by simp only [digB, f48, f57]; rfl)
    go_enter Tryz.func63, Tryz.ntmps63
    go_wp2
    go_ret
    exact ⟨ret_bool E.out.symm, rfl⟩
  · have f48 : decide (48 ≤ c) = true := by simp; omega
    have f57 : decide (c ≤ 57) = true := by simp; omega
    have E := Lib.hid (show digB c = true by simp only [digB, f48, f57]; rfl)
    go_enter Tryz.func63, Tryz.ntmps63
    go_wp2
    go_ret
    exact ⟨ret_bool E.out.symm, rfl⟩
  · have f48 : decide (48 ≤ c) = true := by simp; omega
    have f57 : decide (c ≤ 57) = false := by simp; omega
    have E := Lib.hid (show digB c = false by simp only [digB, f48, f57]; rfl)
    go_enter Tryz.func63, Tryz.ntmps63
    go_wp2
    go_ret
    exact ⟨ret_bool E.out.symm, rfl⟩

set_option maxHeartbeats 1000000 in
theorem pname_out (s : ByteArray) (w : World) (h : s.size < 1 ∨ 20 < s.size) (hs : s.size ≤ maxLen) :
    Calls Tryz.prog 100 #[.string s] w fun e w' => e = .returned (.bool (isNameB s.toList)) ∧ w = w' := by
  have Q := Lib.hid (pname_eq s)
  unfold maxLen at hs
  by_cases h1 : s.size < 1
  · have R := Lib.hid (show isNameB s.toList = false by rw [Q.out, show decide (1 ≤ s.size) = false from decide_eq_false (by omega)]; rfl)
    have t1 : decide ((s.size : Int) < 1) = true := ltT (by omega)
    clear h
    go_enter Tryz.func100, Tryz.ntmps100
    go_wp2_with fail
    go_ret
    exact ⟨ret_bool R.out.symm, rfl⟩
  · have t1 : decide ((s.size : Int) < 1) = false := ltF (by omega)
    have R := Lib.hid (show isNameB s.toList = false by rw [Q.out, show decide (s.size ≤ 20) = false from decide_eq_false (by omega)]; simp)
    have t2 : decide (20 < (s.size : Int)) = true := ltT (by omega)
    clear h
    go_enter Tryz.func100, Tryz.ntmps100
    go_wp2_with fail
    go_ret
    exact ⟨ret_bool R.out.symm, rfl⟩

set_option maxHeartbeats 1000000 in
theorem pname_first (s : ByteArray) (w : World) (h1 : 1 ≤ s.size) (h2 : s.size ≤ 20) (hf : letB (bt s.toList 0) = false) :
    Calls Tryz.prog 100 #[.string s] w fun e w' => e = .returned (.bool (isNameB s.toList)) ∧ w = w' := by
  have R := Lib.hid (show isNameB s.toList = false by rw [pname_eq s, hf]; simp)
  have t1 : decide ((s.size : Int) < 1) = false := ltF (by omega)
  have t2 : decide (20 < (s.size : Int)) = false := ltF (by omega)
  have gI : ∀ w, (Instr.index 9 (.string s) (.int .i64 0)).run Tryz.prog w = .ok (.int .u8 (bt s.toList 0)) w := fun w => idx s 0 (by omega) w
  have K0 := fun w => pletter_any (bt s.toList 0) w (bt_bd _ _).1 (bt_bd _ _).2
  rw [hf] at K0
  have K := Lib.hid K0
  clear K0 hf
  generalize bt s.toList 0 = x at gI K
  go_enter Tryz.func100, Tryz.ntmps100
  go_wp2_with fail
  refine (K.out w).mono ?_
  rintro e w1 ⟨rfl, rfl⟩
  go_wp2_with fail
  go_ret
  exact ⟨ret_bool R.out.symm, rfl⟩

set_option maxHeartbeats 4000000 in
theorem pname_in (s : ByteArray) (w : World) (h1 : 1 ≤ s.size) (h2 : s.size ≤ 20) (hf : letB (bt s.toList 0) = true) :
    Calls Tryz.prog 100 #[.string s] w fun e w' => e = .returned (.bool (isNameB s.toList)) ∧ w = w' := by
  have R := Lib.hid (show isNameB s.toList = lettersB s.toList [95, 47, 45] s.size by
    rw [pname_eq s, hf]
    have e1 : decide (1 ≤ s.size) = true := decide_eq_true (by omega)
    have e2 : decide (s.size ≤ 20) = true := decide_eq_true (by omega)
    rw [e1, e2]; simp)
  have t1 : decide ((s.size : Int) < 1) = false := ltF (by omega)
  have t2 : decide (20 < (s.size : Int)) = false := ltF (by omega)
  have gI : ∀ w, (Instr.index 9 (.string s) (.int .i64 0)).run Tryz.prog w = .ok (.int .u8 (bt s.toList 0)) w := fun w => idx s 0 (by omega) w
  have K0 := fun w => pletter_any (bt s.toList 0) w (bt_bd _ _).1 (bt_bd _ _).2
  rw [hf] at K0
  have K := Lib.hid K0
  clear K0 hf
  generalize bt s.toList 0 = x at gI K
  go_enter Tryz.func100, Tryz.ntmps100
  go_wp2_with fail
  refine (K.out w).mono ?_
  rintro e w1 ⟨rfl, rfl⟩
  clear K gI
  go_wp2_with fail
  go_loop [20] (fun i => ∃ k : Nat, k ≤ s.size ∧ i = .int .i64 k ∧ lettersB s.toList [95, 47, 45] k = true) (fun i => s.size - (intOf i).toNat)
  case atStart => exact ⟨0, Nat.zero_le _, rfl, rfl⟩
  case round =>
    obtain ⟨k, hk, rfl, hlk⟩ := hrel
    have LK := Lib.hid hlk
    clear hlk
    by_cases hlt : k < s.size
    · have gS : ∀ w, (Instr.index 9 (.string s) (.int .i64 (k : Int))).run Tryz.prog w = .ok (.int .u8 (bt s.toList k)) w := fun w => idx s k (by omega) w
      have LS := Lib.hid (show lettersB s.toList [95, 47, 45] (k + 1) = (lettersB s.toList [95, 47, 45] k && (alnum (bt s.toList k) || inB [95, 47, 45] (bt s.toList k) 3)) by rfl)
      have LN : Hid ((alnum (bt s.toList k) || inB [95, 47, 45] (bt s.toList k) 3) = false → lettersB s.toList [95, 47, 45] s.size = false) := fun h => lettersB_no h s.size hlt
      have cb := bt_bd s.toList k
      generalize bt s.toList k = c at gS LS LN cb
      obtain ⟨cb1, cb2⟩ := cb
      have KL0 := fun w => pletter_any c w cb1 cb2
      have KD0 := fun w => pdigit_any c w cb1 cb2
      have AE := Lib.hid (alnum_eq c)
      have IE := Lib.hid (inB3 c)
      generalize letB c = bl at KL0 AE
      generalize digB c = bd at KD0 AE
      have KL := Lib.hid KL0
      have KD := Lib.hid KD0
      clear KL0 KD0
      cases bl with
      | true =>
        have YES := Lib.hid (show (alnum c || inB [95, 47, 45] c 3) = true by rw [AE.out, IE.out]; simp)
        clear AE IE LN
        go_wp2_with fail
        refine (KL.out w).mono ?_
        rintro e w2 ⟨rfl, rfl⟩
        go_wp2_with fail
        go_round
        case rel => exact ⟨k + 1, by omega, by go_num, by rw [LS.out, YES.out]; simp [LK.out]⟩
        case measure => simp [intOf]; omega
      | false =>
        cases bd with
        | true =>
          have YES := Lib.hid (show (alnum c || inB [95, 47, 45] c 3) = true by rw [AE.out, IE.out]; simp)
          clear AE IE LN
          go_wp2_with fail
          refine (KL.out w).mono ?_
          rintro e w2 ⟨rfl, rfl⟩
          go_wp2_with fail
          refine (KD.out w).mono ?_
          rintro e w3 ⟨rfl, rfl⟩
          go_wp2_with fail
          go_round
          case rel => exact ⟨k + 1, by omega, by go_num, by rw [LS.out, YES.out]; simp [LK.out]⟩
          case measure => simp [intOf]; omega
        | false =>
          by_cases x95 : c = 95
          · have b95 : (c == 95) = true := beqT x95
            have d95 : (c != 95) = false := bneF x95
            have YES := Lib.hid (show (alnum c || inB [95, 47, 45] c 3) = true by rw [AE.out, IE.out, b95]; simp)
            clear AE IE LN
            clear x95
            go_wp2_with fail
            refine (KL.out w).mono ?_
            rintro e w2 ⟨rfl, rfl⟩
            go_wp2_with fail
            refine (KD.out w).mono ?_
            rintro e w3 ⟨rfl, rfl⟩
            go_wp2_with fail
            go_round
            case rel => exact ⟨k + 1, by omega, by go_num, by rw [LS.out, YES.out]; simp [LK.out]⟩
            case measure => simp [intOf]; omega
          have b95 : (c == 95) = false := beqF x95
          have d95 : (c != 95) = true := bneT x95
          clear x95
          by_cases x47 : c = 47
          · have b47 : (c == 47) = true := beqT x47
            have d47 : (c != 47) = false := bneF x47
            have YES := Lib.hid (show (alnum c || inB [95, 47, 45] c 3) = true by rw [AE.out, IE.out, b95, b47]; simp)
            clear AE IE LN
            clear x47
            go_wp2_with fail
            refine (KL.out w).mono ?_
            rintro e w2 ⟨rfl, rfl⟩
            go_wp2_with fail
            refine (KD.out w).mono ?_
            rintro e w3 ⟨rfl, rfl⟩
            go_wp2_with fail
            go_round
            case rel => exact ⟨k + 1, by omega, by go_num, by rw [LS.out, YES.out]; simp [LK.out]⟩
            case measure => simp [intOf]; omega
          have b47 : (c == 47) = false := beqF x47
          have d47 : (c != 47) = true := bneT x47
          clear x47
          by_cases x45 : c = 45
          · have b45 : (c == 45) = true := beqT x45
            have d45 : (c != 45) = false := bneF x45
            have YES := Lib.hid (show (alnum c || inB [95, 47, 45] c 3) = true by rw [AE.out, IE.out, b95, b47, b45]; simp)
            clear AE IE LN
            clear x45
            go_wp2_with fail
            refine (KL.out w).mono ?_
            rintro e w2 ⟨rfl, rfl⟩
            go_wp2_with fail
            refine (KD.out w).mono ?_
            rintro e w3 ⟨rfl, rfl⟩
            go_wp2_with fail
            go_round
            case rel => exact ⟨k + 1, by omega, by go_num, by rw [LS.out, YES.out]; simp [LK.out]⟩
            case measure => simp [intOf]; omega
          have b45 : (c == 45) = false := beqF x45
          have d45 : (c != 45) = true := bneT x45
          clear x45
          have NO := Lib.hid (LN.out (show (alnum c || inB [95, 47, 45] c 3) = false by rw [AE.out, IE.out, b95, b47, b45]; rfl))
          clear AE IE LN LS
          go_wp2_with fail
          refine (KL.out w).mono ?_
          rintro e w2 ⟨rfl, rfl⟩
          go_wp2_with fail
          refine (KD.out w).mono ?_
          rintro e w3 ⟨rfl, rfl⟩
          go_wp2_with fail
          go_ret
          exact ⟨ret_bool (by rw [R.out, NO.out]), rfl⟩
    · obtain rfl : k = s.size := by omega
      go_wp2_with fail
      go_ret
      exact ⟨ret_bool (by rw [R.out, LK.out]), rfl⟩

theorem pname_any (s : ByteArray) (w : World) (hs : s.size ≤ maxLen) :
    Calls Tryz.prog 100 #[.string s] w fun e w' => e = .returned (.bool (isNameB s.toList)) ∧ w = w' := by
  by_cases h : s.size < 1 ∨ 20 < s.size
  · exact pname_out s w h hs
  · by_cases hf : letB (bt s.toList 0) = true
    · exact pname_in s w (by omega) (by omega) hf
    · exact pname_first s w (by omega) (by omega) (by simpa using hf)

set_option maxHeartbeats 1000000 in
theorem pabbr_out (s : ByteArray) (w : World) (h : s.size < 1 ∨ 8 < s.size) (hs : s.size ≤ maxLen) :
    Calls Tryz.prog 32 #[.string s] w fun e w' => e = .returned (.bool (isAbbrB s.toList)) ∧ w = w' := by
  have Q := Lib.hid (isAbbrB_eq s)
  unfold maxLen at hs
  by_cases h1 : s.size < 1
  · have R := Lib.hid (show isAbbrB s.toList = false by rw [Q.out, show decide (1 ≤ s.size) = false from decide_eq_false (by omega)]; rfl)
    have t1 : decide ((s.size : Int) < 1) = true := ltT (by omega)
    clear h
    go_enter Tryz.func32, Tryz.ntmps32
    go_wp2_with fail
    go_ret
    exact ⟨ret_bool R.out.symm, rfl⟩
  · have t1 : decide ((s.size : Int) < 1) = false := ltF (by omega)
    have R := Lib.hid (show isAbbrB s.toList = false by rw [Q.out, show decide (s.size ≤ 8) = false from decide_eq_false (by omega)]; simp)
    have t2 : decide (8 < (s.size : Int)) = true := ltT (by omega)
    clear h
    go_enter Tryz.func32, Tryz.ntmps32
    go_wp2_with fail
    go_ret
    exact ⟨ret_bool R.out.symm, rfl⟩

set_option maxHeartbeats 4000000 in
theorem pabbr_in (s : ByteArray) (w : World) (h1 : 1 ≤ s.size) (h2 : s.size ≤ 8) :
    Calls Tryz.prog 32 #[.string s] w fun e w' => e = .returned (.bool (isAbbrB s.toList)) ∧ w = w' := by
  have R := Lib.hid (show isAbbrB s.toList = lettersB s.toList [43, 45] s.size by
    rw [isAbbrB_eq s]
    have e1 : decide (1 ≤ s.size) = true := decide_eq_true (by omega)
    have e2 : decide (s.size ≤ 8) = true := decide_eq_true (by omega)
    rw [e1, e2]; simp)
  have t1 : decide ((s.size : Int) < 1) = false := ltF (by omega)
  have t2 : decide (8 < (s.size : Int)) = false := ltF (by omega)
  go_enter Tryz.func32, Tryz.ntmps32
  go_wp2_with fail
  go_loop [14] (fun i => ∃ k : Nat, k ≤ s.size ∧ i = .int .i64 k ∧ lettersB s.toList [43, 45] k = true) (fun i => s.size - (intOf i).toNat)
  case atStart => exact ⟨0, Nat.zero_le _, rfl, rfl⟩
  case round =>
    obtain ⟨k, hk, rfl, hlk⟩ := hrel
    have LK := Lib.hid hlk
    clear hlk
    by_cases hlt : k < s.size
    · have gS : ∀ w, (Instr.index 9 (.string s) (.int .i64 (k : Int))).run Tryz.prog w = .ok (.int .u8 (bt s.toList k)) w := fun w => idx s k (by omega) w
      have LS := Lib.hid (show lettersB s.toList [43, 45] (k + 1) = (lettersB s.toList [43, 45] k && (alnum (bt s.toList k) || inB [43, 45] (bt s.toList k) 2)) by rfl)
      have LN : Hid ((alnum (bt s.toList k) || inB [43, 45] (bt s.toList k) 2) = false → lettersB s.toList [43, 45] s.size = false) := fun h => lettersB_no h s.size hlt
      have cb := bt_bd s.toList k
      generalize bt s.toList k = c at gS LS LN cb
      obtain ⟨cb1, cb2⟩ := cb
      have KL0 := fun w => pletter_any c w cb1 cb2
      have KD0 := fun w => pdigit_any c w cb1 cb2
      have AE := Lib.hid (alnum_eq c)
      have IE := Lib.hid (inB2 c)
      generalize letB c = bl at KL0 AE
      generalize digB c = bd at KD0 AE
      have KL := Lib.hid KL0
      have KD := Lib.hid KD0
      clear KL0 KD0
      cases bl with
      | true =>
        have YES := Lib.hid (show (alnum c || inB [43, 45] c 2) = true by rw [AE.out, IE.out]; simp)
        clear AE IE LN
        go_wp2_with fail
        refine (KL.out w).mono ?_
        rintro e w2 ⟨rfl, rfl⟩
        go_wp2_with fail
        go_round
        case rel => exact ⟨k + 1, by omega, by go_num, by rw [LS.out, YES.out]; simp [LK.out]⟩
        case measure => simp [intOf]; omega
      | false =>
        cases bd with
        | true =>
          have YES := Lib.hid (show (alnum c || inB [43, 45] c 2) = true by rw [AE.out, IE.out]; simp)
          clear AE IE LN
          go_wp2_with fail
          refine (KL.out w).mono ?_
          rintro e w2 ⟨rfl, rfl⟩
          go_wp2_with fail
          refine (KD.out w).mono ?_
          rintro e w3 ⟨rfl, rfl⟩
          go_wp2_with fail
          go_round
          case rel => exact ⟨k + 1, by omega, by go_num, by rw [LS.out, YES.out]; simp [LK.out]⟩
          case measure => simp [intOf]; omega
        | false =>
          by_cases x43 : c = 43
          · have b43 : (c == 43) = true := beqT x43
            have d43 : (c != 43) = false := bneF x43
            have YES := Lib.hid (show (alnum c || inB [43, 45] c 2) = true by rw [AE.out, IE.out, b43]; simp)
            clear AE IE LN
            clear x43
            go_wp2_with fail
            refine (KL.out w).mono ?_
            rintro e w2 ⟨rfl, rfl⟩
            go_wp2_with fail
            refine (KD.out w).mono ?_
            rintro e w3 ⟨rfl, rfl⟩
            go_wp2_with fail
            go_round
            case rel => exact ⟨k + 1, by omega, by go_num, by rw [LS.out, YES.out]; simp [LK.out]⟩
            case measure => simp [intOf]; omega
          have b43 : (c == 43) = false := beqF x43
          have d43 : (c != 43) = true := bneT x43
          clear x43
          by_cases x45 : c = 45
          · have b45 : (c == 45) = true := beqT x45
            have d45 : (c != 45) = false := bneF x45
            have YES := Lib.hid (show (alnum c || inB [43, 45] c 2) = true by rw [AE.out, IE.out, b43, b45]; simp)
            clear AE IE LN
            clear x45
            go_wp2_with fail
            refine (KL.out w).mono ?_
            rintro e w2 ⟨rfl, rfl⟩
            go_wp2_with fail
            refine (KD.out w).mono ?_
            rintro e w3 ⟨rfl, rfl⟩
            go_wp2_with fail
            go_round
            case rel => exact ⟨k + 1, by omega, by go_num, by rw [LS.out, YES.out]; simp [LK.out]⟩
            case measure => simp [intOf]; omega
          have b45 : (c == 45) = false := beqF x45
          have d45 : (c != 45) = true := bneT x45
          clear x45
          have NO := Lib.hid (LN.out (show (alnum c || inB [43, 45] c 2) = false by rw [AE.out, IE.out, b43, b45]; rfl))
          clear AE IE LN LS
          go_wp2_with fail
          refine (KL.out w).mono ?_
          rintro e w2 ⟨rfl, rfl⟩
          go_wp2_with fail
          refine (KD.out w).mono ?_
          rintro e w3 ⟨rfl, rfl⟩
          go_wp2_with fail
          go_ret
          exact ⟨ret_bool (by rw [R.out, NO.out]), rfl⟩
    · obtain rfl : k = s.size := by omega
      go_wp2_with fail
      go_ret
      exact ⟨ret_bool (by rw [R.out, LK.out]), rfl⟩

theorem pabbr_any (s : ByteArray) (w : World) (hs : s.size ≤ maxLen) :
    Calls Tryz.prog 32 #[.string s] w fun e w' => e = .returned (.bool (isAbbrB s.toList)) ∧ w = w' := by
  by_cases h : s.size < 1 ∨ 8 < s.size
  · exact pabbr_out s w h hs
  · exact pabbr_in s w (by omega) (by omega)
end Go.Proofs.YtkmgildnhnjepaaGreatDoor
