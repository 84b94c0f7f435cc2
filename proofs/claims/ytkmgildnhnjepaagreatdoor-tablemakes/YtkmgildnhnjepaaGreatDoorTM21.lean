/- What the reference's RuleCheck returns, for every rule: the walk. A day of a month as an argument: how it is read, how it is shut again. A rule as an argument: how it is read, how it is shut again. -/
import Derived.Test.YtkmgildnhnjepaaGreatDoorTM07
import Derived.Test.YtkmgildnhnjepaaGreatDoorTM06
import Derived.ProofKit
import Derived.OpenShut
import Derived.ChangeSame
namespace Go.Proofs.YtkmgildnhnjepaaGreatDoor
set_option linter.unusedVariables false
set_option linter.unusedSimpArgs false
open Go.RowKit
set_option maxRecDepth 100000 in
set_option maxHeartbeats 8000000 in
theorem rruleCheck (nm : ByteArray) (fr tto mo k d n at' by' sv : Int) (lt : ByteArray) (w : World) (hn : nm.size ≤ maxLen) (ht : lt.size ≤ maxLen) :
    Calls Tryz.prog 81 #[ruleV nm fr tto mo k d n at' by' sv lt] w fun e w' => e = .returned (.int .i64 (ruleC nm.toList lt.toList fr tto mo k d n at' by' sv)) ∧ Gr w w' := by
  have R0 := Lib.hid (RuleAt.new w 118 nm fr tto mo k d n at' by' sv lt)
  have KN := Lib.hid (fun w => isName_any nm w hn)
  have KA := Lib.hid (fun w => isAbbr_any lt w ht)
  have KC := Lib.hid (rdayCheck k d n)
  have X3 : Hid (¬ RuleSyn nm.toList lt.toList → ruleC nm.toList lt.toList fr tto mo k d n at' by' sv = 3) := fun h => by unfold ruleC; rw [if_neg h]
  have X1 : Hid (RuleSyn nm.toList lt.toList → ¬ (RuleNum fr tto mo ∧ DayOk k d n ∧ RuleRest mo n at' by' sv) → ruleC nm.toList lt.toList fr tto mo k d n at' by' sv = 1) := fun h g => by
    unfold ruleC
    rw [if_pos h]
    split
    · split
      · split
        · rename_i a b c; exact absurd ⟨a, b, c⟩ g
        · rfl
      · rfl
    · rfl
  have X0 : Hid (RuleSyn nm.toList lt.toList → RuleNum fr tto mo → DayOk k d n → RuleRest mo n at' by' sv → ruleC nm.toList lt.toList fr tto mo k d n at' by' sv = 0) := fun h a b c => by
    unfold ruleC; rw [if_pos h, if_pos a, if_pos b, if_pos c]
  generalize ruleC nm.toList lt.toList fr tto mo k d n at' by' sv = C at X3 X1 X0 ⊢
  have SY : Hid (∀ bn ba : Bool, isNameB nm.toList = bn → isAbbrB lt.toList = ba → ((RuleSyn nm.toList lt.toList) ↔ (bn = true ∧ (lt.toList = [45] ∨ ba = true)))) := fun bn ba h1 h2 => by unfold RuleSyn; rw [h1, h2]
  clear hn ht
  go_enter Tryz.func81, Tryz.ntmps81
  go_wp2_with fail
  generalize w.alloc (.cells #[.string nm, .int .i64 fr, .int .i64 tto, .int .i64 mo, .int .i64 k, .int .i64 d, .int .i64 n, .int .i64 at', .int .i64 by', .int .i64 sv, .string lt] 118) = w0 at R0 ⊢
  generalize w.heap.size = b at R0 ⊢
  have c0 := R0.out.1
  have c1 := R0.out.2.1
  have c2 := R0.out.2.2.1
  have c3 := R0.out.2.2.2.1
  have c4 := R0.out.2.2.2.2.1
  have c5 := R0.out.2.2.2.2.2.1
  have c6 := R0.out.2.2.2.2.2.2.1
  have c7 := R0.out.2.2.2.2.2.2.2.1
  have c8 := R0.out.2.2.2.2.2.2.2.2.1
  have c9 := R0.out.2.2.2.2.2.2.2.2.2.1
  have c10 := R0.out.2.2.2.2.2.2.2.2.2.2.1
  generalize hbn : isNameB nm.toList = bn at KN
  generalize hba : isAbbrB lt.toList = ba at KA
  have SY' := Lib.hid (SY.out bn ba hbn hba)
  clear hbn hba SY
  refine (KN.out w0).mono ?_
  rintro e w1 ⟨rfl, g1⟩
  have R1 := Lib.hid (R0.out.gr g1)
  clear R0 g1 c0 c1 c2 c3 c4 c5 c6 c7 c8 c9 c10
  have c0 := R1.out.1
  have c1 := R1.out.2.1
  have c2 := R1.out.2.2.1
  have c3 := R1.out.2.2.2.1
  have c4 := R1.out.2.2.2.2.1
  have c5 := R1.out.2.2.2.2.2.1
  have c6 := R1.out.2.2.2.2.2.2.1
  have c7 := R1.out.2.2.2.2.2.2.2.1
  have c8 := R1.out.2.2.2.2.2.2.2.2.1
  have c9 := R1.out.2.2.2.2.2.2.2.2.2.1
  have c10 := R1.out.2.2.2.2.2.2.2.2.2.2.1
  cases bn with
  | false =>
    have E := Lib.hid (X3.out (fun h => by have := SY'.out.1 h; cases this.1))
    clear X3 X1 X0 SY'
    go_wp2_with fail
    go_ret
    exact ⟨ret_int E.out.symm, R1.out.2.2.2.2.2.2.2.2.2.2.2⟩
  | true =>
    by_cases dash : lt.toList = [45]
    case pos =>
      have t1 : (lt.toList == [45]) = true := by simpa using dash
      have SYN : Hid (RuleSyn nm.toList lt.toList) := by first | exact SY'.out.2 ⟨rfl, Or.inl dash⟩ | exact SY'.out.2 ⟨trivial, Or.inl dash⟩
      clear X3 SY' dash
      go_wp2_with fail
      by_cases q1 : 1900 ≤ fr ∧ fr ≤ 2100
      case neg =>
        refine (routside_out q1 _).mono ?_
        rintro e wx ⟨rfl, rfl⟩
        have E := Lib.hid (X1.out SYN.out (fun h => q1 h.1.1))
        clear X1 X0 q1
        go_wp2_with fail
        go_ret
        exact ⟨ret_int E.out.symm, R1.out.2.2.2.2.2.2.2.2.2.2.2⟩
      refine (routside_in q1 _).mono ?_
      rintro e wx ⟨rfl, rfl⟩
      have Hq1 := Lib.hid q1
      clear q1
      go_wp2_with fail
      by_cases q2 : 1900 ≤ tto ∧ tto ≤ 2100
      case neg =>
        refine (routside_out q2 _).mono ?_
        rintro e wx ⟨rfl, rfl⟩
        have E := Lib.hid (X1.out SYN.out (fun h => q2 h.1.2.1))
        clear X1 X0 q2
        go_wp2_with fail
        go_ret
        exact ⟨ret_int E.out.symm, R1.out.2.2.2.2.2.2.2.2.2.2.2⟩
      refine (routside_in q2 _).mono ?_
      rintro e wx ⟨rfl, rfl⟩
      have Hq2 := Lib.hid q2
      clear q2
      by_cases q3 : tto < fr
      case pos =>
        have E := Lib.hid (X1.out SYN.out (fun h => by have := h.1.2.2.1; omega))
        clear X1 X0
        go_wp2_with fail
        go_ret
        exact ⟨ret_int E.out.symm, R1.out.2.2.2.2.2.2.2.2.2.2.2⟩
      have q3' := ltF q3
      go_wp2_with fail
      by_cases q4 : 1 ≤ mo ∧ mo ≤ 12
      case neg =>
        refine (routside_out q4 _).mono ?_
        rintro e wx ⟨rfl, rfl⟩
        have E := Lib.hid (X1.out SYN.out (fun h => q4 h.1.2.2.2))
        clear X1 X0 q4
        go_wp2_with fail
        go_ret
        exact ⟨ret_int E.out.symm, R1.out.2.2.2.2.2.2.2.2.2.2.2⟩
      refine (routside_in q4 _).mono ?_
      rintro e wx ⟨rfl, rfl⟩
      have Hq4 := Lib.hid q4
      clear q4
      have NUM : Hid (RuleNum fr tto mo) := ⟨Hq1.out, Hq2.out, by omega, Hq4.out⟩
      clear q3 q3'
      go_wp2_with fail
      by_cases q5 : DayOk k d n
      case neg =>
        have K := KC.out
        rw [dchk_no q5] at K
        refine (K _).mono ?_
        rintro e wx ⟨rfl, gx⟩
        have E := Lib.hid (X1.out SYN.out (fun h => q5 h.2.1))
        clear X1 X0 q5 K KC
        go_wp2_with fail
        go_ret
        exact ⟨ret_int E.out.symm, (R1.out.2.2.2.2.2.2.2.2.2.2.2).trans gx⟩
      have K := KC.out
      rw [dchk_yes q5] at K
      refine (K _).mono ?_
      rintro e w3 ⟨rfl, g3⟩
      have DOK := Lib.hid q5
      clear K KC q5
      have R3 := Lib.hid (R1.out.gr g3)
      clear R1 g3 c0 c1 c2 c3 c4 c5 c6 c7 c8 c9 c10
      have c0 := R3.out.1
      have c1 := R3.out.2.1
      have c2 := R3.out.2.2.1
      have c3 := R3.out.2.2.2.1
      have c4 := R3.out.2.2.2.2.1
      have c5 := R3.out.2.2.2.2.2.1
      have c6 := R3.out.2.2.2.2.2.2.1
      have c7 := R3.out.2.2.2.2.2.2.2.1
      have c8 := R3.out.2.2.2.2.2.2.2.2.1
      have c9 := R3.out.2.2.2.2.2.2.2.2.2.1
      have c10 := R3.out.2.2.2.2.2.2.2.2.2.2.1
      have KL := Lib.hid (fun w => rlength_yes 1999 mo w (by omega) (by omega) Hq4.out.1 Hq4.out.2)
      go_wp2_with fail
      refine (KL.out _).mono ?_
      rintro e w4 ⟨rfl, g4⟩
      clear KL
      have R4 := Lib.hid (R3.out.gr g4)
      clear R3 g4 c0 c1 c2 c3 c4 c5 c6 c7 c8 c9 c10
      have c0 := R4.out.1
      have c1 := R4.out.2.1
      have c2 := R4.out.2.2.1
      have c3 := R4.out.2.2.2.1
      have c4 := R4.out.2.2.2.2.1
      have c5 := R4.out.2.2.2.2.2.1
      have c6 := R4.out.2.2.2.2.2.2.1
      have c7 := R4.out.2.2.2.2.2.2.2.1
      have c8 := R4.out.2.2.2.2.2.2.2.2.1
      have c9 := R4.out.2.2.2.2.2.2.2.2.2.1
      have c10 := R4.out.2.2.2.2.2.2.2.2.2.2.1
      have MLE := Lib.hid (rfl : Cal.ml 1999 mo = Cal.ml 1999 mo)
      by_cases q6 : Cal.ml 1999 mo < n
      case pos =>
        have E := Lib.hid (X1.out SYN.out (fun h => by have := h.2.2.1; omega))
        clear X1 X0
        generalize Cal.ml 1999 mo = ml at q6 ⊢
        go_wp2_with fail
        go_ret
        exact ⟨ret_int E.out.symm, R4.out.2.2.2.2.2.2.2.2.2.2.2⟩
      have q6' := ltF q6
      have H6 : Hid (n ≤ Cal.ml 1999 mo) := by unfold Hid; omega
      have X1' : Hid (¬ ((-604800 ≤ at' ∧ at' ≤ 604800) ∧ (0 ≤ by' ∧ by' ≤ 2) ∧ 0 ≤ sv ∧ sv ≤ 10800) → C = 1) := fun h => X1.out SYN.out (fun g => h g.2.2.2)
      have X0' : Hid ((-604800 ≤ at' ∧ at' ≤ 604800) → (0 ≤ by' ∧ by' ≤ 2) → (0 ≤ sv ∧ sv ≤ 10800) → C = 0) := fun a b c => X0.out SYN.out NUM.out DOK.out ⟨H6.out, a, b, c⟩
      clear X1 X0 H6 MLE q6
      generalize Cal.ml 1999 mo = ml at q6' ⊢
      go_wp2_with fail
      by_cases q7 : -604800 ≤ at' ∧ at' ≤ 604800
      case neg =>
        refine (routside_out q7 _).mono ?_
        rintro e wx ⟨rfl, rfl⟩
        have E := Lib.hid (X1'.out (fun h => q7 h.1))
        clear X1' X0' q7
        go_wp2_with fail
        go_ret
        exact ⟨ret_int E.out.symm, R4.out.2.2.2.2.2.2.2.2.2.2.2⟩
      refine (routside_in q7 _).mono ?_
      rintro e wx ⟨rfl, rfl⟩
      have Hq7 := Lib.hid q7
      clear q7
      go_wp2_with fail
      by_cases q8 : 0 ≤ by' ∧ by' ≤ 2
      case neg =>
        refine (routside_out q8 _).mono ?_
        rintro e wx ⟨rfl, rfl⟩
        have E := Lib.hid (X1'.out (fun h => q8 h.2.1))
        clear X1' X0' q8
        go_wp2_with fail
        go_ret
        exact ⟨ret_int E.out.symm, R4.out.2.2.2.2.2.2.2.2.2.2.2⟩
      refine (routside_in q8 _).mono ?_
      rintro e wx ⟨rfl, rfl⟩
      have Hq8 := Lib.hid q8
      clear q8
      go_wp2_with fail
      by_cases q9 : 0 ≤ sv ∧ sv ≤ 10800
      case neg =>
        refine (routside_out q9 _).mono ?_
        rintro e wx ⟨rfl, rfl⟩
        have E := Lib.hid (X1'.out (fun h => q9 h.2.2))
        clear X1' X0' q9
        go_wp2_with fail
        go_ret
        exact ⟨ret_int E.out.symm, R4.out.2.2.2.2.2.2.2.2.2.2.2⟩
      refine (routside_in q9 _).mono ?_
      rintro e wx ⟨rfl, rfl⟩
      have Hq9 := Lib.hid q9
      clear q9
      have E := Lib.hid (X0'.out Hq7.out Hq8.out Hq9.out)
      clear X1' X0'
      go_wp2_with fail
      go_ret
      exact ⟨ret_int E.out.symm, R4.out.2.2.2.2.2.2.2.2.2.2.2⟩
    have t1 : (lt.toList == [45]) = false := by simpa using dash
    go_wp2_with fail
    refine (KA.out _).mono ?_
    rintro e w2 ⟨rfl, g2⟩
    clear KA
    have R2 := Lib.hid (R1.out.gr g2)
    clear R1 g2 c0 c1 c2 c3 c4 c5 c6 c7 c8 c9 c10
    have c0 := R2.out.1
    have c1 := R2.out.2.1
    have c2 := R2.out.2.2.1
    have c3 := R2.out.2.2.2.1
    have c4 := R2.out.2.2.2.2.1
    have c5 := R2.out.2.2.2.2.2.1
    have c6 := R2.out.2.2.2.2.2.2.1
    have c7 := R2.out.2.2.2.2.2.2.2.1
    have c8 := R2.out.2.2.2.2.2.2.2.2.1
    have c9 := R2.out.2.2.2.2.2.2.2.2.2.1
    have c10 := R2.out.2.2.2.2.2.2.2.2.2.2.1
    cases ba with
    | false =>
      have E := Lib.hid (X3.out (fun h => by have := (SY'.out.1 h).2; rcases this with h | h; exact dash h; cases h))
      clear X3 X1 X0 SY' dash
      go_wp2_with fail
      go_ret
      exact ⟨ret_int E.out.symm, R2.out.2.2.2.2.2.2.2.2.2.2.2⟩
    | true =>
      have SYN : Hid (RuleSyn nm.toList lt.toList) := by first | exact SY'.out.2 ⟨rfl, Or.inr rfl⟩ | exact SY'.out.2 ⟨trivial, Or.inr rfl⟩ | exact SY'.out.2 (by simp)
      clear X3 SY' dash
      go_wp2_with fail
      by_cases q1 : 1900 ≤ fr ∧ fr ≤ 2100
      case neg =>
        refine (routside_out q1 _).mono ?_
        rintro e wx ⟨rfl, rfl⟩
        have E := Lib.hid (X1.out SYN.out (fun h => q1 h.1.1))
        clear X1 X0 q1
        go_wp2_with fail
        go_ret
        exact ⟨ret_int E.out.symm, R2.out.2.2.2.2.2.2.2.2.2.2.2⟩
      refine (routside_in q1 _).mono ?_
      rintro e wx ⟨rfl, rfl⟩
      have Hq1 := Lib.hid q1
      clear q1
      go_wp2_with fail
      by_cases q2 : 1900 ≤ tto ∧ tto ≤ 2100
      case neg =>
        refine (routside_out q2 _).mono ?_
        rintro e wx ⟨rfl, rfl⟩
        have E := Lib.hid (X1.out SYN.out (fun h => q2 h.1.2.1))
        clear X1 X0 q2
        go_wp2_with fail
        go_ret
        exact ⟨ret_int E.out.symm, R2.out.2.2.2.2.2.2.2.2.2.2.2⟩
      refine (routside_in q2 _).mono ?_
      rintro e wx ⟨rfl, rfl⟩
      have Hq2 := Lib.hid q2
      clear q2
      by_cases q3 : tto < fr
      case pos =>
        have E := Lib.hid (X1.out SYN.out (fun h => by have := h.1.2.2.1; omega))
        clear X1 X0
        go_wp2_with fail
        go_ret
        exact ⟨ret_int E.out.symm, R2.out.2.2.2.2.2.2.2.2.2.2.2⟩
      have q3' := ltF q3
      go_wp2_with fail
      by_cases q4 : 1 ≤ mo ∧ mo ≤ 12
      case neg =>
        refine (routside_out q4 _).mono ?_
        rintro e wx ⟨rfl, rfl⟩
        have E := Lib.hid (X1.out SYN.out (fun h => q4 h.1.2.2.2))
        clear X1 X0 q4
        go_wp2_with fail
        go_ret
        exact ⟨ret_int E.out.symm, R2.out.2.2.2.2.2.2.2.2.2.2.2⟩
      refine (routside_in q4 _).mono ?_
      rintro e wx ⟨rfl, rfl⟩
      have Hq4 := Lib.hid q4
      clear q4
      have NUM : Hid (RuleNum fr tto mo) := ⟨Hq1.out, Hq2.out, by omega, Hq4.out⟩
      clear q3 q3'
      go_wp2_with fail
      by_cases q5 : DayOk k d n
      case neg =>
        have K := KC.out
        rw [dchk_no q5] at K
        refine (K _).mono ?_
        rintro e wx ⟨rfl, gx⟩
        have E := Lib.hid (X1.out SYN.out (fun h => q5 h.2.1))
        clear X1 X0 q5 K KC
        go_wp2_with fail
        go_ret
        exact ⟨ret_int E.out.symm, (R2.out.2.2.2.2.2.2.2.2.2.2.2).trans gx⟩
      have K := KC.out
      rw [dchk_yes q5] at K
      refine (K _).mono ?_
      rintro e w3 ⟨rfl, g3⟩
      have DOK := Lib.hid q5
      clear K KC q5
      have R3 := Lib.hid (R2.out.gr g3)
      clear R2 g3 c0 c1 c2 c3 c4 c5 c6 c7 c8 c9 c10
      have c0 := R3.out.1
      have c1 := R3.out.2.1
      have c2 := R3.out.2.2.1
      have c3 := R3.out.2.2.2.1
      have c4 := R3.out.2.2.2.2.1
      have c5 := R3.out.2.2.2.2.2.1
      have c6 := R3.out.2.2.2.2.2.2.1
      have c7 := R3.out.2.2.2.2.2.2.2.1
      have c8 := R3.out.2.2.2.2.2.2.2.2.1
      have c9 := R3.out.2.2.2.2.2.2.2.2.2.1
      have c10 := R3.out.2.2.2.2.2.2.2.2.2.2.1
      have KL := Lib.hid (fun w => rlength_yes 1999 mo w (by omega) (by omega) Hq4.out.1 Hq4.out.2)
      go_wp2_with fail
      refine (KL.out _).mono ?_
      rintro e w4 ⟨rfl, g4⟩
      clear KL
      have R4 := Lib.hid (R3.out.gr g4)
      clear R3 g4 c0 c1 c2 c3 c4 c5 c6 c7 c8 c9 c10
      have c0 := R4.out.1
      have c1 := R4.out.2.1
      have c2 := R4.out.2.2.1
      have c3 := R4.out.2.2.2.1
      have c4 := R4.out.2.2.2.2.1
      have c5 := R4.out.2.2.2.2.2.1
      have c6 := R4.out.2.2.2.2.2.2.1
      have c7 := R4.out.2.2.2.2.2.2.2.1
      have c8 := R4.out.2.2.2.2.2.2.2.2.1
      have c9 := R4.out.2.2.2.2.2.2.2.2.2.1
      have c10 := R4.out.2.2.2.2.2.2.2.2.2.2.1
      have MLE := Lib.hid (rfl : Cal.ml 1999 mo = Cal.ml 1999 mo)
      by_cases q6 : Cal.ml 1999 mo < n
      case pos =>
        have E := Lib.hid (X1.out SYN.out (fun h => by have := h.2.2.1; omega))
        clear X1 X0
        generalize Cal.ml 1999 mo = ml at q6 ⊢
        go_wp2_with fail
        go_ret
        exact ⟨ret_int E.out.symm, R4.out.2.2.2.2.2.2.2.2.2.2.2⟩
      have q6' := ltF q6
      have H6 : Hid (n ≤ Cal.ml 1999 mo) := by unfold Hid; omega
      have X1' : Hid (¬ ((-604800 ≤ at' ∧ at' ≤ 604800) ∧ (0 ≤ by' ∧ by' ≤ 2) ∧ 0 ≤ sv ∧ sv ≤ 10800) → C = 1) := fun h => X1.out SYN.out (fun g => h g.2.2.2)
      have X0' : Hid ((-604800 ≤ at' ∧ at' ≤ 604800) → (0 ≤ by' ∧ by' ≤ 2) → (0 ≤ sv ∧ sv ≤ 10800) → C = 0) := fun a b c => X0.out SYN.out NUM.out DOK.out ⟨H6.out, a, b, c⟩
      clear X1 X0 H6 MLE q6
      generalize Cal.ml 1999 mo = ml at q6' ⊢
      go_wp2_with fail
      by_cases q7 : -604800 ≤ at' ∧ at' ≤ 604800
      case neg =>
        refine (routside_out q7 _).mono ?_
        rintro e wx ⟨rfl, rfl⟩
        have E := Lib.hid (X1'.out (fun h => q7 h.1))
        clear X1' X0' q7
        go_wp2_with fail
        go_ret
        exact ⟨ret_int E.out.symm, R4.out.2.2.2.2.2.2.2.2.2.2.2⟩
      refine (routside_in q7 _).mono ?_
      rintro e wx ⟨rfl, rfl⟩
      have Hq7 := Lib.hid q7
      clear q7
      go_wp2_with fail
      by_cases q8 : 0 ≤ by' ∧ by' ≤ 2
      case neg =>
        refine (routside_out q8 _).mono ?_
        rintro e wx ⟨rfl, rfl⟩
        have E := Lib.hid (X1'.out (fun h => q8 h.2.1))
        clear X1' X0' q8
        go_wp2_with fail
        go_ret
        exact ⟨ret_int E.out.symm, R4.out.2.2.2.2.2.2.2.2.2.2.2⟩
      refine (routside_in q8 _).mono ?_
      rintro e wx ⟨rfl, rfl⟩
      have Hq8 := Lib.hid q8
      clear q8
      go_wp2_with fail
      by_cases q9 : 0 ≤ sv ∧ sv ≤ 10800
      case neg =>
        refine (routside_out q9 _).mono ?_
        rintro e wx ⟨rfl, rfl⟩
        have E := Lib.hid (X1'.out (fun h => q9 h.2.2))
        clear X1' X0' q9
        go_wp2_with fail
        go_ret
        exact ⟨ret_int E.out.symm, R4.out.2.2.2.2.2.2.2.2.2.2.2⟩
      refine (routside_in q9 _).mono ?_
      rintro e wx ⟨rfl, rfl⟩
      have Hq9 := Lib.hid q9
      clear q9
      have E := Lib.hid (X0'.out Hq7.out Hq8.out Hq9.out)
      clear X1' X0'
      go_wp2_with fail
      go_ret
      exact ⟨ret_int E.out.symm, R4.out.2.2.2.2.2.2.2.2.2.2.2⟩
end Go.Proofs.YtkmgildnhnjepaaGreatDoor
namespace Go.Proofs.YtkmgildnhnjepaaGreatDoor
open Go.ChangeShapes Go.WideShapes Go.ChangeAt Go.RowKit
set_option linter.unusedVariables false
set_option linter.unusedSimpArgs false
section
variable {H : Type} {enc : TypeId × Value → H} {W : World} {base : Nat} {sp : Nat → Bool} {held : Bool}
/-- the datum of a day -/
abbrev dayD (k d n : Int) : DataW H := .agg [.lit (.int .i64 k), .lit (.int .i64 d), .lit (.int .i64 n)]

theorem cellsDay : Tryz.prog.cellsOf 116 = 3 := by kernel_rfl

theorem cellsInt : Tryz.prog.cellsOf 3 = 1 := by kernel_rfl

end
end Go.Proofs.YtkmgildnhnjepaaGreatDoor
namespace Go.Proofs.YtkmgildnhnjepaaGreatDoor
open Go.ChangeShapes Go.WideShapes Go.ChangeAt Go.RowKit
set_option linter.unusedVariables false
set_option linter.unusedSimpArgs false
section
variable {H : Type} {enc : TypeId × Value → H} {W : World} {base : Nat} {sp : Nat → Bool} {held : Bool}
theorem cellsRule : Tryz.prog.cellsOf 118 = 11 := by kernel_rfl

theorem cellsStr : Tryz.prog.cellsOf 9 = 1 := by kernel_rfl

theorem int_cell {c : Value} {m : Nat} {x : DataW H × List MemPlace} (h : DataW.trod enc Tryz.prog W base sp held m 3 [c] = some x) : ∃ a : Int, c = .int .i64 a ∧ x = (.lit (.int .i64 a), []) ∧ (Lit.int .i64 a).wf = true := by
  obtain ⟨a, ea, rfl, wa⟩ := DataW.trod_int Tryz.underlying3 h
  exact ⟨a, (List.cons.inj ea).1, rfl, wa⟩

theorem str_cell {c : Value} {m : Nat} {x : DataW H × List MemPlace} (h : DataW.trod enc Tryz.prog W base sp held m 9 [c] = some x) : ∃ s : ByteArray, c = .string s ∧ x = (.lit (.string s.data.toList), []) ∧ s.size ≤ maxLen := by
  obtain ⟨a, ea, hx, wa⟩ := DataW.trod_string Tryz.underlying9 h
  exact ⟨a, (List.cons.inj ea).1, hx, wa⟩

theorem day_cells {c0 c1 c2 : Value} {m : Nat} {x : DataW H × List MemPlace} (hf : DataW.trod enc Tryz.prog W base sp held m 116 [c0, c1, c2] = some x) :
    ∃ a b c : Int, c0 = .int .i64 a ∧ c1 = .int .i64 b ∧ c2 = .int .i64 c ∧ x = (dayD a b c, []) ∧ (Lit.int .i64 a).wf = true ∧ (Lit.int .i64 b).wf = true ∧ (Lit.int .i64 c).wf = true := by
  obtain ⟨xs, m', _, hx, _, hlen, hfs⟩ := DataW.trod_struct Tryz.underlying116 hf
  match xs, hlen with
  | [y0, y1, y2], _ =>
    have f0 : DataW.trod enc Tryz.prog W base sp held m' 3 (([c0, c1, c2].drop 0).take (Tryz.prog.cellsOf 3)) = some y0 := hfs 0 _ rfl
    have f1 : DataW.trod enc Tryz.prog W base sp held m' 3 (([c0, c1, c2].drop 1).take (Tryz.prog.cellsOf 3)) = some y1 := hfs 1 _ rfl
    have f2 : DataW.trod enc Tryz.prog W base sp held m' 3 (([c0, c1, c2].drop 2).take (Tryz.prog.cellsOf 3)) = some y2 := hfs 2 _ rfl
    rw [cellsInt] at f0 f1 f2
    obtain ⟨a, ea, rfl, wa⟩ := int_cell f0
    obtain ⟨b, eb, rfl, wb⟩ := int_cell f1
    obtain ⟨c, ec, rfl, wc⟩ := int_cell f2
    exact ⟨a, b, c, ea, eb, ec, hx, wa, wb, wc⟩

end
end Go.Proofs.YtkmgildnhnjepaaGreatDoor
