/- What the reference's RuleCheck returns, for every rule. What the reference's DayOf returns, for every input. What the project's Check and move of package day return, for every input. What the project's Check of package rule returns, for every rule. Texts cut at a sign, words between signs. No program in it. -/
import Derived.Test.YtkmgildnhnjepaaGreatDoorRM05
import Derived.Test.YtkmgildnhnjepaaGreatDoorRM03
import Derived.Deep.QuietTactic
import Derived.BigQuiet
import Derived.Test.YtkmgildnhnjepaaGreatDoorRM04
import Derived.Lib.SplitLaws
namespace Go.Proofs.YtkmgildnhnjepaaGreatDoor
set_option linter.unusedVariables false
set_option linter.unusedSimpArgs false
open Go.RowKit
/-- a rule as a value -/
abbrev ruleV (nm : ByteArray) (fr tto mo k d n at' by' sv : Int) (lt : ByteArray) : Value :=
  .agg #[.string nm, .int .i64 fr, .int .i64 tto, .int .i64 mo, .int .i64 k, .int .i64 d, .int .i64 n, .int .i64 at', .int .i64 by', .int .i64 sv, .string lt]
/-- its words can be read -/
def RuleSyn (nm lt : List UInt8) : Prop := isNameB nm = true ∧ (lt = [45] ∨ isAbbrB lt = true)
def RuleNum (fr tto mo : Int) : Prop := (1900 ≤ fr ∧ fr ≤ 2100) ∧ (1900 ≤ tto ∧ tto ≤ 2100) ∧ fr ≤ tto ∧ 1 ≤ mo ∧ mo ≤ 12
def RuleRest (mo n at' by' sv : Int) : Prop := n ≤ Cal.ml 1999 mo ∧ (-604800 ≤ at' ∧ at' ≤ 604800) ∧ (0 ≤ by' ∧ by' ≤ 2) ∧ 0 ≤ sv ∧ sv ≤ 10800
instance (nm lt : List UInt8) : Decidable (RuleSyn nm lt) := by unfold RuleSyn; infer_instance
instance (fr tto mo : Int) : Decidable (RuleNum fr tto mo) := by unfold RuleNum; infer_instance
instance (mo n at' by' sv : Int) : Decidable (RuleRest mo n at' by' sv) := by unfold RuleRest; infer_instance
/-- what RuleCheck answers -/
def ruleC (nm lt : List UInt8) (fr tto mo k d n at' by' sv : Int) : Int :=
  if RuleSyn nm lt then (if RuleNum fr tto mo then (if DayOk k d n then (if RuleRest mo n at' by' sv then 0 else 1) else 1) else 1) else 3

/-- a rule lies in a block of its own -/
def RuleAt (w W : World) (b : Nat) (nm : ByteArray) (fr tto mo k d n at' by' sv : Int) (lt : ByteArray) : Prop :=
  W.cell? ⟨b, 0, none⟩ = some (.string nm) ∧ W.cell? ⟨b, 1, none⟩ = some (.int .i64 fr) ∧ W.cell? ⟨b, 2, none⟩ = some (.int .i64 tto) ∧ W.cell? ⟨b, 3, none⟩ = some (.int .i64 mo) ∧ W.cell? ⟨b, 4, none⟩ = some (.int .i64 k) ∧
  W.cell? ⟨b, 5, none⟩ = some (.int .i64 d) ∧ W.cell? ⟨b, 6, none⟩ = some (.int .i64 n) ∧ W.cell? ⟨b, 7, none⟩ = some (.int .i64 at') ∧ W.cell? ⟨b, 8, none⟩ = some (.int .i64 by') ∧ W.cell? ⟨b, 9, none⟩ = some (.int .i64 sv) ∧
  W.cell? ⟨b, 10, none⟩ = some (.string lt) ∧ Gr w W
theorem RuleAt.gr {w W W' : World} {b : Nat} {nm : ByteArray} {fr tto mo k d n at' by' sv : Int} {lt : ByteArray} (h : RuleAt w W b nm fr tto mo k d n at' by' sv lt) (g : Gr W W') : RuleAt w W' b nm fr tto mo k d n at' by' sv lt := by
  obtain ⟨h0, h1, h2, h3, h4, h5, h6, h7, h8, h9, h10, hg⟩ := h
  exact ⟨g.holds h0, g.holds h1, g.holds h2, g.holds h3, g.holds h4, g.holds h5, g.holds h6, g.holds h7, g.holds h8, g.holds h9, g.holds h10, hg.trans g⟩
theorem RuleAt.new (w : World) (T : TypeId) (nm : ByteArray) (fr tto mo k d n at' by' sv : Int) (lt : ByteArray) :
    RuleAt w (w.alloc (.cells #[.string nm, .int .i64 fr, .int .i64 tto, .int .i64 mo, .int .i64 k, .int .i64 d, .int .i64 n, .int .i64 at', .int .i64 by', .int .i64 sv, .string lt] T)) w.heap.size nm fr tto mo k d n at' by' sv lt := by
  refine ⟨?_, ?_, ?_, ?_, ?_, ?_, ?_, ?_, ?_, ?_, ?_, Gr.alloc _ _⟩ <;> (rw [World.cell?_alloc_new]; rfl)

end Go.Proofs.YtkmgildnhnjepaaGreatDoor
namespace Go.Proofs.YtkmgildnhnjepaaGreatDoor
set_option linter.unusedVariables false
set_option linter.unusedSimpArgs false
open Go.RowKit
/-- the first day from one on that is a given weekday -/
def nd (a d : Int) : Int := a + (d - (a + 135146)) % 7
theorem nd_bd (a d : Int) : a ≤ nd a d ∧ nd a d ≤ a + 6 := by unfold nd; omega
/-- the day that is looked for -/
def dayT (y m k d n : Int) : Int := if k = 1 then Cal.days y m 1 + n - 1 else if k = 2 then nd (Cal.days y m 1 + Cal.ml y m - 7) d else if k = 3 then nd (Cal.days y m 1 + n - 1) d else nd (Cal.days y m 1 + n - 1 - 6) d
/-- what DayOf answers -/
def dayA (y m k d n : Int) : Ending := if DayOk k d n then (if 1600 ≤ y ∧ y ≤ 2399 ∧ 1 ≤ m ∧ m ≤ 12 then (if Cal.ml y m < n then two 0 6 else if -135140 ≤ dayT y m k d n ∧ dayT y m k d n ≤ 157053 then two (dayT y m k d n) 0 else two 0 1) else two 0 1) else two 0 1

theorem dayA_ok {y m k d n : Int} (h : DayOk k d n) (h1 : 1600 ≤ y) (h2 : y ≤ 2399) (h3 : 1 ≤ m) (h4 : m ≤ 12) (hl : ¬ Cal.ml y m < n) : dayA y m k d n = if -135140 ≤ dayT y m k d n ∧ dayT y m k d n ≤ 157053 then two (dayT y m k d n) 0 else two 0 1 := by
  unfold dayA; rw [if_pos h, if_pos ⟨h1, h2, h3, h4⟩, if_neg hl]

end Go.Proofs.YtkmgildnhnjepaaGreatDoor
namespace Go.Proofs.YtkmgildnhnjepaaGreatDoor
set_option linter.unusedVariables false
set_option linter.unusedSimpArgs false
open Go.RowKit
set_option maxHeartbeats 2000000 in
theorem check_walk (k d n : Int) (w : World) (p1 p2 p3 p4 p5 p6 q1 q2 q3 q4 : Bool)
    (e1 : decide (0 ≤ d) = p1) (e2 : decide (d < 7) = p2) (e3 : decide (1 ≤ n) = p3) (e4 : decide (n ≤ 31) = p4) (e5 : (d == 0) = p5) (e6 : (n == 0) = p6)
    (f1 : (k == 1) = q1) (f2 : (k == 2) = q2) (f3 : (k == 3) = q3) (f4 : (k == 4) = q4) (r : Int)
    (hr : r = if q1 || q2 || q3 || q4 then (if (if q1 then p5 else p1 && p2) && (if q2 && !q1 then p6 else p3 && p4) then 0 else 1) else 1) :
    Calls Tryz.prog 102 #[dayV k d n] w fun e w' => e = .returned (.int .i64 r) ∧ Gr w w' := by
  have HR := Lib.hid hr
  clear hr
  cases p1 <;> cases p3 <;> cases q1 <;> cases q2
  all_goals
    go_enter Tryz.func102, Tryz.ntmps102
    go_wp2
  all_goals go_ret
  all_goals (refine ⟨ret_int ?_, Gr.alloc _ _⟩; rw [HR.out]; clear HR; simp_all)

theorem dayCheck (k d n : Int) (w : World) :
    Calls Tryz.prog 102 #[dayV k d n] w fun e w' => e = .returned (.int .i64 (dchk k d n)) ∧ Gr w w' := by
  refine check_walk k d n w _ _ _ _ _ _ _ _ _ _ rfl rfl rfl rfl rfl rfl rfl rfl rfl rfl (dchk k d n) ?_
  have x : (k == 1 || k == 2 || k == 3 || k == 4) = decide (1 ≤ k ∧ k ≤ 4) := by rw [Bool.eq_iff_iff]; simp; omega
  rw [x]
  by_cases c : 1 ≤ k ∧ k ≤ 4
  · rw [if_pos (by simpa using c)]
    unfold dchk
    by_cases h : DayOk k d n
    · rw [if_pos h, if_pos]
      unfold DayOk at h
      by_cases a : k = 1
      · subst a; simp; omega
      · by_cases b : k = 2
        · subst b; simp; omega
        · simp [a, b]; omega
    · rw [if_neg h, if_neg]
      intro hh
      apply h
      unfold DayOk
      by_cases a : k = 1
      · subst a; simp at hh ⊢; omega
      · by_cases b : k = 2
        · subst b; simp at hh ⊢; omega
        · simp [a, b] at hh ⊢; omega
  · rw [if_neg (by simpa using c)]
    exact dchk_no (by unfold DayOk; omega)

/-- how far the looked-for day is from day N -/
def mv (k d wd : Int) : Int := if k = 3 then (d - wd + 7) % 7 else if k = 4 then -((wd - d + 7) % 7) else 0

set_option maxHeartbeats 400000 in
theorem move_any (k d n wd : Int) (w : World) (d1 : 0 ≤ d) (d2 : d ≤ 6) (w1 : 0 ≤ wd) (w2 : wd ≤ 6) :
    Calls Tryz.prog 131 #[dayV k d n, .int .i64 wd] w fun e w' => e = .returned (.int .i64 (mv k d wd)) ∧ Gr w w' := by
  by_cases a : k = 3
  · subst a
    have E := Lib.hid (show mv 3 d wd = (d - wd + 7) % 7 by simp [mv])
    go_enter Tryz.func131, Tryz.ntmps131
    go_wp2
    go_ret
    exact ⟨ret_int (by have := E.out; omega), by first | exact Gr.alloc _ _ | exact (Gr.alloc _ _).drewN _⟩
  · by_cases b : k = 4
    · subst b
      have E := Lib.hid (show mv 4 d wd = -((wd - d + 7) % 7) by simp [mv])
      go_enter Tryz.func131, Tryz.ntmps131
      go_wp2
      go_ret
      exact ⟨ret_int (by have := E.out; omega), by first | exact Gr.alloc _ _ | exact (Gr.alloc _ _).drewN _⟩
    · have E := Lib.hid (show mv k d wd = 0 by simp [mv, a, b])
      have a' : (k == 3) = false := beqF a
      have b' : (k == 4) = false := beqF b
      clear a b
      go_enter Tryz.func131, Tryz.ntmps131
      go_wp2
      go_ret
      exact ⟨ret_int (by have := E.out; omega), by first | exact Gr.alloc _ _ | exact (Gr.alloc _ _).drewN _⟩
end Go.Proofs.YtkmgildnhnjepaaGreatDoor
namespace Go.Proofs.YtkmgildnhnjepaaGreatDoor
set_option linter.unusedVariables false
set_option linter.unusedSimpArgs false
open Go.RowKit
theorem ml_common (mo : Int) : Cal.ml 2001 mo = Cal.ml 1999 mo := by
  unfold Cal.ml
  rw [show Cal.lp 2001 = Cal.lp 1999 by decide]
theorem abbr_dash : isAbbrB [45] = true := by decide
theorem ruleSyn_iff {nm lt : List UInt8} : RuleSyn nm lt ↔ isNameB nm = true ∧ isAbbrB lt = true := by
  unfold RuleSyn
  constructor
  · rintro ⟨a, b | b⟩
    · exact ⟨a, by rw [b]; exact abbr_dash⟩
    · exact ⟨a, b⟩
  · rintro ⟨a, b⟩
    exact ⟨a, Or.inr b⟩
/-- the last test -/
theorem rest_bool {mo n at' by' sv : Int} (p1 p2 p3 p4 p5 p6 q : Bool) (e1 : decide (-604800 ≤ at') = p1) (e2 : decide (at' ≤ 604800) = p2) (e3 : decide (0 ≤ by') = p3) (e4 : decide (by' < 3) = p4) (e5 : decide (0 ≤ sv) = p5) (e6 : decide (sv ≤ 10800) = p6)
    (e7 : decide (Cal.ml 1999 mo < n) = q) : RuleRest mo n at' by' sv ↔ (!q && (p1 && p2) && (p3 && p4) && (p5 && p6)) = true := by
  subst e1 e2 e3 e4 e5 e6 e7
  unfold RuleRest
  simp only [Bool.and_eq_true, Bool.not_eq_true', decide_eq_true_eq, decide_eq_false_iff_not]
  omega

set_option maxRecDepth 100000 in
set_option maxHeartbeats 8000000 in
theorem pruleCheck (nm : ByteArray) (fr tt mo k d n at' by' sv : Int) (lt : ByteArray) (w : World) (hl : HasLen w) (hn : nm.size ≤ maxLen) (ht : lt.size ≤ maxLen) :
    Calls Tryz.prog 73 #[ruleV nm fr tt mo k d n at' by' sv lt] w fun e w' => e = .returned (.int .i64 (ruleC nm.toList lt.toList fr tt mo k d n at' by' sv)) ∧ Gr w w' := by
  have R0 := Lib.hid (RuleAt.new w 118 nm fr tt mo k d n at' by' sv lt)
  have KN := Lib.hid (fun w => pname_any nm w hn)
  have KA := Lib.hid (fun w => pabbr_any lt w ht)
  have KC := Lib.hid (dayCheck k d n)
  have HL := Lib.hid hl
  have X3 : Hid (¬ RuleSyn nm.toList lt.toList → ruleC nm.toList lt.toList fr tt mo k d n at' by' sv = 3) := fun h => by unfold ruleC; rw [if_neg h]
  have X1 : Hid (RuleSyn nm.toList lt.toList → ¬ (RuleNum fr tt mo ∧ DayOk k d n ∧ RuleRest mo n at' by' sv) → ruleC nm.toList lt.toList fr tt mo k d n at' by' sv = 1) := fun h g => by
    unfold ruleC
    rw [if_pos h]
    split
    · split
      · split
        · rename_i a b c; exact absurd ⟨a, b, c⟩ g
        · rfl
      · rfl
    · rfl
  have X0 : Hid (RuleSyn nm.toList lt.toList → RuleNum fr tt mo → DayOk k d n → RuleRest mo n at' by' sv → ruleC nm.toList lt.toList fr tt mo k d n at' by' sv = 0) := fun h a b c => by
    unfold ruleC; rw [if_pos h, if_pos a, if_pos b, if_pos c]
  generalize ruleC nm.toList lt.toList fr tt mo k d n at' by' sv = C at X3 X1 X0 ⊢
  have SY : Hid (RuleSyn nm.toList lt.toList ↔ (isNameB nm.toList = true ∧ isAbbrB lt.toList = true)) := ruleSyn_iff
  clear hn ht hl
  go_enter Tryz.func73, Tryz.ntmps73
  go_wp2_with fail
  generalize w.alloc (.cells #[.string nm, .int .i64 fr, .int .i64 tt, .int .i64 mo, .int .i64 k, .int .i64 d, .int .i64 n, .int .i64 at', .int .i64 by', .int .i64 sv, .string lt] 118) = w0 at R0 ⊢
  generalize w.heap.size = b at R0 ⊢
  have c0 := R0.out.1
  have c1 := R0.out.2.1
  have c2 := R0.out.2.2.1
  have c3 := R0.out.2.2.2.1
  have c4 := R0.out.2.2.2.2.1
  have c5 := R0.out.2.2.2.2.2.1
  have c6 := R0.out.2.2.2.2.2.2.1
  have c7 := R0.out.2.2.2.2.2.2.2.1
  have c8 := R0.out.2.2.2.2.2.2.2.2.1
  have c9 := R0.out.2.2.2.2.2.2.2.2.2.1
  have c10 := R0.out.2.2.2.2.2.2.2.2.2.2.1
  have G0 := Lib.hid (R0.out.2.2.2.2.2.2.2.2.2.2.2)
  generalize isNameB nm.toList = bn at KN SY
  generalize isAbbrB lt.toList = ba at KA SY
  refine (KN.out w0).mono ?_
  rintro e w1 ⟨rfl, rfl⟩
  cases bn with
  | false =>
    have E := Lib.hid (X3.out (fun h => by have := (SY.out.1 h).1; cases this))
    clear X3 X1 X0 SY
    go_wp2_with fail
    go_ret
    exact ⟨ret_int E.out.symm, G0.out⟩
  | true =>
  go_wp2_with fail
  refine (KA.out w0).mono ?_
  rintro e w1 ⟨rfl, rfl⟩
  cases ba with
  | false =>
    have E := Lib.hid (X3.out (fun h => by have := (SY.out.1 h).2; cases this))
    clear X3 X1 X0 SY
    go_wp2_with fail
    go_ret
    exact ⟨ret_int E.out.symm, G0.out⟩
  | true =>
  have SYN : Hid (RuleSyn nm.toList lt.toList) := by first | exact SY.out.2 ⟨rfl, rfl⟩ | exact SY.out.2 (by simp)
  clear X3 SY KN KA
  by_cases q1 : fr < 1900
  case pos =>
    have E := Lib.hid (X1.out SYN.out (fun h => by have := h.1.1.1; omega))
    clear X1 X0
    go_wp2_with fail
    go_ret
    exact ⟨ret_int E.out.symm, G0.out⟩
  have q1' := ltF q1
  by_cases q2 : 2100 < fr
  case pos =>
    have E := Lib.hid (X1.out SYN.out (fun h => by have := h.1.1.2; omega))
    clear X1 X0
    go_wp2_with fail
    go_ret
    exact ⟨ret_int E.out.symm, G0.out⟩
  have q2' := ltF q2
  by_cases q3 : tt < fr
  case pos =>
    have E := Lib.hid (X1.out SYN.out (fun h => by have := h.1.2.2.1; omega))
    clear X1 X0
    go_wp2_with fail
    go_ret
    exact ⟨ret_int E.out.symm, G0.out⟩
  have q3' := ltF q3
  by_cases q4 : 2100 < tt
  case pos =>
    have E := Lib.hid (X1.out SYN.out (fun h => by have := h.1.2.1.2; omega))
    clear X1 X0
    go_wp2_with fail
    go_ret
    exact ⟨ret_int E.out.symm, G0.out⟩
  have q4' := ltF q4
  go_wp2_with fail
  by_cases q5 : 1 ≤ mo ∧ mo ≤ 12
  case neg =>
    have E := Lib.hid (X1.out SYN.out (fun h => q5 h.1.2.2.2))
    refine (length_no 2001 mo w0 (by omega)).mono ?_
    rintro e w2 ⟨rfl, rfl⟩
    clear X1 X0 q5
    go_wp2_with fail
    go_ret
    exact ⟨ret_int E.out.symm, G0.out⟩
  refine (length_yes 2001 mo w0 (G0.out.len HL.out) (by omega) (by omega) q5.1 q5.2).mono ?_
  rintro e w2 ⟨rfl, rfl⟩
  have NUM : Hid (RuleNum fr tt mo) := ⟨⟨by omega, by omega⟩, ⟨by omega, by omega⟩, by omega, q5⟩
  clear q1 q2 q3 q4 q1' q2' q3' q4' q5
  rw [ml_common]
  go_wp2_with fail
  by_cases q5 : DayOk k d n
  case neg =>
    have K := KC.out
    rw [dchk_no q5] at K
    refine (K _).mono ?_
    rintro e wx ⟨rfl, gx⟩
    have E := Lib.hid (X1.out SYN.out (fun h => q5 h.2.1))
    clear X1 X0 q5 K KC
    go_wp2_with fail
    go_ret
    exact ⟨ret_int E.out.symm, G0.out.trans gx⟩
  have K := KC.out
  rw [dchk_yes q5] at K
  refine (K _).mono ?_
  rintro e w3 ⟨rfl, g3⟩
  have DOK := Lib.hid q5
  clear K KC q5
  have R3 := Lib.hid (R0.out.gr g3)
  clear R0 G0 g3 c0 c1 c2 c3 c4 c5 c6 c7 c8 c9 c10
  have c6 := R3.out.2.2.2.2.2.2.1
  have c7 := R3.out.2.2.2.2.2.2.2.1
  have c8 := R3.out.2.2.2.2.2.2.2.2.1
  have c9 := R3.out.2.2.2.2.2.2.2.2.2.1
  obtain ⟨p1, e1⟩ : ∃ p, decide (-604800 ≤ at') = p := ⟨_, rfl⟩
  obtain ⟨p2, e2⟩ : ∃ p, decide (at' ≤ 604800) = p := ⟨_, rfl⟩
  obtain ⟨p3, e3⟩ : ∃ p, decide (0 ≤ by') = p := ⟨_, rfl⟩
  obtain ⟨p4, e4⟩ : ∃ p, decide (by' < 3) = p := ⟨_, rfl⟩
  obtain ⟨p5, e5⟩ : ∃ p, decide (0 ≤ sv) = p := ⟨_, rfl⟩
  obtain ⟨p6, e6⟩ : ∃ p, decide (sv ≤ 10800) = p := ⟨_, rfl⟩
  obtain ⟨q, e7⟩ : ∃ p, decide (Cal.ml 1999 mo < n) = p := ⟨_, rfl⟩
  have RB := rest_bool p1 p2 p3 p4 p5 p6 q e1 e2 e3 e4 e5 e6 e7
  have HC : Hid (C = if (!q && (p1 && p2) && (p3 && p4) && (p5 && p6)) = true then 0 else 1) := by
    unfold Hid
    split
    · rename_i h; exact X0.out SYN.out NUM.out DOK.out (RB.2 h)
    · rename_i h; exact X1.out SYN.out (fun g => h (RB.1 g.2.2))
  clear RB X0 X1 SYN NUM DOK HL
  generalize Cal.ml 1999 mo = ml at e7 ⊢
  cases p1 <;> cases p3 <;> cases p5 <;> cases q
  all_goals go_wp2
  all_goals go_ret
  all_goals (refine ⟨ret_int ?_, R3.out.2.2.2.2.2.2.2.2.2.2.2⟩; rw [HC.out]; clear HC R3; simp_all)
end Go.Proofs.YtkmgildnhnjepaaGreatDoor
namespace Go.Proofs.YtkmgildnhnjepaaGreatDoor
set_option linter.unusedVariables false
set_option linter.unusedSimpArgs false
theorem index_sep (c : UInt8) (b : List UInt8) : ∀ a : List UInt8, c ∉ a → Lib.index (a ++ c :: b) [c] = a.length
  | [], _ => by simp [Lib.index, List.isPrefixOf]
  | x :: a, h => by
    have hc : (c == x) = false := by
      have : ¬ c = x := fun e => h (by simp [e])
      simpa using this
    have ih := index_sep c b a (fun hm => h (List.mem_cons_of_mem _ hm))
    simp only [List.cons_append, Lib.index, List.isPrefixOf, hc, Bool.false_and, ih]
    have hn : ((a.length : Int) == -1) = false := by simp
    simp [hn]
theorem index_nosep (c : UInt8) : ∀ a : List UInt8, c ∉ a → Lib.index a [c] = -1
  | [], _ => by simp [Lib.index]
  | x :: a, h => by
    have hc : (c == x) = false := by
      have : ¬ c = x := fun e => h (by simp [e])
      simpa using this
    have ih := index_nosep c a (fun hm => h (List.mem_cons_of_mem _ hm))
    simp [Lib.index, List.isPrefixOf, hc, ih]
theorem sep_cases (c : UInt8) (l : List UInt8) : c ∉ l ∨ ∃ a b, l = a ++ c :: b ∧ c ∉ a := by
  by_cases h : c ∈ l
  · right
    induction l with
    | nil => simp at h
    | cons x l ih =>
      by_cases e : x = c
      · exact ⟨[], l, by simp [e], by simp⟩
      · have hm : c ∈ l := by
          rcases List.mem_cons.1 h with q | q
          · exact absurd q.symm e
          · exact q
        obtain ⟨a, b, rfl, ha⟩ := ih hm
        exact ⟨x :: a, b, rfl, by intro q; rcases List.mem_cons.1 q with q | q; exact e q.symm; exact ha q⟩
  · exact Or.inl h
theorem lettersB_all {s o : List UInt8} : ∀ {n : Nat}, lettersB s o n = true → ∀ j, j < n → (alnum (bt s j) || inB o (bt s j) o.length) = true := by
  intro n
  induction n with
  | zero => intro _ j hj; omega
  | succ n ih =>
    intro h j hj
    unfold lettersB at h
    simp only [Bool.and_eq_true] at h
    by_cases e : j = n
    · rw [e]; exact h.2
    · exact ih h.1 j (by omega)
end Go.Proofs.YtkmgildnhnjepaaGreatDoor
