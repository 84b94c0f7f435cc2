/- What the reference's functions on days of months return: DayCheck, IsTime, DayOf. What the reference's RuleCheck returns, for every rule. What the reference's DayOf returns, for every input. What the project's Check and move of package day return, for every input. -/
import Derived.Test.YtbagdlafpahgdaaGreatDoorRM07
import Derived.Test.YtbagdlafpahgdaaGreatDoorRM04
import Derived.Deep.QuietTactic
import Derived.BigQuiet
namespace Go.Proofs.YtbagdlafpahgdaaGreatDoor
set_option linter.unusedVariables false
set_option linter.unusedSimpArgs false
open Go.RowKit
/-- a day of a month as a value -/
abbrev dayV (k d n : Int) : Value := .agg #[.int .i64 k, .int .i64 d, .int .i64 n]
def DayOk (k d n : Int) : Prop := (1 ≤ k ∧ k ≤ 4) ∧ (0 ≤ d ∧ d ≤ 6) ∧ (k = 1 → d = 0) ∧ (k = 2 → n = 0) ∧ (k ≠ 2 → 1 ≤ n ∧ n ≤ 31)
instance (k d n : Int) : Decidable (DayOk k d n) := by unfold DayOk; infer_instance
/-- what DayCheck answers -/
def dchk (k d n : Int) : Int := if DayOk k d n then 0 else 1

theorem dchk_yes {k d n : Int} (h : DayOk k d n) : dchk k d n = 0 := by unfold dchk; exact if_pos h
theorem dchk_no {k d n : Int} (h : ¬ DayOk k d n) : dchk k d n = 1 := by unfold dchk; exact if_neg h

end Go.Proofs.YtbagdlafpahgdaaGreatDoor
namespace Go.Proofs.YtbagdlafpahgdaaGreatDoor
set_option linter.unusedVariables false
set_option linter.unusedSimpArgs false
open Go.RowKit
/-- a rule as a value -/
abbrev ruleV (nm : ByteArray) (fr tto mo k d n at' by' sv : Int) (lt : ByteArray) : Value :=
  .agg #[.string nm, .int .i64 fr, .int .i64 tto, .int .i64 mo, .int .i64 k, .int .i64 d, .int .i64 n, .int .i64 at', .int .i64 by', .int .i64 sv, .string lt]
/-- its words can be read -/
def RuleSyn (nm lt : List UInt8) : Prop := isNameB nm = true ∧ (lt = [45] ∨ isAbbrB lt = true)
def RuleNum (fr tto mo : Int) : Prop := (1900 ≤ fr ∧ fr ≤ 2100) ∧ (1900 ≤ tto ∧ tto ≤ 2100) ∧ fr ≤ tto ∧ 1 ≤ mo ∧ mo ≤ 12
def RuleRest (mo n at' by' sv : Int) : Prop := n ≤ Cal.ml 1999 mo ∧ (-604800 ≤ at' ∧ at' ≤ 604800) ∧ (0 ≤ by' ∧ by' ≤ 2) ∧ 0 ≤ sv ∧ sv ≤ 10800
instance (nm lt : List UInt8) : Decidable (RuleSyn nm lt) := by unfold RuleSyn; infer_instance
instance (fr tto mo : Int) : Decidable (RuleNum fr tto mo) := by unfold RuleNum; infer_instance
instance (mo n at' by' sv : Int) : Decidable (RuleRest mo n at' by' sv) := by unfold RuleRest; infer_instance
/-- what RuleCheck answers -/
def ruleC (nm lt : List UInt8) (fr tto mo k d n at' by' sv : Int) : Int :=
  if RuleSyn nm lt then (if RuleNum fr tto mo then (if DayOk k d n then (if RuleRest mo n at' by' sv then 0 else 1) else 1) else 1) else 3

/-- a rule lies in a block of its own -/
def RuleAt (w W : World) (b : Nat) (nm : ByteArray) (fr tto mo k d n at' by' sv : Int) (lt : ByteArray) : Prop :=
  W.cell? ⟨b, 0, none⟩ = some (.string nm) ∧ W.cell? ⟨b, 1, none⟩ = some (.int .i64 fr) ∧ W.cell? ⟨b, 2, none⟩ = some (.int .i64 tto) ∧ W.cell? ⟨b, 3, none⟩ = some (.int .i64 mo) ∧ W.cell? ⟨b, 4, none⟩ = some (.int .i64 k) ∧
  W.cell? ⟨b, 5, none⟩ = some (.int .i64 d) ∧ W.cell? ⟨b, 6, none⟩ = some (.int .i64 n) ∧ W.cell? ⟨b, 7, none⟩ = some (.int .i64 at') ∧ W.cell? ⟨b, 8, none⟩ = some (.int .i64 by') ∧ W.cell? ⟨b, 9, none⟩ = some (.int .i64 sv) ∧
  W.cell? ⟨b, 10, none⟩ = some (.string lt) ∧ Gr w W
theorem RuleAt.gr {w W W' : World} {b : Nat} {nm : ByteArray} {fr tto mo k d n at' by' sv : Int} {lt : ByteArray} (h : RuleAt w W b nm fr tto mo k d n at' by' sv lt) (g : Gr W W') : RuleAt w W' b nm fr tto mo k d n at' by' sv lt := by
  obtain ⟨h0, h1, h2, h3, h4, h5, h6, h7, h8, h9, h10, hg⟩ := h
  exact ⟨g.holds h0, g.holds h1, g.holds h2, g.holds h3, g.holds h4, g.holds h5, g.holds h6, g.holds h7, g.holds h8, g.holds h9, g.holds h10, hg.trans g⟩
theorem RuleAt.new (w : World) (T : TypeId) (nm : ByteArray) (fr tto mo k d n at' by' sv : Int) (lt : ByteArray) :
    RuleAt w (w.alloc (.cells #[.string nm, .int .i64 fr, .int .i64 tto, .int .i64 mo, .int .i64 k, .int .i64 d, .int .i64 n, .int .i64 at', .int .i64 by', .int .i64 sv, .string lt] T)) w.heap.size nm fr tto mo k d n at' by' sv lt := by
  refine ⟨?_, ?_, ?_, ?_, ?_, ?_, ?_, ?_, ?_, ?_, ?_, Gr.alloc _ _⟩ <;> (rw [World.cell?_alloc_new]; rfl)

end Go.Proofs.YtbagdlafpahgdaaGreatDoor
namespace Go.Proofs.YtbagdlafpahgdaaGreatDoor
set_option linter.unusedVariables false
set_option linter.unusedSimpArgs false
open Go.RowKit
/-- the first day from one on that is a given weekday -/
def nd (a d : Int) : Int := a + (d - (a + 135146)) % 7
theorem nd_bd (a d : Int) : a ≤ nd a d ∧ nd a d ≤ a + 6 := by unfold nd; omega
/-- the day that is looked for -/
def dayT (y m k d n : Int) : Int := if k = 1 then Cal.days y m 1 + n - 1 else if k = 2 then nd (Cal.days y m 1 + Cal.ml y m - 7) d else if k = 3 then nd (Cal.days y m 1 + n - 1) d else nd (Cal.days y m 1 + n - 1 - 6) d
/-- what DayOf answers -/
def dayA (y m k d n : Int) : Ending := if DayOk k d n then (if 1600 ≤ y ∧ y ≤ 2399 ∧ 1 ≤ m ∧ m ≤ 12 then (if Cal.ml y m < n then two 0 6 else if -135140 ≤ dayT y m k d n ∧ dayT y m k d n ≤ 157053 then two (dayT y m k d n) 0 else two 0 1) else two 0 1) else two 0 1

theorem dayA_ok {y m k d n : Int} (h : DayOk k d n) (h1 : 1600 ≤ y) (h2 : y ≤ 2399) (h3 : 1 ≤ m) (h4 : m ≤ 12) (hl : ¬ Cal.ml y m < n) : dayA y m k d n = if -135140 ≤ dayT y m k d n ∧ dayT y m k d n ≤ 157053 then two (dayT y m k d n) 0 else two 0 1 := by
  unfold dayA; rw [if_pos h, if_pos ⟨h1, h2, h3, h4⟩, if_neg hl]

end Go.Proofs.YtbagdlafpahgdaaGreatDoor
namespace Go.Proofs.YtbagdlafpahgdaaGreatDoor
set_option linter.unusedVariables false
set_option linter.unusedSimpArgs false
open Go.RowKit
set_option maxHeartbeats 2000000 in
theorem check_walk (k d n : Int) (w : World) (p1 p2 p3 p4 p5 p6 q1 q2 q3 q4 : Bool)
    (e1 : decide (0 ≤ d) = p1) (e2 : decide (d < 7) = p2) (e3 : decide (1 ≤ n) = p3) (e4 : decide (n ≤ 31) = p4) (e5 : (d == 0) = p5) (e6 : (n == 0) = p6)
    (f1 : (k == 1) = q1) (f2 : (k == 2) = q2) (f3 : (k == 3) = q3) (f4 : (k == 4) = q4) (r : Int)
    (hr : r = if q1 || q2 || q3 || q4 then (if (if q1 then p5 else p1 && p2) && (if q2 && !q1 then p6 else p3 && p4) then 0 else 1) else 1) :
    Calls Tryz.prog 84 #[dayV k d n] w fun e w' => e = .returned (.int .i64 r) ∧ Gr w w' := by
  have HR := Lib.hid hr
  clear hr
  cases p1 <;> cases p3 <;> cases q1 <;> cases q2
  all_goals
    go_enter Tryz.func84, Tryz.ntmps84
    go_wp2
  all_goals go_ret
  all_goals (refine ⟨ret_int ?_, Gr.alloc _ _⟩; rw [HR.out]; clear HR; simp_all)

theorem dayCheck (k d n : Int) (w : World) :
    Calls Tryz.prog 84 #[dayV k d n] w fun e w' => e = .returned (.int .i64 (dchk k d n)) ∧ Gr w w' := by
  refine check_walk k d n w _ _ _ _ _ _ _ _ _ _ rfl rfl rfl rfl rfl rfl rfl rfl rfl rfl (dchk k d n) ?_
  have x : (k == 1 || k == 2 || k == 3 || k == 4) = decide (1 ≤ k ∧ k ≤ 4) := by rw [Bool.eq_iff_iff]; simp; omega
  rw [x]
  by_cases c : 1 ≤ k ∧ k ≤ 4
  · rw [if_pos (by simpa using c)]
    unfold dchk
    by_cases h : DayOk k d n
    · rw [if_pos h, if_pos]
      unfold DayOk at h
      by_cases a : k = 1
      · subst a; simp; omega
      · by_cases b : k = 2
        · subst b; simp; omega
        · simp [a, b]; omega
    · rw [if_neg h, if_neg]
      intro hh
      apply h
      unfold DayOk
      by_cases a : k = 1
      · subst a; simp at hh ⊢; omega
      · by_cases b : k = 2
        · subst b; simp at hh ⊢; omega
        · simp [a, b] at hh ⊢; omega
  · rw [if_neg (by simpa using c)]
    exact dchk_no (by unfold DayOk; omega)

/-- how far the looked-for day is from day N -/
def mv (k d wd : Int) : Int := if k = 3 then (d - wd + 7) % 7 else if k = 4 then -((wd - d + 7) % 7) else 0

set_option maxHeartbeats 400000 in
theorem move_any (k d n wd : Int) (w : World) (d1 : 0 ≤ d) (d2 : d ≤ 6) (w1 : 0 ≤ wd) (w2 : wd ≤ 6) :
    Calls Tryz.prog 96 #[dayV k d n, .int .i64 wd] w fun e w' => e = .returned (.int .i64 (mv k d wd)) ∧ Gr w w' := by
  by_cases a : k = 3
  · subst a
    have E := Lib.hid (show mv 3 d wd = (d - wd + 7) % 7 by simp [mv])
    go_enter Tryz.func96, Tryz.ntmps96
    go_wp2
    go_ret
    exact ⟨ret_int (by have := E.out; omega), by first | exact Gr.alloc _ _ | exact (Gr.alloc _ _).drewN _⟩
  · by_cases b : k = 4
    · subst b
      have E := Lib.hid (show mv 4 d wd = -((wd - d + 7) % 7) by simp [mv])
      go_enter Tryz.func96, Tryz.ntmps96
      go_wp2
      go_ret
      exact ⟨ret_int (by have := E.out; omega), by first | exact Gr.alloc _ _ | exact (Gr.alloc _ _).drewN _⟩
    · have E := Lib.hid (show mv k d wd = 0 by simp [mv, a, b])
      have a' : (k == 3) = false := beqF a
      have b' : (k == 4) = false := beqF b
      clear a b
      go_enter Tryz.func96, Tryz.ntmps96
      go_wp2
      go_ret
      exact ⟨ret_int (by have := E.out; omega), by first | exact Gr.alloc _ _ | exact (Gr.alloc _ _).drewN _⟩
end Go.Proofs.YtbagdlafpahgdaaGreatDoor
