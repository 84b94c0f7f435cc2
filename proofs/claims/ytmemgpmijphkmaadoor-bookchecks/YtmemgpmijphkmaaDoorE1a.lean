/- What the project's Check and move of package day return, for every input. -/
import Derived.Test.YtmemgpmijphkmaaDoorD1
import Derived.Test.YtmemgpmijphkmaaDoorD2
namespace Go.Proofs.YtmemgpmijphkmaaDoor
set_option linter.unusedVariables false
set_option linter.unusedSimpArgs false
open Go.RowKit

theorem leT {a b : Int} (h : a ≤ b) : decide (a ≤ b) = true := by simp [h]
theorem leF {a b : Int} (h : ¬ a ≤ b) : decide (a ≤ b) = false := by simp at h ⊢; exact h
set_option maxHeartbeats 2000000 in
theorem check_walk (k d n : Int) (w : World) (p1 p2 p3 p4 p5 p6 q1 q2 q3 q4 : Bool)
    (e1 : decide (0 ≤ d) = p1) (e2 : decide (d < 7) = p2) (e3 : decide (1 ≤ n) = p3) (e4 : decide (n ≤ 31) = p4) (e5 : (d == 0) = p5) (e6 : (n == 0) = p6)
    (f1 : (k == 1) = q1) (f2 : (k == 2) = q2) (f3 : (k == 3) = q3) (f4 : (k == 4) = q4) (r : Int)
    (hr : r = if q1 || q2 || q3 || q4 then (if (if q1 then p5 else p1 && p2) && (if q2 && !q1 then p6 else p3 && p4) then 0 else 1) else 1) :
    Calls Tryd.prog 37 #[dayV k d n] w fun e w' => e = .returned (.int .i64 r) ∧ Gr w w' := by
  have HR := Lib.hid hr
  clear hr
  cases p1 <;> cases p3 <;> cases q1 <;> cases q2
  all_goals
    go_enter Tryd.func37, Tryd.ntmps37
    go_wp2
  all_goals go_ret
  all_goals (refine ⟨ret_int ?_, Gr.alloc _ _⟩; rw [HR.out]; clear HR; simp_all)

theorem dayCheck (k d n : Int) (w : World) :
    Calls Tryd.prog 37 #[dayV k d n] w fun e w' => e = .returned (.int .i64 (dchk k d n)) ∧ Gr w w' := by
  refine check_walk k d n w _ _ _ _ _ _ _ _ _ _ rfl rfl rfl rfl rfl rfl rfl rfl rfl rfl (dchk k d n) ?_
  have x : (k == 1 || k == 2 || k == 3 || k == 4) = decide (1 ≤ k ∧ k ≤ 4) := by rw [Bool.eq_iff_iff]; simp; omega
  rw [x]
  by_cases c : 1 ≤ k ∧ k ≤ 4
  · rw [if_pos (by simpa using c)]
    unfold dchk
    by_cases h : DayOk k d n
    · rw [if_pos h, if_pos]
      unfold DayOk at h
      by_cases a : k = 1
      · subst a; simp; omega
      · by_cases b : k = 2
        · subst b; simp; omega
        · simp [a, b]; omega
    · rw [if_neg h, if_neg]
      intro hh
      apply h
      unfold DayOk
      by_cases a : k = 1
      · subst a; simp at hh ⊢; omega
      · by_cases b : k = 2
        · subst b; simp at hh ⊢; omega
        · simp [a, b] at hh ⊢; omega
  · rw [if_neg (by simpa using c)]
    exact dchk_no (by unfold DayOk; omega)

/-- how far the looked-for day is from day N -/
def mv (k d wd : Int) : Int := if k = 3 then (d - wd + 7) % 7 else if k = 4 then -((wd - d + 7) % 7) else 0
end Go.Proofs.YtmemgpmijphkmaaDoor
