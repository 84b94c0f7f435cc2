/- What the functions of package civil return (Length, Days, Date, Weekday), for every input. -/
import Derived.Test.YteljpjhjoclkfaaDoorW1
namespace Go.Proofs.YteljpjhjoclkfaaDoor
set_option linter.unusedVariables false
set_option linter.unusedSimpArgs false
open Go.RowKit

set_option maxHeartbeats 400000 in
theorem length_yes (y m : Int) (w : World) (hl : HasLen w) (h1 : 1600 ≤ y) (h2 : y ≤ 2399) (h3 : 1 ≤ m) (h4 : m ≤ 12) :
    Calls Tryd.prog 13 #[.int .i64 y, .int .i64 m] w fun e w' => e = two (Cal.ml y m) 0 ∧ w = w' := by
  go_enter Tryd.func13, Tryd.ntmps13
  go_wp2_with (first | (go_at_call 30; refine (monthLength_any _ _ _ hl (by omega) (by omega) (by omega) (by omega)).mono ?_; rintro e w' ⟨rfl, rfl⟩) | go_in)
  go_ret2
  exact ⟨rfl, rfl⟩

set_option maxHeartbeats 400000 in
theorem length_no (y m : Int) (w : World) (h : ¬ (1600 ≤ y ∧ y ≤ 2399 ∧ 1 ≤ m ∧ m ≤ 12)) :
    Calls Tryd.prog 13 #[.int .i64 y, .int .i64 m] w fun e w' => e = two 0 1 ∧ w = w' := by
  by_cases h1 : 1600 ≤ y
  · by_cases h2 : y ≤ 2399
    · by_cases h3 : 1 ≤ m
      · have h4 : decide (m ≤ 12) = false := by simp; omega
        clear h
        go_enter Tryd.func13, Tryd.ntmps13
        go_wp2
        go_ret2
        exact ⟨rfl, rfl⟩
      · clear h
        go_enter Tryd.func13, Tryd.ntmps13
        go_wp2
        go_ret2
        exact ⟨rfl, rfl⟩
    · clear h
      go_enter Tryd.func13, Tryd.ntmps13
      go_wp2
      go_ret2
      exact ⟨rfl, rfl⟩
  · clear h
    go_enter Tryd.func13, Tryd.ntmps13
    go_wp2
    go_ret2
    exact ⟨rfl, rfl⟩

theorem guess {n y : Int} (h1 : 1600 ≤ y) (h : n < Cal.ys (y + 1)) : 1600 + (n + 135140) / 366 ≤ y := by
  unfold Cal.ys at h; omega
end Go.Proofs.YteljpjhjoclkfaaDoor
