/- What the reference's DayOf returns, for every input. -/
import Derived.Test.YtmemgpmijphkmaaDoorD1
import Derived.Deep.QuietTactic
import Derived.BigQuiet
namespace Go.Proofs.YtmemgpmijphkmaaDoor
set_option linter.unusedVariables false
set_option linter.unusedSimpArgs false
open Go.RowKit

/-- the first day from one on that is a given weekday -/
def nd (a d : Int) : Int := a + (d - (a + 135146)) % 7
theorem nd_bd (a d : Int) : a ≤ nd a d ∧ nd a d ≤ a + 6 := by unfold nd; omega
theorem nd_is {a d : Int} (h1 : 0 ≤ d) (h2 : d ≤ 6) : (nd a d + 135146) % 7 = d := by unfold nd; omega
theorem nd_not {a d j : Int} (h1 : 0 ≤ d) (h2 : d ≤ 6) (h3 : a ≤ j) (h4 : j < nd a d) : ¬ (j + 135146) % 7 = d := by unfold nd at h4; omega
/-- the day that is looked for -/
def dayT (y m k d n : Int) : Int := if k = 1 then Cal.days y m 1 + n - 1 else if k = 2 then nd (Cal.days y m 1 + Cal.ml y m - 7) d else if k = 3 then nd (Cal.days y m 1 + n - 1) d else nd (Cal.days y m 1 + n - 1 - 6) d
/-- what DayOf answers -/
def dayA (y m k d n : Int) : Ending := if DayOk k d n then (if 1600 ≤ y ∧ y ≤ 2399 ∧ 1 ≤ m ∧ m ≤ 12 then (if Cal.ml y m < n then two 0 6 else if -135140 ≤ dayT y m k d n ∧ dayT y m k d n ≤ 157053 then two (dayT y m k d n) 0 else two 0 1) else two 0 1) else two 0 1

theorem first_valid {y m : Int} (h1 : 1600 ≤ y) (h2 : y ≤ 2399) (h3 : 1 ≤ m) (h4 : m ≤ 12) : Cal.Valid y m 1 := ⟨h1, h2, h3, h4, by omega, by have := (Cal.ml_bd y h3 h4).1; omega⟩
theorem dayA_ok {y m k d n : Int} (h : DayOk k d n) (h1 : 1600 ≤ y) (h2 : y ≤ 2399) (h3 : 1 ≤ m) (h4 : m ≤ 12) (hl : ¬ Cal.ml y m < n) : dayA y m k d n = if -135140 ≤ dayT y m k d n ∧ dayT y m k d n ≤ 157053 then two (dayT y m k d n) 0 else two 0 1 := by
  unfold dayA; rw [if_pos h, if_pos ⟨h1, h2, h3, h4⟩, if_neg hl]
end Go.Proofs.YtmemgpmijphkmaaDoor
