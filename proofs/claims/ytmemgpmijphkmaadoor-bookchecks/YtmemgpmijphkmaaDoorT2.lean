/- What the reference's Stamp returns, for every input. -/
import Derived.Test.YtmemgpmijphkmaaDoorT1
import Derived.Test.YtmemgpmijphkmaaDoorW5
namespace Go.Proofs.YtmemgpmijphkmaaDoor
set_option linter.unusedVariables false
set_option linter.unusedSimpArgs false
open Go.RowKit

theorem whole_day {n r : Int} (h1 : 0 ≤ r) (h2 : r < 86400) : (86400 * n + r) % 86400 = r := by omega

theorem stamp_far {t : Int} (t1 : -9223372036854775808 ≤ t) (t2 : t ≤ 9223372036854775807) (h : ¬ (-135140 ≤ t / 86400 ∧ t / 86400 ≤ 157053)) :
    ¬ (-135140 ≤ wrap64 ((wrap64 (t - t % 86400)).tdiv 86400) ∧ wrap64 ((wrap64 (t - t % 86400)).tdiv 86400) ≤ 157053) := by
  have e : t - t % 86400 = 86400 * (t / 86400) := by omega
  by_cases c : -9223372036854775808 ≤ t - t % 86400
  · have e1 : wrap64 (t - t % 86400) = t - t % 86400 := IntWalk.wrap64_in _ ⟨by omega, by omega⟩
    rw [e1, e, Int.mul_tdiv_cancel_left _ (by omega : (86400 : Int) ≠ 0), IntWalk.wrap64_in _ ⟨by omega, by omega⟩]
    exact h
  · have e1 : wrap64 (t - t % 86400) = t - t % 86400 + 18446744073709551616 := by unfold wrap64; omega
    rw [e1, Int.tdiv_eq_ediv_of_nonneg (by omega), IntWalk.wrap64_in _ ⟨by omega, by omega⟩]
    omega
end Go.Proofs.YtmemgpmijphkmaaDoor
