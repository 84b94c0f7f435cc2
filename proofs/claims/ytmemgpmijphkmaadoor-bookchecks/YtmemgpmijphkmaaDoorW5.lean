/- What the reference's Date returns, for every input. -/
import Derived.Test.YtmemgpmijphkmaaDoorW4
namespace Go.Proofs.YtmemgpmijphkmaaDoor
set_option linter.unusedVariables false
set_option linter.unusedSimpArgs false
open Go.RowKit

theorem guess_pos {n y : Int} (h : n < Cal.ys (y + 1)) (hn : 0 ≤ n) (h2 : y ≤ 2399) : 1970 + n / 366 ≤ y := by
  unfold Cal.ys at h; omega
theorem guess_neg {n y : Int} (h : n < Cal.ys (y + 1)) (hn : n < 0) (h0 : -135140 ≤ n) (h1 : 1600 ≤ y) : 1970 - -n / 365 - 1 ≤ y ∧ 1599 ≤ 1970 - -n / 365 - 1 := by
  unfold Cal.ys at h; omega
theorem tdiv_neg {n : Int} (hn : n < 0) : n.tdiv 365 = - (-n / 365) := by
  have h1 : (-n).tdiv 365 = -n / 365 := Int.tdiv_eq_ediv_of_nonneg (by omega)
  have h2 : (-n).tdiv 365 = - n.tdiv 365 := Int.neg_tdiv n 365
  omega
end Go.Proofs.YtmemgpmijphkmaaDoor
