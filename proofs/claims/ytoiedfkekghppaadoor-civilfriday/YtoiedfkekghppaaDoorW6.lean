/- The statements' helpers once more, with the date and the day that they choose under names of their own. -/
import Derived.Test.YtoiedfkekghppaaDoorW4
namespace Go.Proofs.YtoiedfkekghppaaDoor
open Go.RowKit

/-- what 'date' chooses -/
def Chosen (w : World) (e : Ending) (w' : World) : Prop := ∃ y m d : Int, Cal.Valid y m d ∧ e = three y m d ∧ Gr w w'
theorem date_some (y m d : Int) (w : World) (y1 : -9223372036854775808 ≤ y) (y2 : y ≤ 9223372036854775807) (m1 : -9223372036854775808 ≤ m) (m2 : m ≤ 9223372036854775807)
    (d1 : -9223372036854775808 ≤ d) (d2 : d ≤ 9223372036854775807) :
    Calls Tryd.prog 23 #[.int .i64 y, .int .i64 m, .int .i64 d] w (Chosen w) :=
  (date_any y m d w y1 y2 m1 m2 d1 d2).mono fun _ _ ⟨he, hg⟩ => ⟨_, _, _, date_valid y m d, he, hg⟩

/-- what 'some' chooses -/
def ADay (w : World) (e : Ending) (w' : World) : Prop := ∃ y m d : Int, Cal.Valid y m d ∧ e = .returned (.int .i64 (Cal.days y m d)) ∧ Gr w w'
theorem some_day (n : Int) (w : World) (b1 : -9223372036854775808 ≤ n) (b2 : n ≤ 9223372036854775807) :
    Calls Tryd.prog 24 #[.int .i64 n] w (ADay w) :=
  (some_any n w b1 b2).mono fun _ _ ⟨he, hg⟩ => by
    obtain ⟨y, m, d, hv, hd⟩ := Cal.has_date (n := n % 292194 - 135140) (by omega) (by omega)
    exact ⟨y, m, d, hv, by rw [hd]; exact he, hg⟩
end Go.Proofs.YtoiedfkekghppaaDoor
