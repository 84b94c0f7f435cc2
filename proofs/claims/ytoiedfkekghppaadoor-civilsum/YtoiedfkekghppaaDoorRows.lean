/-
  NARROWER THAN 'FOR EVERY INPUT', by the rows' own cells (each row's printed sentence says how): CivilLengths: laid · CivilDays: laid · CivilDates: laid · CivilWeekdays: laid · CivilBack: laid · CivilNext: laid · CivilYears: laid · CivilDoomsday: laid · CivilFriday: laid · CivilSum: laid · CivilWeek: laid.
  DERIVED. THE GIVEN ROWS OF THIS SEAT. 11 by the template 'for every input the law returns true; each argument reads behind the call as it read before'; 0 by the template 'total and deterministic' (their statements: YtoiedfkekghppaaDoorTotals.lean).
  GIVEN WITH THE SEED: the statements are not yours to turn. If you find one false, say at which input.
  Laid BY PROGRAM, IN A SANDBOX (cutbox-rows.mjs): the forced cells as the released guide's own fill.sh prints them over the translation 6867d1dbdd000bd8… (all of the seat's roots in one cut). By AI agents, Wed Nov 11 2026. No macro, syntax, notation, axiom, sorry.
-/
import Derived.Test.YtoiedfkekghppaaDoorChecked
import GoSem.Claim
import GoSem.ClaimJoined
import GoSem.ClaimMapViews
import Derived.JoinedTies
import Derived.KernelRfl
namespace Go.Proofs.YtoiedfkekghppaaDoor
/- THE CELL 'sum', in the pinned program and in every row, IS THE sha256 OF THE DUMP (.gsa) THAT YtoiedfkekghppaaDoorProg.lean LOADS. Nothing in Lean hashes anything: it is a label: what it is worth is what the hold of that sum in a sandbox is worth. -/
noncomputable def Tryd.pinned : Pinned := { name := "ytoiedfkekghppaadoor", sum := "6867d1dbdd000bd8773258287785a2a518230ac83bc07cde72fefec3da9d85e6", checked := Tryd.checked }
namespace Rows
def none {H : Type} : Left H := { results := [], args := [] }

/- WHAT THE LISTED PACKAGE-LEVEL VARIABLES READ AS WHEN THE CALL BEGINS. Each datum BY PROGRAM (the guide's laid-datum.mjs) off the statement by which the dump's own 'gosem.cut.vars' lays the variable. In a bare row this is a premise. The card (YtoiedfkekghppaaDoorCards.lean) ties it to the program's text. -/
def laid_timeball_civil_lengths {H : Type} : DataW H := .agg [.lit (.int .i64 31), .lit (.int .i64 28), .lit (.int .i64 31), .lit (.int .i64 30), .lit (.int .i64 31), .lit (.int .i64 30), .lit (.int .i64 31), .lit (.int .i64 31), .lit (.int .i64 30), .lit (.int .i64 31), .lit (.int .i64 30), .lit (.int .i64 31)]

/-- 'timeballlaw.CivilLengths': WHATEVER THE INPUT: true; the input reads as it did. -/
def civilLengthsSpec : ChangeSpec := { name := "civilLengths", fn := fun _ => fun
  | [d1, d2] => { results := [.lit (.bool true)], args := [d1, d2] }
  | _ => none }
def civilLengthsRow : OpenClaim := { program := "ytoiedfkekghppaadoor", sum := "6867d1dbdd000bd8773258287785a2a518230ac83bc07cde72fefec3da9d85e6", func := "timeball/timeballlaw.CivilLengths", spec := "civilLengths", named := ["timeball/civil.lengths"], apart := false, laid := [("timeball/civil.lengths", laid_timeball_civil_lengths)] }
def CivilLengthsSaid : Prop := civilLengthsRow.holds Tryd.pinned (OpenSpec.ofChange civilLengthsSpec)

/-- ITS FALSE NEIGHBOUR: 'it returns false'. Refute it at one input. -/
def civilLengthsWrong : ChangeSpec := { name := "civilLengths", fn := fun _ => fun
  | [d1, d2] => { results := [.lit (.bool false)], args := [d1, d2] }
  | _ => none }
def CivilLengthsWrongFalsely : Prop := civilLengthsRow.holds Tryd.pinned (OpenSpec.ofChange civilLengthsWrong)

/-- 'timeballlaw.CivilDays': WHATEVER THE INPUT: true; the input reads as it did. -/
def civilDaysSpec : ChangeSpec := { name := "civilDays", fn := fun _ => fun
  | [d1, d2, d3] => { results := [.lit (.bool true)], args := [d1, d2, d3] }
  | _ => none }
def civilDaysRow : OpenClaim := { program := "ytoiedfkekghppaadoor", sum := "6867d1dbdd000bd8773258287785a2a518230ac83bc07cde72fefec3da9d85e6", func := "timeball/timeballlaw.CivilDays", spec := "civilDays", named := ["timeball/civil.lengths"], apart := false, laid := [("timeball/civil.lengths", laid_timeball_civil_lengths)] }
def CivilDaysSaid : Prop := civilDaysRow.holds Tryd.pinned (OpenSpec.ofChange civilDaysSpec)

/-- ITS FALSE NEIGHBOUR: 'it returns false'. Refute it at one input. -/
def civilDaysWrong : ChangeSpec := { name := "civilDays", fn := fun _ => fun
  | [d1, d2, d3] => { results := [.lit (.bool false)], args := [d1, d2, d3] }
  | _ => none }
def CivilDaysWrongFalsely : Prop := civilDaysRow.holds Tryd.pinned (OpenSpec.ofChange civilDaysWrong)

/-- 'timeballlaw.CivilDates': WHATEVER THE INPUT: true; the input reads as it did. -/
def civilDatesSpec : ChangeSpec := { name := "civilDates", fn := fun _ => fun
  | [d] => { results := [.lit (.bool true)], args := [d] }
  | _ => none }
def civilDatesRow : OpenClaim := { program := "ytoiedfkekghppaadoor", sum := "6867d1dbdd000bd8773258287785a2a518230ac83bc07cde72fefec3da9d85e6", func := "timeball/timeballlaw.CivilDates", spec := "civilDates", named := ["timeball/civil.lengths"], apart := false, laid := [("timeball/civil.lengths", laid_timeball_civil_lengths)] }
def CivilDatesSaid : Prop := civilDatesRow.holds Tryd.pinned (OpenSpec.ofChange civilDatesSpec)

/-- ITS FALSE NEIGHBOUR: 'it returns false'. Refute it at one input. -/
def civilDatesWrong : ChangeSpec := { name := "civilDates", fn := fun _ => fun
  | [d] => { results := [.lit (.bool false)], args := [d] }
  | _ => none }
def CivilDatesWrongFalsely : Prop := civilDatesRow.holds Tryd.pinned (OpenSpec.ofChange civilDatesWrong)

/-- 'timeballlaw.CivilWeekdays': WHATEVER THE INPUT: true; the input reads as it did. -/
def civilWeekdaysSpec : ChangeSpec := { name := "civilWeekdays", fn := fun _ => fun
  | [d] => { results := [.lit (.bool true)], args := [d] }
  | _ => none }
def civilWeekdaysRow : OpenClaim := { program := "ytoiedfkekghppaadoor", sum := "6867d1dbdd000bd8773258287785a2a518230ac83bc07cde72fefec3da9d85e6", func := "timeball/timeballlaw.CivilWeekdays", spec := "civilWeekdays", named := ["timeball/civil.lengths"], apart := false, laid := [("timeball/civil.lengths", laid_timeball_civil_lengths)] }
def CivilWeekdaysSaid : Prop := civilWeekdaysRow.holds Tryd.pinned (OpenSpec.ofChange civilWeekdaysSpec)

/-- ITS FALSE NEIGHBOUR: 'it returns false'. Refute it at one input. -/
def civilWeekdaysWrong : ChangeSpec := { name := "civilWeekdays", fn := fun _ => fun
  | [d] => { results := [.lit (.bool false)], args := [d] }
  | _ => none }
def CivilWeekdaysWrongFalsely : Prop := civilWeekdaysRow.holds Tryd.pinned (OpenSpec.ofChange civilWeekdaysWrong)

/-- 'timeballkeep.CivilBack': WHATEVER THE INPUT: true; the input reads as it did. -/
def civilBackSpec : ChangeSpec := { name := "civilBack", fn := fun _ => fun
  | [d1, d2, d3, d4] => { results := [.lit (.bool true)], args := [d1, d2, d3, d4] }
  | _ => none }
def civilBackRow : OpenClaim := { program := "ytoiedfkekghppaadoor", sum := "6867d1dbdd000bd8773258287785a2a518230ac83bc07cde72fefec3da9d85e6", func := "timeball/timeballkeep.CivilBack", spec := "civilBack", named := ["timeball/civil.lengths"], apart := false, laid := [("timeball/civil.lengths", laid_timeball_civil_lengths)] }
def CivilBackSaid : Prop := civilBackRow.holds Tryd.pinned (OpenSpec.ofChange civilBackSpec)

/-- ITS FALSE NEIGHBOUR: 'it returns false'. Refute it at one input. -/
def civilBackWrong : ChangeSpec := { name := "civilBack", fn := fun _ => fun
  | [d1, d2, d3, d4] => { results := [.lit (.bool false)], args := [d1, d2, d3, d4] }
  | _ => none }
def CivilBackWrongFalsely : Prop := civilBackRow.holds Tryd.pinned (OpenSpec.ofChange civilBackWrong)

/-- 'timeballkeep.CivilNext': WHATEVER THE INPUT: true; the input reads as it did. -/
def civilNextSpec : ChangeSpec := { name := "civilNext", fn := fun _ => fun
  | [d] => { results := [.lit (.bool true)], args := [d] }
  | _ => none }
def civilNextRow : OpenClaim := { program := "ytoiedfkekghppaadoor", sum := "6867d1dbdd000bd8773258287785a2a518230ac83bc07cde72fefec3da9d85e6", func := "timeball/timeballkeep.CivilNext", spec := "civilNext", named := ["timeball/civil.lengths"], apart := false, laid := [("timeball/civil.lengths", laid_timeball_civil_lengths)] }
def CivilNextSaid : Prop := civilNextRow.holds Tryd.pinned (OpenSpec.ofChange civilNextSpec)

/-- ITS FALSE NEIGHBOUR: 'it returns false'. Refute it at one input. -/
def civilNextWrong : ChangeSpec := { name := "civilNext", fn := fun _ => fun
  | [d] => { results := [.lit (.bool false)], args := [d] }
  | _ => none }
def CivilNextWrongFalsely : Prop := civilNextRow.holds Tryd.pinned (OpenSpec.ofChange civilNextWrong)

/-- 'timeballkeep.CivilYears': WHATEVER THE INPUT: true; the input reads as it did. -/
def civilYearsSpec : ChangeSpec := { name := "civilYears", fn := fun _ => fun
  | [d] => { results := [.lit (.bool true)], args := [d] }
  | _ => none }
def civilYearsRow : OpenClaim := { program := "ytoiedfkekghppaadoor", sum := "6867d1dbdd000bd8773258287785a2a518230ac83bc07cde72fefec3da9d85e6", func := "timeball/timeballkeep.CivilYears", spec := "civilYears", named := ["timeball/civil.lengths"], apart := false, laid := [("timeball/civil.lengths", laid_timeball_civil_lengths)] }
def CivilYearsSaid : Prop := civilYearsRow.holds Tryd.pinned (OpenSpec.ofChange civilYearsSpec)

/-- ITS FALSE NEIGHBOUR: 'it returns false'. Refute it at one input. -/
def civilYearsWrong : ChangeSpec := { name := "civilYears", fn := fun _ => fun
  | [d] => { results := [.lit (.bool false)], args := [d] }
  | _ => none }
def CivilYearsWrongFalsely : Prop := civilYearsRow.holds Tryd.pinned (OpenSpec.ofChange civilYearsWrong)

/-- 'timeballkeep.CivilDoomsday': WHATEVER THE INPUT: true; the input reads as it did. -/
def civilDoomsdaySpec : ChangeSpec := { name := "civilDoomsday", fn := fun _ => fun
  | [d] => { results := [.lit (.bool true)], args := [d] }
  | _ => none }
def civilDoomsdayRow : OpenClaim := { program := "ytoiedfkekghppaadoor", sum := "6867d1dbdd000bd8773258287785a2a518230ac83bc07cde72fefec3da9d85e6", func := "timeball/timeballkeep.CivilDoomsday", spec := "civilDoomsday", named := ["timeball/civil.lengths"], apart := false, laid := [("timeball/civil.lengths", laid_timeball_civil_lengths)] }
def CivilDoomsdaySaid : Prop := civilDoomsdayRow.holds Tryd.pinned (OpenSpec.ofChange civilDoomsdaySpec)

/-- ITS FALSE NEIGHBOUR: 'it returns false'. Refute it at one input. -/
def civilDoomsdayWrong : ChangeSpec := { name := "civilDoomsday", fn := fun _ => fun
  | [d] => { results := [.lit (.bool false)], args := [d] }
  | _ => none }
def CivilDoomsdayWrongFalsely : Prop := civilDoomsdayRow.holds Tryd.pinned (OpenSpec.ofChange civilDoomsdayWrong)

/-- 'timeballkeep.CivilFriday': WHATEVER THE INPUT: true; the input reads as it did. -/
def civilFridaySpec : ChangeSpec := { name := "civilFriday", fn := fun _ => fun
  | [d] => { results := [.lit (.bool true)], args := [d] }
  | _ => none }
def civilFridayRow : OpenClaim := { program := "ytoiedfkekghppaadoor", sum := "6867d1dbdd000bd8773258287785a2a518230ac83bc07cde72fefec3da9d85e6", func := "timeball/timeballkeep.CivilFriday", spec := "civilFriday", named := ["timeball/civil.lengths"], apart := false, laid := [("timeball/civil.lengths", laid_timeball_civil_lengths)] }
def CivilFridaySaid : Prop := civilFridayRow.holds Tryd.pinned (OpenSpec.ofChange civilFridaySpec)

/-- ITS FALSE NEIGHBOUR: 'it returns false'. Refute it at one input. -/
def civilFridayWrong : ChangeSpec := { name := "civilFriday", fn := fun _ => fun
  | [d] => { results := [.lit (.bool false)], args := [d] }
  | _ => none }
def CivilFridayWrongFalsely : Prop := civilFridayRow.holds Tryd.pinned (OpenSpec.ofChange civilFridayWrong)

/-- 'timeballkeep.CivilSum': WHATEVER THE INPUT: true; the input reads as it did. -/
def civilSumSpec : ChangeSpec := { name := "civilSum", fn := fun _ => fun
  | [d] => { results := [.lit (.bool true)], args := [d] }
  | _ => none }
def civilSumRow : OpenClaim := { program := "ytoiedfkekghppaadoor", sum := "6867d1dbdd000bd8773258287785a2a518230ac83bc07cde72fefec3da9d85e6", func := "timeball/timeballkeep.CivilSum", spec := "civilSum", named := ["timeball/civil.lengths"], apart := false, laid := [("timeball/civil.lengths", laid_timeball_civil_lengths)] }
def CivilSumSaid : Prop := civilSumRow.holds Tryd.pinned (OpenSpec.ofChange civilSumSpec)

/-- ITS FALSE NEIGHBOUR: 'it returns false'. Refute it at one input. -/
def civilSumWrong : ChangeSpec := { name := "civilSum", fn := fun _ => fun
  | [d] => { results := [.lit (.bool false)], args := [d] }
  | _ => none }
def CivilSumWrongFalsely : Prop := civilSumRow.holds Tryd.pinned (OpenSpec.ofChange civilSumWrong)

/-- 'timeballkeep.CivilWeek': WHATEVER THE INPUT: true; the input reads as it did. -/
def civilWeekSpec : ChangeSpec := { name := "civilWeek", fn := fun _ => fun
  | [d] => { results := [.lit (.bool true)], args := [d] }
  | _ => none }
def civilWeekRow : OpenClaim := { program := "ytoiedfkekghppaadoor", sum := "6867d1dbdd000bd8773258287785a2a518230ac83bc07cde72fefec3da9d85e6", func := "timeball/timeballkeep.CivilWeek", spec := "civilWeek", named := ["timeball/civil.lengths"], apart := false, laid := [("timeball/civil.lengths", laid_timeball_civil_lengths)] }
def CivilWeekSaid : Prop := civilWeekRow.holds Tryd.pinned (OpenSpec.ofChange civilWeekSpec)

/-- ITS FALSE NEIGHBOUR: 'it returns false'. Refute it at one input. -/
def civilWeekWrong : ChangeSpec := { name := "civilWeek", fn := fun _ => fun
  | [d] => { results := [.lit (.bool false)], args := [d] }
  | _ => none }
def CivilWeekWrongFalsely : Prop := civilWeekRow.holds Tryd.pinned (OpenSpec.ofChange civilWeekWrong)

/- THE SECOND FORM. 'bulk': how many values and letters a reading holds, each counted each time it is reached (what is shared counts as often as it is met; a slice's spare places count too). A statement '..UptoSaid' is the law's where the arguments, and the package variables that the reading takes, are together of bulk at most 1048576: NARROWER than '..Said'. Prove '..Said' where nothing that the law and all that it calls make is longer than what came in: it says more and counts as full. Else prove '..UptoSaid'. A law counts once. -/
mutual
def uptoBulk {H : Type} : DataW H → Nat
  | .lit (.string bytes) => bytes.length + 1
  | .lit _ => 1
  | .nil => 1
  | .ptr d => uptoBulk d + 1
  | .slice elems spare => uptoBulkAll elems + uptoBulkAll spare + 1
  | .agg parts => uptoBulkAll parts + 1
  | .iface _ d => uptoBulk d + 1
  | .map entries => uptoBulkEntries entries + 1
  | .held _ => 1
def uptoBulkAll {H : Type} : List (DataW H) → Nat
  | [] => 0
  | d :: r => uptoBulk d + uptoBulkAll r
def uptoBulkEntries {H : Type} : List (Lit × DataW H) → Nat
  | [] => 0
  | x :: r => uptoBulkEntry x + uptoBulkEntries r
def uptoBulkEntry {H : Type} : Lit × DataW H → Nat
  | (.string bytes, d) => bytes.length + uptoBulk d + 1
  | (_, d) => uptoBulk d + 1
 end
def uptoSmall : (H : Type) → List (DataW H) → Bool := fun _ ds => decide (uptoBulkAll ds ≤ 1048576)
def OpenSpec.upto (s : _root_.Go.ChangeSpec) : _root_.Go.OpenSpec := { _root_.Go.OpenSpec.ofChange s with cond := some uptoSmall }

/-- 'timeballlaw.CivilLengths', WHERE WHAT IT READS IS OF BULK AT MOST 1048576: true; the input reads as it did. -/
def civilLengthsUptoRow : OpenClaim := { program := "ytoiedfkekghppaadoor", sum := "6867d1dbdd000bd8773258287785a2a518230ac83bc07cde72fefec3da9d85e6", func := "timeball/timeballlaw.CivilLengths", spec := "civilLengths", named := ["timeball/civil.lengths"], apart := false, laid := [("timeball/civil.lengths", laid_timeball_civil_lengths)], narrowed := true }
def CivilLengthsUptoSaid : Prop := civilLengthsUptoRow.holds Tryd.pinned (OpenSpec.upto civilLengthsSpec)

/-- 'timeballlaw.CivilDays', WHERE WHAT IT READS IS OF BULK AT MOST 1048576: true; the input reads as it did. -/
def civilDaysUptoRow : OpenClaim := { program := "ytoiedfkekghppaadoor", sum := "6867d1dbdd000bd8773258287785a2a518230ac83bc07cde72fefec3da9d85e6", func := "timeball/timeballlaw.CivilDays", spec := "civilDays", named := ["timeball/civil.lengths"], apart := false, laid := [("timeball/civil.lengths", laid_timeball_civil_lengths)], narrowed := true }
def CivilDaysUptoSaid : Prop := civilDaysUptoRow.holds Tryd.pinned (OpenSpec.upto civilDaysSpec)

/-- 'timeballlaw.CivilDates', WHERE WHAT IT READS IS OF BULK AT MOST 1048576: true; the input reads as it did. -/
def civilDatesUptoRow : OpenClaim := { program := "ytoiedfkekghppaadoor", sum := "6867d1dbdd000bd8773258287785a2a518230ac83bc07cde72fefec3da9d85e6", func := "timeball/timeballlaw.CivilDates", spec := "civilDates", named := ["timeball/civil.lengths"], apart := false, laid := [("timeball/civil.lengths", laid_timeball_civil_lengths)], narrowed := true }
def CivilDatesUptoSaid : Prop := civilDatesUptoRow.holds Tryd.pinned (OpenSpec.upto civilDatesSpec)

/-- 'timeballlaw.CivilWeekdays', WHERE WHAT IT READS IS OF BULK AT MOST 1048576: true; the input reads as it did. -/
def civilWeekdaysUptoRow : OpenClaim := { program := "ytoiedfkekghppaadoor", sum := "6867d1dbdd000bd8773258287785a2a518230ac83bc07cde72fefec3da9d85e6", func := "timeball/timeballlaw.CivilWeekdays", spec := "civilWeekdays", named := ["timeball/civil.lengths"], apart := false, laid := [("timeball/civil.lengths", laid_timeball_civil_lengths)], narrowed := true }
def CivilWeekdaysUptoSaid : Prop := civilWeekdaysUptoRow.holds Tryd.pinned (OpenSpec.upto civilWeekdaysSpec)

/-- 'timeballkeep.CivilBack', WHERE WHAT IT READS IS OF BULK AT MOST 1048576: true; the input reads as it did. -/
def civilBackUptoRow : OpenClaim := { program := "ytoiedfkekghppaadoor", sum := "6867d1dbdd000bd8773258287785a2a518230ac83bc07cde72fefec3da9d85e6", func := "timeball/timeballkeep.CivilBack", spec := "civilBack", named := ["timeball/civil.lengths"], apart := false, laid := [("timeball/civil.lengths", laid_timeball_civil_lengths)], narrowed := true }
def CivilBackUptoSaid : Prop := civilBackUptoRow.holds Tryd.pinned (OpenSpec.upto civilBackSpec)

/-- 'timeballkeep.CivilNext', WHERE WHAT IT READS IS OF BULK AT MOST 1048576: true; the input reads as it did. -/
def civilNextUptoRow : OpenClaim := { program := "ytoiedfkekghppaadoor", sum := "6867d1dbdd000bd8773258287785a2a518230ac83bc07cde72fefec3da9d85e6", func := "timeball/timeballkeep.CivilNext", spec := "civilNext", named := ["timeball/civil.lengths"], apart := false, laid := [("timeball/civil.lengths", laid_timeball_civil_lengths)], narrowed := true }
def CivilNextUptoSaid : Prop := civilNextUptoRow.holds Tryd.pinned (OpenSpec.upto civilNextSpec)

/-- 'timeballkeep.CivilYears', WHERE WHAT IT READS IS OF BULK AT MOST 1048576: true; the input reads as it did. -/
def civilYearsUptoRow : OpenClaim := { program := "ytoiedfkekghppaadoor", sum := "6867d1dbdd000bd8773258287785a2a518230ac83bc07cde72fefec3da9d85e6", func := "timeball/timeballkeep.CivilYears", spec := "civilYears", named := ["timeball/civil.lengths"], apart := false, laid := [("timeball/civil.lengths", laid_timeball_civil_lengths)], narrowed := true }
def CivilYearsUptoSaid : Prop := civilYearsUptoRow.holds Tryd.pinned (OpenSpec.upto civilYearsSpec)

/-- 'timeballkeep.CivilDoomsday', WHERE WHAT IT READS IS OF BULK AT MOST 1048576: true; the input reads as it did. -/
def civilDoomsdayUptoRow : OpenClaim := { program := "ytoiedfkekghppaadoor", sum := "6867d1dbdd000bd8773258287785a2a518230ac83bc07cde72fefec3da9d85e6", func := "timeball/timeballkeep.CivilDoomsday", spec := "civilDoomsday", named := ["timeball/civil.lengths"], apart := false, laid := [("timeball/civil.lengths", laid_timeball_civil_lengths)], narrowed := true }
def CivilDoomsdayUptoSaid : Prop := civilDoomsdayUptoRow.holds Tryd.pinned (OpenSpec.upto civilDoomsdaySpec)

/-- 'timeballkeep.CivilFriday', WHERE WHAT IT READS IS OF BULK AT MOST 1048576: true; the input reads as it did. -/
def civilFridayUptoRow : OpenClaim := { program := "ytoiedfkekghppaadoor", sum := "6867d1dbdd000bd8773258287785a2a518230ac83bc07cde72fefec3da9d85e6", func := "timeball/timeballkeep.CivilFriday", spec := "civilFriday", named := ["timeball/civil.lengths"], apart := false, laid := [("timeball/civil.lengths", laid_timeball_civil_lengths)], narrowed := true }
def CivilFridayUptoSaid : Prop := civilFridayUptoRow.holds Tryd.pinned (OpenSpec.upto civilFridaySpec)

/-- 'timeballkeep.CivilSum', WHERE WHAT IT READS IS OF BULK AT MOST 1048576: true; the input reads as it did. -/
def civilSumUptoRow : OpenClaim := { program := "ytoiedfkekghppaadoor", sum := "6867d1dbdd000bd8773258287785a2a518230ac83bc07cde72fefec3da9d85e6", func := "timeball/timeballkeep.CivilSum", spec := "civilSum", named := ["timeball/civil.lengths"], apart := false, laid := [("timeball/civil.lengths", laid_timeball_civil_lengths)], narrowed := true }
def CivilSumUptoSaid : Prop := civilSumUptoRow.holds Tryd.pinned (OpenSpec.upto civilSumSpec)

/-- 'timeballkeep.CivilWeek', WHERE WHAT IT READS IS OF BULK AT MOST 1048576: true; the input reads as it did. -/
def civilWeekUptoRow : OpenClaim := { program := "ytoiedfkekghppaadoor", sum := "6867d1dbdd000bd8773258287785a2a518230ac83bc07cde72fefec3da9d85e6", func := "timeball/timeballkeep.CivilWeek", spec := "civilWeek", named := ["timeball/civil.lengths"], apart := false, laid := [("timeball/civil.lengths", laid_timeball_civil_lengths)], narrowed := true }
def CivilWeekUptoSaid : Prop := civilWeekUptoRow.holds Tryd.pinned (OpenSpec.upto civilWeekSpec)

end Rows
end Go.Proofs.YtoiedfkekghppaaDoor
