/-
  NARROWER THAN 'FOR EVERY INPUT', by the rows' own cells (each row's printed sentence says how): DayFinds: laid · DayTells: laid · DayReads: laid · DayKinds: laid · DayBack: laid · DaySides: laid · DayUnique: laid · DayWeeks: laid · DayMonths: laid.
  DERIVED. THE GIVEN ROWS OF THIS SEAT. 9 by the template 'for every input the law returns true; each argument reads behind the call as it read before'; 0 by the template 'total and deterministic' (their statements: YtjcoapjjnplnbaaDoorTotals.lean).
  GIVEN WITH THE SEED: the statements are not yours to turn. If you find one false, say at which input.
  Laid BY PROGRAM, IN A SANDBOX (cutbox-rows.mjs): the forced cells as the released guide's own fill.sh prints them over the translation 977695eaa1a748f3… (all of the seat's roots in one cut). By AI agents, Wed Nov 11 2026. No macro, syntax, notation, axiom, sorry.
-/
import Derived.Test.YtjcoapjjnplnbaaDoorChecked
import GoSem.Claim
import GoSem.ClaimJoined
import GoSem.ClaimMapViews
import Derived.JoinedTies
import Derived.KernelRfl
namespace Go.Proofs.YtjcoapjjnplnbaaDoor
/- THE CELL 'sum', in the pinned program and in every row, IS THE sha256 OF THE DUMP (.gsa) THAT YtjcoapjjnplnbaaDoorProg.lean LOADS. Nothing in Lean hashes anything: it is a label: what it is worth is what the hold of that sum in a sandbox is worth. -/
noncomputable def Tryd.pinned : Pinned := { name := "ytjcoapjjnplnbaadoor", sum := "977695eaa1a748f3ce9521c7cfb4bc5103f65ff3cd89dbb88ec336d2f0ec4c3e", checked := Tryd.checked }
namespace Rows
def none {H : Type} : Left H := { results := [], args := [] }

/- WHAT THE LISTED PACKAGE-LEVEL VARIABLES READ AS WHEN THE CALL BEGINS. Each datum BY PROGRAM (the guide's laid-datum.mjs) off the statement by which the dump's own 'gosem.cut.vars' lays the variable. In a bare row this is a premise. The card (YtjcoapjjnplnbaaDoorCards.lean) ties it to the program's text. -/
def laid_timeball_civil_lengths {H : Type} : DataW H := .agg [.lit (.int .i64 31), .lit (.int .i64 28), .lit (.int .i64 31), .lit (.int .i64 30), .lit (.int .i64 31), .lit (.int .i64 30), .lit (.int .i64 31), .lit (.int .i64 31), .lit (.int .i64 30), .lit (.int .i64 31), .lit (.int .i64 30), .lit (.int .i64 31)]
def laid_math_bits_deBruijn32tab {H : Type} : DataW H := .agg [.lit (.int .u8 0), .lit (.int .u8 1), .lit (.int .u8 28), .lit (.int .u8 2), .lit (.int .u8 29), .lit (.int .u8 14), .lit (.int .u8 24), .lit (.int .u8 3), .lit (.int .u8 30), .lit (.int .u8 22), .lit (.int .u8 20), .lit (.int .u8 15), .lit (.int .u8 25), .lit (.int .u8 17), .lit (.int .u8 4), .lit (.int .u8 8), .lit (.int .u8 31), .lit (.int .u8 27), .lit (.int .u8 13), .lit (.int .u8 23), .lit (.int .u8 21), .lit (.int .u8 19), .lit (.int .u8 16), .lit (.int .u8 7), .lit (.int .u8 26), .lit (.int .u8 12), .lit (.int .u8 18), .lit (.int .u8 6), .lit (.int .u8 11), .lit (.int .u8 5), .lit (.int .u8 10), .lit (.int .u8 9)]
def laid_math_bits_deBruijn64tab {H : Type} : DataW H := .agg [.lit (.int .u8 0), .lit (.int .u8 1), .lit (.int .u8 56), .lit (.int .u8 2), .lit (.int .u8 57), .lit (.int .u8 49), .lit (.int .u8 28), .lit (.int .u8 3), .lit (.int .u8 61), .lit (.int .u8 58), .lit (.int .u8 42), .lit (.int .u8 50), .lit (.int .u8 38), .lit (.int .u8 29), .lit (.int .u8 17), .lit (.int .u8 4), .lit (.int .u8 62), .lit (.int .u8 47), .lit (.int .u8 59), .lit (.int .u8 36), .lit (.int .u8 45), .lit (.int .u8 43), .lit (.int .u8 51), .lit (.int .u8 22), .lit (.int .u8 53), .lit (.int .u8 39), .lit (.int .u8 33), .lit (.int .u8 30), .lit (.int .u8 24), .lit (.int .u8 18), .lit (.int .u8 12), .lit (.int .u8 5), .lit (.int .u8 63), .lit (.int .u8 55), .lit (.int .u8 48), .lit (.int .u8 27), .lit (.int .u8 60), .lit (.int .u8 41), .lit (.int .u8 37), .lit (.int .u8 16), .lit (.int .u8 46), .lit (.int .u8 35), .lit (.int .u8 44), .lit (.int .u8 21), .lit (.int .u8 52), .lit (.int .u8 32), .lit (.int .u8 23), .lit (.int .u8 11), .lit (.int .u8 54), .lit (.int .u8 26), .lit (.int .u8 40), .lit (.int .u8 15), .lit (.int .u8 34), .lit (.int .u8 20), .lit (.int .u8 31), .lit (.int .u8 10), .lit (.int .u8 25), .lit (.int .u8 14), .lit (.int .u8 19), .lit (.int .u8 9), .lit (.int .u8 13), .lit (.int .u8 8), .lit (.int .u8 7), .lit (.int .u8 6)]
def laid_internal_strconv_uint64pow10 {H : Type} : DataW H := .agg [.lit (.int .u64 1), .lit (.int .u64 10), .lit (.int .u64 100), .lit (.int .u64 1000), .lit (.int .u64 10000), .lit (.int .u64 100000), .lit (.int .u64 1000000), .lit (.int .u64 10000000), .lit (.int .u64 100000000), .lit (.int .u64 1000000000), .lit (.int .u64 10000000000), .lit (.int .u64 100000000000), .lit (.int .u64 1000000000000), .lit (.int .u64 10000000000000), .lit (.int .u64 100000000000000), .lit (.int .u64 1000000000000000), .lit (.int .u64 10000000000000000), .lit (.int .u64 100000000000000000), .lit (.int .u64 1000000000000000000), .lit (.int .u64 10000000000000000000)]
def laid_timeball_day_weekdays {H : Type} : DataW H := .agg [.lit (.string [83, 117, 110]), .lit (.string [77, 111, 110]), .lit (.string [84, 117, 101]), .lit (.string [87, 101, 100]), .lit (.string [84, 104, 117]), .lit (.string [70, 114, 105]), .lit (.string [83, 97, 116])]
def laid_strconv_ErrRange {H : Type} : DataW H := .iface "*errors.errorString" (.ptr (.agg [.lit (.string [118, 97, 108, 117, 101, 32, 111, 117, 116, 32, 111, 102, 32, 114, 97, 110, 103, 101])]))
def laid_strconv_ErrSyntax {H : Type} : DataW H := .iface "*errors.errorString" (.ptr (.agg [.lit (.string [105, 110, 118, 97, 108, 105, 100, 32, 115, 121, 110, 116, 97, 120])]))

/-- 'timeballlaw.DayFinds': WHATEVER THE INPUT: true; the input reads as it did. -/
def dayFindsSpec : ChangeSpec := { name := "dayFinds", fn := fun _ => fun
  | [d1, d2, d3] => { results := [.lit (.bool true)], args := [d1, d2, d3] }
  | _ => none }
def dayFindsRow : OpenClaim := { program := "ytjcoapjjnplnbaadoor", sum := "977695eaa1a748f3ce9521c7cfb4bc5103f65ff3cd89dbb88ec336d2f0ec4c3e", func := "timeball/timeballlaw.DayFinds", spec := "dayFinds", named := ["timeball/civil.lengths"], apart := false, laid := [("timeball/civil.lengths", laid_timeball_civil_lengths)] }
def DayFindsSaid : Prop := dayFindsRow.holds Tryd.pinned (OpenSpec.ofChange dayFindsSpec)

/-- ITS FALSE NEIGHBOUR: 'it returns false'. Refute it at one input. -/
def dayFindsWrong : ChangeSpec := { name := "dayFinds", fn := fun _ => fun
  | [d1, d2, d3] => { results := [.lit (.bool false)], args := [d1, d2, d3] }
  | _ => none }
def DayFindsWrongFalsely : Prop := dayFindsRow.holds Tryd.pinned (OpenSpec.ofChange dayFindsWrong)

/-- 'timeballlaw.DayTells': WHATEVER THE INPUT: true; the input reads as it did. -/
def dayTellsSpec : ChangeSpec := { name := "dayTells", fn := fun _ => fun
  | [d] => { results := [.lit (.bool true)], args := [d] }
  | _ => none }
def dayTellsRow : OpenClaim := { program := "ytjcoapjjnplnbaadoor", sum := "977695eaa1a748f3ce9521c7cfb4bc5103f65ff3cd89dbb88ec336d2f0ec4c3e", func := "timeball/timeballlaw.DayTells", spec := "dayTells", recurses := true, named := ["timeball/day.weekdays", "internal/strconv.uint64pow10", "math/bits.deBruijn32tab", "math/bits.deBruijn64tab"], apart := false, laid := [("math/bits.deBruijn32tab", laid_math_bits_deBruijn32tab), ("math/bits.deBruijn64tab", laid_math_bits_deBruijn64tab), ("internal/strconv.uint64pow10", laid_internal_strconv_uint64pow10), ("timeball/day.weekdays", laid_timeball_day_weekdays)] }
def DayTellsSaid : Prop := dayTellsRow.holds Tryd.pinned (OpenSpec.ofChange dayTellsSpec)

/-- ITS FALSE NEIGHBOUR: 'it returns false'. Refute it at one input. -/
def dayTellsWrong : ChangeSpec := { name := "dayTells", fn := fun _ => fun
  | [d] => { results := [.lit (.bool false)], args := [d] }
  | _ => none }
def DayTellsWrongFalsely : Prop := dayTellsRow.holds Tryd.pinned (OpenSpec.ofChange dayTellsWrong)

/-- 'timeballlaw.DayReads': WHATEVER THE INPUT: true; the input reads as it did. -/
def dayReadsSpec : ChangeSpec := { name := "dayReads", fn := fun _ => fun
  | [d] => { results := [.lit (.bool true)], args := [d] }
  | _ => none }
def dayReadsRow : OpenClaim := { program := "ytjcoapjjnplnbaadoor", sum := "977695eaa1a748f3ce9521c7cfb4bc5103f65ff3cd89dbb88ec336d2f0ec4c3e", func := "timeball/timeballlaw.DayReads", spec := "dayReads", inPlace := ["internal/bytealg.IndexByteString", "internal/bytealg.IndexString"], recurses := true, named := ["timeball/day.weekdays", "internal/bytealg.MaxLen", "strconv.ErrSyntax", "strconv.ErrRange", "internal/strconv.uint64pow10", "math/bits.deBruijn32tab", "math/bits.deBruijn64tab"], apart := false, laid := [("math/bits.deBruijn32tab", laid_math_bits_deBruijn32tab), ("math/bits.deBruijn64tab", laid_math_bits_deBruijn64tab), ("internal/strconv.uint64pow10", laid_internal_strconv_uint64pow10), ("strconv.ErrRange", laid_strconv_ErrRange), ("strconv.ErrSyntax", laid_strconv_ErrSyntax), ("timeball/day.weekdays", laid_timeball_day_weekdays)] }
def DayReadsSaid : Prop := dayReadsRow.holds Tryd.pinned (OpenSpec.ofChange dayReadsSpec)

/-- ITS FALSE NEIGHBOUR: 'it returns false'. Refute it at one input. -/
def dayReadsWrong : ChangeSpec := { name := "dayReads", fn := fun _ => fun
  | [d] => { results := [.lit (.bool false)], args := [d] }
  | _ => none }
def DayReadsWrongFalsely : Prop := dayReadsRow.holds Tryd.pinned (OpenSpec.ofChange dayReadsWrong)

/-- 'timeballkeep.DayKinds': WHATEVER THE INPUT: true; the input reads as it did. -/
def dayKindsSpec : ChangeSpec := { name := "dayKinds", fn := fun _ => fun
  | [d1, d2, d3] => { results := [.lit (.bool true)], args := [d1, d2, d3] }
  | _ => none }
def dayKindsRow : OpenClaim := { program := "ytjcoapjjnplnbaadoor", sum := "977695eaa1a748f3ce9521c7cfb4bc5103f65ff3cd89dbb88ec336d2f0ec4c3e", func := "timeball/timeballkeep.DayKinds", spec := "dayKinds", named := ["timeball/civil.lengths"], apart := false, laid := [("timeball/civil.lengths", laid_timeball_civil_lengths)] }
def DayKindsSaid : Prop := dayKindsRow.holds Tryd.pinned (OpenSpec.ofChange dayKindsSpec)

/-- ITS FALSE NEIGHBOUR: 'it returns false'. Refute it at one input. -/
def dayKindsWrong : ChangeSpec := { name := "dayKinds", fn := fun _ => fun
  | [d1, d2, d3] => { results := [.lit (.bool false)], args := [d1, d2, d3] }
  | _ => none }
def DayKindsWrongFalsely : Prop := dayKindsRow.holds Tryd.pinned (OpenSpec.ofChange dayKindsWrong)

/-- 'timeballkeep.DayBack': WHATEVER THE INPUT: true; the input reads as it did. -/
def dayBackSpec : ChangeSpec := { name := "dayBack", fn := fun _ => fun
  | [d1, d2] => { results := [.lit (.bool true)], args := [d1, d2] }
  | _ => none }
def dayBackRow : OpenClaim := { program := "ytjcoapjjnplnbaadoor", sum := "977695eaa1a748f3ce9521c7cfb4bc5103f65ff3cd89dbb88ec336d2f0ec4c3e", func := "timeball/timeballkeep.DayBack", spec := "dayBack", inPlace := ["internal/bytealg.IndexByteString", "internal/bytealg.IndexString"], named := ["timeball/civil.lengths", "timeball/day.weekdays", "internal/strconv.uint64pow10", "math/bits.deBruijn32tab", "math/bits.deBruijn64tab", "internal/bytealg.MaxLen", "strconv.ErrSyntax", "strconv.ErrRange"], apart := false, laid := [("math/bits.deBruijn32tab", laid_math_bits_deBruijn32tab), ("math/bits.deBruijn64tab", laid_math_bits_deBruijn64tab), ("internal/strconv.uint64pow10", laid_internal_strconv_uint64pow10), ("timeball/civil.lengths", laid_timeball_civil_lengths), ("strconv.ErrRange", laid_strconv_ErrRange), ("strconv.ErrSyntax", laid_strconv_ErrSyntax), ("timeball/day.weekdays", laid_timeball_day_weekdays)] }
def DayBackSaid : Prop := dayBackRow.holds Tryd.pinned (OpenSpec.ofChange dayBackSpec)

/-- ITS FALSE NEIGHBOUR: 'it returns false'. Refute it at one input. -/
def dayBackWrong : ChangeSpec := { name := "dayBack", fn := fun _ => fun
  | [d1, d2] => { results := [.lit (.bool false)], args := [d1, d2] }
  | _ => none }
def DayBackWrongFalsely : Prop := dayBackRow.holds Tryd.pinned (OpenSpec.ofChange dayBackWrong)

/-- 'timeballkeep.DaySides': WHATEVER THE INPUT: true; the input reads as it did. -/
def daySidesSpec : ChangeSpec := { name := "daySides", fn := fun _ => fun
  | [d1, d2, d3, d4] => { results := [.lit (.bool true)], args := [d1, d2, d3, d4] }
  | _ => none }
def daySidesRow : OpenClaim := { program := "ytjcoapjjnplnbaadoor", sum := "977695eaa1a748f3ce9521c7cfb4bc5103f65ff3cd89dbb88ec336d2f0ec4c3e", func := "timeball/timeballkeep.DaySides", spec := "daySides", named := ["timeball/civil.lengths"], apart := false, laid := [("timeball/civil.lengths", laid_timeball_civil_lengths)] }
def DaySidesSaid : Prop := daySidesRow.holds Tryd.pinned (OpenSpec.ofChange daySidesSpec)

/-- ITS FALSE NEIGHBOUR: 'it returns false'. Refute it at one input. -/
def daySidesWrong : ChangeSpec := { name := "daySides", fn := fun _ => fun
  | [d1, d2, d3, d4] => { results := [.lit (.bool false)], args := [d1, d2, d3, d4] }
  | _ => none }
def DaySidesWrongFalsely : Prop := daySidesRow.holds Tryd.pinned (OpenSpec.ofChange daySidesWrong)

/-- 'timeballkeep.DayUnique': WHATEVER THE INPUT: true; the input reads as it did. -/
def dayUniqueSpec : ChangeSpec := { name := "dayUnique", fn := fun _ => fun
  | [d1, d2, d3] => { results := [.lit (.bool true)], args := [d1, d2, d3] }
  | _ => none }
def dayUniqueRow : OpenClaim := { program := "ytjcoapjjnplnbaadoor", sum := "977695eaa1a748f3ce9521c7cfb4bc5103f65ff3cd89dbb88ec336d2f0ec4c3e", func := "timeball/timeballkeep.DayUnique", spec := "dayUnique", named := ["timeball/civil.lengths"], apart := false, laid := [("timeball/civil.lengths", laid_timeball_civil_lengths)] }
def DayUniqueSaid : Prop := dayUniqueRow.holds Tryd.pinned (OpenSpec.ofChange dayUniqueSpec)

/-- ITS FALSE NEIGHBOUR: 'it returns false'. Refute it at one input. -/
def dayUniqueWrong : ChangeSpec := { name := "dayUnique", fn := fun _ => fun
  | [d1, d2, d3] => { results := [.lit (.bool false)], args := [d1, d2, d3] }
  | _ => none }
def DayUniqueWrongFalsely : Prop := dayUniqueRow.holds Tryd.pinned (OpenSpec.ofChange dayUniqueWrong)

/-- 'timeballkeep.DayWeeks': WHATEVER THE INPUT: true; the input reads as it did. -/
def dayWeeksSpec : ChangeSpec := { name := "dayWeeks", fn := fun _ => fun
  | [d1, d2, d3, d4] => { results := [.lit (.bool true)], args := [d1, d2, d3, d4] }
  | _ => none }
def dayWeeksRow : OpenClaim := { program := "ytjcoapjjnplnbaadoor", sum := "977695eaa1a748f3ce9521c7cfb4bc5103f65ff3cd89dbb88ec336d2f0ec4c3e", func := "timeball/timeballkeep.DayWeeks", spec := "dayWeeks", named := ["timeball/civil.lengths"], apart := false, laid := [("timeball/civil.lengths", laid_timeball_civil_lengths)] }
def DayWeeksSaid : Prop := dayWeeksRow.holds Tryd.pinned (OpenSpec.ofChange dayWeeksSpec)

/-- ITS FALSE NEIGHBOUR: 'it returns false'. Refute it at one input. -/
def dayWeeksWrong : ChangeSpec := { name := "dayWeeks", fn := fun _ => fun
  | [d1, d2, d3, d4] => { results := [.lit (.bool false)], args := [d1, d2, d3, d4] }
  | _ => none }
def DayWeeksWrongFalsely : Prop := dayWeeksRow.holds Tryd.pinned (OpenSpec.ofChange dayWeeksWrong)

/-- 'timeballkeep.DayMonths': WHATEVER THE INPUT: true; the input reads as it did. -/
def dayMonthsSpec : ChangeSpec := { name := "dayMonths", fn := fun _ => fun
  | [d1, d2, d3] => { results := [.lit (.bool true)], args := [d1, d2, d3] }
  | _ => none }
def dayMonthsRow : OpenClaim := { program := "ytjcoapjjnplnbaadoor", sum := "977695eaa1a748f3ce9521c7cfb4bc5103f65ff3cd89dbb88ec336d2f0ec4c3e", func := "timeball/timeballkeep.DayMonths", spec := "dayMonths", named := ["timeball/civil.lengths"], apart := false, laid := [("timeball/civil.lengths", laid_timeball_civil_lengths)] }
def DayMonthsSaid : Prop := dayMonthsRow.holds Tryd.pinned (OpenSpec.ofChange dayMonthsSpec)

/-- ITS FALSE NEIGHBOUR: 'it returns false'. Refute it at one input. -/
def dayMonthsWrong : ChangeSpec := { name := "dayMonths", fn := fun _ => fun
  | [d1, d2, d3] => { results := [.lit (.bool false)], args := [d1, d2, d3] }
  | _ => none }
def DayMonthsWrongFalsely : Prop := dayMonthsRow.holds Tryd.pinned (OpenSpec.ofChange dayMonthsWrong)

/- THE SECOND FORM. 'bulk': how many values and letters a reading holds, each counted each time it is reached (what is shared counts as often as it is met; a slice's spare places count too). A statement '..UptoSaid' is the law's where the arguments, and the package variables that the reading takes, are together of bulk at most 1048576: NARROWER than '..Said'. Prove '..Said' where nothing that the law and all that it calls make is longer than what came in: it says more and counts as full. Else prove '..UptoSaid'. A law counts once. -/
mutual
def uptoBulk {H : Type} : DataW H → Nat
  | .lit (.string bytes) => bytes.length + 1
  | .lit _ => 1
  | .nil => 1
  | .ptr d => uptoBulk d + 1
  | .slice elems spare => uptoBulkAll elems + uptoBulkAll spare + 1
  | .agg parts => uptoBulkAll parts + 1
  | .iface _ d => uptoBulk d + 1
  | .map entries => uptoBulkEntries entries + 1
  | .held _ => 1
def uptoBulkAll {H : Type} : List (DataW H) → Nat
  | [] => 0
  | d :: r => uptoBulk d + uptoBulkAll r
def uptoBulkEntries {H : Type} : List (Lit × DataW H) → Nat
  | [] => 0
  | x :: r => uptoBulkEntry x + uptoBulkEntries r
def uptoBulkEntry {H : Type} : Lit × DataW H → Nat
  | (.string bytes, d) => bytes.length + uptoBulk d + 1
  | (_, d) => uptoBulk d + 1
 end
def uptoSmall : (H : Type) → List (DataW H) → Bool := fun _ ds => decide (uptoBulkAll ds ≤ 1048576)
def OpenSpec.upto (s : _root_.Go.ChangeSpec) : _root_.Go.OpenSpec := { _root_.Go.OpenSpec.ofChange s with cond := some uptoSmall }

/-- 'timeballlaw.DayFinds', WHERE WHAT IT READS IS OF BULK AT MOST 1048576: true; the input reads as it did. -/
def dayFindsUptoRow : OpenClaim := { program := "ytjcoapjjnplnbaadoor", sum := "977695eaa1a748f3ce9521c7cfb4bc5103f65ff3cd89dbb88ec336d2f0ec4c3e", func := "timeball/timeballlaw.DayFinds", spec := "dayFinds", named := ["timeball/civil.lengths"], apart := false, laid := [("timeball/civil.lengths", laid_timeball_civil_lengths)], narrowed := true }
def DayFindsUptoSaid : Prop := dayFindsUptoRow.holds Tryd.pinned (OpenSpec.upto dayFindsSpec)

/-- 'timeballlaw.DayTells', WHERE WHAT IT READS IS OF BULK AT MOST 1048576: true; the input reads as it did. -/
def dayTellsUptoRow : OpenClaim := { program := "ytjcoapjjnplnbaadoor", sum := "977695eaa1a748f3ce9521c7cfb4bc5103f65ff3cd89dbb88ec336d2f0ec4c3e", func := "timeball/timeballlaw.DayTells", spec := "dayTells", recurses := true, named := ["timeball/day.weekdays", "internal/strconv.uint64pow10", "math/bits.deBruijn32tab", "math/bits.deBruijn64tab"], apart := false, laid := [("math/bits.deBruijn32tab", laid_math_bits_deBruijn32tab), ("math/bits.deBruijn64tab", laid_math_bits_deBruijn64tab), ("internal/strconv.uint64pow10", laid_internal_strconv_uint64pow10), ("timeball/day.weekdays", laid_timeball_day_weekdays)], narrowed := true }
def DayTellsUptoSaid : Prop := dayTellsUptoRow.holds Tryd.pinned (OpenSpec.upto dayTellsSpec)

/-- 'timeballlaw.DayReads', WHERE WHAT IT READS IS OF BULK AT MOST 1048576: true; the input reads as it did. -/
def dayReadsUptoRow : OpenClaim := { program := "ytjcoapjjnplnbaadoor", sum := "977695eaa1a748f3ce9521c7cfb4bc5103f65ff3cd89dbb88ec336d2f0ec4c3e", func := "timeball/timeballlaw.DayReads", spec := "dayReads", inPlace := ["internal/bytealg.IndexByteString", "internal/bytealg.IndexString"], recurses := true, named := ["timeball/day.weekdays", "internal/bytealg.MaxLen", "strconv.ErrSyntax", "strconv.ErrRange", "internal/strconv.uint64pow10", "math/bits.deBruijn32tab", "math/bits.deBruijn64tab"], apart := false, laid := [("math/bits.deBruijn32tab", laid_math_bits_deBruijn32tab), ("math/bits.deBruijn64tab", laid_math_bits_deBruijn64tab), ("internal/strconv.uint64pow10", laid_internal_strconv_uint64pow10), ("strconv.ErrRange", laid_strconv_ErrRange), ("strconv.ErrSyntax", laid_strconv_ErrSyntax), ("timeball/day.weekdays", laid_timeball_day_weekdays)], narrowed := true }
def DayReadsUptoSaid : Prop := dayReadsUptoRow.holds Tryd.pinned (OpenSpec.upto dayReadsSpec)

/-- 'timeballkeep.DayKinds', WHERE WHAT IT READS IS OF BULK AT MOST 1048576: true; the input reads as it did. -/
def dayKindsUptoRow : OpenClaim := { program := "ytjcoapjjnplnbaadoor", sum := "977695eaa1a748f3ce9521c7cfb4bc5103f65ff3cd89dbb88ec336d2f0ec4c3e", func := "timeball/timeballkeep.DayKinds", spec := "dayKinds", named := ["timeball/civil.lengths"], apart := false, laid := [("timeball/civil.lengths", laid_timeball_civil_lengths)], narrowed := true }
def DayKindsUptoSaid : Prop := dayKindsUptoRow.holds Tryd.pinned (OpenSpec.upto dayKindsSpec)

/-- 'timeballkeep.DayBack', WHERE WHAT IT READS IS OF BULK AT MOST 1048576: true; the input reads as it did. -/
def dayBackUptoRow : OpenClaim := { program := "ytjcoapjjnplnbaadoor", sum := "977695eaa1a748f3ce9521c7cfb4bc5103f65ff3cd89dbb88ec336d2f0ec4c3e", func := "timeball/timeballkeep.DayBack", spec := "dayBack", inPlace := ["internal/bytealg.IndexByteString", "internal/bytealg.IndexString"], named := ["timeball/civil.lengths", "timeball/day.weekdays", "internal/strconv.uint64pow10", "math/bits.deBruijn32tab", "math/bits.deBruijn64tab", "internal/bytealg.MaxLen", "strconv.ErrSyntax", "strconv.ErrRange"], apart := false, laid := [("math/bits.deBruijn32tab", laid_math_bits_deBruijn32tab), ("math/bits.deBruijn64tab", laid_math_bits_deBruijn64tab), ("internal/strconv.uint64pow10", laid_internal_strconv_uint64pow10), ("timeball/civil.lengths", laid_timeball_civil_lengths), ("strconv.ErrRange", laid_strconv_ErrRange), ("strconv.ErrSyntax", laid_strconv_ErrSyntax), ("timeball/day.weekdays", laid_timeball_day_weekdays)], narrowed := true }
def DayBackUptoSaid : Prop := dayBackUptoRow.holds Tryd.pinned (OpenSpec.upto dayBackSpec)

/-- 'timeballkeep.DaySides', WHERE WHAT IT READS IS OF BULK AT MOST 1048576: true; the input reads as it did. -/
def daySidesUptoRow : OpenClaim := { program := "ytjcoapjjnplnbaadoor", sum := "977695eaa1a748f3ce9521c7cfb4bc5103f65ff3cd89dbb88ec336d2f0ec4c3e", func := "timeball/timeballkeep.DaySides", spec := "daySides", named := ["timeball/civil.lengths"], apart := false, laid := [("timeball/civil.lengths", laid_timeball_civil_lengths)], narrowed := true }
def DaySidesUptoSaid : Prop := daySidesUptoRow.holds Tryd.pinned (OpenSpec.upto daySidesSpec)

/-- 'timeballkeep.DayUnique', WHERE WHAT IT READS IS OF BULK AT MOST 1048576: true; the input reads as it did. -/
def dayUniqueUptoRow : OpenClaim := { program := "ytjcoapjjnplnbaadoor", sum := "977695eaa1a748f3ce9521c7cfb4bc5103f65ff3cd89dbb88ec336d2f0ec4c3e", func := "timeball/timeballkeep.DayUnique", spec := "dayUnique", named := ["timeball/civil.lengths"], apart := false, laid := [("timeball/civil.lengths", laid_timeball_civil_lengths)], narrowed := true }
def DayUniqueUptoSaid : Prop := dayUniqueUptoRow.holds Tryd.pinned (OpenSpec.upto dayUniqueSpec)

/-- 'timeballkeep.DayWeeks', WHERE WHAT IT READS IS OF BULK AT MOST 1048576: true; the input reads as it did. -/
def dayWeeksUptoRow : OpenClaim := { program := "ytjcoapjjnplnbaadoor", sum := "977695eaa1a748f3ce9521c7cfb4bc5103f65ff3cd89dbb88ec336d2f0ec4c3e", func := "timeball/timeballkeep.DayWeeks", spec := "dayWeeks", named := ["timeball/civil.lengths"], apart := false, laid := [("timeball/civil.lengths", laid_timeball_civil_lengths)], narrowed := true }
def DayWeeksUptoSaid : Prop := dayWeeksUptoRow.holds Tryd.pinned (OpenSpec.upto dayWeeksSpec)

/-- 'timeballkeep.DayMonths', WHERE WHAT IT READS IS OF BULK AT MOST 1048576: true; the input reads as it did. -/
def dayMonthsUptoRow : OpenClaim := { program := "ytjcoapjjnplnbaadoor", sum := "977695eaa1a748f3ce9521c7cfb4bc5103f65ff3cd89dbb88ec336d2f0ec4c3e", func := "timeball/timeballkeep.DayMonths", spec := "dayMonths", named := ["timeball/civil.lengths"], apart := false, laid := [("timeball/civil.lengths", laid_timeball_civil_lengths)], narrowed := true }
def DayMonthsUptoSaid : Prop := dayMonthsUptoRow.holds Tryd.pinned (OpenSpec.upto dayMonthsSpec)

end Rows
end Go.Proofs.YtjcoapjjnplnbaaDoor
