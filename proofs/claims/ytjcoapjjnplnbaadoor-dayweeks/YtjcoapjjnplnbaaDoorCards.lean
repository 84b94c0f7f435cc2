/-
  DERIVED. GIVEN WITH THE SEED: THE CARDS: each row of YtjcoapjjnplnbaaDoorRows.lean that lists a variable, with what it lists TIED to the program's text (the seventh form; the later family's looks); each row that meets fmt, with fmt's text TOLD by the authors' own Lean function (tested against real Go, not proved from fmt's source: count such statements apart). THE CARD IS WHAT COUNTS. Prove the row's statement (the work); the ties are given (YtjcoapjjnplnbaaDoorTie.lean); close each card by the builder's one call (the guide's Derived/Test/ToyasCard.lean, 'card_holds'). Laid BY PROGRAM, IN A SANDBOX (cutbox-door.mjs). By AI agents, Wed Nov 11 2026. No macro, syntax, notation, axiom, sorry.
-/
import Derived.Test.YtjcoapjjnplnbaaDoorRows
import GoSem.ClaimSeven
namespace Go.Proofs.YtjcoapjjnplnbaaDoor
namespace Rows

/-- THE TIED CARD OF 'timeballlaw.DayFinds'. -/
def dayFindsCard : Claim7 := { stood := { row := dayFindsRow, standIns := [], harness := (true, "c662f2f2189933ed6422d797ec19de57c7a676c6d472780284a44918d7caee3b"), looks := true }, kinds := [], alts := [], laidByText := true, laidKinds := [.data], laidTests := true, laidLooks := .later }
def DayFindsCardSaid : Prop := Claim7.holds Tryd.pinned (.plain (OpenSpec.ofChange dayFindsSpec)) dayFindsCard

/-- THE TIED CARD OF 'timeballlaw.DayTells'. -/
def dayTellsCard : Claim7 := { stood := { row := dayTellsRow, standIns := [], harness := (true, "c662f2f2189933ed6422d797ec19de57c7a676c6d472780284a44918d7caee3b"), looks := true }, kinds := [], alts := [], laidByText := true, laidKinds := [.data, .data, .data, .data], laidTests := true, laidLooks := .later }
def DayTellsCardSaid : Prop := Claim7.holds Tryd.pinned (.plain (OpenSpec.ofChange dayTellsSpec)) dayTellsCard

/-- THE TIED CARD OF 'timeballlaw.DayReads'. -/
def dayReadsCard : Claim7 := { stood := { row := dayReadsRow, standIns := [], harness := (true, "c662f2f2189933ed6422d797ec19de57c7a676c6d472780284a44918d7caee3b"), looks := true }, kinds := [], alts := [], laidByText := true, laidKinds := [.data, .data, .data, .sentinel, .sentinel, .data], laidTests := true, laidLooks := .later }
def DayReadsCardSaid : Prop := Claim7.holds Tryd.pinned (.plain (OpenSpec.ofChange dayReadsSpec)) dayReadsCard

/-- THE TIED CARD OF 'timeballkeep.DayKinds'. -/
def dayKindsCard : Claim7 := { stood := { row := dayKindsRow, standIns := [], harness := (true, "c662f2f2189933ed6422d797ec19de57c7a676c6d472780284a44918d7caee3b"), looks := true }, kinds := [], alts := [], laidByText := true, laidKinds := [.data], laidTests := true, laidLooks := .later }
def DayKindsCardSaid : Prop := Claim7.holds Tryd.pinned (.plain (OpenSpec.ofChange dayKindsSpec)) dayKindsCard

/-- THE TIED CARD OF 'timeballkeep.DayBack'. -/
def dayBackCard : Claim7 := { stood := { row := dayBackRow, standIns := [], harness := (true, "c662f2f2189933ed6422d797ec19de57c7a676c6d472780284a44918d7caee3b"), looks := true }, kinds := [], alts := [], laidByText := true, laidKinds := [.data, .data, .data, .data, .sentinel, .sentinel, .data], laidTests := true, laidLooks := .later }
def DayBackCardSaid : Prop := Claim7.holds Tryd.pinned (.plain (OpenSpec.ofChange dayBackSpec)) dayBackCard

/-- THE TIED CARD OF 'timeballkeep.DaySides'. -/
def daySidesCard : Claim7 := { stood := { row := daySidesRow, standIns := [], harness := (true, "c662f2f2189933ed6422d797ec19de57c7a676c6d472780284a44918d7caee3b"), looks := true }, kinds := [], alts := [], laidByText := true, laidKinds := [.data], laidTests := true, laidLooks := .later }
def DaySidesCardSaid : Prop := Claim7.holds Tryd.pinned (.plain (OpenSpec.ofChange daySidesSpec)) daySidesCard

/-- THE TIED CARD OF 'timeballkeep.DayUnique'. -/
def dayUniqueCard : Claim7 := { stood := { row := dayUniqueRow, standIns := [], harness := (true, "c662f2f2189933ed6422d797ec19de57c7a676c6d472780284a44918d7caee3b"), looks := true }, kinds := [], alts := [], laidByText := true, laidKinds := [.data], laidTests := true, laidLooks := .later }
def DayUniqueCardSaid : Prop := Claim7.holds Tryd.pinned (.plain (OpenSpec.ofChange dayUniqueSpec)) dayUniqueCard

/-- THE TIED CARD OF 'timeballkeep.DayWeeks'. -/
def dayWeeksCard : Claim7 := { stood := { row := dayWeeksRow, standIns := [], harness := (true, "c662f2f2189933ed6422d797ec19de57c7a676c6d472780284a44918d7caee3b"), looks := true }, kinds := [], alts := [], laidByText := true, laidKinds := [.data], laidTests := true, laidLooks := .later }
def DayWeeksCardSaid : Prop := Claim7.holds Tryd.pinned (.plain (OpenSpec.ofChange dayWeeksSpec)) dayWeeksCard

/-- THE TIED CARD OF 'timeballkeep.DayMonths'. -/
def dayMonthsCard : Claim7 := { stood := { row := dayMonthsRow, standIns := [], harness := (true, "c662f2f2189933ed6422d797ec19de57c7a676c6d472780284a44918d7caee3b"), looks := true }, kinds := [], alts := [], laidByText := true, laidKinds := [.data], laidTests := true, laidLooks := .later }
def DayMonthsCardSaid : Prop := Claim7.holds Tryd.pinned (.plain (OpenSpec.ofChange dayMonthsSpec)) dayMonthsCard

/-- THE SECOND FORM's CARD OF 'timeballlaw.DayFinds'. -/
def dayFindsUptoCard : Claim7 := { stood := { row := dayFindsUptoRow, standIns := [], harness := (true, "c662f2f2189933ed6422d797ec19de57c7a676c6d472780284a44918d7caee3b"), looks := true }, kinds := [], alts := [], laidByText := true, laidKinds := [.data], laidTests := true, laidLooks := .later }
def DayFindsUptoCardSaid : Prop := Claim7.holds Tryd.pinned (.plain (OpenSpec.upto dayFindsSpec)) dayFindsUptoCard

/-- THE SECOND FORM's CARD OF 'timeballlaw.DayTells'. -/
def dayTellsUptoCard : Claim7 := { stood := { row := dayTellsUptoRow, standIns := [], harness := (true, "c662f2f2189933ed6422d797ec19de57c7a676c6d472780284a44918d7caee3b"), looks := true }, kinds := [], alts := [], laidByText := true, laidKinds := [.data, .data, .data, .data], laidTests := true, laidLooks := .later }
def DayTellsUptoCardSaid : Prop := Claim7.holds Tryd.pinned (.plain (OpenSpec.upto dayTellsSpec)) dayTellsUptoCard

/-- THE SECOND FORM's CARD OF 'timeballlaw.DayReads'. -/
def dayReadsUptoCard : Claim7 := { stood := { row := dayReadsUptoRow, standIns := [], harness := (true, "c662f2f2189933ed6422d797ec19de57c7a676c6d472780284a44918d7caee3b"), looks := true }, kinds := [], alts := [], laidByText := true, laidKinds := [.data, .data, .data, .sentinel, .sentinel, .data], laidTests := true, laidLooks := .later }
def DayReadsUptoCardSaid : Prop := Claim7.holds Tryd.pinned (.plain (OpenSpec.upto dayReadsSpec)) dayReadsUptoCard

/-- THE SECOND FORM's CARD OF 'timeballkeep.DayKinds'. -/
def dayKindsUptoCard : Claim7 := { stood := { row := dayKindsUptoRow, standIns := [], harness := (true, "c662f2f2189933ed6422d797ec19de57c7a676c6d472780284a44918d7caee3b"), looks := true }, kinds := [], alts := [], laidByText := true, laidKinds := [.data], laidTests := true, laidLooks := .later }
def DayKindsUptoCardSaid : Prop := Claim7.holds Tryd.pinned (.plain (OpenSpec.upto dayKindsSpec)) dayKindsUptoCard

/-- THE SECOND FORM's CARD OF 'timeballkeep.DayBack'. -/
def dayBackUptoCard : Claim7 := { stood := { row := dayBackUptoRow, standIns := [], harness := (true, "c662f2f2189933ed6422d797ec19de57c7a676c6d472780284a44918d7caee3b"), looks := true }, kinds := [], alts := [], laidByText := true, laidKinds := [.data, .data, .data, .data, .sentinel, .sentinel, .data], laidTests := true, laidLooks := .later }
def DayBackUptoCardSaid : Prop := Claim7.holds Tryd.pinned (.plain (OpenSpec.upto dayBackSpec)) dayBackUptoCard

/-- THE SECOND FORM's CARD OF 'timeballkeep.DaySides'. -/
def daySidesUptoCard : Claim7 := { stood := { row := daySidesUptoRow, standIns := [], harness := (true, "c662f2f2189933ed6422d797ec19de57c7a676c6d472780284a44918d7caee3b"), looks := true }, kinds := [], alts := [], laidByText := true, laidKinds := [.data], laidTests := true, laidLooks := .later }
def DaySidesUptoCardSaid : Prop := Claim7.holds Tryd.pinned (.plain (OpenSpec.upto daySidesSpec)) daySidesUptoCard

/-- THE SECOND FORM's CARD OF 'timeballkeep.DayUnique'. -/
def dayUniqueUptoCard : Claim7 := { stood := { row := dayUniqueUptoRow, standIns := [], harness := (true, "c662f2f2189933ed6422d797ec19de57c7a676c6d472780284a44918d7caee3b"), looks := true }, kinds := [], alts := [], laidByText := true, laidKinds := [.data], laidTests := true, laidLooks := .later }
def DayUniqueUptoCardSaid : Prop := Claim7.holds Tryd.pinned (.plain (OpenSpec.upto dayUniqueSpec)) dayUniqueUptoCard

/-- THE SECOND FORM's CARD OF 'timeballkeep.DayWeeks'. -/
def dayWeeksUptoCard : Claim7 := { stood := { row := dayWeeksUptoRow, standIns := [], harness := (true, "c662f2f2189933ed6422d797ec19de57c7a676c6d472780284a44918d7caee3b"), looks := true }, kinds := [], alts := [], laidByText := true, laidKinds := [.data], laidTests := true, laidLooks := .later }
def DayWeeksUptoCardSaid : Prop := Claim7.holds Tryd.pinned (.plain (OpenSpec.upto dayWeeksSpec)) dayWeeksUptoCard

/-- THE SECOND FORM's CARD OF 'timeballkeep.DayMonths'. -/
def dayMonthsUptoCard : Claim7 := { stood := { row := dayMonthsUptoRow, standIns := [], harness := (true, "c662f2f2189933ed6422d797ec19de57c7a676c6d472780284a44918d7caee3b"), looks := true }, kinds := [], alts := [], laidByText := true, laidKinds := [.data], laidTests := true, laidLooks := .later }
def DayMonthsUptoCardSaid : Prop := Claim7.holds Tryd.pinned (.plain (OpenSpec.upto dayMonthsSpec)) dayMonthsUptoCard
end Rows
end Go.Proofs.YtjcoapjjnplnbaaDoor
