/-
  DERIVED. GIVEN WITH THE SEED: THE CARDS: each row of YtoiedfkekghppaaDoorRows.lean that lists a variable, with what it lists TIED to the program's text (the seventh form; the later family's looks); each row that meets fmt, with fmt's text TOLD by the authors' own Lean function (tested against real Go, not proved from fmt's source: count such statements apart). THE CARD IS WHAT COUNTS. Prove the row's statement (the work); the ties are given (YtoiedfkekghppaaDoorTie.lean); close each card by the builder's one call (the guide's Derived/Test/ToyasCard.lean, 'card_holds'). Laid BY PROGRAM, IN A SANDBOX (cutbox-door.mjs). By AI agents, Wed Nov 11 2026. No macro, syntax, notation, axiom, sorry.
-/
import Derived.Test.YtoiedfkekghppaaDoorRows
import GoSem.ClaimSeven
namespace Go.Proofs.YtoiedfkekghppaaDoor
namespace Rows

/-- THE TIED CARD OF 'timeballlaw.CivilLengths'. -/
def civilLengthsCard : Claim7 := { stood := { row := civilLengthsRow, standIns := [], harness := (true, "bbc677eaef23b78e5c7a2747a000253cc69e49f6436f6ca212a9999f1a0ec536"), looks := false }, kinds := [], alts := [], laidByText := true, laidKinds := [.data], laidTests := true, laidLooks := .later }
def CivilLengthsCardSaid : Prop := Claim7.holds Tryd.pinned (.plain (OpenSpec.ofChange civilLengthsSpec)) civilLengthsCard

/-- THE TIED CARD OF 'timeballlaw.CivilDays'. -/
def civilDaysCard : Claim7 := { stood := { row := civilDaysRow, standIns := [], harness := (true, "bbc677eaef23b78e5c7a2747a000253cc69e49f6436f6ca212a9999f1a0ec536"), looks := false }, kinds := [], alts := [], laidByText := true, laidKinds := [.data], laidTests := true, laidLooks := .later }
def CivilDaysCardSaid : Prop := Claim7.holds Tryd.pinned (.plain (OpenSpec.ofChange civilDaysSpec)) civilDaysCard

/-- THE TIED CARD OF 'timeballlaw.CivilDates'. -/
def civilDatesCard : Claim7 := { stood := { row := civilDatesRow, standIns := [], harness := (true, "bbc677eaef23b78e5c7a2747a000253cc69e49f6436f6ca212a9999f1a0ec536"), looks := false }, kinds := [], alts := [], laidByText := true, laidKinds := [.data], laidTests := true, laidLooks := .later }
def CivilDatesCardSaid : Prop := Claim7.holds Tryd.pinned (.plain (OpenSpec.ofChange civilDatesSpec)) civilDatesCard

/-- THE TIED CARD OF 'timeballlaw.CivilWeekdays'. -/
def civilWeekdaysCard : Claim7 := { stood := { row := civilWeekdaysRow, standIns := [], harness := (true, "bbc677eaef23b78e5c7a2747a000253cc69e49f6436f6ca212a9999f1a0ec536"), looks := false }, kinds := [], alts := [], laidByText := true, laidKinds := [.data], laidTests := true, laidLooks := .later }
def CivilWeekdaysCardSaid : Prop := Claim7.holds Tryd.pinned (.plain (OpenSpec.ofChange civilWeekdaysSpec)) civilWeekdaysCard

/-- THE TIED CARD OF 'timeballkeep.CivilBack'. -/
def civilBackCard : Claim7 := { stood := { row := civilBackRow, standIns := [], harness := (true, "bbc677eaef23b78e5c7a2747a000253cc69e49f6436f6ca212a9999f1a0ec536"), looks := false }, kinds := [], alts := [], laidByText := true, laidKinds := [.data], laidTests := true, laidLooks := .later }
def CivilBackCardSaid : Prop := Claim7.holds Tryd.pinned (.plain (OpenSpec.ofChange civilBackSpec)) civilBackCard

/-- THE TIED CARD OF 'timeballkeep.CivilNext'. -/
def civilNextCard : Claim7 := { stood := { row := civilNextRow, standIns := [], harness := (true, "bbc677eaef23b78e5c7a2747a000253cc69e49f6436f6ca212a9999f1a0ec536"), looks := false }, kinds := [], alts := [], laidByText := true, laidKinds := [.data], laidTests := true, laidLooks := .later }
def CivilNextCardSaid : Prop := Claim7.holds Tryd.pinned (.plain (OpenSpec.ofChange civilNextSpec)) civilNextCard

/-- THE TIED CARD OF 'timeballkeep.CivilYears'. -/
def civilYearsCard : Claim7 := { stood := { row := civilYearsRow, standIns := [], harness := (true, "bbc677eaef23b78e5c7a2747a000253cc69e49f6436f6ca212a9999f1a0ec536"), looks := false }, kinds := [], alts := [], laidByText := true, laidKinds := [.data], laidTests := true, laidLooks := .later }
def CivilYearsCardSaid : Prop := Claim7.holds Tryd.pinned (.plain (OpenSpec.ofChange civilYearsSpec)) civilYearsCard

/-- THE TIED CARD OF 'timeballkeep.CivilDoomsday'. -/
def civilDoomsdayCard : Claim7 := { stood := { row := civilDoomsdayRow, standIns := [], harness := (true, "bbc677eaef23b78e5c7a2747a000253cc69e49f6436f6ca212a9999f1a0ec536"), looks := false }, kinds := [], alts := [], laidByText := true, laidKinds := [.data], laidTests := true, laidLooks := .later }
def CivilDoomsdayCardSaid : Prop := Claim7.holds Tryd.pinned (.plain (OpenSpec.ofChange civilDoomsdaySpec)) civilDoomsdayCard

/-- THE TIED CARD OF 'timeballkeep.CivilFriday'. -/
def civilFridayCard : Claim7 := { stood := { row := civilFridayRow, standIns := [], harness := (true, "bbc677eaef23b78e5c7a2747a000253cc69e49f6436f6ca212a9999f1a0ec536"), looks := false }, kinds := [], alts := [], laidByText := true, laidKinds := [.data], laidTests := true, laidLooks := .later }
def CivilFridayCardSaid : Prop := Claim7.holds Tryd.pinned (.plain (OpenSpec.ofChange civilFridaySpec)) civilFridayCard

/-- THE TIED CARD OF 'timeballkeep.CivilSum'. -/
def civilSumCard : Claim7 := { stood := { row := civilSumRow, standIns := [], harness := (true, "bbc677eaef23b78e5c7a2747a000253cc69e49f6436f6ca212a9999f1a0ec536"), looks := false }, kinds := [], alts := [], laidByText := true, laidKinds := [.data], laidTests := true, laidLooks := .later }
def CivilSumCardSaid : Prop := Claim7.holds Tryd.pinned (.plain (OpenSpec.ofChange civilSumSpec)) civilSumCard

/-- THE TIED CARD OF 'timeballkeep.CivilWeek'. -/
def civilWeekCard : Claim7 := { stood := { row := civilWeekRow, standIns := [], harness := (true, "bbc677eaef23b78e5c7a2747a000253cc69e49f6436f6ca212a9999f1a0ec536"), looks := false }, kinds := [], alts := [], laidByText := true, laidKinds := [.data], laidTests := true, laidLooks := .later }
def CivilWeekCardSaid : Prop := Claim7.holds Tryd.pinned (.plain (OpenSpec.ofChange civilWeekSpec)) civilWeekCard

/-- THE SECOND FORM's CARD OF 'timeballlaw.CivilLengths'. -/
def civilLengthsUptoCard : Claim7 := { stood := { row := civilLengthsUptoRow, standIns := [], harness := (true, "bbc677eaef23b78e5c7a2747a000253cc69e49f6436f6ca212a9999f1a0ec536"), looks := false }, kinds := [], alts := [], laidByText := true, laidKinds := [.data], laidTests := true, laidLooks := .later }
def CivilLengthsUptoCardSaid : Prop := Claim7.holds Tryd.pinned (.plain (OpenSpec.upto civilLengthsSpec)) civilLengthsUptoCard

/-- THE SECOND FORM's CARD OF 'timeballlaw.CivilDays'. -/
def civilDaysUptoCard : Claim7 := { stood := { row := civilDaysUptoRow, standIns := [], harness := (true, "bbc677eaef23b78e5c7a2747a000253cc69e49f6436f6ca212a9999f1a0ec536"), looks := false }, kinds := [], alts := [], laidByText := true, laidKinds := [.data], laidTests := true, laidLooks := .later }
def CivilDaysUptoCardSaid : Prop := Claim7.holds Tryd.pinned (.plain (OpenSpec.upto civilDaysSpec)) civilDaysUptoCard

/-- THE SECOND FORM's CARD OF 'timeballlaw.CivilDates'. -/
def civilDatesUptoCard : Claim7 := { stood := { row := civilDatesUptoRow, standIns := [], harness := (true, "bbc677eaef23b78e5c7a2747a000253cc69e49f6436f6ca212a9999f1a0ec536"), looks := false }, kinds := [], alts := [], laidByText := true, laidKinds := [.data], laidTests := true, laidLooks := .later }
def CivilDatesUptoCardSaid : Prop := Claim7.holds Tryd.pinned (.plain (OpenSpec.upto civilDatesSpec)) civilDatesUptoCard

/-- THE SECOND FORM's CARD OF 'timeballlaw.CivilWeekdays'. -/
def civilWeekdaysUptoCard : Claim7 := { stood := { row := civilWeekdaysUptoRow, standIns := [], harness := (true, "bbc677eaef23b78e5c7a2747a000253cc69e49f6436f6ca212a9999f1a0ec536"), looks := false }, kinds := [], alts := [], laidByText := true, laidKinds := [.data], laidTests := true, laidLooks := .later }
def CivilWeekdaysUptoCardSaid : Prop := Claim7.holds Tryd.pinned (.plain (OpenSpec.upto civilWeekdaysSpec)) civilWeekdaysUptoCard

/-- THE SECOND FORM's CARD OF 'timeballkeep.CivilBack'. -/
def civilBackUptoCard : Claim7 := { stood := { row := civilBackUptoRow, standIns := [], harness := (true, "bbc677eaef23b78e5c7a2747a000253cc69e49f6436f6ca212a9999f1a0ec536"), looks := false }, kinds := [], alts := [], laidByText := true, laidKinds := [.data], laidTests := true, laidLooks := .later }
def CivilBackUptoCardSaid : Prop := Claim7.holds Tryd.pinned (.plain (OpenSpec.upto civilBackSpec)) civilBackUptoCard

/-- THE SECOND FORM's CARD OF 'timeballkeep.CivilNext'. -/
def civilNextUptoCard : Claim7 := { stood := { row := civilNextUptoRow, standIns := [], harness := (true, "bbc677eaef23b78e5c7a2747a000253cc69e49f6436f6ca212a9999f1a0ec536"), looks := false }, kinds := [], alts := [], laidByText := true, laidKinds := [.data], laidTests := true, laidLooks := .later }
def CivilNextUptoCardSaid : Prop := Claim7.holds Tryd.pinned (.plain (OpenSpec.upto civilNextSpec)) civilNextUptoCard

/-- THE SECOND FORM's CARD OF 'timeballkeep.CivilYears'. -/
def civilYearsUptoCard : Claim7 := { stood := { row := civilYearsUptoRow, standIns := [], harness := (true, "bbc677eaef23b78e5c7a2747a000253cc69e49f6436f6ca212a9999f1a0ec536"), looks := false }, kinds := [], alts := [], laidByText := true, laidKinds := [.data], laidTests := true, laidLooks := .later }
def CivilYearsUptoCardSaid : Prop := Claim7.holds Tryd.pinned (.plain (OpenSpec.upto civilYearsSpec)) civilYearsUptoCard

/-- THE SECOND FORM's CARD OF 'timeballkeep.CivilDoomsday'. -/
def civilDoomsdayUptoCard : Claim7 := { stood := { row := civilDoomsdayUptoRow, standIns := [], harness := (true, "bbc677eaef23b78e5c7a2747a000253cc69e49f6436f6ca212a9999f1a0ec536"), looks := false }, kinds := [], alts := [], laidByText := true, laidKinds := [.data], laidTests := true, laidLooks := .later }
def CivilDoomsdayUptoCardSaid : Prop := Claim7.holds Tryd.pinned (.plain (OpenSpec.upto civilDoomsdaySpec)) civilDoomsdayUptoCard

/-- THE SECOND FORM's CARD OF 'timeballkeep.CivilFriday'. -/
def civilFridayUptoCard : Claim7 := { stood := { row := civilFridayUptoRow, standIns := [], harness := (true, "bbc677eaef23b78e5c7a2747a000253cc69e49f6436f6ca212a9999f1a0ec536"), looks := false }, kinds := [], alts := [], laidByText := true, laidKinds := [.data], laidTests := true, laidLooks := .later }
def CivilFridayUptoCardSaid : Prop := Claim7.holds Tryd.pinned (.plain (OpenSpec.upto civilFridaySpec)) civilFridayUptoCard

/-- THE SECOND FORM's CARD OF 'timeballkeep.CivilSum'. -/
def civilSumUptoCard : Claim7 := { stood := { row := civilSumUptoRow, standIns := [], harness := (true, "bbc677eaef23b78e5c7a2747a000253cc69e49f6436f6ca212a9999f1a0ec536"), looks := false }, kinds := [], alts := [], laidByText := true, laidKinds := [.data], laidTests := true, laidLooks := .later }
def CivilSumUptoCardSaid : Prop := Claim7.holds Tryd.pinned (.plain (OpenSpec.upto civilSumSpec)) civilSumUptoCard

/-- THE SECOND FORM's CARD OF 'timeballkeep.CivilWeek'. -/
def civilWeekUptoCard : Claim7 := { stood := { row := civilWeekUptoRow, standIns := [], harness := (true, "bbc677eaef23b78e5c7a2747a000253cc69e49f6436f6ca212a9999f1a0ec536"), looks := false }, kinds := [], alts := [], laidByText := true, laidKinds := [.data], laidTests := true, laidLooks := .later }
def CivilWeekUptoCardSaid : Prop := Claim7.holds Tryd.pinned (.plain (OpenSpec.upto civilWeekSpec)) civilWeekUptoCard
end Rows
end Go.Proofs.YtoiedfkekghppaaDoor
