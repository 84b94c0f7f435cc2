/-
  DERIVED. GIVEN WITH THE SEED: THE CARDS: each row of YtbagdlafpahgdaaGreatDoorRows.lean that lists a variable, with what it lists TIED to the program's text (the seventh form; the later family's looks); each row that meets fmt, with fmt's text TOLD by the authors' own Lean function (tested against real Go, not proved from fmt's source: count such statements apart). THE CARD IS WHAT COUNTS. Prove the row's statement (the work); the ties are given (YtbagdlafpahgdaaGreatDoorTie.lean); close each card by the builder's one call (the guide's Derived/Test/ToyasCard.lean, 'card_holds'). Laid BY PROGRAM, IN A SANDBOX (cutbox-door.mjs). By AI agents, Wed Nov 11 2026. No macro, syntax, notation, axiom, sorry.
-/
import Derived.Test.YtbagdlafpahgdaaGreatDoorRows
import GoSem.ClaimSeven
namespace Go.Proofs.YtbagdlafpahgdaaGreatDoor
namespace Rows

/-- THE TIED CARD OF 'timeballlaw.StateTells'. -/
def stateTellsCard : Claim7 := { stood := { row := stateTellsRow, standIns := [], harness := (true, "3369ac2986ffade5727bdf5e5cb066b4cf24ad3bdf1cabeb126397e5374b9dd9"), looks := false }, kinds := [], alts := [], laidByText := true, laidKinds := [.data, .data, .data, .data, .data, .pinned], laidTests := true, laidLooks := .later }
def StateTellsCardSaid : Prop := Claim7.holds Tryz.pinned (.plain (OpenSpec.ofChange stateTellsSpec)) stateTellsCard

/-- THE TIED CARD OF 'timeballkeep.StateBounds'. -/
def stateBoundsCard : Claim7 := { stood := { row := stateBoundsRow, standIns := [], harness := (true, "3369ac2986ffade5727bdf5e5cb066b4cf24ad3bdf1cabeb126397e5374b9dd9"), looks := false }, kinds := [], alts := [], laidByText := true, laidKinds := [.data, .data, .data, .data, .data, .pinned], laidTests := true, laidLooks := .later }
def StateBoundsCardSaid : Prop := Claim7.holds Tryz.pinned (.plain (OpenSpec.ofChange stateBoundsSpec)) stateBoundsCard

/-- THE TIED CARD OF 'timeballkeep.StateLinks'. -/
def stateLinksCard : Claim7 := { stood := { row := stateLinksRow, standIns := [], harness := (true, "3369ac2986ffade5727bdf5e5cb066b4cf24ad3bdf1cabeb126397e5374b9dd9"), looks := false }, kinds := [], alts := [], laidByText := true, laidKinds := [.data, .data, .data, .data, .data, .pinned], laidTests := true, laidLooks := .later }
def StateLinksCardSaid : Prop := Claim7.holds Tryz.pinned (.plain (OpenSpec.ofChange stateLinksSpec)) stateLinksCard

/-- THE TIED CARD OF 'timeballkeep.StateUntil'. -/
def stateUntilCard : Claim7 := { stood := { row := stateUntilRow, standIns := [], harness := (true, "3369ac2986ffade5727bdf5e5cb066b4cf24ad3bdf1cabeb126397e5374b9dd9"), looks := false }, kinds := [], alts := [], laidByText := true, laidKinds := [.data, .data, .data, .data, .data, .pinned], laidTests := true, laidLooks := .later }
def StateUntilCardSaid : Prop := Claim7.holds Tryz.pinned (.plain (OpenSpec.ofChange stateUntilSpec)) stateUntilCard

/-- THE TIED CARD OF 'timeballkeep.StateRules'. -/
def stateRulesCard : Claim7 := { stood := { row := stateRulesRow, standIns := [], harness := (true, "3369ac2986ffade5727bdf5e5cb066b4cf24ad3bdf1cabeb126397e5374b9dd9"), looks := false }, kinds := [], alts := [], laidByText := true, laidKinds := [.data, .data, .data, .data, .data, .pinned], laidTests := true, laidLooks := .later }
def StateRulesCardSaid : Prop := Claim7.holds Tryz.pinned (.plain (OpenSpec.ofChange stateRulesSpec)) stateRulesCard

/-- THE SECOND FORM's CARD OF 'timeballlaw.StateTells'. -/
def stateTellsUptoCard : Claim7 := { stood := { row := stateTellsUptoRow, standIns := [], harness := (true, "3369ac2986ffade5727bdf5e5cb066b4cf24ad3bdf1cabeb126397e5374b9dd9"), looks := false }, kinds := [], alts := [], laidByText := true, laidKinds := [.data, .data, .data, .data, .data, .pinned], laidTests := true, laidLooks := .later }
def StateTellsUptoCardSaid : Prop := Claim7.holds Tryz.pinned (.plain (OpenSpec.upto stateTellsSpec)) stateTellsUptoCard

/-- THE SECOND FORM's CARD OF 'timeballkeep.StateBounds'. -/
def stateBoundsUptoCard : Claim7 := { stood := { row := stateBoundsUptoRow, standIns := [], harness := (true, "3369ac2986ffade5727bdf5e5cb066b4cf24ad3bdf1cabeb126397e5374b9dd9"), looks := false }, kinds := [], alts := [], laidByText := true, laidKinds := [.data, .data, .data, .data, .data, .pinned], laidTests := true, laidLooks := .later }
def StateBoundsUptoCardSaid : Prop := Claim7.holds Tryz.pinned (.plain (OpenSpec.upto stateBoundsSpec)) stateBoundsUptoCard

/-- THE SECOND FORM's CARD OF 'timeballkeep.StateLinks'. -/
def stateLinksUptoCard : Claim7 := { stood := { row := stateLinksUptoRow, standIns := [], harness := (true, "3369ac2986ffade5727bdf5e5cb066b4cf24ad3bdf1cabeb126397e5374b9dd9"), looks := false }, kinds := [], alts := [], laidByText := true, laidKinds := [.data, .data, .data, .data, .data, .pinned], laidTests := true, laidLooks := .later }
def StateLinksUptoCardSaid : Prop := Claim7.holds Tryz.pinned (.plain (OpenSpec.upto stateLinksSpec)) stateLinksUptoCard

/-- THE SECOND FORM's CARD OF 'timeballkeep.StateUntil'. -/
def stateUntilUptoCard : Claim7 := { stood := { row := stateUntilUptoRow, standIns := [], harness := (true, "3369ac2986ffade5727bdf5e5cb066b4cf24ad3bdf1cabeb126397e5374b9dd9"), looks := false }, kinds := [], alts := [], laidByText := true, laidKinds := [.data, .data, .data, .data, .data, .pinned], laidTests := true, laidLooks := .later }
def StateUntilUptoCardSaid : Prop := Claim7.holds Tryz.pinned (.plain (OpenSpec.upto stateUntilSpec)) stateUntilUptoCard

/-- THE SECOND FORM's CARD OF 'timeballkeep.StateRules'. -/
def stateRulesUptoCard : Claim7 := { stood := { row := stateRulesUptoRow, standIns := [], harness := (true, "3369ac2986ffade5727bdf5e5cb066b4cf24ad3bdf1cabeb126397e5374b9dd9"), looks := false }, kinds := [], alts := [], laidByText := true, laidKinds := [.data, .data, .data, .data, .data, .pinned], laidTests := true, laidLooks := .later }
def StateRulesUptoCardSaid : Prop := Claim7.holds Tryz.pinned (.plain (OpenSpec.upto stateRulesSpec)) stateRulesUptoCard
end Rows
end Go.Proofs.YtbagdlafpahgdaaGreatDoor
