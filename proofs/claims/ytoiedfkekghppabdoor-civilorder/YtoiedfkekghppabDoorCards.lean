/-
  DERIVED. GIVEN WITH THE SEED: THE CARDS: each row of YtoiedfkekghppabDoorRows.lean that lists a variable, with what it lists TIED to the program's text (the seventh form; the later family's looks); each row that meets fmt, with fmt's text TOLD by the authors' own Lean function (tested against real Go, not proved from fmt's source: count such statements apart). THE CARD IS WHAT COUNTS. Prove the row's statement (the work); the ties are given (YtoiedfkekghppabDoorTie.lean); close each card by the builder's one call (the guide's Derived/Test/ToyasCard.lean, 'card_holds'). Laid BY PROGRAM, IN A SANDBOX (cutbox-door.mjs). By AI agents, Wed Nov 11 2026. No macro, syntax, notation, axiom, sorry.
-/
import Derived.Test.YtoiedfkekghppabDoorRows
import GoSem.ClaimSeven
namespace Go.Proofs.YtoiedfkekghppabDoor
namespace Rows

/-- THE TIED CARD OF 'timeballkeep.CivilOrder'. -/
def civilOrderCard : Claim7 := { stood := { row := civilOrderRow, standIns := [], harness := (true, "c7cccf11e4d44ed88b21839f6f48d2f46a710ab6822e50ff505786e6483f5007"), looks := false }, kinds := [], alts := [], laidByText := true, laidKinds := [.data], laidTests := true, laidLooks := .later }
def CivilOrderCardSaid : Prop := Claim7.holds Tryd.pinned (.plain (OpenSpec.ofChange civilOrderSpec)) civilOrderCard

/-- THE TIED CARD OF 'timeballkeep.CivilAges'. -/
def civilAgesCard : Claim7 := { stood := { row := civilAgesRow, standIns := [], harness := (true, "c7cccf11e4d44ed88b21839f6f48d2f46a710ab6822e50ff505786e6483f5007"), looks := false }, kinds := [], alts := [], laidByText := true, laidKinds := [.data], laidTests := true, laidLooks := .later }
def CivilAgesCardSaid : Prop := Claim7.holds Tryd.pinned (.plain (OpenSpec.ofChange civilAgesSpec)) civilAgesCard

/-- THE SECOND FORM's CARD OF 'timeballkeep.CivilOrder'. -/
def civilOrderUptoCard : Claim7 := { stood := { row := civilOrderUptoRow, standIns := [], harness := (true, "c7cccf11e4d44ed88b21839f6f48d2f46a710ab6822e50ff505786e6483f5007"), looks := false }, kinds := [], alts := [], laidByText := true, laidKinds := [.data], laidTests := true, laidLooks := .later }
def CivilOrderUptoCardSaid : Prop := Claim7.holds Tryd.pinned (.plain (OpenSpec.upto civilOrderSpec)) civilOrderUptoCard

/-- THE SECOND FORM's CARD OF 'timeballkeep.CivilAges'. -/
def civilAgesUptoCard : Claim7 := { stood := { row := civilAgesUptoRow, standIns := [], harness := (true, "c7cccf11e4d44ed88b21839f6f48d2f46a710ab6822e50ff505786e6483f5007"), looks := false }, kinds := [], alts := [], laidByText := true, laidKinds := [.data], laidTests := true, laidLooks := .later }
def CivilAgesUptoCardSaid : Prop := Claim7.holds Tryd.pinned (.plain (OpenSpec.upto civilAgesSpec)) civilAgesUptoCard
end Rows
end Go.Proofs.YtoiedfkekghppabDoor
