/-
  DERIVED. GIVEN WITH THE SEED: THE CARDS: each row of YtkbegommjlmfmaaGreatDoorRows.lean that lists a variable, with what it lists TIED to the program's text (the seventh form; the later family's looks); each row that meets fmt, with fmt's text TOLD by the authors' own Lean function (tested against real Go, not proved from fmt's source: count such statements apart). THE CARD IS WHAT COUNTS. Prove the row's statement (the work); the ties are given (YtkbegommjlmfmaaGreatDoorTie.lean); close each card by the builder's one call (the guide's Derived/Test/ToyasCard.lean, 'card_holds'). Laid BY PROGRAM, IN A SANDBOX (cutbox-door.mjs). By AI agents, Wed Nov 11 2026. No macro, syntax, notation, axiom, sorry.
-/
import Derived.Test.YtkbegommjlmfmaaGreatDoorRows
import GoSem.ClaimSeven
namespace Go.Proofs.YtkbegommjlmfmaaGreatDoor
namespace Rows

/-- THE TIED CARD OF 'timeballlaw.TurnsTells'. -/
def turnsTellsCard : Claim7 := { stood := { row := turnsTellsRow, standIns := [], harness := (true, "96eae4e841ca901373a04faeb84a17bf48b8ac77fcc1f0fa0728b8e3a645318e"), looks := false }, kinds := [], alts := [], laidByText := true, laidKinds := [.data, .data, .data, .data, .data, .pinned], laidTests := true, laidLooks := .later }
def TurnsTellsCardSaid : Prop := Claim7.holds Tryz.pinned (.plain (OpenSpec.ofChange turnsTellsSpec)) turnsTellsCard

/-- THE TIED CARD OF 'timeballkeep.TurnsOthers'. -/
def turnsOthersCard : Claim7 := { stood := { row := turnsOthersRow, standIns := [], harness := (true, "96eae4e841ca901373a04faeb84a17bf48b8ac77fcc1f0fa0728b8e3a645318e"), looks := false }, kinds := [], alts := [], laidByText := true, laidKinds := [.data, .data, .data, .data, .data, .pinned], laidTests := true, laidLooks := .later }
def TurnsOthersCardSaid : Prop := Claim7.holds Tryz.pinned (.plain (OpenSpec.ofChange turnsOthersSpec)) turnsOthersCard

/-- THE TIED CARD OF 'timeballkeep.TurnsEast'. -/
def turnsEastCard : Claim7 := { stood := { row := turnsEastRow, standIns := [], harness := (true, "96eae4e841ca901373a04faeb84a17bf48b8ac77fcc1f0fa0728b8e3a645318e"), looks := false }, kinds := [], alts := [], laidByText := true, laidKinds := [.data, .data, .data, .data, .data, .pinned], laidTests := true, laidLooks := .later }
def TurnsEastCardSaid : Prop := Claim7.holds Tryz.pinned (.plain (OpenSpec.ofChange turnsEastSpec)) turnsEastCard

/-- THE TIED CARD OF 'timeballkeep.TurnsOne'. -/
def turnsOneCard : Claim7 := { stood := { row := turnsOneRow, standIns := [], harness := (true, "96eae4e841ca901373a04faeb84a17bf48b8ac77fcc1f0fa0728b8e3a645318e"), looks := false }, kinds := [], alts := [], laidByText := true, laidKinds := [.data, .data, .data, .data, .data, .pinned], laidTests := true, laidLooks := .later }
def TurnsOneCardSaid : Prop := Claim7.holds Tryz.pinned (.plain (OpenSpec.ofChange turnsOneSpec)) turnsOneCard

/-- THE TIED CARD OF 'timeballkeep.TurnsSplit'. -/
def turnsSplitCard : Claim7 := { stood := { row := turnsSplitRow, standIns := [], harness := (true, "96eae4e841ca901373a04faeb84a17bf48b8ac77fcc1f0fa0728b8e3a645318e"), looks := false }, kinds := [], alts := [], laidByText := true, laidKinds := [.data, .data, .data, .data, .data, .pinned], laidTests := true, laidLooks := .later }
def TurnsSplitCardSaid : Prop := Claim7.holds Tryz.pinned (.plain (OpenSpec.ofChange turnsSplitSpec)) turnsSplitCard

/-- THE SECOND FORM's CARD OF 'timeballlaw.TurnsTells'. -/
def turnsTellsUptoCard : Claim7 := { stood := { row := turnsTellsUptoRow, standIns := [], harness := (true, "96eae4e841ca901373a04faeb84a17bf48b8ac77fcc1f0fa0728b8e3a645318e"), looks := false }, kinds := [], alts := [], laidByText := true, laidKinds := [.data, .data, .data, .data, .data, .pinned], laidTests := true, laidLooks := .later }
def TurnsTellsUptoCardSaid : Prop := Claim7.holds Tryz.pinned (.plain (OpenSpec.upto turnsTellsSpec)) turnsTellsUptoCard

/-- THE SECOND FORM's CARD OF 'timeballkeep.TurnsOthers'. -/
def turnsOthersUptoCard : Claim7 := { stood := { row := turnsOthersUptoRow, standIns := [], harness := (true, "96eae4e841ca901373a04faeb84a17bf48b8ac77fcc1f0fa0728b8e3a645318e"), looks := false }, kinds := [], alts := [], laidByText := true, laidKinds := [.data, .data, .data, .data, .data, .pinned], laidTests := true, laidLooks := .later }
def TurnsOthersUptoCardSaid : Prop := Claim7.holds Tryz.pinned (.plain (OpenSpec.upto turnsOthersSpec)) turnsOthersUptoCard

/-- THE SECOND FORM's CARD OF 'timeballkeep.TurnsEast'. -/
def turnsEastUptoCard : Claim7 := { stood := { row := turnsEastUptoRow, standIns := [], harness := (true, "96eae4e841ca901373a04faeb84a17bf48b8ac77fcc1f0fa0728b8e3a645318e"), looks := false }, kinds := [], alts := [], laidByText := true, laidKinds := [.data, .data, .data, .data, .data, .pinned], laidTests := true, laidLooks := .later }
def TurnsEastUptoCardSaid : Prop := Claim7.holds Tryz.pinned (.plain (OpenSpec.upto turnsEastSpec)) turnsEastUptoCard

/-- THE SECOND FORM's CARD OF 'timeballkeep.TurnsOne'. -/
def turnsOneUptoCard : Claim7 := { stood := { row := turnsOneUptoRow, standIns := [], harness := (true, "96eae4e841ca901373a04faeb84a17bf48b8ac77fcc1f0fa0728b8e3a645318e"), looks := false }, kinds := [], alts := [], laidByText := true, laidKinds := [.data, .data, .data, .data, .data, .pinned], laidTests := true, laidLooks := .later }
def TurnsOneUptoCardSaid : Prop := Claim7.holds Tryz.pinned (.plain (OpenSpec.upto turnsOneSpec)) turnsOneUptoCard

/-- THE SECOND FORM's CARD OF 'timeballkeep.TurnsSplit'. -/
def turnsSplitUptoCard : Claim7 := { stood := { row := turnsSplitUptoRow, standIns := [], harness := (true, "96eae4e841ca901373a04faeb84a17bf48b8ac77fcc1f0fa0728b8e3a645318e"), looks := false }, kinds := [], alts := [], laidByText := true, laidKinds := [.data, .data, .data, .data, .data, .pinned], laidTests := true, laidLooks := .later }
def TurnsSplitUptoCardSaid : Prop := Claim7.holds Tryz.pinned (.plain (OpenSpec.upto turnsSplitSpec)) turnsSplitUptoCard
end Rows
end Go.Proofs.YtkbegommjlmfmaaGreatDoor
