/-
  DERIVED. GIVEN WITH THE SEED: THE CARDS: each row of YtemdgipkcilpcaaDoorRows.lean that lists a variable, with what it lists TIED to the program's text (the seventh form; the later family's looks); each row that meets fmt, with fmt's text TOLD by the authors' own Lean function (tested against real Go, not proved from fmt's source: count such statements apart). THE CARD IS WHAT COUNTS. Prove the row's statement (the work); the ties are given (YtemdgipkcilpcaaDoorTie.lean); close each card by the builder's one call (the guide's Derived/Test/ToyasCard.lean, 'card_holds'). Laid BY PROGRAM, IN A SANDBOX (cutbox-door.mjs). By AI agents, Wed Nov 11 2026. No macro, syntax, notation, axiom, sorry.
-/
import Derived.Test.YtemdgipkcilpcaaDoorRows
import GoSem.ClaimSeven
namespace Go.Proofs.YtemdgipkcilpcaaDoor
namespace Rows

/-- THE TIED CARD OF 'timeballkeep.NamesZones'. -/
def namesZonesCard : Claim7 := { stood := { row := namesZonesRow, standIns := [], harness := (true, "8df330e449e4d45a07e5217d3859bc8b28b888dbe00807a2ae3640cf35af3629"), looks := false }, kinds := [], alts := [], laidByText := true, laidKinds := [.data, .data, .data, .data, .data, .pinned], laidTests := true, laidLooks := .later }
def NamesZonesCardSaid : Prop := Claim7.holds Tryd.pinned (.plain (OpenSpec.ofChange namesZonesSpec)) namesZonesCard

/-- THE SECOND FORM's CARD OF 'timeballkeep.NamesZones'. -/
def namesZonesUptoCard : Claim7 := { stood := { row := namesZonesUptoRow, standIns := [], harness := (true, "8df330e449e4d45a07e5217d3859bc8b28b888dbe00807a2ae3640cf35af3629"), looks := false }, kinds := [], alts := [], laidByText := true, laidKinds := [.data, .data, .data, .data, .data, .pinned], laidTests := true, laidLooks := .later }
def NamesZonesUptoCardSaid : Prop := Claim7.holds Tryd.pinned (.plain (OpenSpec.upto namesZonesSpec)) namesZonesUptoCard
end Rows
end Go.Proofs.YtemdgipkcilpcaaDoor
