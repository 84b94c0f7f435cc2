/-
  DERIVED. GIVEN WITH THE SEED: THE CARDS: each row of YtkbegommjlmfmaaDoorRows.lean that lists a variable, with what it lists TIED to the program's text (the seventh form; the later family's looks); each row that meets fmt, with fmt's text TOLD by the authors' own Lean function (tested against real Go, not proved from fmt's source: count such statements apart). THE CARD IS WHAT COUNTS. Prove the row's statement (the work); the ties are given (YtkbegommjlmfmaaDoorTie.lean); close each card by the builder's one call (the guide's Derived/Test/ToyasCard.lean, 'card_holds'). Laid BY PROGRAM, IN A SANDBOX (cutbox-door.mjs). By AI agents, Wed Nov 11 2026. No macro, syntax, notation, axiom, sorry.
-/
import Derived.Test.YtkbegommjlmfmaaDoorRows
import GoSem.ClaimSeven
namespace Go.Proofs.YtkbegommjlmfmaaDoor
namespace Rows

/-- THE TIED CARD OF 'timeballkeep.TurnsRise'. -/
def turnsRiseCard : Claim7 := { stood := { row := turnsRiseRow, standIns := [], harness := (true, "5e214ce00fbeba1fe998144fb073de2ad268758d7f687f0884f29d9b24236530"), looks := false }, kinds := [], alts := [], laidByText := true, laidKinds := [.data, .data, .data, .data, .data, .pinned], laidTests := true, laidLooks := .later }
def TurnsRiseCardSaid : Prop := Claim7.holds Tryd.pinned (.plain (OpenSpec.ofChange turnsRiseSpec)) turnsRiseCard

/-- THE SECOND FORM's CARD OF 'timeballkeep.TurnsRise'. -/
def turnsRiseUptoCard : Claim7 := { stood := { row := turnsRiseUptoRow, standIns := [], harness := (true, "5e214ce00fbeba1fe998144fb073de2ad268758d7f687f0884f29d9b24236530"), looks := false }, kinds := [], alts := [], laidByText := true, laidKinds := [.data, .data, .data, .data, .data, .pinned], laidTests := true, laidLooks := .later }
def TurnsRiseUptoCardSaid : Prop := Claim7.holds Tryd.pinned (.plain (OpenSpec.upto turnsRiseSpec)) turnsRiseUptoCard
end Rows
end Go.Proofs.YtkbegommjlmfmaaDoor
