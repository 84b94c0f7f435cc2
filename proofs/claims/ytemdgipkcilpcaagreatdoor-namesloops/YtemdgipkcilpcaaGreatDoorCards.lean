/-
  DERIVED. GIVEN WITH THE SEED: THE CARDS: each row of YtemdgipkcilpcaaGreatDoorRows.lean that lists a variable, with what it lists TIED to the program's text (the seventh form; the later family's looks); each row that meets fmt, with fmt's text TOLD by the authors' own Lean function (tested against real Go, not proved from fmt's source: count such statements apart). THE CARD IS WHAT COUNTS. Prove the row's statement (the work); the ties are given (YtemdgipkcilpcaaGreatDoorTie.lean); close each card by the builder's one call (the guide's Derived/Test/ToyasCard.lean, 'card_holds'). Laid BY PROGRAM, IN A SANDBOX (cutbox-door.mjs). By AI agents, Wed Nov 11 2026. No macro, syntax, notation, axiom, sorry.
-/
import Derived.Test.YtemdgipkcilpcaaGreatDoorRows
import GoSem.ClaimSeven
namespace Go.Proofs.YtemdgipkcilpcaaGreatDoor
namespace Rows

/-- THE TIED CARD OF 'timeballlaw.NamesResolves'. -/
def namesResolvesCard : Claim7 := { stood := { row := namesResolvesRow, standIns := [], harness := (true, "3e00ae0eb291c07c25957b58e0c036c2890284f7eabd9e3eab76fccc14aa85a7"), looks := false }, kinds := [], alts := [], laidByText := true, laidKinds := [.data, .data, .data, .data, .data, .pinned], laidTests := true, laidLooks := .later }
def NamesResolvesCardSaid : Prop := Claim7.holds Tryz.pinned (.plain (OpenSpec.ofChange namesResolvesSpec)) namesResolvesCard

/-- THE TIED CARD OF 'timeballlaw.NamesAll'. -/
def namesAllCard : Claim7 := { stood := { row := namesAllRow, standIns := [], harness := (true, "3e00ae0eb291c07c25957b58e0c036c2890284f7eabd9e3eab76fccc14aa85a7"), looks := false }, kinds := [], alts := [], laidByText := true, laidKinds := [.data, .data, .data, .data, .data, .pinned], laidTests := true, laidLooks := .later }
def NamesAllCardSaid : Prop := Claim7.holds Tryz.pinned (.plain (OpenSpec.ofChange namesAllSpec)) namesAllCard

/-- THE TIED CARD OF 'timeballkeep.NamesSorted'. -/
def namesSortedCard : Claim7 := { stood := { row := namesSortedRow, standIns := [], harness := (true, "3e00ae0eb291c07c25957b58e0c036c2890284f7eabd9e3eab76fccc14aa85a7"), looks := false }, kinds := [], alts := [], laidByText := true, laidKinds := [.data, .data, .data, .data, .data, .pinned], laidTests := true, laidLooks := .later }
def NamesSortedCardSaid : Prop := Claim7.holds Tryz.pinned (.plain (OpenSpec.ofChange namesSortedSpec)) namesSortedCard

/-- THE TIED CARD OF 'timeballkeep.NamesLoops'. -/
def namesLoopsCard : Claim7 := { stood := { row := namesLoopsRow, standIns := [], harness := (true, "3e00ae0eb291c07c25957b58e0c036c2890284f7eabd9e3eab76fccc14aa85a7"), looks := false }, kinds := [], alts := [], laidByText := true, laidKinds := [.data, .data, .data, .data, .data, .pinned], laidTests := true, laidLooks := .later }
def NamesLoopsCardSaid : Prop := Claim7.holds Tryz.pinned (.plain (OpenSpec.ofChange namesLoopsSpec)) namesLoopsCard

/-- THE SECOND FORM's CARD OF 'timeballlaw.NamesResolves'. -/
def namesResolvesUptoCard : Claim7 := { stood := { row := namesResolvesUptoRow, standIns := [], harness := (true, "3e00ae0eb291c07c25957b58e0c036c2890284f7eabd9e3eab76fccc14aa85a7"), looks := false }, kinds := [], alts := [], laidByText := true, laidKinds := [.data, .data, .data, .data, .data, .pinned], laidTests := true, laidLooks := .later }
def NamesResolvesUptoCardSaid : Prop := Claim7.holds Tryz.pinned (.plain (OpenSpec.upto namesResolvesSpec)) namesResolvesUptoCard

/-- THE SECOND FORM's CARD OF 'timeballlaw.NamesAll'. -/
def namesAllUptoCard : Claim7 := { stood := { row := namesAllUptoRow, standIns := [], harness := (true, "3e00ae0eb291c07c25957b58e0c036c2890284f7eabd9e3eab76fccc14aa85a7"), looks := false }, kinds := [], alts := [], laidByText := true, laidKinds := [.data, .data, .data, .data, .data, .pinned], laidTests := true, laidLooks := .later }
def NamesAllUptoCardSaid : Prop := Claim7.holds Tryz.pinned (.plain (OpenSpec.upto namesAllSpec)) namesAllUptoCard

/-- THE SECOND FORM's CARD OF 'timeballkeep.NamesSorted'. -/
def namesSortedUptoCard : Claim7 := { stood := { row := namesSortedUptoRow, standIns := [], harness := (true, "3e00ae0eb291c07c25957b58e0c036c2890284f7eabd9e3eab76fccc14aa85a7"), looks := false }, kinds := [], alts := [], laidByText := true, laidKinds := [.data, .data, .data, .data, .data, .pinned], laidTests := true, laidLooks := .later }
def NamesSortedUptoCardSaid : Prop := Claim7.holds Tryz.pinned (.plain (OpenSpec.upto namesSortedSpec)) namesSortedUptoCard

/-- THE SECOND FORM's CARD OF 'timeballkeep.NamesLoops'. -/
def namesLoopsUptoCard : Claim7 := { stood := { row := namesLoopsUptoRow, standIns := [], harness := (true, "3e00ae0eb291c07c25957b58e0c036c2890284f7eabd9e3eab76fccc14aa85a7"), looks := false }, kinds := [], alts := [], laidByText := true, laidKinds := [.data, .data, .data, .data, .data, .pinned], laidTests := true, laidLooks := .later }
def NamesLoopsUptoCardSaid : Prop := Claim7.holds Tryz.pinned (.plain (OpenSpec.upto namesLoopsSpec)) namesLoopsUptoCard
end Rows
end Go.Proofs.YtemdgipkcilpcaaGreatDoor
