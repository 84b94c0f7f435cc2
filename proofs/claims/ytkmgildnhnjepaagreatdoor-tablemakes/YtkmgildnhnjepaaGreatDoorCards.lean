/-
  DERIVED. GIVEN WITH THE SEED: THE CARDS: each row of YtkmgildnhnjepaaGreatDoorRows.lean that lists a variable, with what it lists TIED to the program's text (the seventh form; the later family's looks); each row that meets fmt, with fmt's text TOLD by the authors' own Lean function (tested against real Go, not proved from fmt's source: count such statements apart). THE CARD IS WHAT COUNTS. Prove the row's statement (the work); the ties are given (YtkmgildnhnjepaaGreatDoorTie.lean); close each card by the builder's one call (the guide's Derived/Test/ToyasCard.lean, 'card_holds'). Laid BY PROGRAM, IN A SANDBOX (cutbox-door.mjs). By AI agents, Wed Nov 11 2026. No macro, syntax, notation, axiom, sorry.
-/
import Derived.Test.YtkmgildnhnjepaaGreatDoorRows
import GoSem.ClaimSeven
namespace Go.Proofs.YtkmgildnhnjepaaGreatDoor
namespace Rows

/-- THE TIED CARD OF 'timeballlaw.TableMakes'. -/
def tableMakesCard : Claim7 := { stood := { row := tableMakesRow, standIns := [], harness := (true, "037eecad976e186594e948fa3160637361c7fadd6611789ab01fd41080b9534e"), looks := false }, kinds := [], alts := [], laidByText := true, laidKinds := [.data, .data, .data, .data, .data, .pinned], laidTests := true, laidLooks := .later }
def TableMakesCardSaid : Prop := Claim7.holds Tryz.pinned (.plain (OpenSpec.ofChange tableMakesSpec)) tableMakesCard

/-- THE TIED CARD OF 'timeballkeep.TableSays'. -/
def tableSaysCard : Claim7 := { stood := { row := tableSaysRow, standIns := [], harness := (true, "037eecad976e186594e948fa3160637361c7fadd6611789ab01fd41080b9534e"), looks := false }, kinds := [], alts := [], laidByText := true, laidKinds := [.data, .data, .data, .data, .data, .pinned], laidTests := true, laidLooks := .later }
def TableSaysCardSaid : Prop := Claim7.holds Tryz.pinned (.plain (OpenSpec.ofChange tableSaysSpec)) tableSaysCard

/-- THE TIED CARD OF 'timeballkeep.TableLinks'. -/
def tableLinksCard : Claim7 := { stood := { row := tableLinksRow, standIns := [], harness := (true, "037eecad976e186594e948fa3160637361c7fadd6611789ab01fd41080b9534e"), looks := false }, kinds := [], alts := [], laidByText := true, laidKinds := [.data, .data, .data, .data, .data, .pinned], laidTests := true, laidLooks := .later }
def TableLinksCardSaid : Prop := Claim7.holds Tryz.pinned (.plain (OpenSpec.ofChange tableLinksSpec)) tableLinksCard

/-- THE TIED CARD OF 'timeballkeep.StateSteady'. -/
def stateSteadyCard : Claim7 := { stood := { row := stateSteadyRow, standIns := [], harness := (true, "037eecad976e186594e948fa3160637361c7fadd6611789ab01fd41080b9534e"), looks := false }, kinds := [], alts := [], laidByText := true, laidKinds := [.data, .data, .data, .data, .data, .pinned], laidTests := true, laidLooks := .later }
def StateSteadyCardSaid : Prop := Claim7.holds Tryz.pinned (.plain (OpenSpec.ofChange stateSteadySpec)) stateSteadyCard

/-- THE TIED CARD OF 'timeballkeep.TableFixed'. -/
def tableFixedCard : Claim7 := { stood := { row := tableFixedRow, standIns := [], harness := (true, "037eecad976e186594e948fa3160637361c7fadd6611789ab01fd41080b9534e"), looks := false }, kinds := [], alts := [], laidByText := true, laidKinds := [.data, .data, .data, .data, .data, .pinned], laidTests := true, laidLooks := .later }
def TableFixedCardSaid : Prop := Claim7.holds Tryz.pinned (.plain (OpenSpec.ofChange tableFixedSpec)) tableFixedCard

/-- THE TIED CARD OF 'timeballkeep.TableJoin'. -/
def tableJoinCard : Claim7 := { stood := { row := tableJoinRow, standIns := [], harness := (true, "037eecad976e186594e948fa3160637361c7fadd6611789ab01fd41080b9534e"), looks := false }, kinds := [], alts := [], laidByText := true, laidKinds := [.data, .data, .data, .data, .data, .pinned], laidTests := true, laidLooks := .later }
def TableJoinCardSaid : Prop := Claim7.holds Tryz.pinned (.plain (OpenSpec.ofChange tableJoinSpec)) tableJoinCard

/-- THE SECOND FORM's CARD OF 'timeballlaw.TableMakes'. -/
def tableMakesUptoCard : Claim7 := { stood := { row := tableMakesUptoRow, standIns := [], harness := (true, "037eecad976e186594e948fa3160637361c7fadd6611789ab01fd41080b9534e"), looks := false }, kinds := [], alts := [], laidByText := true, laidKinds := [.data, .data, .data, .data, .data, .pinned], laidTests := true, laidLooks := .later }
def TableMakesUptoCardSaid : Prop := Claim7.holds Tryz.pinned (.plain (OpenSpec.upto tableMakesSpec)) tableMakesUptoCard

/-- THE SECOND FORM's CARD OF 'timeballkeep.TableSays'. -/
def tableSaysUptoCard : Claim7 := { stood := { row := tableSaysUptoRow, standIns := [], harness := (true, "037eecad976e186594e948fa3160637361c7fadd6611789ab01fd41080b9534e"), looks := false }, kinds := [], alts := [], laidByText := true, laidKinds := [.data, .data, .data, .data, .data, .pinned], laidTests := true, laidLooks := .later }
def TableSaysUptoCardSaid : Prop := Claim7.holds Tryz.pinned (.plain (OpenSpec.upto tableSaysSpec)) tableSaysUptoCard

/-- THE SECOND FORM's CARD OF 'timeballkeep.TableLinks'. -/
def tableLinksUptoCard : Claim7 := { stood := { row := tableLinksUptoRow, standIns := [], harness := (true, "037eecad976e186594e948fa3160637361c7fadd6611789ab01fd41080b9534e"), looks := false }, kinds := [], alts := [], laidByText := true, laidKinds := [.data, .data, .data, .data, .data, .pinned], laidTests := true, laidLooks := .later }
def TableLinksUptoCardSaid : Prop := Claim7.holds Tryz.pinned (.plain (OpenSpec.upto tableLinksSpec)) tableLinksUptoCard

/-- THE SECOND FORM's CARD OF 'timeballkeep.StateSteady'. -/
def stateSteadyUptoCard : Claim7 := { stood := { row := stateSteadyUptoRow, standIns := [], harness := (true, "037eecad976e186594e948fa3160637361c7fadd6611789ab01fd41080b9534e"), looks := false }, kinds := [], alts := [], laidByText := true, laidKinds := [.data, .data, .data, .data, .data, .pinned], laidTests := true, laidLooks := .later }
def StateSteadyUptoCardSaid : Prop := Claim7.holds Tryz.pinned (.plain (OpenSpec.upto stateSteadySpec)) stateSteadyUptoCard

/-- THE SECOND FORM's CARD OF 'timeballkeep.TableFixed'. -/
def tableFixedUptoCard : Claim7 := { stood := { row := tableFixedUptoRow, standIns := [], harness := (true, "037eecad976e186594e948fa3160637361c7fadd6611789ab01fd41080b9534e"), looks := false }, kinds := [], alts := [], laidByText := true, laidKinds := [.data, .data, .data, .data, .data, .pinned], laidTests := true, laidLooks := .later }
def TableFixedUptoCardSaid : Prop := Claim7.holds Tryz.pinned (.plain (OpenSpec.upto tableFixedSpec)) tableFixedUptoCard

/-- THE SECOND FORM's CARD OF 'timeballkeep.TableJoin'. -/
def tableJoinUptoCard : Claim7 := { stood := { row := tableJoinUptoRow, standIns := [], harness := (true, "037eecad976e186594e948fa3160637361c7fadd6611789ab01fd41080b9534e"), looks := false }, kinds := [], alts := [], laidByText := true, laidKinds := [.data, .data, .data, .data, .data, .pinned], laidTests := true, laidLooks := .later }
def TableJoinUptoCardSaid : Prop := Claim7.holds Tryz.pinned (.plain (OpenSpec.upto tableJoinSpec)) tableJoinUptoCard
end Rows
end Go.Proofs.YtkmgildnhnjepaaGreatDoor
