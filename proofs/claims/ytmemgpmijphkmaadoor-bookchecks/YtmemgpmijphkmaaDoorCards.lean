/-
  DERIVED. GIVEN WITH THE SEED: THE CARDS: each row of YtmemgpmijphkmaaDoorRows.lean that lists a variable, with what it lists TIED to the program's text (the seventh form; the later family's looks); each row that meets fmt, with fmt's text TOLD by the authors' own Lean function (tested against real Go, not proved from fmt's source: count such statements apart). THE CARD IS WHAT COUNTS. Prove the row's statement (the work); the ties are given (YtmemgpmijphkmaaDoorTie.lean); close each card by the builder's one call (the guide's Derived/Test/ToyasCard.lean, 'card_holds'). Laid BY PROGRAM, IN A SANDBOX (cutbox-door.mjs). By AI agents, Wed Nov 11 2026. No macro, syntax, notation, axiom, sorry.
-/
import Derived.Test.YtmemgpmijphkmaaDoorRows
import GoSem.ClaimSeven
namespace Go.Proofs.YtmemgpmijphkmaaDoor
namespace Rows

/-- THE TIED CARD OF 'timeballlaw.BookAbbrs'. -/
def bookAbbrsCard : Claim7 := { stood := { row := bookAbbrsRow, standIns := [], harness := (true, "d080c415ce2da1b6aa5b93edb505ca315e03a149b002d7a5a9bf3f69e91fa0f9"), looks := false }, kinds := [], alts := [], laidByText := true, laidKinds := [.data, .pinned], laidTests := true, laidLooks := .later }
def BookAbbrsCardSaid : Prop := Claim7.holds Tryd.pinned (.plain (OpenSpec.ofChange bookAbbrsSpec)) bookAbbrsCard

/-- THE TIED CARD OF 'timeballlaw.BookChecks'. -/
def bookChecksCard : Claim7 := { stood := { row := bookChecksRow, standIns := [], harness := (true, "d080c415ce2da1b6aa5b93edb505ca315e03a149b002d7a5a9bf3f69e91fa0f9"), looks := false }, kinds := [], alts := [], laidByText := true, laidKinds := [.data, .data, .data, .data, .data, .pinned], laidTests := true, laidLooks := .later }
def BookChecksCardSaid : Prop := Claim7.holds Tryd.pinned (.plain (OpenSpec.ofChange bookChecksSpec)) bookChecksCard

/-- THE SECOND FORM's CARD OF 'timeballlaw.BookAbbrs'. -/
def bookAbbrsUptoCard : Claim7 := { stood := { row := bookAbbrsUptoRow, standIns := [], harness := (true, "d080c415ce2da1b6aa5b93edb505ca315e03a149b002d7a5a9bf3f69e91fa0f9"), looks := false }, kinds := [], alts := [], laidByText := true, laidKinds := [.data, .pinned], laidTests := true, laidLooks := .later }
def BookAbbrsUptoCardSaid : Prop := Claim7.holds Tryd.pinned (.plain (OpenSpec.upto bookAbbrsSpec)) bookAbbrsUptoCard

/-- THE SECOND FORM's CARD OF 'timeballlaw.BookChecks'. -/
def bookChecksUptoCard : Claim7 := { stood := { row := bookChecksUptoRow, standIns := [], harness := (true, "d080c415ce2da1b6aa5b93edb505ca315e03a149b002d7a5a9bf3f69e91fa0f9"), looks := false }, kinds := [], alts := [], laidByText := true, laidKinds := [.data, .data, .data, .data, .data, .pinned], laidTests := true, laidLooks := .later }
def BookChecksUptoCardSaid : Prop := Claim7.holds Tryd.pinned (.plain (OpenSpec.upto bookChecksSpec)) bookChecksUptoCard
end Rows
end Go.Proofs.YtmemgpmijphkmaaDoor
