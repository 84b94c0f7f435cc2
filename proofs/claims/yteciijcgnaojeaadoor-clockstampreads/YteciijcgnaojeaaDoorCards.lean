/-
  DERIVED. GIVEN WITH THE SEED: THE CARDS: each row of YteciijcgnaojeaaDoorRows.lean that lists a variable, with what it lists TIED to the program's text (the seventh form; the later family's looks); each row that meets fmt, with fmt's text TOLD by the authors' own Lean function (tested against real Go, not proved from fmt's source: count such statements apart). THE CARD IS WHAT COUNTS. Prove the row's statement (the work); the ties are given (YteciijcgnaojeaaDoorTie.lean); close each card by the builder's one call (the guide's Derived/Test/ToyasCard.lean, 'card_holds'). Laid BY PROGRAM, IN A SANDBOX (cutbox-door.mjs). By AI agents, Wed Nov 11 2026. No macro, syntax, notation, axiom, sorry.
-/
import Derived.Test.YteciijcgnaojeaaDoorRows
import GoSem.ClaimSeven
namespace Go.Proofs.YteciijcgnaojeaaDoor
namespace Rows

/-- THE TIED CARD OF 'timeballlaw.ClockSpans'. -/
def clockSpansCard : Claim7 := { stood := { row := clockSpansRow, standIns := [], harness := (true, "367471203ce324c9a4fa415e4cd4101e3c27e427ffaf6b49fc6305f914d73088"), looks := false }, kinds := [], alts := [], laidByText := true, laidKinds := [.data, .data, .data, .data, .pinned], laidTests := true, laidLooks := .later }
def ClockSpansCardSaid : Prop := Claim7.holds Tryd.pinned (.plain (OpenSpec.ofChange clockSpansSpec)) clockSpansCard

/-- THE TIED CARD OF 'timeballlaw.ClockSpanReads'. -/
def clockSpanReadsCard : Claim7 := { stood := { row := clockSpanReadsRow, standIns := [], harness := (true, "367471203ce324c9a4fa415e4cd4101e3c27e427ffaf6b49fc6305f914d73088"), looks := false }, kinds := [], alts := [], laidByText := true, laidKinds := [.data, .pinned], laidTests := true, laidLooks := .later }
def ClockSpanReadsCardSaid : Prop := Claim7.holds Tryd.pinned (.plain (OpenSpec.ofChange clockSpanReadsSpec)) clockSpanReadsCard

/-- THE TIED CARD OF 'timeballlaw.ClockStamps'. -/
def clockStampsCard : Claim7 := { stood := { row := clockStampsRow, standIns := [], harness := (true, "367471203ce324c9a4fa415e4cd4101e3c27e427ffaf6b49fc6305f914d73088"), looks := false }, kinds := [], alts := [], laidByText := true, laidKinds := [.data, .data, .data, .data, .data, .pinned], laidTests := true, laidLooks := .later }
def ClockStampsCardSaid : Prop := Claim7.holds Tryd.pinned (.plain (OpenSpec.ofChange clockStampsSpec)) clockStampsCard

/-- THE TIED CARD OF 'timeballlaw.ClockStampReads'. -/
def clockStampReadsCard : Claim7 := { stood := { row := clockStampReadsRow, standIns := [], harness := (true, "367471203ce324c9a4fa415e4cd4101e3c27e427ffaf6b49fc6305f914d73088"), looks := false }, kinds := [], alts := [], laidByText := true, laidKinds := [.data, .data, .pinned], laidTests := true, laidLooks := .later }
def ClockStampReadsCardSaid : Prop := Claim7.holds Tryd.pinned (.plain (OpenSpec.ofChange clockStampReadsSpec)) clockStampReadsCard

/-- THE TIED CARD OF 'timeballkeep.SpanBack'. -/
def spanBackCard : Claim7 := { stood := { row := spanBackRow, standIns := [], harness := (true, "367471203ce324c9a4fa415e4cd4101e3c27e427ffaf6b49fc6305f914d73088"), looks := false }, kinds := [], alts := [], laidByText := true, laidKinds := [.data, .data, .data, .data, .data, .pinned], laidTests := true, laidLooks := .later }
def SpanBackCardSaid : Prop := Claim7.holds Tryd.pinned (.plain (OpenSpec.ofChange spanBackSpec)) spanBackCard

/-- THE TIED CARD OF 'timeballkeep.SpanOdd'. -/
def spanOddCard : Claim7 := { stood := { row := spanOddRow, standIns := [], harness := (true, "367471203ce324c9a4fa415e4cd4101e3c27e427ffaf6b49fc6305f914d73088"), looks := false }, kinds := [], alts := [], laidByText := true, laidKinds := [.data, .data, .data, .data], laidTests := true, laidLooks := .later }
def SpanOddCardSaid : Prop := Claim7.holds Tryd.pinned (.plain (OpenSpec.ofChange spanOddSpec)) spanOddCard

/-- THE TIED CARD OF 'timeballkeep.StampBack'. -/
def stampBackCard : Claim7 := { stood := { row := stampBackRow, standIns := [], harness := (true, "367471203ce324c9a4fa415e4cd4101e3c27e427ffaf6b49fc6305f914d73088"), looks := false }, kinds := [], alts := [], laidByText := true, laidKinds := [.data, .data, .data, .data], laidTests := true, laidLooks := .later }
def StampBackCardSaid : Prop := Claim7.holds Tryd.pinned (.plain (OpenSpec.ofChange stampBackSpec)) stampBackCard

/-- THE TIED CARD OF 'timeballkeep.StampOrder'. -/
def stampOrderCard : Claim7 := { stood := { row := stampOrderRow, standIns := [], harness := (true, "367471203ce324c9a4fa415e4cd4101e3c27e427ffaf6b49fc6305f914d73088"), looks := false }, kinds := [], alts := [], laidByText := true, laidKinds := [.data, .data, .data, .data], laidTests := true, laidLooks := .later }
def StampOrderCardSaid : Prop := Claim7.holds Tryd.pinned (.plain (OpenSpec.ofChange stampOrderSpec)) stampOrderCard

/-- THE TIED CARD OF 'timeballkeep.StampNext'. -/
def stampNextCard : Claim7 := { stood := { row := stampNextRow, standIns := [], harness := (true, "367471203ce324c9a4fa415e4cd4101e3c27e427ffaf6b49fc6305f914d73088"), looks := false }, kinds := [], alts := [], laidByText := true, laidKinds := [.data, .data, .data, .data], laidTests := true, laidLooks := .later }
def StampNextCardSaid : Prop := Claim7.holds Tryd.pinned (.plain (OpenSpec.ofChange stampNextSpec)) stampNextCard

/-- THE TIED CARD OF 'timeballkeep.SpanHours'. -/
def spanHoursCard : Claim7 := { stood := { row := spanHoursRow, standIns := [], harness := (true, "367471203ce324c9a4fa415e4cd4101e3c27e427ffaf6b49fc6305f914d73088"), looks := false }, kinds := [], alts := [], laidByText := true, laidKinds := [.data, .data, .data, .data], laidTests := true, laidLooks := .later }
def SpanHoursCardSaid : Prop := Claim7.holds Tryd.pinned (.plain (OpenSpec.ofChange spanHoursSpec)) spanHoursCard

/-- THE TIED CARD OF 'timeballkeep.StampDates'. -/
def stampDatesCard : Claim7 := { stood := { row := stampDatesRow, standIns := [], harness := (true, "367471203ce324c9a4fa415e4cd4101e3c27e427ffaf6b49fc6305f914d73088"), looks := false }, kinds := [], alts := [], laidByText := true, laidKinds := [.data, .data, .data, .data], laidTests := true, laidLooks := .later }
def StampDatesCardSaid : Prop := Claim7.holds Tryd.pinned (.plain (OpenSpec.ofChange stampDatesSpec)) stampDatesCard

/-- THE SECOND FORM's CARD OF 'timeballlaw.ClockSpans'. -/
def clockSpansUptoCard : Claim7 := { stood := { row := clockSpansUptoRow, standIns := [], harness := (true, "367471203ce324c9a4fa415e4cd4101e3c27e427ffaf6b49fc6305f914d73088"), looks := false }, kinds := [], alts := [], laidByText := true, laidKinds := [.data, .data, .data, .data, .pinned], laidTests := true, laidLooks := .later }
def ClockSpansUptoCardSaid : Prop := Claim7.holds Tryd.pinned (.plain (OpenSpec.upto clockSpansSpec)) clockSpansUptoCard

/-- THE SECOND FORM's CARD OF 'timeballlaw.ClockSpanReads'. -/
def clockSpanReadsUptoCard : Claim7 := { stood := { row := clockSpanReadsUptoRow, standIns := [], harness := (true, "367471203ce324c9a4fa415e4cd4101e3c27e427ffaf6b49fc6305f914d73088"), looks := false }, kinds := [], alts := [], laidByText := true, laidKinds := [.data, .pinned], laidTests := true, laidLooks := .later }
def ClockSpanReadsUptoCardSaid : Prop := Claim7.holds Tryd.pinned (.plain (OpenSpec.upto clockSpanReadsSpec)) clockSpanReadsUptoCard

/-- THE SECOND FORM's CARD OF 'timeballlaw.ClockStamps'. -/
def clockStampsUptoCard : Claim7 := { stood := { row := clockStampsUptoRow, standIns := [], harness := (true, "367471203ce324c9a4fa415e4cd4101e3c27e427ffaf6b49fc6305f914d73088"), looks := false }, kinds := [], alts := [], laidByText := true, laidKinds := [.data, .data, .data, .data, .data, .pinned], laidTests := true, laidLooks := .later }
def ClockStampsUptoCardSaid : Prop := Claim7.holds Tryd.pinned (.plain (OpenSpec.upto clockStampsSpec)) clockStampsUptoCard

/-- THE SECOND FORM's CARD OF 'timeballlaw.ClockStampReads'. -/
def clockStampReadsUptoCard : Claim7 := { stood := { row := clockStampReadsUptoRow, standIns := [], harness := (true, "367471203ce324c9a4fa415e4cd4101e3c27e427ffaf6b49fc6305f914d73088"), looks := false }, kinds := [], alts := [], laidByText := true, laidKinds := [.data, .data, .pinned], laidTests := true, laidLooks := .later }
def ClockStampReadsUptoCardSaid : Prop := Claim7.holds Tryd.pinned (.plain (OpenSpec.upto clockStampReadsSpec)) clockStampReadsUptoCard

/-- THE SECOND FORM's CARD OF 'timeballkeep.SpanBack'. -/
def spanBackUptoCard : Claim7 := { stood := { row := spanBackUptoRow, standIns := [], harness := (true, "367471203ce324c9a4fa415e4cd4101e3c27e427ffaf6b49fc6305f914d73088"), looks := false }, kinds := [], alts := [], laidByText := true, laidKinds := [.data, .data, .data, .data, .data, .pinned], laidTests := true, laidLooks := .later }
def SpanBackUptoCardSaid : Prop := Claim7.holds Tryd.pinned (.plain (OpenSpec.upto spanBackSpec)) spanBackUptoCard

/-- THE SECOND FORM's CARD OF 'timeballkeep.SpanOdd'. -/
def spanOddUptoCard : Claim7 := { stood := { row := spanOddUptoRow, standIns := [], harness := (true, "367471203ce324c9a4fa415e4cd4101e3c27e427ffaf6b49fc6305f914d73088"), looks := false }, kinds := [], alts := [], laidByText := true, laidKinds := [.data, .data, .data, .data], laidTests := true, laidLooks := .later }
def SpanOddUptoCardSaid : Prop := Claim7.holds Tryd.pinned (.plain (OpenSpec.upto spanOddSpec)) spanOddUptoCard

/-- THE SECOND FORM's CARD OF 'timeballkeep.StampBack'. -/
def stampBackUptoCard : Claim7 := { stood := { row := stampBackUptoRow, standIns := [], harness := (true, "367471203ce324c9a4fa415e4cd4101e3c27e427ffaf6b49fc6305f914d73088"), looks := false }, kinds := [], alts := [], laidByText := true, laidKinds := [.data, .data, .data, .data], laidTests := true, laidLooks := .later }
def StampBackUptoCardSaid : Prop := Claim7.holds Tryd.pinned (.plain (OpenSpec.upto stampBackSpec)) stampBackUptoCard

/-- THE SECOND FORM's CARD OF 'timeballkeep.StampOrder'. -/
def stampOrderUptoCard : Claim7 := { stood := { row := stampOrderUptoRow, standIns := [], harness := (true, "367471203ce324c9a4fa415e4cd4101e3c27e427ffaf6b49fc6305f914d73088"), looks := false }, kinds := [], alts := [], laidByText := true, laidKinds := [.data, .data, .data, .data], laidTests := true, laidLooks := .later }
def StampOrderUptoCardSaid : Prop := Claim7.holds Tryd.pinned (.plain (OpenSpec.upto stampOrderSpec)) stampOrderUptoCard

/-- THE SECOND FORM's CARD OF 'timeballkeep.StampNext'. -/
def stampNextUptoCard : Claim7 := { stood := { row := stampNextUptoRow, standIns := [], harness := (true, "367471203ce324c9a4fa415e4cd4101e3c27e427ffaf6b49fc6305f914d73088"), looks := false }, kinds := [], alts := [], laidByText := true, laidKinds := [.data, .data, .data, .data], laidTests := true, laidLooks := .later }
def StampNextUptoCardSaid : Prop := Claim7.holds Tryd.pinned (.plain (OpenSpec.upto stampNextSpec)) stampNextUptoCard

/-- THE SECOND FORM's CARD OF 'timeballkeep.SpanHours'. -/
def spanHoursUptoCard : Claim7 := { stood := { row := spanHoursUptoRow, standIns := [], harness := (true, "367471203ce324c9a4fa415e4cd4101e3c27e427ffaf6b49fc6305f914d73088"), looks := false }, kinds := [], alts := [], laidByText := true, laidKinds := [.data, .data, .data, .data], laidTests := true, laidLooks := .later }
def SpanHoursUptoCardSaid : Prop := Claim7.holds Tryd.pinned (.plain (OpenSpec.upto spanHoursSpec)) spanHoursUptoCard

/-- THE SECOND FORM's CARD OF 'timeballkeep.StampDates'. -/
def stampDatesUptoCard : Claim7 := { stood := { row := stampDatesUptoRow, standIns := [], harness := (true, "367471203ce324c9a4fa415e4cd4101e3c27e427ffaf6b49fc6305f914d73088"), looks := false }, kinds := [], alts := [], laidByText := true, laidKinds := [.data, .data, .data, .data], laidTests := true, laidLooks := .later }
def StampDatesUptoCardSaid : Prop := Claim7.holds Tryd.pinned (.plain (OpenSpec.upto stampDatesSpec)) stampDatesUptoCard
end Rows
end Go.Proofs.YteciijcgnaojeaaDoor
