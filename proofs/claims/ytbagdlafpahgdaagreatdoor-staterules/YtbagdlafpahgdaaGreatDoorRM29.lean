/- A day of a month as an argument: how it is read, how it is shut again. A rule as an argument: how it is read, how it is shut again. -/
import Derived.ProofKit
import Derived.OpenShut
import Derived.ChangeSame
import Derived.Test.YtbagdlafpahgdaaGreatDoorRM08
namespace Go.Proofs.YtbagdlafpahgdaaGreatDoor
open Go.ChangeShapes Go.WideShapes Go.ChangeAt Go.RowKit
set_option linter.unusedVariables false
set_option linter.unusedSimpArgs false
section
variable {H : Type} {enc : TypeId × Value → H} {W : World} {base : Nat} {sp : Nat → Bool} {held : Bool}
/-- the datum of a day -/
abbrev dayD (k d n : Int) : DataW H := .agg [.lit (.int .i64 k), .lit (.int .i64 d), .lit (.int .i64 n)]
theorem cellsDay : Tryz.prog.cellsOf 42 = 3 := by kernel_rfl
theorem cellsInt : Tryz.prog.cellsOf 3 = 1 := by kernel_rfl
end
end Go.Proofs.YtbagdlafpahgdaaGreatDoor
namespace Go.Proofs.YtbagdlafpahgdaaGreatDoor
open Go.ChangeShapes Go.WideShapes Go.ChangeAt Go.RowKit
set_option linter.unusedVariables false
set_option linter.unusedSimpArgs false
section
variable {H : Type} {enc : TypeId × Value → H} {W : World} {base : Nat} {sp : Nat → Bool} {held : Bool}
theorem cellsRule : Tryz.prog.cellsOf 44 = 11 := by kernel_rfl
theorem cellsStr : Tryz.prog.cellsOf 9 = 1 := by kernel_rfl
theorem int_cell {c : Value} {m : Nat} {x : DataW H × List MemPlace} (h : DataW.trod enc Tryz.prog W base sp held m 3 [c] = some x) : ∃ a : Int, c = .int .i64 a ∧ x = (.lit (.int .i64 a), []) ∧ (Lit.int .i64 a).wf = true := by
  obtain ⟨a, ea, rfl, wa⟩ := DataW.trod_int Tryz.underlying3 h
  exact ⟨a, (List.cons.inj ea).1, rfl, wa⟩
theorem str_cell {c : Value} {m : Nat} {x : DataW H × List MemPlace} (h : DataW.trod enc Tryz.prog W base sp held m 9 [c] = some x) : ∃ s : ByteArray, c = .string s ∧ x = (.lit (.string s.data.toList), []) ∧ s.size ≤ maxLen := by
  obtain ⟨a, ea, hx, wa⟩ := DataW.trod_string Tryz.underlying9 h
  exact ⟨a, (List.cons.inj ea).1, hx, wa⟩
theorem day_cells {c0 c1 c2 : Value} {m : Nat} {x : DataW H × List MemPlace} (hf : DataW.trod enc Tryz.prog W base sp held m 42 [c0, c1, c2] = some x) :
    ∃ a b c : Int, c0 = .int .i64 a ∧ c1 = .int .i64 b ∧ c2 = .int .i64 c ∧ x = (dayD a b c, []) ∧ (Lit.int .i64 a).wf = true ∧ (Lit.int .i64 b).wf = true ∧ (Lit.int .i64 c).wf = true := by
  obtain ⟨xs, m', _, hx, _, hlen, hfs⟩ := DataW.trod_struct Tryz.underlying42 hf
  match xs, hlen with
  | [y0, y1, y2], _ =>
    have f0 : DataW.trod enc Tryz.prog W base sp held m' 3 (([c0, c1, c2].drop 0).take (Tryz.prog.cellsOf 3)) = some y0 := hfs 0 _ rfl
    have f1 : DataW.trod enc Tryz.prog W base sp held m' 3 (([c0, c1, c2].drop 1).take (Tryz.prog.cellsOf 3)) = some y1 := hfs 1 _ rfl
    have f2 : DataW.trod enc Tryz.prog W base sp held m' 3 (([c0, c1, c2].drop 2).take (Tryz.prog.cellsOf 3)) = some y2 := hfs 2 _ rfl
    rw [cellsInt] at f0 f1 f2
    obtain ⟨a, ea, rfl, wa⟩ := int_cell f0
    obtain ⟨b, eb, rfl, wb⟩ := int_cell f1
    obtain ⟨c, ec, rfl, wc⟩ := int_cell f2
    exact ⟨a, b, c, ea, eb, ec, hx, wa, wb, wc⟩
end
end Go.Proofs.YtbagdlafpahgdaaGreatDoor
