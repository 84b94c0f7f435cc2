/- A table and a span as arguments, laid open. -/
import Derived.Test.YtkmgildnhnjepaaGreatDoorTM22
import Derived.Test.YtkmgildnhnjepaaGreatDoorTM32
namespace Go.Proofs.YtkmgildnhnjepaaGreatDoor
open Go.ChangeShapes Go.WideShapes Go.ChangeAt Go.RowKit Go.Deep
set_option linter.unusedVariables false
set_option linter.unusedSimpArgs false
section
variable {H : Type} {enc : TypeId × Value → H} {W : World} {base : Nat} {sp : Nat → Bool} {held : Bool}
theorem cellsSpan : Tryz.prog.cellsOf 28 = 2 := by kernel_rfl

set_option maxRecDepth 100000 in
theorem open_span {r : Reach} {b0 : Nat} {v : Value} {dd : DataW H} {ps : List MemPlace} (hval : Value.okWide Tryz.prog W r b0 28 v) (hd : DataW.Trod enc Tryz.prog W base sp held 28 v dd ps) :
    ∃ a b : Int, v = .agg #[.int .i64 a, .int .i64 b] ∧ I64 a ∧ I64 b := by
  obtain ⟨cs, rfl, hsz⟩ := okWide_struct Tryz.underlying28 hval
  rw [cellsSpan] at hsz
  obtain ⟨l⟩ := cs
  match l, hsz with
  | [c0, c1], _ =>
    obtain ⟨fuel, hf⟩ := hd
    obtain ⟨xs, m, _, hx, _, hlen, hfs⟩ := DataW.trod_struct Tryz.underlying28 hf
    match xs, hlen with
    | [y0, y1], _ =>
      have f0 : DataW.trod enc Tryz.prog W base sp held m 3 (([c0, c1].drop 0).take (Tryz.prog.cellsOf 3)) = some y0 := hfs 0 _ rfl
      have f1 : DataW.trod enc Tryz.prog W base sp held m 3 (([c0, c1].drop 1).take (Tryz.prog.cellsOf 3)) = some y1 := hfs 1 _ rfl
      rw [cellsInt] at f0 f1
      obtain ⟨a, rfl, rfl, w0⟩ := int_cell f0
      obtain ⟨b, rfl, rfl, w1⟩ := int_cell f1
      exact ⟨a, b, rfl, bounds_i64 w0, bounds_i64 w1⟩

theorem span_reads : Tryz.prog.readableRec 28 = true ∧ decide (28 < Tryz.prog.types.size) = true := by constructor <;> kernel_rfl
end
end Go.Proofs.YtkmgildnhnjepaaGreatDoor
