/- A table and a span as arguments, laid open. -/
import Derived.Test.YtkmgildnhnjepaaPM05
import Derived.Test.YtkmgildnhnjepaaPM07
namespace Go.Proofs.Ytkmgildnhnjepaa
open Go.ChangeShapes Go.WideShapes Go.ChangeAt Go.RowKit Go.Deep
set_option linter.unusedVariables false
set_option linter.unusedSimpArgs false
section
variable {H : Type} {enc : TypeId × Value → H} {W : World} {base : Nat} {sp : Nat → Bool} {held : Bool}
theorem bool_cell {c : Value} {m : Nat} {x : DataW H × List MemPlace} (h : DataW.trod enc Try.prog W base sp held m 4 [c] = some x) : ∃ a : Bool, c = .bool a := by
  obtain ⟨a, ea, _⟩ := DataW.trod_bool Try.underlying4 h
  exact ⟨a, (List.cons.inj ea).1⟩

theorem cellsBool : Try.prog.cellsOf 4 = 1 := by kernel_rfl

theorem cellsType : Try.prog.cellsOf 30 = 3 := by kernel_rfl

theorem cellsChange : Try.prog.cellsOf 39 = 2 := by kernel_rfl

theorem cellsTable : Try.prog.cellsOf 25 = 3 := by kernel_rfl

theorem cellsTys : Try.prog.cellsOf 22 = 1 := by kernel_rfl

theorem cellsChs : Try.prog.cellsOf 23 = 1 := by kernel_rfl

set_option maxRecDepth 100000 in
theorem type_elem (m : Nat) (cs : List Value) (y : DataW H × List MemPlace) (h : DataW.trod enc Try.prog W base sp held m 30 cs = some y) : ∃ e : TypD, cs = e.cells ∧ e.In := by
  obtain ⟨xs, m', _, hx, hl, hlen, hfs⟩ := DataW.trod_struct Try.underlying30 h
  rw [cellsType] at hl
  match cs, hl with
  | [c0, c1, c2], _ =>
    match xs, hlen with
    | [y0, y1, y2], _ =>
      have f0 : DataW.trod enc Try.prog W base sp held m' 3 (([c0, c1, c2].drop 0).take (Try.prog.cellsOf 3)) = some y0 := hfs 0 _ rfl
      have f1 : DataW.trod enc Try.prog W base sp held m' 4 (([c0, c1, c2].drop 1).take (Try.prog.cellsOf 4)) = some y1 := hfs 1 _ rfl
      have f2 : DataW.trod enc Try.prog W base sp held m' 9 (([c0, c1, c2].drop 2).take (Try.prog.cellsOf 9)) = some y2 := hfs 2 _ rfl
      rw [cellsInt] at f0
      rw [cellsBool] at f1
      rw [cellsStr] at f2
      obtain ⟨off, rfl, rfl, w0⟩ := int_cell f0
      obtain ⟨sv, rfl⟩ := bool_cell f1
      obtain ⟨nm, rfl, rfl, w2⟩ := str_cell f2
      exact ⟨⟨off, sv, nm⟩, rfl, w2, bounds_i64 w0⟩

set_option maxRecDepth 100000 in
theorem change_elem (m : Nat) (cs : List Value) (y : DataW H × List MemPlace) (h : DataW.trod enc Try.prog W base sp held m 39 cs = some y) : ∃ e : ChaD, cs = e.cells ∧ e.In := by
  obtain ⟨xs, m', _, hx, hl, hlen, hfs⟩ := DataW.trod_struct Try.underlying39 h
  rw [cellsChange] at hl
  match cs, hl with
  | [c0, c1], _ =>
    match xs, hlen with
    | [y0, y1], _ =>
      have f0 : DataW.trod enc Try.prog W base sp held m' 3 (([c0, c1].drop 0).take (Try.prog.cellsOf 3)) = some y0 := hfs 0 _ rfl
      have f1 : DataW.trod enc Try.prog W base sp held m' 3 (([c0, c1].drop 1).take (Try.prog.cellsOf 3)) = some y1 := hfs 1 _ rfl
      rw [cellsInt] at f0 f1
      obtain ⟨a, rfl, rfl, w0⟩ := int_cell f0
      obtain ⟨b, rfl, rfl, w1⟩ := int_cell f1
      exact ⟨⟨a, b⟩, rfl, bounds_i64 w0, bounds_i64 w1⟩

set_option maxRecDepth 100000 in
theorem open_table {r : Reach} {b0 : Nat} {v : Value} {dd : DataW H} {ps : List MemPlace} (hval : Value.okWide Try.prog W r b0 25 v) (hd : DataW.Trod enc Try.prog W base sp held 25 v dd ps) :
    ∃ x : TabD, v = tabV x ∧ x.Lies W := by
  obtain ⟨cs, rfl, hsz⟩ := okWide_struct Try.underlying25 hval
  rw [cellsTable] at hsz
  obtain ⟨l⟩ := cs
  match l, hsz with
  | [c0, c1, c2], _ =>
    obtain ⟨fuel, hf⟩ := hd
    obtain ⟨xs, m, _, hx, _, hlen, hfs⟩ := DataW.trod_struct Try.underlying25 hf
    match xs, hlen with
    | [y0, y1, y2], _ =>
      have f0 : DataW.trod enc Try.prog W base sp held m 22 (([c0, c1, c2].drop 0).take (Try.prog.cellsOf 22)) = some y0 := hfs 0 _ rfl
      have f1 : DataW.trod enc Try.prog W base sp held m 3 (([c0, c1, c2].drop 1).take (Try.prog.cellsOf 3)) = some y1 := hfs 1 _ rfl
      have f2 : DataW.trod enc Try.prog W base sp held m 23 (([c0, c1, c2].drop 2).take (Try.prog.cellsOf 23)) = some y2 := hfs 2 _ rfl
      rw [cellsTys] at f0
      rw [cellsInt] at f1
      rw [cellsChs] at f2
      obtain ⟨At, ct, ty, rfl, s0, r0, p0⟩ := open_rows Try.underlying22 cellsType (by omega) type_elem f0
      obtain ⟨fst, rfl, rfl, w1⟩ := int_cell f1
      obtain ⟨Ac, cc, ch, rfl, s2, r2, p2⟩ := open_rows Try.underlying23 cellsChange (by omega) change_elem f2
      exact ⟨⟨At, ct, ty, fst, Ac, cc, ch⟩, rfl, ⟨s0, r0, p0⟩, bounds_i64 w1, ⟨s2, r2, p2⟩⟩

theorem table_reads : Try.prog.readableRec 25 = true ∧ decide (25 < Try.prog.types.size) = true := by constructor <;> kernel_rfl

end
end Go.Proofs.Ytkmgildnhnjepaa
