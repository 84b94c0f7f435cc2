/- Slices written out in a plain region; rows of one thing or two. No function of the program in it. A day of a month as an argument: how it is read, how it is shut again. A rule as an argument: how it is read, how it is shut again. -/
import Derived.Deep.Upon
import Derived.Test.YtkbegommjlmfmaaGreatDoorQM25
import Derived.ProofKit
import Derived.OpenShut
import Derived.ChangeSame
import Derived.Test.YtkbegommjlmfmaaGreatDoorQM14
import Derived.Test.YtkbegommjlmfmaaGreatDoorQM15
namespace Go.Proofs.YtkbegommjlmfmaaGreatDoor
set_option linter.unusedVariables false
set_option linter.unusedSimpArgs false
open Go.RowKit
theorem lay_one {P : Program} {w : World} {ops : Array Oper} {rest : List Oper} {Q : Exit → Act → World → Prop} {a : Act} {d : Option Nat} {t ty : TypeId} {ps : String} {af : Array Edge} {x : Operand} (v0 v : Value) (w' : World)
    (hx : a.eval x = v0) (hr : (Instr.buildSlice t 1 #[(0, v0)]).run P w = .ok v w') (h : wpList P ops Q rest (a.put d v) w') :
    wpList P ops Q ({ dst := d, op := .buildSlice t 1 #[(0, x)], type := ty, pos := ps, after := af, guard := none } :: rest) a w := by
  refine wpList_plain rfl fun _ hK => ?_
  unfold Oper.wp execOp
  simp only [List.map_toArray, List.map_cons, List.map_nil, hx, Sem.run_bind, hr, Result.andThen_ok, Sem.run_pure]
  exact hK _ _ h
theorem step_two {P : Program} {w : World} {ops : Array Oper} {o : Oper} {a : Act} {K : Act → World → Prop} {Q : Exit → Act → World → Prop} {E : Prop} (hgd : o.guard = none) {t : TypeId} {x y : Operand} (ho : o.op = .buildSlice t 2 #[(0, x), (1, y)]) (v0 v1 v : Value) (w' : World)
    (hx : a.eval x = v0) (hy : a.eval y = v1) (hr : (Instr.buildSlice t 2 #[(0, v0), (1, v1)]).run P w = .ok v w') (h : K (a.put o.dst v) w') :
    if Region.wanted o (yielded ops a.tmps) = true then Oper.wp P o a w K Q else E := by
  have hw : Region.wanted o (yielded ops a.tmps) = true := by simp [Region.wanted, hgd]
  rw [if_pos hw]
  unfold Oper.wp execOp
  simp only [ho, List.map_toArray, List.map_cons, List.map_nil, hx, hy, Sem.run_bind, hr, Result.andThen_ok, Sem.run_pure]
  exact h
theorem step_one {P : Program} {w : World} {ops : Array Oper} {o : Oper} {a : Act} {K : Act → World → Prop} {Q : Exit → Act → World → Prop} {E : Prop} (hgd : o.guard = none) {t : TypeId} {x : Operand} (ho : o.op = .buildSlice t 1 #[(0, x)]) (v0 v : Value) (w' : World)
    (hx : a.eval x = v0) (hr : (Instr.buildSlice t 1 #[(0, v0)]).run P w = .ok v w') (h : K (a.put o.dst v) w') :
    if Region.wanted o (yielded ops a.tmps) = true then Oper.wp P o a w K Q else E := by
  have hw : Region.wanted o (yielded ops a.tmps) = true := by simp [Region.wanted, hgd]
  rw [if_pos hw]
  unfold Oper.wp execOp
  simp only [ho, List.map_toArray, List.map_cons, List.map_nil, hx, Sem.run_bind, hr, Result.andThen_ok, Sem.run_pure]
  exact h
/-- one thing in a block of its own -/
theorem row_sgl {α : Type} {w : World} {b k : Nat} {T : TypeId} {enc : α → List Value} {x : α} {cs : Array Value} (h : w.heap[b]? = some (.cells cs T (0, 0))) (hc : cs.toList = enc x) : Row w k enc (some ⟨b, 0, none⟩) [x] := fun i y hy => by
  have hi := (List.getElem?_eq_some_iff.1 hy).1
  have e : i = 0 := by simp at hi; exact hi
  subst e
  have ey : x = y := by simpa using hy
  subst ey
  refine ⟨b, 0, rfl, (Array.getElem?_eq_some_iff.1 h).1, fun j v hv => ?_⟩
  rw [Nat.zero_mul, Nat.add_zero, Nat.zero_add]
  refine bcell_row h ?_
  rw [← Array.getElem?_toList, hc]; exact hv
/-- two things in a block of their own -/
theorem row_dbl {α : Type} {w : World} {b k : Nat} {T : TypeId} {enc : α → List Value} {x y : α} {cs : Array Value} (hk : ∀ x, (enc x).length = k) (h : w.heap[b]? = some (.cells cs T (0, 0))) (hc : cs.toList = enc x ++ enc y) : Row w k enc (some ⟨b, 0, none⟩) [x, y] := fun i z hz => by
  have hf := flat_get hk [x, y] i z hz
  refine ⟨b, 0, rfl, (Array.getElem?_eq_some_iff.1 h).1, fun j v hv => ?_⟩
  rw [Nat.zero_add]
  refine bcell_row h ?_
  rw [← Array.getElem?_toList, hc]
  have := hf j v hv
  simpa using this
end Go.Proofs.YtkbegommjlmfmaaGreatDoor
namespace Go.Proofs.YtkbegommjlmfmaaGreatDoor
open Go.ChangeShapes Go.WideShapes Go.ChangeAt Go.RowKit
set_option linter.unusedVariables false
set_option linter.unusedSimpArgs false
section
variable {H : Type} {enc : TypeId × Value → H} {W : World} {base : Nat} {sp : Nat → Bool} {held : Bool}
/-- the datum of a day -/
abbrev dayD (k d n : Int) : DataW H := .agg [.lit (.int .i64 k), .lit (.int .i64 d), .lit (.int .i64 n)]
theorem cellsDay : Tryz.prog.cellsOf 38 = 3 := by kernel_rfl
theorem cellsInt : Tryz.prog.cellsOf 3 = 1 := by kernel_rfl
end
end Go.Proofs.YtkbegommjlmfmaaGreatDoor
namespace Go.Proofs.YtkbegommjlmfmaaGreatDoor
open Go.ChangeShapes Go.WideShapes Go.ChangeAt Go.RowKit
set_option linter.unusedVariables false
set_option linter.unusedSimpArgs false
section
variable {H : Type} {enc : TypeId × Value → H} {W : World} {base : Nat} {sp : Nat → Bool} {held : Bool}
/-- the datum of a rule -/
abbrev ruleD (nm : List UInt8) (fr tt mo k d n at' by' sv : Int) (lt : List UInt8) : DataW H :=
  .agg [.lit (.string nm), .lit (.int .i64 fr), .lit (.int .i64 tt), .lit (.int .i64 mo), dayD k d n, .lit (.int .i64 at'), .lit (.int .i64 by'), .lit (.int .i64 sv), .lit (.string lt)]
theorem cellsRule : Tryz.prog.cellsOf 40 = 11 := by kernel_rfl
theorem cellsStr : Tryz.prog.cellsOf 9 = 1 := by kernel_rfl
theorem int_cell {c : Value} {m : Nat} {x : DataW H × List MemPlace} (h : DataW.trod enc Tryz.prog W base sp held m 3 [c] = some x) : ∃ a : Int, c = .int .i64 a ∧ x = (.lit (.int .i64 a), []) ∧ (Lit.int .i64 a).wf = true := by
  obtain ⟨a, ea, rfl, wa⟩ := DataW.trod_int Tryz.underlying3 h
  exact ⟨a, (List.cons.inj ea).1, rfl, wa⟩
theorem str_cell {c : Value} {m : Nat} {x : DataW H × List MemPlace} (h : DataW.trod enc Tryz.prog W base sp held m 9 [c] = some x) : ∃ s : ByteArray, c = .string s ∧ x = (.lit (.string s.data.toList), []) ∧ s.size ≤ maxLen := by
  obtain ⟨a, ea, hx, wa⟩ := DataW.trod_string Tryz.underlying9 h
  exact ⟨a, (List.cons.inj ea).1, hx, wa⟩
theorem day_cells {c0 c1 c2 : Value} {m : Nat} {x : DataW H × List MemPlace} (hf : DataW.trod enc Tryz.prog W base sp held m 38 [c0, c1, c2] = some x) :
    ∃ a b c : Int, c0 = .int .i64 a ∧ c1 = .int .i64 b ∧ c2 = .int .i64 c ∧ x = (dayD a b c, []) ∧ (Lit.int .i64 a).wf = true ∧ (Lit.int .i64 b).wf = true ∧ (Lit.int .i64 c).wf = true := by
  obtain ⟨xs, m', _, hx, _, hlen, hfs⟩ := DataW.trod_struct Tryz.underlying38 hf
  match xs, hlen with
  | [y0, y1, y2], _ =>
    have f0 : DataW.trod enc Tryz.prog W base sp held m' 3 (([c0, c1, c2].drop 0).take (Tryz.prog.cellsOf 3)) = some y0 := hfs 0 _ rfl
    have f1 : DataW.trod enc Tryz.prog W base sp held m' 3 (([c0, c1, c2].drop 1).take (Tryz.prog.cellsOf 3)) = some y1 := hfs 1 _ rfl
    have f2 : DataW.trod enc Tryz.prog W base sp held m' 3 (([c0, c1, c2].drop 2).take (Tryz.prog.cellsOf 3)) = some y2 := hfs 2 _ rfl
    rw [cellsInt] at f0 f1 f2
    obtain ⟨a, ea, rfl, wa⟩ := int_cell f0
    obtain ⟨b, eb, rfl, wb⟩ := int_cell f1
    obtain ⟨c, ec, rfl, wc⟩ := int_cell f2
    exact ⟨a, b, c, ea, eb, ec, hx, wa, wb, wc⟩
/-- what is known of a rule that came in -/
def RuleIn (nm : ByteArray) (fr tt mo k d n at' by' sv : Int) (lt : ByteArray) : Prop :=
  nm.size ≤ maxLen ∧ lt.size ≤ maxLen ∧ (Lit.int .i64 fr).wf = true ∧ (Lit.int .i64 tt).wf = true ∧ (Lit.int .i64 mo).wf = true ∧ (Lit.int .i64 k).wf = true ∧ (Lit.int .i64 d).wf = true ∧ (Lit.int .i64 n).wf = true ∧ (Lit.int .i64 at').wf = true ∧ (Lit.int .i64 by').wf = true ∧ (Lit.int .i64 sv).wf = true
set_option maxRecDepth 100000 in
theorem open_rule {r : Reach} {b0 : Nat} {v : Value} {dd : DataW H} {ps : List MemPlace} (hval : Value.okWide Tryz.prog W r b0 40 v) (hd : DataW.Trod enc Tryz.prog W base sp held 40 v dd ps) :
    ∃ (nm : ByteArray) (fr tt mo k d n at' by' sv : Int) (lt : ByteArray), v = ruleV nm fr tt mo k d n at' by' sv lt ∧ dd = ruleD nm.data.toList fr tt mo k d n at' by' sv lt.data.toList ∧ ps = [] ∧ RuleIn nm fr tt mo k d n at' by' sv lt := by
  obtain ⟨cs, rfl, hsz⟩ := okWide_struct Tryz.underlying40 hval
  rw [cellsRule] at hsz
  obtain ⟨l⟩ := cs
  match l, hsz with
  | [c0, c1, c2, c3, c4, c5, c6, c7, c8, c9, c10], _ =>
    obtain ⟨fuel, hf⟩ := hd
    obtain ⟨xs, m, _, hx, _, hlen, hfs⟩ := DataW.trod_struct Tryz.underlying40 hf
    match xs, hlen with
    | [y0, y1, y2, y3, y4, y5, y6, y7, y8], _ =>
      have f0 : DataW.trod enc Tryz.prog W base sp held m 9 (([c0, c1, c2, c3, c4, c5, c6, c7, c8, c9, c10].drop 0).take (Tryz.prog.cellsOf 9)) = some y0 := hfs 0 _ rfl
      have f1 : DataW.trod enc Tryz.prog W base sp held m 3 (([c0, c1, c2, c3, c4, c5, c6, c7, c8, c9, c10].drop 1).take (Tryz.prog.cellsOf 3)) = some y1 := hfs 1 _ rfl
      have f2 : DataW.trod enc Tryz.prog W base sp held m 3 (([c0, c1, c2, c3, c4, c5, c6, c7, c8, c9, c10].drop 2).take (Tryz.prog.cellsOf 3)) = some y2 := hfs 2 _ rfl
      have f3 : DataW.trod enc Tryz.prog W base sp held m 3 (([c0, c1, c2, c3, c4, c5, c6, c7, c8, c9, c10].drop 3).take (Tryz.prog.cellsOf 3)) = some y3 := hfs 3 _ rfl
      have f4 : DataW.trod enc Tryz.prog W base sp held m 38 (([c0, c1, c2, c3, c4, c5, c6, c7, c8, c9, c10].drop 4).take (Tryz.prog.cellsOf 38)) = some y4 := hfs 4 _ rfl
      have f5 : DataW.trod enc Tryz.prog W base sp held m 3 (([c0, c1, c2, c3, c4, c5, c6, c7, c8, c9, c10].drop 7).take (Tryz.prog.cellsOf 3)) = some y5 := hfs 5 _ rfl
      have f6 : DataW.trod enc Tryz.prog W base sp held m 3 (([c0, c1, c2, c3, c4, c5, c6, c7, c8, c9, c10].drop 8).take (Tryz.prog.cellsOf 3)) = some y6 := hfs 6 _ rfl
      have f7 : DataW.trod enc Tryz.prog W base sp held m 3 (([c0, c1, c2, c3, c4, c5, c6, c7, c8, c9, c10].drop 9).take (Tryz.prog.cellsOf 3)) = some y7 := hfs 7 _ rfl
      have f8 : DataW.trod enc Tryz.prog W base sp held m 9 (([c0, c1, c2, c3, c4, c5, c6, c7, c8, c9, c10].drop 10).take (Tryz.prog.cellsOf 9)) = some y8 := hfs 8 _ rfl
      rw [cellsInt] at f1 f2 f3 f5 f6 f7
      rw [cellsStr] at f0 f8
      rw [cellsDay] at f4
      obtain ⟨nm, rfl, rfl, w0⟩ := str_cell f0
      obtain ⟨fr, rfl, rfl, w1⟩ := int_cell f1
      obtain ⟨tt, rfl, rfl, w2⟩ := int_cell f2
      obtain ⟨mo, rfl, rfl, w3⟩ := int_cell f3
      obtain ⟨k, d, n, rfl, rfl, rfl, rfl, w4, w5, w6⟩ := day_cells f4
      obtain ⟨at', rfl, rfl, w7⟩ := int_cell f5
      obtain ⟨by', rfl, rfl, w8⟩ := int_cell f6
      obtain ⟨sv, rfl, rfl, w9⟩ := int_cell f7
      obtain ⟨lt, rfl, rfl, w10⟩ := str_cell f8
      exact ⟨nm, fr, tt, mo, k, d, n, at', by', sv, lt, rfl, congrArg Prod.fst hx, congrArg Prod.snd hx, w0, w10, w1, w2, w3, w4, w5, w6, w7, w8, w9⟩
theorem trod_str_mk {s : ByteArray} (m : Nat) (hs : s.size ≤ maxLen) : DataW.trod enc Tryz.prog W base sp held (m + 1) 9 [.string s] = some (.lit (.string s.data.toList), []) := by
  simp [DataW.trod, Tryz.underlying9, hs]
theorem trod_day_mk {a b c : Int} (wa : (Lit.int .i64 a).wf = true) (wb : (Lit.int .i64 b).wf = true) (wc : (Lit.int .i64 c).wf = true) :
    DataW.trod enc Tryz.prog W base sp held 2 38 [.int .i64 a, .int .i64 b, .int .i64 c] = some (dayD a b c, []) :=
  trod_struct_mk (xs := [(.lit (.int .i64 a), []), (.lit (.int .i64 b), []), (.lit (.int .i64 c), [])]) Tryz.underlying38 (by rw [cellsDay]; rfl) (by
    simp [cellsInt, trod_int_mk 0 Tryz.underlying3 wa, trod_int_mk 0 Tryz.underlying3 wb, trod_int_mk 0 Tryz.underlying3 wc])
set_option maxRecDepth 100000 in
theorem shut_rule {nm : ByteArray} {fr tt mo k d n at' by' sv : Int} {lt : ByteArray} (h : RuleIn nm fr tt mo k d n at' by' sv lt) :
    DataW.Trod enc Tryz.prog W base sp held 40 (ruleV nm fr tt mo k d n at' by' sv lt) (ruleD nm.data.toList fr tt mo k d n at' by' sv lt.data.toList) [] := by
  obtain ⟨w0, w10, w1, w2, w3, w4, w5, w6, w7, w8, w9⟩ := h
  exact ⟨3, trod_struct_mk (xs := [(.lit (.string nm.data.toList), []), (.lit (.int .i64 fr), []), (.lit (.int .i64 tt), []), (.lit (.int .i64 mo), []), (dayD k d n, []), (.lit (.int .i64 at'), []), (.lit (.int .i64 by'), []), (.lit (.int .i64 sv), []), (.lit (.string lt.data.toList), [])]) Tryz.underlying40 (by rw [cellsRule]; rfl) (by
    simp [cellsInt, cellsStr, cellsDay, Value.cells, trod_str_mk 1 w0, trod_str_mk 1 w10, trod_int_mk 1 Tryz.underlying3 w1, trod_int_mk 1 Tryz.underlying3 w2, trod_int_mk 1 Tryz.underlying3 w3, trod_day_mk w4 w5 w6, trod_int_mk 1 Tryz.underlying3 w7, trod_int_mk 1 Tryz.underlying3 w8, trod_int_mk 1 Tryz.underlying3 w9])⟩
end
end Go.Proofs.YtkbegommjlmfmaaGreatDoor
