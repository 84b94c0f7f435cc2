/- A day of a month as an argument: how it is read, how it is shut again. -/
import Derived.Test.YtmemgpmijphkmaaDoorD1
import Derived.ProofKit
import Derived.OpenShut
import Derived.ChangeSame
namespace Go.Proofs.YtmemgpmijphkmaaDoor
open Go.ChangeShapes Go.WideShapes Go.ChangeAt Go.RowKit
set_option linter.unusedVariables false
set_option linter.unusedSimpArgs false
section
variable {H : Type} {enc : TypeId × Value → H} {W : World} {base : Nat} {sp : Nat → Bool} {held : Bool}
/-- the datum of a day -/
abbrev dayD (k d n : Int) : DataW H := .agg [.lit (.int .i64 k), .lit (.int .i64 d), .lit (.int .i64 n)]
theorem cellsDay : Tryd.prog.cellsOf 47 = 3 := by kernel_rfl
theorem cellsInt : Tryd.prog.cellsOf 3 = 1 := by kernel_rfl
set_option maxRecDepth 100000 in
theorem open_day {r : Reach} {b0 : Nat} {v : Value} {d : DataW H} {ps : List MemPlace} (hval : Value.okWide Tryd.prog W r b0 47 v) (hd : DataW.Trod enc Tryd.prog W base sp held 47 v d ps) :
    ∃ a b c : Int, v = dayV a b c ∧ d = dayD a b c ∧ ps = [] ∧ (Lit.int .i64 a).wf = true ∧ (Lit.int .i64 b).wf = true ∧ (Lit.int .i64 c).wf = true := by
  obtain ⟨cs, rfl, hsz⟩ := okWide_struct Tryd.underlying47 hval
  rw [cellsDay] at hsz
  obtain ⟨l⟩ := cs
  match l, hsz with
  | [c0, c1, c2], _ =>
    obtain ⟨fuel, hf⟩ := hd
    obtain ⟨xs, m, _, hx, _, hlen, hfs⟩ := DataW.trod_struct Tryd.underlying47 hf
    match xs, hlen with
    | [y0, y1, y2], _ =>
      have f0 : DataW.trod enc Tryd.prog W base sp held m 3 (([c0, c1, c2].drop 0).take (Tryd.prog.cellsOf 3)) = some y0 := hfs 0 _ rfl
      have f1 : DataW.trod enc Tryd.prog W base sp held m 3 (([c0, c1, c2].drop 1).take (Tryd.prog.cellsOf 3)) = some y1 := hfs 1 _ rfl
      have f2 : DataW.trod enc Tryd.prog W base sp held m 3 (([c0, c1, c2].drop 2).take (Tryd.prog.cellsOf 3)) = some y2 := hfs 2 _ rfl
      rw [cellsInt] at f0 f1 f2
      obtain ⟨a, ea, rfl, wa⟩ := DataW.trod_int Tryd.underlying3 f0
      obtain ⟨b, eb, rfl, wb⟩ := DataW.trod_int Tryd.underlying3 f1
      obtain ⟨c, ec, rfl, wc⟩ := DataW.trod_int Tryd.underlying3 f2
      have ea' : c0 = .int .i64 a := (List.cons.inj (show [c0] = [Value.int .i64 a] from ea)).1
      have eb' : c1 = .int .i64 b := (List.cons.inj (show [c1] = [Value.int .i64 b] from eb)).1
      have ec' : c2 = .int .i64 c := (List.cons.inj (show [c2] = [Value.int .i64 c] from ec)).1
      subst ea'; subst eb'; subst ec'
      exact ⟨a, b, c, rfl, congrArg Prod.fst hx, congrArg Prod.snd hx, wa, wb, wc⟩
set_option maxRecDepth 100000 in
theorem shut_day {a b c : Int} (wa : (Lit.int .i64 a).wf = true) (wb : (Lit.int .i64 b).wf = true) (wc : (Lit.int .i64 c).wf = true) :
    DataW.Trod enc Tryd.prog W base sp held 47 (dayV a b c) (dayD a b c) [] :=
  ⟨2, trod_struct_mk (xs := [(.lit (.int .i64 a), []), (.lit (.int .i64 b), []), (.lit (.int .i64 c), [])]) Tryd.underlying47 (by rw [cellsDay]; rfl) (by
    simp [cellsInt, Value.cells, trod_int_mk 0 Tryd.underlying3 wa, trod_int_mk 0 Tryd.underlying3 wb, trod_int_mk 0 Tryd.underlying3 wc])⟩
end
end Go.Proofs.YtmemgpmijphkmaaDoor
