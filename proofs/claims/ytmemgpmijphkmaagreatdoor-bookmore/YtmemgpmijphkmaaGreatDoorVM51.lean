/- A slice copied by append; books with one part more, and what Check answers for them. A day of a month as an argument: how it is read, how it is shut again. A rule as an argument: how it is read, how it is shut again. -/
import Derived.Laws.AppendOwn
import Derived.Test.YtmemgpmijphkmaaGreatDoorVM50
import Derived.ProofKit
import Derived.OpenShut
import Derived.ChangeSame
import Derived.Test.YtmemgpmijphkmaaGreatDoorVM05
import Derived.Test.YtmemgpmijphkmaaGreatDoorVM06
namespace Go.Proofs.YtmemgpmijphkmaaGreatDoor
set_option linter.unusedVariables false
set_option linter.unusedSimpArgs false
open Go.RowKit
/-- the cells of a row, one after another -/
theorem Row.news {α : Type} {w : World} {k : Nat} {enc : α → List Value} {b off : Nat} {l : List α} (hk : ∀ x, (enc x).length = k) (h : Row w k enc (some ⟨b, off, none⟩) l) :
    ∀ j u, (l.flatMap enc)[j]? = some u → w.cell? ((⟨b, off, none⟩ : Addr).add j) = some u := fun j u hu => by
  have hj := (List.getElem?_eq_some_iff.1 hu).1
  rw [flat_len hk] at hj
  have hk0 : 0 < k := by
    cases k with
    | zero => simp at hj
    | succ k => omega
  have hi : j / k < l.length := by rw [Nat.div_lt_iff_lt_mul hk0]; exact hj
  have hr : j % k < k := Nat.mod_lt _ hk0
  have he := Nat.div_add_mod j k
  obtain ⟨x, hx⟩ := get_lt hi
  have hv : (enc x)[j % k]? = some ((enc x)[j % k]'(by rw [hk]; exact hr)) := List.getElem?_eq_getElem _
  have hf := flat_get hk l (j / k) x hx (j % k) _ hv
  rw [show j / k * k + j % k = j by rw [Nat.mul_comm]; exact he] at hf
  rw [hu] at hf
  injection hf with hf
  obtain ⟨b', off', e, _, hc⟩ := h (j / k) x hx
  injection e with e; injection e with e1 e2; subst e1; subst e2
  have := hc (j % k) _ hv
  rw [← hf] at this
  rw [show (⟨b, off, none⟩ : Addr).add j = ⟨b, off + (j / k) * k + j % k, none⟩ by
    have q : off + (j / k) * k + j % k = off + j := by rw [Nat.add_assoc, Nat.mul_comm (j / k) k, he]
    rw [q]; unfold Addr.add; split <;> simp_all]
  exact this
theorem run_app0 {P : Program} (w : World) (t ty e : TypeId) (i : TypeInfo) (ht : P.underlying t = some (.slice e)) (hi : P.info? e = some i) (A : Option Addr) (c : Nat) :
    (Builtin.append_ #[t, t] ty #[.slice none 0 0, .slice A 0 c]).run P w = .ok (.slice none 0 0) w := by
  cases A <;> simp [Builtin.append_, run_underlying ht, sizeOf, typeInfo, hi, Builtin.lenOf, Builtin.firstCells, loadCells, loadCellsFrom]
/-- a slice copied: append(nil, l...) -/
theorem step_copy {P : Program} {α : Type} (w : World) {ops : Array Oper} {o : Oper} {a : Act} {K : Act → World → Prop} {Q : Exit → Act → World → Prop} {E : Prop} (hgd : o.guard = none) (s x : Operand) (t : TypeId)
    (ho : o.op = .call { callee := .builtin .append, args := #[s, x], argTypes := #[t, t] }) (base : Nat) (e : TypeId) (i : TypeInfo) (z : Value) (k bytes : Nat) (ht : P.underlying t = some (.slice e)) (hi : P.info? e = some i) (hz : i.zero = some z)
    (hsize : i.size = k) (hby : i.bytes = bytes) (hzs : z.cells.size = k) (hsz : 0 < k) (enc : α → List Value) (hk : ∀ x, (enc x).length = k) (h1 : ∀ x, ∀ u ∈ enc x, u.oneCell' = true) (l : List α) (A : Option Addr) (c : Nat) (hs : a.eval s = .slice none 0 0) (hx : a.eval x = .slice A l.length c)
    (hr : Row w k enc A l) (h63 : l.length ≤ 100000) (hbytes : bytes ≤ 1000) (hbase : base ≤ w.heap.size)
    (h : ∀ v' w', Own w' base e k enc v' l → w.grownBy w' none → K (a.put o.dst v') w') :
    if Region.wanted o (yielded ops a.tmps) = true then Oper.wp P o a w K Q else E := by
  cases l with
  | nil =>
    have hw : Region.wanted o (yielded ops a.tmps) = true := by simp [Region.wanted, hgd]
    rw [if_pos hw]
    unfold Oper.wp execOp
    simp only [ho, resolve, invoke, builtin, Sem.run_bind, Sem.run_pure, Result.andThen_ok, List.map_toArray, List.map_cons, List.map_nil, hs, hx, List.length_nil, run_app0 w t o.type e i ht hi A c]
    exact h _ _ (Own.nil_ _ _ _ _ _) (World.grownBy.refl w _)
  | cons y l =>
    obtain ⟨b, off, rfl, _⟩ := hr 0 y rfl
    have hmul : (0 + (y :: l).length) * bytes ≤ 100000 * 1000 := Nat.mul_le_mul (by omega) hbytes
    refine step_append_lies w hgd s x t ho base e i z k bytes ht hi hz hsize hby hzs hsz (.slice none 0 0) 0 [] hs ⟨by simp, Or.inl ⟨rfl, rfl⟩⟩ ⟨b, off, none⟩ (y :: l).length c ((y :: l).flatMap enc) hx (flat_len hk _) (Row.news hk hr) ?_ (by simp) (by unfold maxLen; omega) (by omega) hbase w.heap.size rfl ?_
    · intro u hu
      obtain ⟨x', _, hx'⟩ := List.mem_flatMap.1 hu
      exact h1 x' u hx'
    · intro g cap w' hown hgrow _ _
      refine h _ _ ?_ hgrow
      unfold Own
      simpa using hown
theorem gr_of_none {w w' : World} (h : w.grownBy w' none) : Gr w w' := ⟨h.os, h.tape, h.output, h.size, fun i hi => h.block i hi (by simp)⟩
theorem fe_last {f : Nat → Int} {n : Nat} (h : fe f n = 0) : fe f (n + 1) = f n := by unfold fe; rw [if_pos h]
theorem take_snoc {α : Type} (l : List α) (x : α) {i : Nat} (h : i ≤ l.length) : (l ++ [x]).take i = l.take i := List.take_append_of_le_length h
theorem get_snoc {α : Type} (l : List α) (x : α) {i : Nat} (h : i < l.length) : (l ++ [x])[i]? = l[i]? := List.getElem?_append_left h
theorem hasZ_snoc (zs : List ZonD) (z : ZonD) (nm : ByteArray) : hasZ (zs ++ [z]) nm = (hasZ zs nm || (z.nm.toList == nm.toList)) := by unfold hasZ; rw [List.any_append]; simp
theorem hasL_snoc (ls : List LinD) (x : LinD) (nm : ByteArray) : hasL (ls ++ [x]) nm = (hasL ls nm || (x.nm.toList == nm.toList)) := by unfold hasL; rw [List.any_append]; simp
theorem zon_old (rs : List RuD) (zs : List ZonD) (z : ZonD) : fe (zonC rs (zs ++ [z])) zs.length = fe (zonC rs zs) zs.length := fe_congr _ fun i hi => by
  obtain ⟨y, hy⟩ := get_lt hi
  rw [zonC_at hy, zonC_at (z := y) (by rw [get_snoc _ _ hi]; exact hy), take_snoc _ _ (Nat.le_of_lt hi)]
theorem zon_new (rs : List RuD) (zs : List ZonD) (z : ZonD) : zonC rs (zs ++ [z]) zs.length = if isNameB z.nm.toList = false then 3 else if hasZ zs z.nm = true then 7 else if z.eras.length = 0 then 5 else if 700 < z.eras.length then 2 else fe (eraC rs z.eras) z.eras.length := by
  rw [zonC_at (z := z) (by simp), take_snoc _ _ (Nat.le_refl _), List.take_length]
/-- a zone that is there already -/
theorem twice_zone {rs : List RuD} {zs : List ZonD} {ls : List LinD} {k : Nat} {z : ZonD} (h : bokC rs zs ls = 0) (hz : zs[k]? = some z) (h19 : zs.length ≤ 19) : bokC rs (zs ++ [z]) ls = 7 := by
  obtain ⟨a, b, c, d⟩ := bokC_ok.1 h
  have hkl := (List.getElem?_eq_some_iff.1 hz).1
  have hz0 := (fe_zero _).1 c k hkl
  rw [zonC_at hz] at hz0
  have hnm : isNameB z.nm.toList = true := by
    cases hn : isNameB z.nm.toList with
    | true => rfl
    | false => rw [hn, if_pos rfl] at hz0; cases hz0
  have hh : hasZ zs z.nm = true := any_hit hz (by simp)
  have hf : fe (zonC rs (zs ++ [z])) (zs ++ [z]).length = 7 := by
    rw [show (zs ++ [z]).length = zs.length + 1 by simp, fe_last (by rw [zon_old]; exact c), zon_new, if_neg (by rw [hnm]; simp), if_pos hh]
  rw [bokC_zos (by simp; omega) b (by rw [hf]; decide), hf]
/-- a link whose name a zone has -/
theorem twice_link {rs : List RuD} {zs : List ZonD} {ls : List LinD} {k : Nat} {z : ZonD} (h : bokC rs zs ls = 0) (hz : zs[k]? = some z) (h19 : ls.length ≤ 19) : bokC rs zs (ls ++ [⟨z.nm, z.nm⟩]) = 7 := by
  obtain ⟨a, b, c, d⟩ := bokC_ok.1 h
  have hkl := (List.getElem?_eq_some_iff.1 hz).1
  have hz0 := (fe_zero _).1 c k hkl
  rw [zonC_at hz] at hz0
  have hnm : isNameB z.nm.toList = true := by
    cases hn : isNameB z.nm.toList with
    | true => rfl
    | false => rw [hn, if_pos rfl] at hz0; cases hz0
  have hh : hasZ zs z.nm = true := any_hit hz (by simp)
  have hold : fe (linC zs (ls ++ [⟨z.nm, z.nm⟩])) ls.length = 0 := (fe_zero _).2 fun i hi => by
    obtain ⟨y, hy⟩ := get_lt hi
    have h0 := (fe_zero _).1 d i hi
    rw [linC_at hy] at h0
    rw [linC_at (x := y) (by rw [get_snoc _ _ hi]; exact hy), take_snoc _ _ (Nat.le_of_lt hi), hasL_snoc]
    split at h0
    · cases h0
    · rename_i q1
      rw [if_neg q1]
      split at h0
      · cases h0
      · rename_i q2
        rw [if_neg q2]
        split at h0
        · cases h0
        · rename_i q3
          rw [if_neg (fun e => q3 (by simp only [Bool.or_eq_false_iff] at e ⊢; exact ⟨e.1, e.2.1⟩))]
  have hf : fe (linC zs (ls ++ [⟨z.nm, z.nm⟩])) (ls ++ [(⟨z.nm, z.nm⟩ : LinD)]).length = 7 := by
    rw [show (ls ++ [(⟨z.nm, z.nm⟩ : LinD)]).length = ls.length + 1 by simp, fe_last hold, linC_at (x := (⟨z.nm, z.nm⟩ : LinD)) (by simp)]
    simp only [hnm, hh]
    rfl
  rw [bokC_lis (by simp; omega) b c, hf]
/-- a book with a zone more, of a name that none has -/
theorem more_zone {rs : List RuD} {zs : List ZonD} {ls : List LinD} {z : ZonD} (h : bokC rs zs ls = 0) (h19 : zs.length ≤ 19) (hn : hasZ zs z.nm = false) (hl : hasL ls z.nm = false) : bokC rs (zs ++ [z]) ls = bokC rs [z] [] := by
  obtain ⟨a, b, c, d⟩ := bokC_ok.1 h
  have e1 : fe (zonC rs (zs ++ [z])) (zs ++ [z]).length = zonC rs [z] 0 := by
    rw [show (zs ++ [z]).length = zs.length + 1 by simp, fe_last (by rw [zon_old]; exact c), zon_new, hn, zonC_at (z := z) (zs := [z]) rfl]
    rfl
  have e2 : fe (zonC rs [z]) [z].length = zonC rs [z] 0 := fe_last rfl
  by_cases hz : zonC rs [z] 0 = 0
  · rw [bokC_lis (by simp; omega) b (by rw [e1]; exact hz), bokC_lis (by simp; omega) b (by rw [e2]; exact hz)]
    refine (fe_zero _).2 fun i hi => ?_
    obtain ⟨y, hy⟩ := get_lt hi
    have h0 := (fe_zero _).1 d i hi
    rw [linC_at hy] at h0
    have hne : (z.nm.toList == y.nm.toList) = false := by
      cases q : z.nm.toList == y.nm.toList with
      | false => rfl
      | true =>
        have : hasL ls z.nm = true := any_hit hy (by rw [eq_of_beq q]; simp)
        rw [hl] at this; cases this
    rw [linC_at hy, hasZ_snoc, hasZ_snoc, hne, Bool.or_false]
    split at h0
    · cases h0
    · rename_i q1
      rw [if_neg q1]
      split at h0
      · cases h0
      · rename_i q2
        rw [if_neg q2]
        split at h0
        · cases h0
        · rename_i q3
          rw [if_neg (fun e => q3 (by simp only [Bool.or_eq_false_iff] at e ⊢; exact ⟨e.1.1, e.2⟩))]
  · rw [bokC_zos (by simp; omega) b (by rw [e1]; exact hz), bokC_zos (by simp; omega) b (by rw [e2]; exact hz), e1, e2]
end Go.Proofs.YtmemgpmijphkmaaGreatDoor
namespace Go.Proofs.YtmemgpmijphkmaaGreatDoor
open Go.ChangeShapes Go.WideShapes Go.ChangeAt Go.RowKit
set_option linter.unusedVariables false
set_option linter.unusedSimpArgs false
section
variable {H : Type} {enc : TypeId × Value → H} {W : World} {base : Nat} {sp : Nat → Bool} {held : Bool}
/-- the datum of a day -/
abbrev dayD (k d n : Int) : DataW H := .agg [.lit (.int .i64 k), .lit (.int .i64 d), .lit (.int .i64 n)]
theorem cellsDay : Tryz.prog.cellsOf 54 = 3 := by kernel_rfl
theorem cellsInt : Tryz.prog.cellsOf 3 = 1 := by kernel_rfl
end
end Go.Proofs.YtmemgpmijphkmaaGreatDoor
namespace Go.Proofs.YtmemgpmijphkmaaGreatDoor
open Go.ChangeShapes Go.WideShapes Go.ChangeAt Go.RowKit
set_option linter.unusedVariables false
set_option linter.unusedSimpArgs false
section
variable {H : Type} {enc : TypeId × Value → H} {W : World} {base : Nat} {sp : Nat → Bool} {held : Bool}
theorem cellsRule : Tryz.prog.cellsOf 56 = 11 := by kernel_rfl
theorem cellsStr : Tryz.prog.cellsOf 9 = 1 := by kernel_rfl
theorem int_cell {c : Value} {m : Nat} {x : DataW H × List MemPlace} (h : DataW.trod enc Tryz.prog W base sp held m 3 [c] = some x) : ∃ a : Int, c = .int .i64 a ∧ x = (.lit (.int .i64 a), []) ∧ (Lit.int .i64 a).wf = true := by
  obtain ⟨a, ea, rfl, wa⟩ := DataW.trod_int Tryz.underlying3 h
  exact ⟨a, (List.cons.inj ea).1, rfl, wa⟩
theorem str_cell {c : Value} {m : Nat} {x : DataW H × List MemPlace} (h : DataW.trod enc Tryz.prog W base sp held m 9 [c] = some x) : ∃ s : ByteArray, c = .string s ∧ x = (.lit (.string s.data.toList), []) ∧ s.size ≤ maxLen := by
  obtain ⟨a, ea, hx, wa⟩ := DataW.trod_string Tryz.underlying9 h
  exact ⟨a, (List.cons.inj ea).1, hx, wa⟩
theorem day_cells {c0 c1 c2 : Value} {m : Nat} {x : DataW H × List MemPlace} (hf : DataW.trod enc Tryz.prog W base sp held m 54 [c0, c1, c2] = some x) :
    ∃ a b c : Int, c0 = .int .i64 a ∧ c1 = .int .i64 b ∧ c2 = .int .i64 c ∧ x = (dayD a b c, []) ∧ (Lit.int .i64 a).wf = true ∧ (Lit.int .i64 b).wf = true ∧ (Lit.int .i64 c).wf = true := by
  obtain ⟨xs, m', _, hx, _, hlen, hfs⟩ := DataW.trod_struct Tryz.underlying54 hf
  match xs, hlen with
  | [y0, y1, y2], _ =>
    have f0 : DataW.trod enc Tryz.prog W base sp held m' 3 (([c0, c1, c2].drop 0).take (Tryz.prog.cellsOf 3)) = some y0 := hfs 0 _ rfl
    have f1 : DataW.trod enc Tryz.prog W base sp held m' 3 (([c0, c1, c2].drop 1).take (Tryz.prog.cellsOf 3)) = some y1 := hfs 1 _ rfl
    have f2 : DataW.trod enc Tryz.prog W base sp held m' 3 (([c0, c1, c2].drop 2).take (Tryz.prog.cellsOf 3)) = some y2 := hfs 2 _ rfl
    rw [cellsInt] at f0 f1 f2
    obtain ⟨a, ea, rfl, wa⟩ := int_cell f0
    obtain ⟨b, eb, rfl, wb⟩ := int_cell f1
    obtain ⟨c, ec, rfl, wc⟩ := int_cell f2
    exact ⟨a, b, c, ea, eb, ec, hx, wa, wb, wc⟩
end
end Go.Proofs.YtmemgpmijphkmaaGreatDoor
