/- A book as an argument: its rules, its zones with their eras and its links, laid open. -/
import Derived.Deep.Slices
import Derived.Carry
import Derived.Test.YtkmgildnhnjepaaGreatDoorTM21
import Derived.Test.YtkmgildnhnjepaaGreatDoorTM09
namespace Go.Proofs.YtkmgildnhnjepaaGreatDoor
open Go.ChangeShapes Go.WideShapes Go.ChangeAt Go.RowKit Go.Deep
set_option linter.unusedVariables false
set_option linter.unusedSimpArgs false
section
variable {H : Type} {enc : TypeId × Value → H} {W : World} {base : Nat} {sp : Nat → Bool} {held : Bool}
/-- a slice laid open, where each of its elements can be -/
theorem open_rows {α : Type} {t e : TypeId} {k fuel : Nat} {en : α → List Value} {p : α → Prop} {c : Value} {x : DataW H × List MemPlace} (ht : Tryz.prog.underlying t = some (.slice e)) (hk : Tryz.prog.cellsOf e = k) (hk0 : 0 < k)
    (elem : ∀ m cs y, DataW.trod enc Tryz.prog W base sp held m e cs = some y → ∃ a, cs = en a ∧ p a) (h : DataW.trod enc Tryz.prog W base sp held fuel t [c] = some x) :
    ∃ (A : Option Addr) (c' : Nat) (l : List α), c = .slice A l.length c' ∧ SlOk l.length c' ∧ Row W k en A l ∧ ∀ a ∈ l, p a := by
  rcases open_slice ht h with ⟨h0, _⟩ | ⟨a, len, cap, m, n, D, Pl, hcs, hb, hl, hm, hmm, _, hx⟩
  · exact ⟨none, 0, [], (List.cons.inj h0).1, ⟨Nat.le_refl _, by unfold maxLen; simp⟩, Row.nil _ _ _ _, fun a ha => by cases ha⟩
  · rw [hk] at hx
    have hlm : len ≤ m := by rw [hmm]; split <;> omega
    have build : ∀ n', n' ≤ len → ∃ l : List α, l.length = n' ∧ ∀ i z, l[i]? = some z → W.cells? base (a.add (i * k)) k = some (en z) ∧ p z := by
      intro n'
      induction n' with
      | zero => exact fun _ => ⟨[], rfl, fun i z hz => by simp at hz⟩
      | succ n' ih =>
        intro hn'
        obtain ⟨l, hll, hl2⟩ := ih (by omega)
        obtain ⟨cs', h1, h2⟩ := hx n' (by omega)
        obtain ⟨z, rfl, hz⟩ := elem _ _ _ h2
        refine ⟨l ++ [z], by simp [hll], fun i z' hz' => ?_⟩
        by_cases hi : i < l.length
        · rw [List.getElem?_append_left hi] at hz'; exact hl2 i z' hz'
        · rw [List.getElem?_append_right (by omega)] at hz'
          have e0 : i - l.length = 0 := by
            have := (List.getElem?_eq_some_iff.1 hz').1
            simp at this; omega
          rw [e0] at hz'
          have ez : z = z' := by simpa using hz'
          subst ez
          have ei : i = n' := by omega
          subst ei
          exact ⟨h1, hz⟩
    obtain ⟨l, hll, hl2⟩ := build len (Nat.le_refl _)
    refine ⟨some a, cap, l, by rw [hll]; exact (List.cons.inj hcs).1, by rw [hll]; exact ⟨hl, hm⟩, fun i z hz => ?_, fun z hz => ?_⟩
    · have hi : i < l.length := (List.getElem?_eq_some_iff.1 hz).1
      obtain ⟨z0, hz0⟩ := get_lt (show 0 < l.length by omega)
      obtain ⟨_, hc0, hat0⟩ := World.cells?_some (hl2 0 z0 hz0).1
      obtain ⟨_, hci, hati⟩ := World.cells?_some (hl2 i z hz).1
      have hcell0 : W.cell? a = some ((en z0)[0]'(by omega)) := by
        have := hat0 0 hk0
        rw [List.getElem?_eq_getElem (by omega)] at this
        simpa [Addr.add] using this
      have hspot := World.cell?_spot hcell0
      have hblk := World.block_lt_of_cell? W a hcell0
      obtain ⟨b, off, spot⟩ := a
      simp only at hspot
      subst hspot
      refine ⟨b, off, rfl, hblk, fun j v hv => ?_⟩
      have hj : j < k := by have := (List.getElem?_eq_some_iff.1 hv).1; omega
      have := hati j hj
      rw [add_add, hv] at this
      rw [← this]
      unfold Addr.add
      split
      · rename_i e; simp [Nat.add_assoc, e]
      · simp [Nat.add_assoc]
    · obtain ⟨i, hi, e⟩ := List.getElem_of_mem hz
      exact (hl2 i z (by rw [List.getElem?_eq_getElem hi, e])).2

theorem cellsEra : Tryz.prog.cellsOf 59 = 5 := by kernel_rfl

theorem cellsZone : Tryz.prog.cellsOf 57 = 2 := by kernel_rfl

theorem cellsLink : Tryz.prog.cellsOf 52 = 2 := by kernel_rfl

theorem cellsBook : Tryz.prog.cellsOf 26 = 3 := by kernel_rfl

set_option maxRecDepth 100000 in
theorem era_elem (m : Nat) (cs : List Value) (y : DataW H × List MemPlace) (h : DataW.trod enc Tryz.prog W base sp held m 59 cs = some y) : ∃ e : EraD, cs = e.cells ∧ e.In := by
  obtain ⟨xs, m', _, hx, hl, hlen, hfs⟩ := DataW.trod_struct Tryz.underlying59 h
  rw [cellsEra] at hl
  match cs, hl with
  | [c0, c1, c2, c3, c4], _ =>
    match xs, hlen with
    | [y0, y1, y2, y3, y4], _ =>
      have f0 : DataW.trod enc Tryz.prog W base sp held m' 3 (([c0, c1, c2, c3, c4].drop 0).take (Tryz.prog.cellsOf 3)) = some y0 := hfs 0 _ rfl
      have f1 : DataW.trod enc Tryz.prog W base sp held m' 9 (([c0, c1, c2, c3, c4].drop 1).take (Tryz.prog.cellsOf 9)) = some y1 := hfs 1 _ rfl
      have f2 : DataW.trod enc Tryz.prog W base sp held m' 3 (([c0, c1, c2, c3, c4].drop 2).take (Tryz.prog.cellsOf 3)) = some y2 := hfs 2 _ rfl
      have f3 : DataW.trod enc Tryz.prog W base sp held m' 9 (([c0, c1, c2, c3, c4].drop 3).take (Tryz.prog.cellsOf 9)) = some y3 := hfs 3 _ rfl
      have f4 : DataW.trod enc Tryz.prog W base sp held m' 3 (([c0, c1, c2, c3, c4].drop 4).take (Tryz.prog.cellsOf 3)) = some y4 := hfs 4 _ rfl
      rw [cellsInt] at f0 f2 f4
      rw [cellsStr] at f1 f3
      obtain ⟨off, rfl, rfl, w0⟩ := int_cell f0
      obtain ⟨ru, rfl, rfl, w1⟩ := str_cell f1
      obtain ⟨sv, rfl, rfl, w2⟩ := int_cell f2
      obtain ⟨fm, rfl, rfl, w3⟩ := str_cell f3
      obtain ⟨un, rfl, rfl, w4⟩ := int_cell f4
      exact ⟨⟨off, ru, sv, fm, un⟩, rfl, w1, w3, bounds_i64 w4⟩

set_option maxRecDepth 100000 in
theorem link_elem (m : Nat) (cs : List Value) (y : DataW H × List MemPlace) (h : DataW.trod enc Tryz.prog W base sp held m 52 cs = some y) : ∃ e : LinD, cs = e.cells ∧ e.In := by
  obtain ⟨xs, m', _, hx, hl, hlen, hfs⟩ := DataW.trod_struct Tryz.underlying52 h
  rw [cellsLink] at hl
  match cs, hl with
  | [c0, c1], _ =>
    match xs, hlen with
    | [y0, y1], _ =>
      have f0 : DataW.trod enc Tryz.prog W base sp held m' 9 (([c0, c1].drop 0).take (Tryz.prog.cellsOf 9)) = some y0 := hfs 0 _ rfl
      have f1 : DataW.trod enc Tryz.prog W base sp held m' 9 (([c0, c1].drop 1).take (Tryz.prog.cellsOf 9)) = some y1 := hfs 1 _ rfl
      rw [cellsStr] at f0 f1
      obtain ⟨nm, rfl, rfl, w0⟩ := str_cell f0
      obtain ⟨tt, rfl, rfl, w1⟩ := str_cell f1
      exact ⟨⟨nm, tt⟩, rfl, w0, w1⟩

set_option maxRecDepth 100000 in
theorem rule_elem (m : Nat) (cs : List Value) (y : DataW H × List MemPlace) (h : DataW.trod enc Tryz.prog W base sp held m 118 cs = some y) : ∃ e : RuD, cs = e.cells ∧ e.In := by
  obtain ⟨xs, m', _, hx, hl, hlen, hfs⟩ := DataW.trod_struct Tryz.underlying118 h
  rw [cellsRule] at hl
  match cs, hl with
  | [c0, c1, c2, c3, c4, c5, c6, c7, c8, c9, c10], _ =>
    match xs, hlen with
    | [y0, y1, y2, y3, y4, y5, y6, y7, y8], _ =>
      have f0 : DataW.trod enc Tryz.prog W base sp held m' 9 (([c0, c1, c2, c3, c4, c5, c6, c7, c8, c9, c10].drop 0).take (Tryz.prog.cellsOf 9)) = some y0 := hfs 0 _ rfl
      have f1 : DataW.trod enc Tryz.prog W base sp held m' 3 (([c0, c1, c2, c3, c4, c5, c6, c7, c8, c9, c10].drop 1).take (Tryz.prog.cellsOf 3)) = some y1 := hfs 1 _ rfl
      have f2 : DataW.trod enc Tryz.prog W base sp held m' 3 (([c0, c1, c2, c3, c4, c5, c6, c7, c8, c9, c10].drop 2).take (Tryz.prog.cellsOf 3)) = some y2 := hfs 2 _ rfl
      have f3 : DataW.trod enc Tryz.prog W base sp held m' 3 (([c0, c1, c2, c3, c4, c5, c6, c7, c8, c9, c10].drop 3).take (Tryz.prog.cellsOf 3)) = some y3 := hfs 3 _ rfl
      have f4 : DataW.trod enc Tryz.prog W base sp held m' 116 (([c0, c1, c2, c3, c4, c5, c6, c7, c8, c9, c10].drop 4).take (Tryz.prog.cellsOf 116)) = some y4 := hfs 4 _ rfl
      have f5 : DataW.trod enc Tryz.prog W base sp held m' 3 (([c0, c1, c2, c3, c4, c5, c6, c7, c8, c9, c10].drop 7).take (Tryz.prog.cellsOf 3)) = some y5 := hfs 5 _ rfl
      have f6 : DataW.trod enc Tryz.prog W base sp held m' 3 (([c0, c1, c2, c3, c4, c5, c6, c7, c8, c9, c10].drop 8).take (Tryz.prog.cellsOf 3)) = some y6 := hfs 6 _ rfl
      have f7 : DataW.trod enc Tryz.prog W base sp held m' 3 (([c0, c1, c2, c3, c4, c5, c6, c7, c8, c9, c10].drop 9).take (Tryz.prog.cellsOf 3)) = some y7 := hfs 7 _ rfl
      have f8 : DataW.trod enc Tryz.prog W base sp held m' 9 (([c0, c1, c2, c3, c4, c5, c6, c7, c8, c9, c10].drop 10).take (Tryz.prog.cellsOf 9)) = some y8 := hfs 8 _ rfl
      rw [cellsInt] at f1 f2 f3 f5 f6 f7
      rw [cellsStr] at f0 f8
      rw [cellsDay] at f4
      obtain ⟨nm, rfl, rfl, w0⟩ := str_cell f0
      obtain ⟨fr, rfl, rfl, w1⟩ := int_cell f1
      obtain ⟨tt, rfl, rfl, w2⟩ := int_cell f2
      obtain ⟨mo, rfl, rfl, w3⟩ := int_cell f3
      obtain ⟨k, d, n, rfl, rfl, rfl, rfl, w4, w5, w6⟩ := day_cells f4
      obtain ⟨at', rfl, rfl, w7⟩ := int_cell f5
      obtain ⟨by', rfl, rfl, w8⟩ := int_cell f6
      obtain ⟨sv, rfl, rfl, w9⟩ := int_cell f7
      obtain ⟨lt, rfl, rfl, w10⟩ := str_cell f8
      exact ⟨⟨nm, fr, tt, mo, k, d, n, at', by', sv, lt⟩, rfl, w0, w10⟩

theorem cellsEras : Tryz.prog.cellsOf 55 = 1 := by kernel_rfl

theorem cellsRus : Tryz.prog.cellsOf 22 = 1 := by kernel_rfl

theorem cellsZos : Tryz.prog.cellsOf 23 = 1 := by kernel_rfl

theorem cellsLis : Tryz.prog.cellsOf 24 = 1 := by kernel_rfl

set_option maxRecDepth 100000 in
theorem zone_elem (m : Nat) (cs : List Value) (y : DataW H × List MemPlace) (h : DataW.trod enc Tryz.prog W base sp held m 57 cs = some y) : ∃ e : ZonD, cs = e.cells ∧ e.At W := by
  obtain ⟨xs, m', _, hx, hl, hlen, hfs⟩ := DataW.trod_struct Tryz.underlying57 h
  rw [cellsZone] at hl
  match cs, hl with
  | [c0, c1], _ =>
    match xs, hlen with
    | [y0, y1], _ =>
      have f0 : DataW.trod enc Tryz.prog W base sp held m' 9 (([c0, c1].drop 0).take (Tryz.prog.cellsOf 9)) = some y0 := hfs 0 _ rfl
      have f1 : DataW.trod enc Tryz.prog W base sp held m' 55 (([c0, c1].drop 1).take (Tryz.prog.cellsOf 55)) = some y1 := hfs 1 _ rfl
      rw [cellsStr] at f0
      rw [cellsEras] at f1
      obtain ⟨nm, rfl, rfl, w0⟩ := str_cell f0
      obtain ⟨A, c', l, rfl, hs, hr, hp⟩ := open_rows Tryz.underlying55 cellsEra (by omega) era_elem f1
      exact ⟨⟨nm, A, c', l⟩, rfl, w0, hs, hr, hp⟩

set_option maxRecDepth 100000 in
theorem open_book {r : Reach} {b0 : Nat} {v : Value} {dd : DataW H} {ps : List MemPlace} (hval : Value.okWide Tryz.prog W r b0 26 v) (hd : DataW.Trod enc Tryz.prog W base sp held 26 v dd ps) :
    ∃ b : BokD, v = bookV b ∧ b.At W := by
  obtain ⟨cs, rfl, hsz⟩ := okWide_struct Tryz.underlying26 hval
  rw [cellsBook] at hsz
  obtain ⟨l⟩ := cs
  match l, hsz with
  | [c0, c1, c2], _ =>
    obtain ⟨fuel, hf⟩ := hd
    obtain ⟨xs, m, _, hx, _, hlen, hfs⟩ := DataW.trod_struct Tryz.underlying26 hf
    match xs, hlen with
    | [y0, y1, y2], _ =>
      have f0 : DataW.trod enc Tryz.prog W base sp held m 22 (([c0, c1, c2].drop 0).take (Tryz.prog.cellsOf 22)) = some y0 := hfs 0 _ rfl
      have f1 : DataW.trod enc Tryz.prog W base sp held m 23 (([c0, c1, c2].drop 1).take (Tryz.prog.cellsOf 23)) = some y1 := hfs 1 _ rfl
      have f2 : DataW.trod enc Tryz.prog W base sp held m 24 (([c0, c1, c2].drop 2).take (Tryz.prog.cellsOf 24)) = some y2 := hfs 2 _ rfl
      rw [cellsRus] at f0
      rw [cellsZos] at f1
      rw [cellsLis] at f2
      obtain ⟨Ar, cr, rs, rfl, s0, r0, p0⟩ := open_rows Tryz.underlying22 cellsRule (by omega) rule_elem f0
      obtain ⟨Az, cz, zs, rfl, s1, r1, p1⟩ := open_rows Tryz.underlying23 cellsZone (by omega) zone_elem f1
      obtain ⟨Al, cl, ls, rfl, s2, r2, p2⟩ := open_rows Tryz.underlying24 cellsLink (by omega) link_elem f2
      exact ⟨⟨Ar, cr, rs, Az, cz, zs, Al, cl, ls⟩, rfl, ⟨s0, r0, p0⟩, ⟨s1, r1, p1⟩, ⟨s2, r2, p2⟩⟩

theorem laid_out : laidOutB Tryz.prog = true := by kernel_rfl

theorem book_reads : Tryz.prog.readableRec 26 = true ∧ decide (26 < Tryz.prog.types.size) = true := by constructor <;> kernel_rfl

/-- an argument reads behind the call as it did before it -/
theorem stays {t : TypeId} {W' : World} {sp' : Nat → Bool} {v : Value} {d : DataW H} {ps before : List MemPlace} (hr : Tryz.prog.readableRec t = true ∧ decide (t < Tryz.prog.types.size) = true) (h : DataW.Trod enc Tryz.prog W 0 (fun _ => true) true t v d ps)
    (hb : Gr W W') (hin : ∀ p ∈ ps, p ∈ before) (hlt : ∀ p ∈ before, p.block < W.heap.size) (hs : ∀ p ∈ before, sp' p.block = true) : DataW.Trod enc Tryz.prog W' 0 sp' true t v d ps :=
  Go.WideElems.Trod_stays laid_out hr.1 (of_decide_eq_true hr.2) h (fun x hx => Below.same hb (hlt x (hin x hx))) (fun x hx => hs x (hin x hx))
end
end Go.Proofs.YtkmgildnhnjepaaGreatDoor
