/- A table under way in memory: its record, the last type, the rows of types and of changes. No function of the program in it. -/
import Derived.Test.YtkmgildnhnjepaaGreatDoorRM30
import Derived.Test.YtkmgildnhnjepaaGreatDoorRM18
namespace Go.Proofs.YtkmgildnhnjepaaGreatDoor
set_option linter.unusedVariables false
set_option linter.unusedSimpArgs false
open Go.RowKit
section
variable {α β : Type} {w w' : World} {base base' k k' : Nat} {e e' : TypeId} {enc : α → List Value} {enc' : β → List Value} {v v' : Value} {l : List α} {l' : List β}
/-- rows of different types lie apart -/
theorem rows_ne (h : Own w base e k enc v l) (h' : Own w base' e' k' enc' v' l') (hne : e ≠ e') : v.ownBlock = none ∨ v.ownBlock ≠ v'.ownBlock := by
  rcases h.2 with ⟨rfl, _⟩ | ⟨g, cap, cur, rfl, _, hh, _⟩
  · exact Or.inl rfl
  · right
    rcases h'.2 with ⟨rfl, _⟩ | ⟨g', cap', cur', rfl, _, hh', _⟩
    · simp [Value.ownBlock]
    · simp only [Value.ownBlock]
      intro q
      injection q with q
      subst q
      rw [hh] at hh'
      injection hh' with hh'
      injection hh' with _ ht
      exact hne ht
/-- a store elsewhere -/
theorem row_far (h : Own w base e k enc v l) {q : Addr} (u : Value) (hq : v.ownBlock ≠ some q.block) : Own (w.setCell q u) base e k enc v l := by
  refine ⟨h.1, ?_⟩
  rcases h.2 with hn | ⟨g, cap, cur, rfl, hbb, hg, rest⟩
  · exact Or.inl hn
  · refine Or.inr ⟨g, cap, cur, rfl, hbb, ?_, rest⟩
    rw [Below.heap_setCell w q u _ (fun e => hq (by rw [← e]; rfl))]
    exact hg
theorem row_apart {q : Nat} {T : TypeId} {cs : Array Value} {m : Nat × Nat} (h : Own w base e k enc v l) (hq : w.heap[q]? = some (.cells cs T m)) (hT : T ≠ e) : v.ownBlock ≠ some q := by
  rcases h.2 with ⟨rfl, _⟩ | ⟨g, cap, cur, rfl, _, hg, _⟩
  · simp [Value.ownBlock]
  · intro e1
    have e2 : g = q := by simpa [Value.ownBlock] using e1
    subst e2
    rw [hq] at hg
    injection hg with hg
    injection hg with _ hg _
    exact hT hg
end
/-- a block that is not the row's own is left alone where the row grows -/
theorem blk_far {w w' : World} {row : Option Nat} {q : Nat} {o : Obj} (g : w.grownBy w' row) (h : w.heap[q]? = some o) (hr : row ≠ some q) : w'.heap[q]? = some o := by
  rw [g.block q (Array.getElem?_eq_some_iff.1 h).1 (fun e => hr e.symm)]; exact h
/-- a store into another block -/
theorem blk_set2 {w : World} {q : Nat} {o : Obj} {p : Addr} {u : Value} (h : w.heap[q]? = some o) (hr : q ≠ p.block) : (w.setCell p u).heap[q]? = some o := by
  rw [Below.heap_setCell w p u q hr]; exact h

/-- a table under way -/
structure BAt (tT tC tB : TypeId) (w W : World) (qt ql : Nat) (s : BlS TypD) (vt vc : Value) : Prop where
  gr : Gr w W
  tb : W.heap[qt]? = some (.cells #[vt, .int .i64 0, vc] tB (0, 0))
  lb : W.heap[ql]? = some (.cells #[.int .i64 s.la.off, .bool s.la.sv, .string s.la.nm] tT (0, 0))
  ot : Own W w.heap.size tT 3 TypD.cells vt s.ty
  oc : Own W w.heap.size tC 2 ChaD.cells vc s.chs
  nl : vt.ownBlock ≠ some ql
  lt : w.heap.size ≤ qt
  ll : w.heap.size ≤ ql
  ne : qt ≠ ql
section
variable {tT tC tB : TypeId} {w W W1 W2 : World} {qt ql : Nat} {s : BlS TypD} {vt vc : Value}
theorem BAt.grow (h : BAt tT tC tB w W qt ql s vt vc) (g : Gr W W1) : BAt tT tC tB w W1 qt ql s vt vc :=
  ⟨h.gr.trans g, bheap_gr g h.tb, bheap_gr g h.lb, h.ot.gr g, h.oc.gr g, h.nl, h.lt, h.ll, h.ne⟩
/-- a type more -/
theorem BAt.addT (h : BAt tT tC tB w W qt ql s vt vc) {x : TypD} {v2 : Value} (hown : Own W2 w.heap.size tT 3 TypD.cells v2 (s.ty ++ [x])) (hg : W.grownBy W2 vt.ownBlock) (hn : v2.ownBlock ≠ some ql) (h1 : tT ≠ tC) (h2 : tB ≠ tT) (h3 : tB ≠ tC) :
    BAt tT tC tB w (W2.setCell ⟨qt, 0, none⟩ v2) qt ql ⟨s.ty ++ [x], s.ch, s.la⟩ v2 vc := by
  have tb2 := blk_far hg h.tb (row_apart h.ot h.tb h2)
  have lb2 := blk_far hg h.lb h.nl
  have oc2 : Own W2 w.heap.size tC 2 ChaD.cells vc s.chs := World.ownsRow.kept h.oc hg (rows_ne h.oc h.ot (fun e => h1 e.symm))
  exact ⟨Below.setCell (grown_gr h.gr hg (own_base h.ot)) h.lt _, heap_setCell_same W2 qt 0 #[vt, .int .i64 0, vc] tB v2 tb2, blk_set2 lb2 (fun e => h.ne e.symm), row_far hown _ (row_apart hown tb2 h2), row_far oc2 _ (row_apart oc2 tb2 h3), hn, h.lt, h.ll, h.ne⟩
/-- a change more -/
theorem BAt.addC (h : BAt tT tC tB w W qt ql s vt vc) {t : Int} {k : Nat} {v2 : Value} (hown : Own W2 w.heap.size tC 2 ChaD.cells v2 (s.chs ++ [⟨t, k⟩])) (hg : W.grownBy W2 vc.ownBlock) (h1 : tT ≠ tC) (h2 : tB ≠ tT) (h3 : tB ≠ tC) :
    BAt tT tC tB w (W2.setCell ⟨qt, 2, none⟩ v2) qt ql ⟨s.ty, s.ch ++ [(t, k)], s.la⟩ vt v2 := by
  have tb2 := blk_far hg h.tb (row_apart h.oc h.tb h3)
  have lb2 := blk_far hg h.lb (row_apart h.oc h.lb h1)
  have ot2 : Own W2 w.heap.size tT 3 TypD.cells vt s.ty := World.ownsRow.kept h.ot hg (rows_ne h.ot h.oc h1)
  have e : BlS.chs ⟨s.ty, s.ch ++ [(t, k)], s.la⟩ = s.chs ++ [⟨t, k⟩] := by unfold BlS.chs; simp
  exact ⟨Below.setCell (grown_gr h.gr hg (own_base h.oc)) h.lt _, heap_setCell_same W2 qt 2 #[vt, .int .i64 0, vc] tB v2 tb2, blk_set2 lb2 (fun e => h.ne e.symm), row_far ot2 _ (row_apart ot2 tb2 h2), by rw [e]; exact row_far hown _ (row_apart hown tb2 h3), h.nl, h.lt, h.ll, h.ne⟩
/-- the last type -/
theorem BAt.last (h : BAt tT tC tB w W qt ql s vt vc) (x : TypD) (h1 : tT ≠ tC) :
    BAt tT tC tB w (((W.setCell ⟨ql, 0, none⟩ (.int .i64 x.off)).setCell ⟨ql, 1, none⟩ (.bool x.sv)).setCell ⟨ql, 2, none⟩ (.string x.nm)) qt ql ⟨s.ty, s.ch, x⟩ vt vc := by
  have nc := row_apart h.oc h.lb h1
  exact ⟨st3_below h.gr h.ll _ _ _, blk_set2 (blk_set2 (blk_set2 h.tb h.ne) h.ne) h.ne, st3 h.lb _ _ _, row_far (row_far (row_far h.ot _ h.nl) _ h.nl) _ h.nl, row_far (row_far (row_far h.oc _ nc) _ nc) _ nc, h.nl, h.lt, h.ll, h.ne⟩
end
end Go.Proofs.YtkmgildnhnjepaaGreatDoor
