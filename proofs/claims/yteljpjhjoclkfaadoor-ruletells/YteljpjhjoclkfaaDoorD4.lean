/- What the reference's DayRead returns, for every text. -/
import Derived.Test.YteljpjhjoclkfaaDoorD3
namespace Go.Proofs.YteljpjhjoclkfaaDoor
set_option linter.unusedVariables false
set_option linter.unusedSimpArgs false
open Go.RowKit

theorem Gr.frozen {w w' : World} (h : Gr w w') {b o : Nat} (hb : b < w.heap.size) : w'.frozen? ⟨b, o, none⟩ = w.frozen? ⟨b, o, none⟩ := Below.frozen (p := ⟨b, o, none⟩) h hb
/-- no day that stands before this one in the order of the search has this text -/
def NM (l : List UInt8) (k d n : Int) : Prop := ∀ k' d' n', DayOk k' d' n' → dayL k' d' n' = l → ¬ (k' < k ∨ k' = k ∧ (d' < d ∨ d' = d ∧ n' < n))
theorem NM.start (l : List UInt8) : NM l 1 0 0 := fun k' d' n' h _ hh => by unfold DayOk at h; omega
theorem NM.step {l : List UInt8} {k d n : Int} (h : NM l k d n) (hn : ¬ (DayOk k d n ∧ dayL k d n = l)) : NM l k d (n + 1) := fun k' d' n' ho hl hh => by
  by_cases e : k' = k ∧ d' = d ∧ n' = n
  · obtain ⟨rfl, rfl, rfl⟩ := e
    exact hn ⟨ho, hl⟩
  · exact h k' d' n' ho hl (by omega)
theorem NM.next {l : List UInt8} {k d : Int} (h : NM l k d 32) : NM l k (d + 1) 0 := fun k' d' n' ho hl hh => h k' d' n' ho hl (by
  have := dayOk_bd ho
  omega)
theorem NM.kind {l : List UInt8} {k : Int} (h : NM l k 7 0) : NM l (k + 1) 0 0 := fun k' d' n' ho hl hh => h k' d' n' ho hl (by
  have := dayOk_bd ho
  omega)
theorem NM.none {l : List UInt8} (h : NM l 5 0 0) : ¬ ∃ k d n, DayOk k d n ∧ dayL k d n = l := fun ⟨k, d, n, ho, hl⟩ => h k d n ho hl (by have := ho.1; omega)

/-- a day and an error -/
abbrev dayInt (k d n e : Int) : Ending := .returned (.tuple #[dayV k d n, .int .i64 e])
/-- what DayRead answers: the first day of the search that has this text -/
def DayReadA (l : List UInt8) (e : Ending) : Prop := (∃ k d n, DayOk k d n ∧ dayL k d n = l ∧ e = dayInt k d n 0) ∨ ((¬ ∃ k d n, DayOk k d n ∧ dayL k d n = l) ∧ e = dayInt 0 0 0 3)
/-- the result's own block -/
def ResAt (w wr : World) (b : Nat) : Prop := Gr w wr ∧ w.heap.size ≤ b ∧ b < wr.heap.size ∧ (∀ i, i < 3 → wr.cell? ⟨b, i, none⟩ = some (.int .i64 0)) ∧ ∀ i, i < 3 → wr.frozen? ⟨b, i, none⟩ = false
theorem ResAt.grow {w wr w' : World} {b : Nat} (h : ResAt w wr b) (hg : Gr wr w') : ResAt w w' b :=
  ⟨h.1.trans hg, h.2.1, Nat.lt_of_lt_of_le h.2.2.1 hg.size, fun i hi => (hg.cell h.2.2.1).trans (h.2.2.2.1 i hi), fun i hi => (hg.frozen h.2.2.1).trans (h.2.2.2.2 i hi)⟩

theorem set_at0 {W : World} {b : Nat} {u x : Value} (h : W.cell? ⟨b, 0, none⟩ = some u) : (W.setCell ⟨b, 0, none⟩ x).cell? ⟨b, 0, none⟩ = some x := World.cell?_setCell_same W _ _ h
theorem set_at1 {W : World} {b : Nat} {u x y : Value} (h : W.cell? ⟨b, 1, none⟩ = some u) : ((W.setCell ⟨b, 0, none⟩ x).setCell ⟨b, 1, none⟩ y).cell? ⟨b, 1, none⟩ = some y :=
  World.cell?_setCell_same _ _ _ ((World.cell?_setCell_other W _ _ _ (by simp)).trans h)
theorem set_at2 {W : World} {b : Nat} {u x y z : Value} (h : W.cell? ⟨b, 2, none⟩ = some u) : (((W.setCell ⟨b, 0, none⟩ x).setCell ⟨b, 1, none⟩ y).setCell ⟨b, 2, none⟩ z).cell? ⟨b, 2, none⟩ = some z :=
  World.cell?_setCell_same _ _ _ ((World.cell?_setCell_other _ _ _ _ (by simp)).trans ((World.cell?_setCell_other W _ _ _ (by simp)).trans h))
theorem ResAt.set {w wr : World} {b : Nat} (h : ResAt w wr b) (x y z : Value) : Gr w (((wr.setCell ⟨b, 0, none⟩ x).setCell ⟨b, 1, none⟩ y).setCell ⟨b, 2, none⟩ z) :=
  Below.setCell (Below.setCell (Below.setCell h.1 h.2.1 _) h.2.1 _) h.2.1 _
end Go.Proofs.YteljpjhjoclkfaaDoor
