/- What the reference's DayRead returns, for every text. What the reference's RuleParse returns: the state that its walk carries. What the reference's RuleParse returns: the walk. -/
import Derived.Test.YtmemgpmijphkmaaGreatDoorXM05
import Derived.Laws.Rows
import Derived.Test.YtmemgpmijphkmaaGreatDoorXM06
import Derived.Test.YtmemgpmijphkmaaGreatDoorXM02
import Derived.Deep.QuietTactic
import Derived.BigQuiet
namespace Go.Proofs.YtmemgpmijphkmaaGreatDoor
set_option linter.unusedVariables false
set_option linter.unusedSimpArgs false
open Go.RowKit
theorem Gr.frozen {w w' : World} (h : Gr w w') {b o : Nat} (hb : b < w.heap.size) : w'.frozen? ⟨b, o, none⟩ = w.frozen? ⟨b, o, none⟩ := Below.frozen (p := ⟨b, o, none⟩) h hb
/-- no day that stands before this one in the order of the search has this text -/
def NM (l : List UInt8) (k d n : Int) : Prop := ∀ k' d' n', DayOk k' d' n' → dayL k' d' n' = l → ¬ (k' < k ∨ k' = k ∧ (d' < d ∨ d' = d ∧ n' < n))
theorem NM.start (l : List UInt8) : NM l 1 0 0 := fun k' d' n' h _ hh => by unfold DayOk at h; omega
theorem NM.step {l : List UInt8} {k d n : Int} (h : NM l k d n) (hn : ¬ (DayOk k d n ∧ dayL k d n = l)) : NM l k d (n + 1) := fun k' d' n' ho hl hh => by
  by_cases e : k' = k ∧ d' = d ∧ n' = n
  · obtain ⟨rfl, rfl, rfl⟩ := e
    exact hn ⟨ho, hl⟩
  · exact h k' d' n' ho hl (by omega)
theorem NM.none {l : List UInt8} (h : NM l 5 0 0) : ¬ ∃ k d n, DayOk k d n ∧ dayL k d n = l := fun ⟨k, d, n, ho, hl⟩ => h k d n ho hl (by have := ho.1; omega)

/-- a day and an error -/
abbrev dayInt (k d n e : Int) : Ending := .returned (.tuple #[dayV k d n, .int .i64 e])
/-- what DayRead answers: the first day of the search that has this text -/
def DayReadA (l : List UInt8) (e : Ending) : Prop := (∃ k d n, DayOk k d n ∧ dayL k d n = l ∧ e = dayInt k d n 0) ∨ ((¬ ∃ k d n, DayOk k d n ∧ dayL k d n = l) ∧ e = dayInt 0 0 0 3)
/-- the result's own block -/
def ResAt (w wr : World) (b : Nat) : Prop := Gr w wr ∧ w.heap.size ≤ b ∧ b < wr.heap.size ∧ (∀ i, i < 3 → wr.cell? ⟨b, i, none⟩ = some (.int .i64 0)) ∧ ∀ i, i < 3 → wr.frozen? ⟨b, i, none⟩ = false
theorem ResAt.grow {w wr w' : World} {b : Nat} (h : ResAt w wr b) (hg : Gr wr w') : ResAt w w' b :=
  ⟨h.1.trans hg, h.2.1, Nat.lt_of_lt_of_le h.2.2.1 hg.size, fun i hi => (hg.cell h.2.2.1).trans (h.2.2.2.1 i hi), fun i hi => (hg.frozen h.2.2.1).trans (h.2.2.2.2 i hi)⟩

theorem set_at0 {W : World} {b : Nat} {u x : Value} (h : W.cell? ⟨b, 0, none⟩ = some u) : (W.setCell ⟨b, 0, none⟩ x).cell? ⟨b, 0, none⟩ = some x := World.cell?_setCell_same W _ _ h
theorem set_at1 {W : World} {b : Nat} {u x y : Value} (h : W.cell? ⟨b, 1, none⟩ = some u) : ((W.setCell ⟨b, 0, none⟩ x).setCell ⟨b, 1, none⟩ y).cell? ⟨b, 1, none⟩ = some y :=
  World.cell?_setCell_same _ _ _ ((World.cell?_setCell_other W _ _ _ (by simp)).trans h)
theorem set_at2 {W : World} {b : Nat} {u x y z : Value} (h : W.cell? ⟨b, 2, none⟩ = some u) : (((W.setCell ⟨b, 0, none⟩ x).setCell ⟨b, 1, none⟩ y).setCell ⟨b, 2, none⟩ z).cell? ⟨b, 2, none⟩ = some z :=
  World.cell?_setCell_same _ _ _ ((World.cell?_setCell_other _ _ _ _ (by simp)).trans ((World.cell?_setCell_other W _ _ _ (by simp)).trans h))
theorem ResAt.set {w wr : World} {b : Nat} (h : ResAt w wr b) (x y z : Value) : Gr w (((wr.setCell ⟨b, 0, none⟩ x).setCell ⟨b, 1, none⟩ y).setCell ⟨b, 2, none⟩ z) :=
  Below.setCell (Below.setCell (Below.setCell h.1 h.2.1 _) h.2.1 _) h.2.1 _

end Go.Proofs.YtmemgpmijphkmaaGreatDoor
namespace Go.Proofs.YtmemgpmijphkmaaGreatDoor
set_option linter.unusedVariables false
set_option linter.unusedSimpArgs false
open Go.RowKit
/-- the words of a text -/
def bl (t : ByteArray) : List ByteArray := Lib.splitB ⟨#[32]⟩ 0 (Lib.countB t ⟨#[32]⟩) t
theorem bl_len (t : ByteArray) : (bl t).length = Lib.countB t ⟨#[32]⟩ + 1 := Lib.splitB_all ⟨#[32]⟩ (by decide) 0 _ t rfl
theorem bl_split (t : ByteArray) : (bl t).map (·.toList) = Lib.split t.toList [32] := by
  unfold bl
  have := Lib.splitB_data ⟨#[32]⟩ 0 (Lib.countB t ⟨#[32]⟩) t
  have e : (fun x : ByteArray => x.toList) = fun x => x.data.toList := by funext x; exact ByteArray.toList_eq x
  rw [e, this, ByteArray.toList_eq]
  rfl
/-- the k-th word -/
def wd (t : ByteArray) (k : Nat) : ByteArray := (bl t).getD k ByteArray.empty
theorem split_size (c : UInt8) : ∀ (n : Nat) (l : List UInt8), l.length ≤ n → ∀ w, w ∈ Lib.split l [c] → w.length ≤ l.length := by
  intro n
  induction n with
  | zero => intro l h w hw; have e : l = [] := List.length_eq_zero_iff.1 (by omega); subst e; rw [split_no (by simp)] at hw; simp at hw; simp [hw]
  | succ n ih =>
    intro l h w hw
    rcases sep_cases c l with h' | ⟨a, b, rfl, h'⟩
    · rw [split_no h'] at hw; simp at hw; simp [hw]
    · rw [split_at b h'] at hw
      simp at h
      rcases List.mem_cons.1 hw with rfl | hw
      · simp
      · have := ih b (by omega) w hw
        simp; omega
theorem wd_size {t : ByteArray} (k : Nat) : (wd t k).size ≤ t.size := by
  by_cases h : k < (bl t).length
  · have m : wd t k ∈ bl t := by unfold wd; simp [List.getD, List.getElem?_eq_getElem h]
    have m2 : (wd t k).toList ∈ Lib.split t.toList [32] := by rw [← bl_split]; exact List.mem_map_of_mem m
    have := split_size 32 _ t.toList (Nat.le_refl _) _ m2
    rw [toList_size, toList_size] at this
    exact this
  · unfold wd; rw [List.getD, List.getElem?_eq_none (by omega)]; simp

/-- the cells of an empty rule -/
abbrev zrow : Array Value := #[.string ⟨#[]⟩, .int .i64 0, .int .i64 0, .int .i64 0, .int .i64 0, .int .i64 0, .int .i64 0, .int .i64 0, .int .i64 0, .int .i64 0, .string ⟨#[]⟩]
/-- the state of the walk: the words, the rule that is built, the result that is still empty -/
def PS (w W : World) (g q : Nat) (t : ByteArray) (row : Array Value) : Prop :=
  (∀ i, i < (bl t).length → W.cell? ⟨g, i, none⟩ = some (.string (wd t i))) ∧ W.heap[q]? = some (.cells row 56 (0, 0)) ∧ W.heap[w.heap.size]? = some (.cells zrow 56 (0, 0)) ∧ Gr w W ∧ w.heap.size < g ∧ g < q
theorem heap_lt {W : World} {b : Nat} {o : Obj} (h : W.heap[b]? = some o) : b < W.heap.size := by
  by_cases c : b < W.heap.size
  · exact c
  · rw [Array.getElem?_eq_none (by omega)] at h; cases h
theorem PS.gr {w W W' : World} {g q : Nat} {t : ByteArray} {row : Array Value} (h : PS w W g q t row) (k : Gr W W') : PS w W' g q t row := by
  obtain ⟨a, b, c, d, e, f⟩ := h
  exact ⟨fun i hi => k.holds (a i hi), by rw [Below.block k q (heap_lt b)]; exact b, by rw [Below.block k _ (heap_lt c)]; exact c, d.trans k, e, f⟩
theorem PS.set {w W : World} {g q : Nat} {t : ByteArray} {row : Array Value} (h : PS w W g q t row) (i : Nat) (v : Value) : PS w (W.setCell ⟨q, i, none⟩ v) g q t (row.setIfInBounds i v) := by
  obtain ⟨a, b, c, d, e, f⟩ := h
  refine ⟨fun j hj => ?_, heap_setCell_same W q i row 56 v b, ?_, Below.setCell d (by show w.heap.size ≤ q; omega) _, e, f⟩
  · rw [World.cell?_setCell_other W _ _ _ (by intro x; have := congrArg Addr.block x; simp at this; omega)]; exact a j hj
  · rw [heap_setCell_other W ⟨q, i, none⟩ _ v (by show ¬ w.heap.size = q; omega)]; exact c
theorem PS.drewN {w W : World} {g q : Nat} {t : ByteArray} {row : Array Value} (h : PS w W g q t row) (n : Nat) : PS w (W.drewN n) g q t row := ⟨h.1, h.2.1, h.2.2.1, h.2.2.2.1.drewN n, h.2.2.2.2⟩
theorem PS.cell {w W : World} {g q : Nat} {t : ByteArray} {row : Array Value} (h : PS w W g q t row) {i : Nat} {v : Value} (hv : row[i]? = some v) : W.cell? ⟨q, i, none⟩ = some v := by
  have := h.2.1
  simp [World.cell?, this, hv]
theorem PS.frozen {w W : World} {g q : Nat} {t : ByteArray} {row : Array Value} (h : PS w W g q t row) (i : Nat) : W.frozen? ⟨q, i, none⟩ = false := by
  have := h.2.1
  simp [World.frozen?, this]
end Go.Proofs.YtmemgpmijphkmaaGreatDoor
namespace Go.Proofs.YtmemgpmijphkmaaGreatDoor
set_option linter.unusedVariables false
set_option linter.unusedSimpArgs false
open Go.RowKit
/-- a rule and an error -/
abbrev ruleInt (nm : ByteArray) (fr tt mo k d n at' by' sv : Int) (lt : ByteArray) (e : Int) : Ending := .returned (.tuple #[ruleV nm fr tt mo k d n at' by' sv lt, .int .i64 e])
/-- no rule -/
abbrev noRule : Ending := ruleInt ⟨#[]⟩ 0 0 0 0 0 0 0 0 0 ⟨#[]⟩ 3

/-- a rule stored cell by cell -/
theorem store11 {W : World} {p : Nat} {T : TypeId} {r0 r1 r2 r3 r4 r5 r6 r7 r8 r9 r10 : Value} (h : W.heap[p]? = some (.cells #[r0, r1, r2, r3, r4, r5, r6, r7, r8, r9, r10] T (0, 0))) (v0 v1 v2 v3 v4 v5 v6 v7 v8 v9 v10 : Value) :
    (((((((((((W.setCell ⟨p, 0, none⟩ v0).setCell ⟨p, 1, none⟩ v1).setCell ⟨p, 2, none⟩ v2).setCell ⟨p, 3, none⟩ v3).setCell ⟨p, 4, none⟩ v4).setCell ⟨p, 5, none⟩ v5).setCell ⟨p, 6, none⟩ v6).setCell ⟨p, 7, none⟩ v7).setCell ⟨p, 8, none⟩ v8).setCell ⟨p, 9, none⟩ v9).setCell ⟨p, 10, none⟩ v10).heap[p]? = some (.cells #[v0, v1, v2, v3, v4, v5, v6, v7, v8, v9, v10] T (0, 0)) := by
  have e0 : (W.setCell ⟨p, 0, none⟩ v0).heap[p]? = some (.cells #[v0, r1, r2, r3, r4, r5, r6, r7, r8, r9, r10] T (0, 0)) := heap_setCell_same W p 0 #[r0, r1, r2, r3, r4, r5, r6, r7, r8, r9, r10] T v0 h
  have e1 : ((W.setCell ⟨p, 0, none⟩ v0).setCell ⟨p, 1, none⟩ v1).heap[p]? = some (.cells #[v0, v1, r2, r3, r4, r5, r6, r7, r8, r9, r10] T (0, 0)) := heap_setCell_same (W.setCell ⟨p, 0, none⟩ v0) p 1 #[v0, r1, r2, r3, r4, r5, r6, r7, r8, r9, r10] T v1 e0
  have e2 : (((W.setCell ⟨p, 0, none⟩ v0).setCell ⟨p, 1, none⟩ v1).setCell ⟨p, 2, none⟩ v2).heap[p]? = some (.cells #[v0, v1, v2, r3, r4, r5, r6, r7, r8, r9, r10] T (0, 0)) := heap_setCell_same ((W.setCell ⟨p, 0, none⟩ v0).setCell ⟨p, 1, none⟩ v1) p 2 #[v0, v1, r2, r3, r4, r5, r6, r7, r8, r9, r10] T v2 e1
  have e3 : ((((W.setCell ⟨p, 0, none⟩ v0).setCell ⟨p, 1, none⟩ v1).setCell ⟨p, 2, none⟩ v2).setCell ⟨p, 3, none⟩ v3).heap[p]? = some (.cells #[v0, v1, v2, v3, r4, r5, r6, r7, r8, r9, r10] T (0, 0)) := heap_setCell_same (((W.setCell ⟨p, 0, none⟩ v0).setCell ⟨p, 1, none⟩ v1).setCell ⟨p, 2, none⟩ v2) p 3 #[v0, v1, v2, r3, r4, r5, r6, r7, r8, r9, r10] T v3 e2
  have e4 : (((((W.setCell ⟨p, 0, none⟩ v0).setCell ⟨p, 1, none⟩ v1).setCell ⟨p, 2, none⟩ v2).setCell ⟨p, 3, none⟩ v3).setCell ⟨p, 4, none⟩ v4).heap[p]? = some (.cells #[v0, v1, v2, v3, v4, r5, r6, r7, r8, r9, r10] T (0, 0)) := heap_setCell_same ((((W.setCell ⟨p, 0, none⟩ v0).setCell ⟨p, 1, none⟩ v1).setCell ⟨p, 2, none⟩ v2).setCell ⟨p, 3, none⟩ v3) p 4 #[v0, v1, v2, v3, r4, r5, r6, r7, r8, r9, r10] T v4 e3
  have e5 : ((((((W.setCell ⟨p, 0, none⟩ v0).setCell ⟨p, 1, none⟩ v1).setCell ⟨p, 2, none⟩ v2).setCell ⟨p, 3, none⟩ v3).setCell ⟨p, 4, none⟩ v4).setCell ⟨p, 5, none⟩ v5).heap[p]? = some (.cells #[v0, v1, v2, v3, v4, v5, r6, r7, r8, r9, r10] T (0, 0)) := heap_setCell_same (((((W.setCell ⟨p, 0, none⟩ v0).setCell ⟨p, 1, none⟩ v1).setCell ⟨p, 2, none⟩ v2).setCell ⟨p, 3, none⟩ v3).setCell ⟨p, 4, none⟩ v4) p 5 #[v0, v1, v2, v3, v4, r5, r6, r7, r8, r9, r10] T v5 e4
  have e6 : (((((((W.setCell ⟨p, 0, none⟩ v0).setCell ⟨p, 1, none⟩ v1).setCell ⟨p, 2, none⟩ v2).setCell ⟨p, 3, none⟩ v3).setCell ⟨p, 4, none⟩ v4).setCell ⟨p, 5, none⟩ v5).setCell ⟨p, 6, none⟩ v6).heap[p]? = some (.cells #[v0, v1, v2, v3, v4, v5, v6, r7, r8, r9, r10] T (0, 0)) := heap_setCell_same ((((((W.setCell ⟨p, 0, none⟩ v0).setCell ⟨p, 1, none⟩ v1).setCell ⟨p, 2, none⟩ v2).setCell ⟨p, 3, none⟩ v3).setCell ⟨p, 4, none⟩ v4).setCell ⟨p, 5, none⟩ v5) p 6 #[v0, v1, v2, v3, v4, v5, r6, r7, r8, r9, r10] T v6 e5
  have e7 : ((((((((W.setCell ⟨p, 0, none⟩ v0).setCell ⟨p, 1, none⟩ v1).setCell ⟨p, 2, none⟩ v2).setCell ⟨p, 3, none⟩ v3).setCell ⟨p, 4, none⟩ v4).setCell ⟨p, 5, none⟩ v5).setCell ⟨p, 6, none⟩ v6).setCell ⟨p, 7, none⟩ v7).heap[p]? = some (.cells #[v0, v1, v2, v3, v4, v5, v6, v7, r8, r9, r10] T (0, 0)) := heap_setCell_same (((((((W.setCell ⟨p, 0, none⟩ v0).setCell ⟨p, 1, none⟩ v1).setCell ⟨p, 2, none⟩ v2).setCell ⟨p, 3, none⟩ v3).setCell ⟨p, 4, none⟩ v4).setCell ⟨p, 5, none⟩ v5).setCell ⟨p, 6, none⟩ v6) p 7 #[v0, v1, v2, v3, v4, v5, v6, r7, r8, r9, r10] T v7 e6
  have e8 : (((((((((W.setCell ⟨p, 0, none⟩ v0).setCell ⟨p, 1, none⟩ v1).setCell ⟨p, 2, none⟩ v2).setCell ⟨p, 3, none⟩ v3).setCell ⟨p, 4, none⟩ v4).setCell ⟨p, 5, none⟩ v5).setCell ⟨p, 6, none⟩ v6).setCell ⟨p, 7, none⟩ v7).setCell ⟨p, 8, none⟩ v8).heap[p]? = some (.cells #[v0, v1, v2, v3, v4, v5, v6, v7, v8, r9, r10] T (0, 0)) := heap_setCell_same ((((((((W.setCell ⟨p, 0, none⟩ v0).setCell ⟨p, 1, none⟩ v1).setCell ⟨p, 2, none⟩ v2).setCell ⟨p, 3, none⟩ v3).setCell ⟨p, 4, none⟩ v4).setCell ⟨p, 5, none⟩ v5).setCell ⟨p, 6, none⟩ v6).setCell ⟨p, 7, none⟩ v7) p 8 #[v0, v1, v2, v3, v4, v5, v6, v7, r8, r9, r10] T v8 e7
  have e9 : ((((((((((W.setCell ⟨p, 0, none⟩ v0).setCell ⟨p, 1, none⟩ v1).setCell ⟨p, 2, none⟩ v2).setCell ⟨p, 3, none⟩ v3).setCell ⟨p, 4, none⟩ v4).setCell ⟨p, 5, none⟩ v5).setCell ⟨p, 6, none⟩ v6).setCell ⟨p, 7, none⟩ v7).setCell ⟨p, 8, none⟩ v8).setCell ⟨p, 9, none⟩ v9).heap[p]? = some (.cells #[v0, v1, v2, v3, v4, v5, v6, v7, v8, v9, r10] T (0, 0)) := heap_setCell_same (((((((((W.setCell ⟨p, 0, none⟩ v0).setCell ⟨p, 1, none⟩ v1).setCell ⟨p, 2, none⟩ v2).setCell ⟨p, 3, none⟩ v3).setCell ⟨p, 4, none⟩ v4).setCell ⟨p, 5, none⟩ v5).setCell ⟨p, 6, none⟩ v6).setCell ⟨p, 7, none⟩ v7).setCell ⟨p, 8, none⟩ v8) p 9 #[v0, v1, v2, v3, v4, v5, v6, v7, v8, r9, r10] T v9 e8
  have e10 : (((((((((((W.setCell ⟨p, 0, none⟩ v0).setCell ⟨p, 1, none⟩ v1).setCell ⟨p, 2, none⟩ v2).setCell ⟨p, 3, none⟩ v3).setCell ⟨p, 4, none⟩ v4).setCell ⟨p, 5, none⟩ v5).setCell ⟨p, 6, none⟩ v6).setCell ⟨p, 7, none⟩ v7).setCell ⟨p, 8, none⟩ v8).setCell ⟨p, 9, none⟩ v9).setCell ⟨p, 10, none⟩ v10).heap[p]? = some (.cells #[v0, v1, v2, v3, v4, v5, v6, v7, v8, v9, v10] T (0, 0)) := heap_setCell_same ((((((((((W.setCell ⟨p, 0, none⟩ v0).setCell ⟨p, 1, none⟩ v1).setCell ⟨p, 2, none⟩ v2).setCell ⟨p, 3, none⟩ v3).setCell ⟨p, 4, none⟩ v4).setCell ⟨p, 5, none⟩ v5).setCell ⟨p, 6, none⟩ v6).setCell ⟨p, 7, none⟩ v7).setCell ⟨p, 8, none⟩ v8).setCell ⟨p, 9, none⟩ v9) p 10 #[v0, v1, v2, v3, v4, v5, v6, v7, v8, v9, r10] T v10 e9
  exact e10
theorem store11_below {W a : World} {p : Nat} {B : Nat} (h : Below B a W) (hB : B ≤ p) (v0 v1 v2 v3 v4 v5 v6 v7 v8 v9 v10 : Value) : Below B a (((((((((((W.setCell ⟨p, 0, none⟩ v0).setCell ⟨p, 1, none⟩ v1).setCell ⟨p, 2, none⟩ v2).setCell ⟨p, 3, none⟩ v3).setCell ⟨p, 4, none⟩ v4).setCell ⟨p, 5, none⟩ v5).setCell ⟨p, 6, none⟩ v6).setCell ⟨p, 7, none⟩ v7).setCell ⟨p, 8, none⟩ v8).setCell ⟨p, 9, none⟩ v9).setCell ⟨p, 10, none⟩ v10) :=
  (Below.setCell (Below.setCell (Below.setCell (Below.setCell (Below.setCell (Below.setCell (Below.setCell (Below.setCell (Below.setCell (Below.setCell (Below.setCell h hB _) hB _) hB _) hB _) hB _) hB _) hB _) hB _) hB _) hB _) hB _)

end Go.Proofs.YtmemgpmijphkmaaGreatDoor
