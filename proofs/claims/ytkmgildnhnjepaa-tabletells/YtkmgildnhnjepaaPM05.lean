/- Blocks of a call's own; rows of its own that are appended tto. No function of the program in it. A region that draws its order and ends in a store: what it reads may be taken first, though the store turns what was read. No program in it. A whole value stored; the era that applies: the project's eraAt and the reference's. A region that draws its order and ends in a store: what looks at no memory may be taken first, though the store does not wait for it. No program in it. What the project's positions and follow of package names return. A day of a month as an argument: how it is read, how it is shut again. A rule as an argument: how it is read, how it is shut again. A book as an argument: its rules, its zones with their eras and its links, laid open. -/
import Derived.Deep.AppendLies
import Derived.OwnWalk
import Derived.Laws.OwnMore
import Derived.Test.YtkmgildnhnjepaaPM04
import Derived.Deep.RegionHeld3
import Derived.Deep.Upon
import Derived.Laws.AppendOwn
import Derived.Maps.RangeWalk
import Derived.ProofKit
import Derived.OpenShut
import Derived.ChangeSame
import Derived.Test.YtkmgildnhnjepaaPM03
import Derived.Deep.Slices
import Derived.Carry
namespace Go.Proofs.Ytkmgildnhnjepaa
set_option linter.unusedVariables false
set_option linter.unusedSimpArgs false
open Go.RowKit
theorem bheap_gr {W W' : World} {B : Nat} {o : Obj} (g : Gr W W') (h : W.heap[B]? = some o) : W'.heap[B]? = some o := by
  have hb : B < W.heap.size := by
    by_cases c : B < W.heap.size
    · exact c
    · rw [Array.getElem?_eq_none (by omega)] at h; cases h
  rw [Below.block g B hb]; exact h
theorem bheap_new (W : World) (o : Obj) : (W.alloc o).heap[W.heap.size]? = some o := by unfold World.alloc; simp
theorem box_one (w : World) (o : Obj) : Gr w (w.alloc o) ∧ (w.alloc o).heap[w.heap.size]? = some o := ⟨Gr.alloc w o, bheap_new w o⟩
theorem box_two (w : World) (o1 o2 : Obj) : Gr w ((w.alloc o1).alloc o2) ∧ ((w.alloc o1).alloc o2).heap[w.heap.size]? = some o1 ∧ ((w.alloc o1).alloc o2).heap[w.heap.size + 1]? = some o2 := by
  refine ⟨(Gr.alloc w o1).alloc' o2, bheap_gr (Gr.alloc _ o2) (bheap_new w o1), ?_⟩
  have := bheap_new (w.alloc o1) o2
  rwa [show (w.alloc o1).heap.size = w.heap.size + 1 by unfold World.alloc; simp] at this
theorem bcell_row {W : World} {b i : Nat} {cs : Array Value} {T : TypeId} {v : Value} (h : W.heap[b]? = some (.cells cs T (0, 0))) (hv : cs[i]? = some v) : W.cell? ⟨b, i, none⟩ = some v := by simp [World.cell?, h, hv]
theorem flat_get {α : Type} {enc : α → List Value} {k : Nat} (hk : ∀ x, (enc x).length = k) : ∀ (l : List α) (i : Nat) (x : α), l[i]? = some x → ∀ j v, (enc x)[j]? = some v → (l.flatMap enc)[i * k + j]? = some v
  | [], i, x, h => by simp at h
  | y :: l, 0, x, h => fun j v hv => by
    have e : y = x := by simpa using h
    subst e
    have hj : j < (enc y).length := (List.getElem?_eq_some_iff.1 hv).1
    rw [List.flatMap_cons, Nat.zero_mul, Nat.zero_add, List.getElem?_append_left hj]; exact hv
  | y :: l, i + 1, x, h => fun j v hv => by
    have h' : l[i]? = some x := by simpa using h
    have := flat_get hk l i x h' j v hv
    rw [List.flatMap_cons, List.getElem?_append_right (by rw [hk y, Nat.add_mul]; omega), hk y, show (i + 1) * k + j - k = i * k + j by rw [Nat.add_mul]; omega]
    exact this
/-- a row of the call's own: the things of l, each in k cells -/
def Own {α : Type} (w : World) (base : Nat) (e : TypeId) (k : Nat) (enc : α → List Value) (v : Value) (l : List α) : Prop := w.ownsRow base e k v l.length (l.flatMap enc)
section
variable {α : Type} {w w' : World} {base k : Nat} {e : TypeId} {enc : α → List Value} {v : Value} {l : List α}
theorem Own.gr (h : Own w base e k enc v l) (g : Gr w w') : Own w' base e k enc v l :=
  World.ownsRow.kept (row := none) h ⟨g.os, g.tape, g.output, Below.size g, fun i hi _ => g.block i hi⟩ (by cases v.ownBlock <;> simp)
theorem Own.row {A : Option Addr} {n c : Nat} (hk : ∀ x, (enc x).length = k) (h : Own w base e k enc (.slice A n c) l) : Row w k enc A l := fun i x hx => by
  rcases h.2 with ⟨hv, h0⟩ | ⟨g, cap, cur, hv, hb, hg, _⟩
  · have : i < l.length := (List.getElem?_eq_some_iff.1 hx).1
    omega
  · injection hv with hA
    subst hA
    refine ⟨g, 0, rfl, (Array.getElem?_eq_some_iff.1 hg).1, fun j u hu => ?_⟩
    have h2 := World.ownsRow.cells h (g := g) rfl (i * k + j) u (flat_get hk l i x hx j u hu)
    rwa [show (⟨g, 0, none⟩ : Addr).add (i * k + j) = ⟨g, 0 + i * k + j, none⟩ by unfold Addr.add; split <;> simp_all] at h2
end
end Go.Proofs.Ytkmgildnhnjepaa
namespace Go.Proofs.Ytkmgildnhnjepaa
open Go
set_option linter.unusedVariables false
section
variable {P : Program} {ops : Array Oper} {Q : Exit → Act → World → Prop} {md : Region.Mode} {T : World → Prop} {k : Nat}
/-- the last one has come up, or the world is as it is tto be -/
def Till (k : Nat) (T : World → Prop) (L : Array Bool) (w : World) : Prop := L.getD k true = true ∨ T w
/-- whatever order is picked from here on; behind each operation, but the last one, T is so -/
def wpTill (P : Program) (md : Region.Mode) (ops : Array Oper) (Q : Exit → Act → World → Prop) (k : Nat) (T : World → Prop) : Nat → Array Bool → Act → World → Prop
  | 0, L, a, w => Region.ready md ops L = [] ∧ Q .normal a w
  | n + 1, L, a, w => (Region.ready md ops L = [] → Q .normal a w) ∧
    ∀ i ∈ Region.ready md ops L, wpOp P ops Q i (fun a' w' => Till k T (L.setIfInBounds i true) w' ∧ wpTill P md ops Q k T n (L.setIfInBounds i true) a' w') a w
theorem till_any : ∀ (n : Nat) (L : Array Bool) (a : Act) (w : World), wpTill P md ops Q k T n L a w → wpAny P md ops Q n L a w
  | 0, _, _, _, h => h
  | n + 1, _, _, _, h => ⟨h.1, fun i hi => wpOp_mono (fun a' w' q => till_any n _ a' w' q.2) (h.2 i hi)⟩
/-- does the last one wait for i? -/
def waits (md : Region.Mode) (ops : Array Oper) (k i : Nat) : Bool := match ops[k]? with
  | some o => o.after.any fun e => Region.binds md e && e.on == i
  | none => false
theorem till_first {i : Nat} {oi : Oper} {v : Value} (hi : ops[i]? = some oi) (hsel : ∀ (j : Nat) (o : Oper) cs b, ops[j]? = some o → o.op ≠ .select cs b)
    (hQ : ∀ c a w, Q (.panic c) (a.put oi.dst v) w → Q (.panic c) a w) (hki : k ≠ i) (hw : waits md ops k i = true) :
    ∀ (n : Nat) (L : Array Bool) (a : Act) (w : World), L.getD k true = false →
      (∀ j oj, ops[j]? = some oj → j ≠ i → L.getD j true = false → (∀ e ∈ oj.after, Region.binds md e = true → e.on ≠ i) → oi.apart ops oj = true) →
      i ∈ Region.ready md ops L → YieldsIf P ops T oi v a → T w →
      wpTill P md ops Q k T n (L.setIfInBounds i true) (a.put oi.dst v) w → wpTill P md ops Q k T (n + 1) L a w := by
  intro n
  induction n with
  | zero =>
    intro L a w hk _ hr hy hT H
    refine ⟨fun h => (by rw [h] at hr; cases hr), fun j hj => ?_⟩
    by_cases hji : j = i
    · subst hji; exact hy.wpOp hi hT ⟨Or.inr hT, H⟩
    · have := ready_mono hj hji
      rw [H.1] at this
      cases this
  | succ n ih =>
    intro L a w hk hfree hr hy hT H
    refine ⟨fun h => (by rw [h] at hr; cases hr), fun j hj => ?_⟩
    by_cases hji : j = i
    · subst hji; exact hy.wpOp hi hT ⟨Or.inr hT, H⟩
    · have h1 := H.2 j (ready_mono hj hji)
      obtain ⟨hjun, oj, hoj, hall⟩ := mem_ready.1 hj
      have hnot : ∀ e ∈ oj.after, Region.binds md e = true → e.on ≠ i := fun e he hb heq => by
        have g1 := hall e he hb
        have g0 := (mem_ready.1 hr).1
        rw [heq] at g1
        rcases Nat.lt_or_ge i L.size with h' | h'
        · simp [h'] at g0 g1; rw [g0] at g1; cases g1
        · simp [Array.getElem?_eq_none h'] at g1
      have hjk : j ≠ k := fun e => by
        subst e
        unfold waits at hw
        rw [hoj] at hw
        simp only [Array.any_eq_true', Bool.and_eq_true, beq_iff_eq] at hw
        obtain ⟨e, he, hb, ho⟩ := hw
        exact hnot e he hb ho
      have hk' : (L.setIfInBounds j true).getD k true = false := by rw [getD_set_ne true hjk]; exact hk
      have hk2 : ((L.setIfInBounds i true).setIfInBounds j true).getD k true = false := by rw [getD_set_ne true hjk, getD_set_ne true (Ne.symm hki)]; exact hk
      have h1' := wpOp_mono (K' := fun a' w' => T w' ∧ wpTill P md ops Q k T n ((L.setIfInBounds i true).setIfInBounds j true) a' w') (fun a' w' q => ⟨q.1.resolve_left (by rw [hk2]; simp), q.2⟩) h1
      have h2 := wpOp_putIf hoj (hfree j oj hoj hji hjun hnot) (fun cs b => hsel i oi cs b hi) (fun cs b => hsel j oj cs b hoj) hQ hy h1'
      have hfree' : ∀ m om, ops[m]? = some om → m ≠ i → (L.setIfInBounds j true).getD m true = false → (∀ e ∈ om.after, Region.binds md e = true → e.on ≠ i) → oi.apart ops om = true := fun m om hm hmi hun hno => by
        refine hfree m om hm hmi ?_ hno
        by_cases hjm : j = m
        · subst hjm; exact hjun
        · rw [getD_set_ne true hjm] at hun; exact hun
      refine wpOp_mono (fun a' w' h3 => ⟨Or.inr h3.2.1, ih (L.setIfInBounds j true) a' w' hk' hfree' (ready_mono hr (Ne.symm hji)) h3.1 h3.2.1 ?_⟩) h2
      rw [Array.setIfInBounds_comm _ _ hji]
      exact h3.2.2
/-- take number i first -/
theorem till_take {i : Nat} {oi : Oper} {v : Value} {n : Nat} {L : Array Bool} {a : Act} {w : World} (hi : ops[i]? = some oi) (hs : Region.noSelect ops = true) (hf : Region.free md ops L i = true) (hr : (Region.ready md ops L).contains i = true)
    (hki : (L.getD k true == false && k != i && waits md ops k i) = true) (hQ : ∀ c a w, Q (.panic c) (a.put oi.dst v) w → Q (.panic c) a w) (hy : YieldsIf P ops T oi v a) (hT : T w)
    (h : wpTill P md ops Q k T n (L.setIfInBounds i true) (a.put oi.dst v) w) : wpTill P md ops Q k T (n + 1) L a w := by
  simp only [Bool.and_eq_true, bne_iff_ne, beq_iff_eq] at hki
  exact till_first hi (Region.noSelect_spec hs) hQ hki.1.2 hki.2 n L a w hki.1.1 (Region.free_spec hi hf) (by simpa using hr) hy hT h
/-- one of those that may come up comes up; the step is handed over behind a letter -/
theorem till_one {i : Nat} {o : Oper} {n : Nat} {L : Array Bool} {a : Act} {w : World} (hr : Region.ready md ops L = [i]) (ho : ops[i]? = some o)
    (h : ∀ K' : Act → World → Prop, Shut (∀ a w, Till k T (L.setIfInBounds i true) w → wpTill P md ops Q k T n (L.setIfInBounds i true) a w → K' a w) → if Region.wanted o (yielded ops a.tmps) = true then Oper.wp P o a w K' Q else K' (a.put o.dst undef) w) :
    wpTill P md ops Q k T (n + 1) L a w :=
  ⟨(fun h0 => by rw [hr] at h0; cases h0), fun j hj => by
    rw [hr] at hj
    obtain rfl : j = i := by simpa using hj
    exact wpOp_step ho (fun K' hK => h K' (fun a w hS hW => hK a w ⟨hS, hW⟩))⟩
/-- all have come up -/
theorem till_done {L : Array Bool} {a : Act} {w : World} (hr : Region.ready md ops L = []) (h : Q .normal a w) : ∀ n, wpTill P md ops Q k T n L a w
  | 0 => ⟨hr, h⟩
  | _ + 1 => ⟨fun _ => h, by rw [hr]; simp⟩
/-- the beginning -/
theorem till_start {id : Nat} {a : Act} {w : World} (k : Nat) (T : World → Prop) (hm : P.follows .mixedOrders = true) (hT : T w.drew)
    (h : T w.drew → wpTill P .any ops Q k T ops.size (Array.replicate ops.size false) a w.drew) : (Code.region id ops true).wp P Q a w :=
  wp_region_any hm (till_any _ _ _ _ (h hT))
end
end Go.Proofs.Ytkmgildnhnjepaa
namespace Go.Proofs.Ytkmgildnhnjepaa
set_option linter.unusedVariables false
set_option linter.unusedSimpArgs false
open Go.RowKit
theorem st3 {W : World} {p : Nat} {T : TypeId} {r0 r1 r2 : Value} (h : W.heap[p]? = some (.cells #[r0, r1, r2] T (0, 0))) (v0 v1 v2 : Value) :
    (((W.setCell ⟨p, 0, none⟩ v0).setCell ⟨p, 1, none⟩ v1).setCell ⟨p, 2, none⟩ v2).heap[p]? = some (.cells #[v0, v1, v2] T (0, 0)) := (heap_setCell_same _ p 2 #[v0, v1, r2] T v2 (heap_setCell_same _ p 1 #[v0, r1, r2] T v1 (heap_setCell_same _ p 0 #[r0, r1, r2] T v0 h)))
theorem st3_below {W a : World} {p : Nat} {B : Nat} (h : Below B a W) (hB : B ≤ p) (v0 v1 v2 : Value) : Below B a (((W.setCell ⟨p, 0, none⟩ v0).setCell ⟨p, 1, none⟩ v1).setCell ⟨p, 2, none⟩ v2) := (Below.setCell (Below.setCell (Below.setCell h hB _) hB _) hB _)
end Go.Proofs.Ytkmgildnhnjepaa
namespace Go.Proofs.Ytkmgildnhnjepaa
open Go
set_option linter.unusedVariables false
section
variable {P : Program} {ops : Array Oper} {Q : Exit → Act → World → Prop} {md : Region.Mode} {T : World → Prop} {k : Nat}
theorem till_firstP {i : Nat} {oi : Oper} {v : Value} (hi : ops[i]? = some oi) (hsel : ∀ (j : Nat) (o : Oper) cs b, ops[j]? = some o → o.op ≠ .select cs b)
    (hQ : ∀ c a w, Q (.panic c) (a.put oi.dst v) w → Q (.panic c) a w) (hki : k ≠ i) :
    ∀ (n : Nat) (L : Array Bool) (a : Act) (w : World),
      (∀ j oj, ops[j]? = some oj → j ≠ i → L.getD j true = false → (∀ e ∈ oj.after, Region.binds md e = true → e.on ≠ i) → oi.apart ops oj = true) →
      i ∈ Region.ready md ops L → YieldsIf P ops (fun _ => True) oi v a → Till k T L w →
      wpTill P md ops Q k T n (L.setIfInBounds i true) (a.put oi.dst v) w → wpTill P md ops Q k T (n + 1) L a w := by
  have tset : ∀ (L : Array Bool) (w : World), Till k T (L.setIfInBounds i true) w ↔ Till k T L w := fun L w => by unfold Till; rw [getD_set_ne true (Ne.symm hki)]
  intro n
  induction n with
  | zero =>
    intro L a w _ hr hy hT H
    refine ⟨fun h => (by rw [h] at hr; cases hr), fun j hj => ?_⟩
    by_cases hji : j = i
    · subst hji; exact hy.wpOp hi trivial ⟨(tset L w).2 hT, H⟩
    · have := ready_mono hj hji
      rw [H.1] at this
      cases this
  | succ n ih =>
    intro L a w hfree hr hy hT H
    refine ⟨fun h => (by rw [h] at hr; cases hr), fun j hj => ?_⟩
    by_cases hji : j = i
    · subst hji; exact hy.wpOp hi trivial ⟨(tset L w).2 hT, H⟩
    · have h1 := H.2 j (ready_mono hj hji)
      obtain ⟨hjun, oj, hoj, hall⟩ := mem_ready.1 hj
      have hnot : ∀ e ∈ oj.after, Region.binds md e = true → e.on ≠ i := fun e he hb heq => by
        have g1 := hall e he hb
        have g0 := (mem_ready.1 hr).1
        rw [heq] at g1
        rcases Nat.lt_or_ge i L.size with h' | h'
        · simp [h'] at g0 g1; rw [g0] at g1; cases g1
        · simp [Array.getElem?_eq_none h'] at g1
      have h1' := wpOp_mono (K' := fun a' w' => (fun _ : World => True) w' ∧ (Till k T ((L.setIfInBounds i true).setIfInBounds j true) w' ∧ wpTill P md ops Q k T n ((L.setIfInBounds i true).setIfInBounds j true) a' w')) (fun a' w' q => ⟨trivial, q⟩) h1
      have h2 := wpOp_putIf hoj (hfree j oj hoj hji hjun hnot) (fun cs b => hsel i oi cs b hi) (fun cs b => hsel j oj cs b hoj) hQ hy h1'
      have hfree' : ∀ m om, ops[m]? = some om → m ≠ i → (L.setIfInBounds j true).getD m true = false → (∀ e ∈ om.after, Region.binds md e = true → e.on ≠ i) → oi.apart ops om = true := fun m om hm hmi hun hno => by
        refine hfree m om hm hmi ?_ hno
        by_cases hjm : j = m
        · subst hjm; exact hjun
        · rw [getD_set_ne true hjm] at hun; exact hun
      refine wpOp_mono (fun a' w' h3 => ?_) h2
      have hc : (L.setIfInBounds i true).setIfInBounds j true = (L.setIfInBounds j true).setIfInBounds i true := Array.setIfInBounds_comm _ _ (Ne.symm hji)
      have h4 := h3.2.2
      rw [hc] at h4
      have hT' : Till k T (L.setIfInBounds j true) w' := (tset _ w').1 h4.1
      exact ⟨hT', ih (L.setIfInBounds j true) a' w' hfree' (ready_mono hr (Ne.symm hji)) h3.1 hT' h4.2⟩
/-- take number i first, which looks at no memory -/
theorem till_pure {i : Nat} {oi : Oper} {v : Value} {n : Nat} {L : Array Bool} {a : Act} {w : World} (hi : ops[i]? = some oi) (hs : Region.noSelect ops = true) (hf : Region.free md ops L i = true) (hr : (Region.ready md ops L).contains i = true)
    (hki : (k != i) = true) (hQ : ∀ c a w, Q (.panic c) (a.put oi.dst v) w → Q (.panic c) a w) (hy : YieldsIf P ops (fun _ => True) oi v a) (hT : T w)
    (h : wpTill P md ops Q k T n (L.setIfInBounds i true) (a.put oi.dst v) w) : wpTill P md ops Q k T (n + 1) L a w :=
  till_firstP hi (Region.noSelect_spec hs) hQ (by simpa using hki) n L a w (Region.free_spec hi hf) (by simpa using hr) hy (Or.inr hT) h
end
end Go.Proofs.Ytkmgildnhnjepaa
namespace Go.Proofs.Ytkmgildnhnjepaa
set_option linter.unusedVariables false
set_option linter.unusedSimpArgs false
open Go.RowKit
/-- the map of the positions of all names -/
def MapAt (w : World) (m : Nat) (L : List (List UInt8)) : Prop := ∃ (n : Nat) (D : DataW Unit), n ≤ 1000 ∧ w.ownsMap Try.prog 9 (plainElem Try.prog 3) m n D ∧ Places D L

theorem MapAt.gr {w w' : World} {m : Nat} {L : List (List UInt8)} (h : MapAt w m L) (g : Gr w w') : MapAt w' m L := by
  obtain ⟨n, D, hn, h1, h2⟩ := h
  exact ⟨n, D, hn, h1.kept (row := none) ⟨g.os, g.tape, g.output, Below.size g, fun i hi _ => g.block i hi⟩ (by simp), h2⟩

end Go.Proofs.Ytkmgildnhnjepaa
namespace Go.Proofs.Ytkmgildnhnjepaa
open Go.ChangeShapes Go.WideShapes Go.ChangeAt Go.RowKit
set_option linter.unusedVariables false
set_option linter.unusedSimpArgs false
section
variable {H : Type} {enc : TypeId × Value → H} {W : World} {base : Nat} {sp : Nat → Bool} {held : Bool}
theorem cellsInt : Try.prog.cellsOf 3 = 1 := by kernel_rfl

end
end Go.Proofs.Ytkmgildnhnjepaa
namespace Go.Proofs.Ytkmgildnhnjepaa
open Go.ChangeShapes Go.WideShapes Go.ChangeAt Go.RowKit
set_option linter.unusedVariables false
set_option linter.unusedSimpArgs false
section
variable {H : Type} {enc : TypeId × Value → H} {W : World} {base : Nat} {sp : Nat → Bool} {held : Bool}
theorem cellsStr : Try.prog.cellsOf 9 = 1 := by kernel_rfl

theorem int_cell {c : Value} {m : Nat} {x : DataW H × List MemPlace} (h : DataW.trod enc Try.prog W base sp held m 3 [c] = some x) : ∃ a : Int, c = .int .i64 a ∧ x = (.lit (.int .i64 a), []) ∧ (Lit.int .i64 a).wf = true := by
  obtain ⟨a, ea, rfl, wa⟩ := DataW.trod_int Try.underlying3 h
  exact ⟨a, (List.cons.inj ea).1, rfl, wa⟩

theorem str_cell {c : Value} {m : Nat} {x : DataW H × List MemPlace} (h : DataW.trod enc Try.prog W base sp held m 9 [c] = some x) : ∃ s : ByteArray, c = .string s ∧ x = (.lit (.string s.data.toList), []) ∧ s.size ≤ maxLen := by
  obtain ⟨a, ea, hx, wa⟩ := DataW.trod_string Try.underlying9 h
  exact ⟨a, (List.cons.inj ea).1, hx, wa⟩

end
end Go.Proofs.Ytkmgildnhnjepaa
namespace Go.Proofs.Ytkmgildnhnjepaa
open Go.ChangeShapes Go.WideShapes Go.ChangeAt Go.RowKit Go.Deep
set_option linter.unusedVariables false
set_option linter.unusedSimpArgs false
section
variable {H : Type} {enc : TypeId × Value → H} {W : World} {base : Nat} {sp : Nat → Bool} {held : Bool}
/-- a slice laid open, where each of its elements can be -/
theorem open_rows {α : Type} {t e : TypeId} {k fuel : Nat} {en : α → List Value} {p : α → Prop} {c : Value} {x : DataW H × List MemPlace} (ht : Try.prog.underlying t = some (.slice e)) (hk : Try.prog.cellsOf e = k) (hk0 : 0 < k)
    (elem : ∀ m cs y, DataW.trod enc Try.prog W base sp held m e cs = some y → ∃ a, cs = en a ∧ p a) (h : DataW.trod enc Try.prog W base sp held fuel t [c] = some x) :
    ∃ (A : Option Addr) (c' : Nat) (l : List α), c = .slice A l.length c' ∧ SlOk l.length c' ∧ Row W k en A l ∧ ∀ a ∈ l, p a := by
  rcases open_slice ht h with ⟨h0, _⟩ | ⟨a, len, cap, m, n, D, Pl, hcs, hb, hl, hm, hmm, _, hx⟩
  · exact ⟨none, 0, [], (List.cons.inj h0).1, ⟨Nat.le_refl _, by unfold maxLen; simp⟩, Row.nil _ _ _ _, fun a ha => by cases ha⟩
  · rw [hk] at hx
    have hlm : len ≤ m := by rw [hmm]; split <;> omega
    have build : ∀ n', n' ≤ len → ∃ l : List α, l.length = n' ∧ ∀ i z, l[i]? = some z → W.cells? base (a.add (i * k)) k = some (en z) ∧ p z := by
      intro n'
      induction n' with
      | zero => exact fun _ => ⟨[], rfl, fun i z hz => by simp at hz⟩
      | succ n' ih =>
        intro hn'
        obtain ⟨l, hll, hl2⟩ := ih (by omega)
        obtain ⟨cs', h1, h2⟩ := hx n' (by omega)
        obtain ⟨z, rfl, hz⟩ := elem _ _ _ h2
        refine ⟨l ++ [z], by simp [hll], fun i z' hz' => ?_⟩
        by_cases hi : i < l.length
        · rw [List.getElem?_append_left hi] at hz'; exact hl2 i z' hz'
        · rw [List.getElem?_append_right (by omega)] at hz'
          have e0 : i - l.length = 0 := by
            have := (List.getElem?_eq_some_iff.1 hz').1
            simp at this; omega
          rw [e0] at hz'
          have ez : z = z' := by simpa using hz'
          subst ez
          have ei : i = n' := by omega
          subst ei
          exact ⟨h1, hz⟩
    obtain ⟨l, hll, hl2⟩ := build len (Nat.le_refl _)
    refine ⟨some a, cap, l, by rw [hll]; exact (List.cons.inj hcs).1, by rw [hll]; exact ⟨hl, hm⟩, fun i z hz => ?_, fun z hz => ?_⟩
    · have hi : i < l.length := (List.getElem?_eq_some_iff.1 hz).1
      obtain ⟨z0, hz0⟩ := get_lt (show 0 < l.length by omega)
      obtain ⟨_, hc0, hat0⟩ := World.cells?_some (hl2 0 z0 hz0).1
      obtain ⟨_, hci, hati⟩ := World.cells?_some (hl2 i z hz).1
      have hcell0 : W.cell? a = some ((en z0)[0]'(by omega)) := by
        have := hat0 0 hk0
        rw [List.getElem?_eq_getElem (by omega)] at this
        simpa [Addr.add] using this
      have hspot := World.cell?_spot hcell0
      have hblk := World.block_lt_of_cell? W a hcell0
      obtain ⟨b, off, spot⟩ := a
      simp only at hspot
      subst hspot
      refine ⟨b, off, rfl, hblk, fun j v hv => ?_⟩
      have hj : j < k := by have := (List.getElem?_eq_some_iff.1 hv).1; omega
      have := hati j hj
      rw [add_add, hv] at this
      rw [← this]
      unfold Addr.add
      split
      · rename_i e; simp [Nat.add_assoc, e]
      · simp [Nat.add_assoc]
    · obtain ⟨i, hi, e⟩ := List.getElem_of_mem hz
      exact (hl2 i z (by rw [List.getElem?_eq_getElem hi, e])).2

theorem laid_out : laidOutB Try.prog = true := by kernel_rfl

/-- an argument reads behind the call as it did before it -/
theorem stays {t : TypeId} {W' : World} {sp' : Nat → Bool} {v : Value} {d : DataW H} {ps before : List MemPlace} (hr : Try.prog.readableRec t = true ∧ decide (t < Try.prog.types.size) = true) (h : DataW.Trod enc Try.prog W 0 (fun _ => true) true t v d ps)
    (hb : Gr W W') (hin : ∀ p ∈ ps, p ∈ before) (hlt : ∀ p ∈ before, p.block < W.heap.size) (hs : ∀ p ∈ before, sp' p.block = true) : DataW.Trod enc Try.prog W' 0 sp' true t v d ps :=
  Go.WideElems.Trod_stays laid_out hr.1 (of_decide_eq_true hr.2) h (fun x hx => Below.same hb (hlt x (hin x hx))) (fun x hx => hs x (hin x hx))
end
end Go.Proofs.Ytkmgildnhnjepaa
