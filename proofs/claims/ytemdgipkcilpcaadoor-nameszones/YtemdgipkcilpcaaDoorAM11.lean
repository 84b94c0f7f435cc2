/- Rows of names in memory; two cells stored; what the reference's Has returns for a text; the way of Resolve through links. Blocks of a call's own; rows of its own that are appended tto. No function of the program in it. -/
import Derived.Laws.Rows
import Derived.Test.YtemdgipkcilpcaaDoorAM10
import Derived.Test.YtemdgipkcilpcaaDoorAM07
import Derived.Deep.AppendLies
import Derived.OwnWalk
import Derived.Laws.OwnMore
namespace Go.Proofs.YtemdgipkcilpcaaDoor
set_option linter.unusedVariables false
set_option linter.unusedSimpArgs false
open Go.RowKit
theorem Row.one {α : Type} {w W : World} {e : α → List Value} {A : Option Addr} {l : List α} {i : Nat} {x : α} {v0 : Value} (h : Row w 1 e A l) (hx : l[i]? = some x) (he : e x = [v0]) (g : Gr w W) :
    ∃ b off, A = some ⟨b, off, none⟩ ∧ W.cell? ⟨b, off + i, none⟩ = some v0 := by
  obtain ⟨b, off, rfl, hb, hc⟩ := h i x hx
  rw [he] at hc
  have := hc 0 v0 rfl
  rw [Nat.mul_one, Nat.add_zero] at this
  exact ⟨b, off, rfl, g.holds this⟩
/-- two cells stored one behind the other -/
theorem store2 {W : World} {p : Nat} {T : TypeId} {r0 r1 : Value} (h : W.heap[p]? = some (.cells #[r0, r1] T (0, 0))) (v0 v1 : Value) :
    ((W.setCell ⟨p, 0, none⟩ v0).setCell ⟨p, 1, none⟩ v1).heap[p]? = some (.cells #[v0, v1] T (0, 0)) := by
  have e0 : (W.setCell ⟨p, 0, none⟩ v0).heap[p]? = some (.cells #[v0, r1] T (0, 0)) := heap_setCell_same W p 0 #[r0, r1] T v0 h
  exact heap_setCell_same (W.setCell ⟨p, 0, none⟩ v0) p 1 #[v0, r1] T v1 e0
theorem store2_below {W a : World} {p : Nat} {B : Nat} (h : Below B a W) (hB : B ≤ p) (v0 v1 : Value) : Below B a ((W.setCell ⟨p, 0, none⟩ v0).setCell ⟨p, 1, none⟩ v1) := Below.setCell (Below.setCell h hB _) hB _
theorem unfrozen {W : World} {p i : Nat} {cs : Array Value} {T : TypeId} (h : W.heap[p]? = some (.cells cs T (0, 0))) : W.frozen? ⟨p, i, none⟩ = false := by simp [World.frozen?, h]

/-- the way through links: the names met so far, and the one under way -/
structure Pth (zs : List ZonD) (ls : List LinD) (nm : List UInt8) (L : List (List UInt8)) (cur : List UInt8) : Prop where
  st : (L = [] ∧ cur = nm) ∨ nm ∈ nms zs ls
  at_ : nm ∈ nms zs ls → cur ∈ nms zs ls ∧ (nms zs ls).idxOf cur = ends zs ls L.length ((nms zs ls).idxOf nm)
  seen : ∀ (i : Nat) (x : List UInt8), L[i]? = some x → x ∈ nms zs ls ∧ (nms zs ls).idxOf x = ends zs ls i ((nms zs ls).idxOf nm) ∧ zs.length ≤ ends zs ls i ((nms zs ls).idxOf nm)
  dis : ∀ i k, i < k → k < L.length → ends zs ls i ((nms zs ls).idxOf nm) ≠ ends zs ls k ((nms zs ls).idxOf nm)
section
variable {zs : List ZonD} {ls : List LinD} {nm cur : List UInt8} {L : List (List UInt8)}
theorem Pth.few (g : GoodB zs ls) (h : Pth zs ls nm L cur) (hn : nm ∈ nms zs ls) : L.length ≤ ls.length :=
  path_few g (p := (nms zs ls).idxOf nm) (by rw [← nms_len]; exact idx_lt hn) (fun i hi => by obtain ⟨x, hx⟩ := get_lt hi; exact (h.seen i x hx).2.2) h.dis
theorem mem_zone {k : Nat} {z : ZonD} (hz : zs[k]? = some z) : z.nm.toList ∈ nms zs ls := List.mem_of_getElem? (nms_zone hz)
theorem mem_link {k : Nat} {x : LinD} (hx : ls[k]? = some x) : x.nm.toList ∈ nms zs ls := List.mem_of_getElem? (nms_link (zs := zs) hx)
theorem Pth.zone (g : GoodB zs ls) (h : Pth zs ls nm L cur) {k : Nat} {z : ZonD} (hz : zs[k]? = some z) (e : z.nm.toList = cur) : nm ∈ nms zs ls ∧ endN zs ls nm = k := by
  have hc : cur ∈ nms zs ls := e ▸ mem_zone hz
  have hn : nm ∈ nms zs ls := by rcases h.st with ⟨_, q⟩ | q
                                 · rw [← q]; exact hc
                                 · exact q
  have hi := (h.at_ hn).2
  rw [← e, idx_zone g hz] at hi
  have hk := (List.getElem?_eq_some_iff.1 hz).1
  exact ⟨hn, by unfold endN; rw [path_end (j := L.length) (by omega) (h.few g hn)]; exact hi.symm⟩
theorem Pth.none {c : ByteArray} (h : Pth zs ls nm L c.toList) (hz : hasZ zs c = false) (hl : hasL ls c = false) : nm ∉ nms zs ls := fun hn => by
  rcases mem_nms.1 (h.at_ hn).1 with q | q
  · rw [hz] at q; cases q
  · rw [hl] at q; cases q
theorem Pth.step (g : GoodB zs ls) (h : Pth zs ls nm L cur) {k : Nat} {x : LinD} (hx : ls[k]? = some x) (e : x.nm.toList = cur) (hc : L.contains cur = false) : Pth zs ls nm (L ++ [cur]) x.to'.toList ∧ L.length < ls.length := by
  have hcm : cur ∈ nms zs ls := e ▸ mem_link hx
  have hn : nm ∈ nms zs ls := by rcases h.st with ⟨_, q⟩ | q
                                 · rw [← q]; exact hcm
                                 · exact q
  have hi := (h.at_ hn).2
  have hik : (nms zs ls).idxOf cur = zs.length + k := by rw [← e]; exact idx_link g hx
  have P : Pth zs ls nm (L ++ [cur]) x.to'.toList := by
    refine ⟨Or.inr hn, fun _ => ⟨g.to_ x (get_mem hx), ?_⟩, fun i y hy => ?_, fun i m him hm => ?_⟩
    · rw [List.length_append, List.length_cons, List.length_nil, Nat.zero_add, ends_succ, ← hi, hik, nx_link hx]
    · by_cases c : i < L.length
      · rw [List.getElem?_append_left c] at hy; exact h.seen i y hy
      · have hl := (List.getElem?_eq_some_iff.1 hy).1
        simp only [List.length_append, List.length_cons, List.length_nil] at hl
        have ei : i = L.length := by omega
        subst ei
        have ey : cur = y := by simpa using hy
        subst ey
        exact ⟨hcm, hi, by rw [← hi, hik]; omega⟩
    · simp only [List.length_append, List.length_cons, List.length_nil] at hm
      by_cases c : m < L.length
      · exact h.dis i m him c
      · have em : m = L.length := by omega
        subst em
        obtain ⟨y, hy⟩ := get_lt him
        obtain ⟨y1, y2, _⟩ := h.seen i y hy
        intro q
        rw [← y2, ← hi] at q
        have ex : cur = y := by
          have a := idx_get hcm
          rw [← q, idx_get y1] at a
          exact (Option.some.inj a).symm
        subst ex
        have : L.contains cur = true := by simpa using List.mem_of_getElem? hy
        rw [hc] at this; cases this
  refine ⟨P, ?_⟩
  have := P.few g hn
  simp only [List.length_append, List.length_cons, List.length_nil] at this
  omega
end
end Go.Proofs.YtemdgipkcilpcaaDoor
namespace Go.Proofs.YtemdgipkcilpcaaDoor
set_option linter.unusedVariables false
set_option linter.unusedSimpArgs false
open Go.RowKit
theorem bheap_gr {W W' : World} {B : Nat} {o : Obj} (g : Gr W W') (h : W.heap[B]? = some o) : W'.heap[B]? = some o := by
  have hb : B < W.heap.size := by
    by_cases c : B < W.heap.size
    · exact c
    · rw [Array.getElem?_eq_none (by omega)] at h; cases h
  rw [Below.block g B hb]; exact h
theorem bheap_new (W : World) (o : Obj) : (W.alloc o).heap[W.heap.size]? = some o := by unfold World.alloc; simp
theorem box_one (w : World) (o : Obj) : Gr w (w.alloc o) ∧ (w.alloc o).heap[w.heap.size]? = some o := ⟨Gr.alloc w o, bheap_new w o⟩
theorem box_two (w : World) (o1 o2 : Obj) : Gr w ((w.alloc o1).alloc o2) ∧ ((w.alloc o1).alloc o2).heap[w.heap.size]? = some o1 ∧ ((w.alloc o1).alloc o2).heap[w.heap.size + 1]? = some o2 := by
  refine ⟨(Gr.alloc w o1).alloc' o2, bheap_gr (Gr.alloc _ o2) (bheap_new w o1), ?_⟩
  have := bheap_new (w.alloc o1) o2
  rwa [show (w.alloc o1).heap.size = w.heap.size + 1 by unfold World.alloc; simp] at this
theorem bcell_row {W : World} {b i : Nat} {cs : Array Value} {T : TypeId} {v : Value} (h : W.heap[b]? = some (.cells cs T (0, 0))) (hv : cs[i]? = some v) : W.cell? ⟨b, i, none⟩ = some v := by simp [World.cell?, h, hv]
theorem flat_get {α : Type} {enc : α → List Value} {k : Nat} (hk : ∀ x, (enc x).length = k) : ∀ (l : List α) (i : Nat) (x : α), l[i]? = some x → ∀ j v, (enc x)[j]? = some v → (l.flatMap enc)[i * k + j]? = some v
  | [], i, x, h => by simp at h
  | y :: l, 0, x, h => fun j v hv => by
    have e : y = x := by simpa using h
    subst e
    have hj : j < (enc y).length := (List.getElem?_eq_some_iff.1 hv).1
    rw [List.flatMap_cons, Nat.zero_mul, Nat.zero_add, List.getElem?_append_left hj]; exact hv
  | y :: l, i + 1, x, h => fun j v hv => by
    have h' : l[i]? = some x := by simpa using h
    have := flat_get hk l i x h' j v hv
    rw [List.flatMap_cons, List.getElem?_append_right (by rw [hk y, Nat.add_mul]; omega), hk y, show (i + 1) * k + j - k = i * k + j by rw [Nat.add_mul]; omega]
    exact this
theorem flat_len {α : Type} {enc : α → List Value} {k : Nat} (hk : ∀ x, (enc x).length = k) : ∀ (l : List α), (l.flatMap enc).length = l.length * k
  | [] => by simp
  | y :: l => by rw [List.flatMap_cons, List.length_append, flat_len hk l, hk y, List.length_cons, Nat.add_mul]; omega
/-- a row of the call's own: the things of l, each in k cells -/
def Own {α : Type} (w : World) (base : Nat) (e : TypeId) (k : Nat) (enc : α → List Value) (v : Value) (l : List α) : Prop := w.ownsRow base e k v l.length (l.flatMap enc)
section
variable {α : Type} {w w' : World} {base k : Nat} {e : TypeId} {enc : α → List Value} {v : Value} {l : List α}
theorem Own.nil_ (w : World) (base : Nat) (e : TypeId) (k : Nat) (enc : α → List Value) : Own w base e k enc (.slice none 0 0) ([] : List α) := ⟨by simp, Or.inl ⟨rfl, rfl⟩⟩
theorem Own.gr (h : Own w base e k enc v l) (g : Gr w w') : Own w' base e k enc v l :=
  World.ownsRow.kept (row := none) h ⟨g.os, g.tape, g.output, Below.size g, fun i hi _ => g.block i hi⟩ (by cases v.ownBlock <;> simp)
theorem Own.form (h : Own w base e k enc v l) : ∃ A c, v = .slice A l.length c ∧ l.length ≤ c ∧ c ≤ maxLen ∧ (∀ a, A = some a → a.off = 0 ∧ a.spot = none ∧ base ≤ a.block ∧ a.block < w.heap.size) := by
  rcases h.2 with ⟨rfl, h0⟩ | ⟨g, cap, cur, rfl, hb, hg, h1, h2, _⟩
  · exact ⟨none, 0, by rw [h0], by omega, Nat.zero_le _, fun a ha => by cases ha⟩
  · exact ⟨some ⟨g, 0, none⟩, cap, rfl, h1, h2, fun a ha => by injection ha with ha; subst ha; exact ⟨rfl, rfl, hb, (Array.getElem?_eq_some_iff.1 hg).1⟩⟩
theorem Own.row {A : Option Addr} {n c : Nat} (hk : ∀ x, (enc x).length = k) (h : Own w base e k enc (.slice A n c) l) : Row w k enc A l := fun i x hx => by
  rcases h.2 with ⟨hv, h0⟩ | ⟨g, cap, cur, hv, hb, hg, _⟩
  · have : i < l.length := (List.getElem?_eq_some_iff.1 hx).1
    omega
  · injection hv with hA
    subst hA
    refine ⟨g, 0, rfl, (Array.getElem?_eq_some_iff.1 hg).1, fun j u hu => ?_⟩
    have h2 := World.ownsRow.cells h (g := g) rfl (i * k + j) u (flat_get hk l i x hx j u hu)
    rwa [show (⟨g, 0, none⟩ : Addr).add (i * k + j) = ⟨g, 0 + i * k + j, none⟩ by unfold Addr.add; split <;> simp_all] at h2
end
/-- what lay below the base lies so still -/
theorem grown_gr {a w w' : World} {row : Option Nat} (h : Gr a w) (g : w.grownBy w' row) (hr : ∀ j, row = some j → a.heap.size ≤ j) : Gr a w' :=
  Below.grown h g (Below.size h) (fun j hj => hr j hj)
theorem er_len (r : EraD) : r.cells.length = 5 := rfl
theorem er_one (r : EraD) : ∀ u ∈ r.cells, u.oneCell' = true := fun u hu => by simp [EraD.cells] at hu; rcases hu with rfl | rfl | rfl | rfl | rfl <;> rfl
end Go.Proofs.YtemdgipkcilpcaaDoor
