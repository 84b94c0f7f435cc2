/- Rows of names in memory; two cells stored; what the reference's Has returns for a text; the way of Resolve through links. What a zone's own name and a link's names lead tto. No function of the program in it. -/
import Derived.Laws.Rows
import Derived.Test.YtbagdlafpahgdaaGreatDoorRM15
import Derived.Test.YtbagdlafpahgdaaGreatDoorRM11
namespace Go.Proofs.YtbagdlafpahgdaaGreatDoor
set_option linter.unusedVariables false
set_option linter.unusedSimpArgs false
open Go.RowKit
theorem Row.one {α : Type} {w W : World} {e : α → List Value} {A : Option Addr} {l : List α} {i : Nat} {x : α} {v0 : Value} (h : Row w 1 e A l) (hx : l[i]? = some x) (he : e x = [v0]) (g : Gr w W) :
    ∃ b off, A = some ⟨b, off, none⟩ ∧ W.cell? ⟨b, off + i, none⟩ = some v0 := by
  obtain ⟨b, off, rfl, hb, hc⟩ := h i x hx
  rw [he] at hc
  have := hc 0 v0 rfl
  rw [Nat.mul_one, Nat.add_zero] at this
  exact ⟨b, off, rfl, g.holds this⟩
/-- two cells stored one behind the other -/
theorem store2 {W : World} {p : Nat} {T : TypeId} {r0 r1 : Value} (h : W.heap[p]? = some (.cells #[r0, r1] T (0, 0))) (v0 v1 : Value) :
    ((W.setCell ⟨p, 0, none⟩ v0).setCell ⟨p, 1, none⟩ v1).heap[p]? = some (.cells #[v0, v1] T (0, 0)) := by
  have e0 : (W.setCell ⟨p, 0, none⟩ v0).heap[p]? = some (.cells #[v0, r1] T (0, 0)) := heap_setCell_same W p 0 #[r0, r1] T v0 h
  exact heap_setCell_same (W.setCell ⟨p, 0, none⟩ v0) p 1 #[v0, r1] T v1 e0
theorem store2_below {W a : World} {p : Nat} {B : Nat} (h : Below B a W) (hB : B ≤ p) (v0 v1 : Value) : Below B a ((W.setCell ⟨p, 0, none⟩ v0).setCell ⟨p, 1, none⟩ v1) := Below.setCell (Below.setCell h hB _) hB _
theorem unfrozen {W : World} {p i : Nat} {cs : Array Value} {T : TypeId} (h : W.heap[p]? = some (.cells cs T (0, 0))) : W.frozen? ⟨p, i, none⟩ = false := by simp [World.frozen?, h]

/-- the way through links: the names met so far, and the one under way -/
structure Pth (zs : List ZonD) (ls : List LinD) (nm : List UInt8) (L : List (List UInt8)) (cur : List UInt8) : Prop where
  st : (L = [] ∧ cur = nm) ∨ nm ∈ nms zs ls
  at_ : nm ∈ nms zs ls → cur ∈ nms zs ls ∧ (nms zs ls).idxOf cur = ends zs ls L.length ((nms zs ls).idxOf nm)
  seen : ∀ (i : Nat) (x : List UInt8), L[i]? = some x → x ∈ nms zs ls ∧ (nms zs ls).idxOf x = ends zs ls i ((nms zs ls).idxOf nm) ∧ zs.length ≤ ends zs ls i ((nms zs ls).idxOf nm)
  dis : ∀ i k, i < k → k < L.length → ends zs ls i ((nms zs ls).idxOf nm) ≠ ends zs ls k ((nms zs ls).idxOf nm)
section
variable {zs : List ZonD} {ls : List LinD} {nm cur : List UInt8} {L : List (List UInt8)}
theorem Pth.few (g : GoodB zs ls) (h : Pth zs ls nm L cur) (hn : nm ∈ nms zs ls) : L.length ≤ ls.length :=
  path_few g (p := (nms zs ls).idxOf nm) (by rw [← nms_len]; exact idx_lt hn) (fun i hi => by obtain ⟨x, hx⟩ := get_lt hi; exact (h.seen i x hx).2.2) h.dis
theorem mem_zone {k : Nat} {z : ZonD} (hz : zs[k]? = some z) : z.nm.toList ∈ nms zs ls := List.mem_of_getElem? (nms_zone hz)
theorem mem_link {k : Nat} {x : LinD} (hx : ls[k]? = some x) : x.nm.toList ∈ nms zs ls := List.mem_of_getElem? (nms_link (zs := zs) hx)
theorem Pth.zone (g : GoodB zs ls) (h : Pth zs ls nm L cur) {k : Nat} {z : ZonD} (hz : zs[k]? = some z) (e : z.nm.toList = cur) : nm ∈ nms zs ls ∧ endN zs ls nm = k := by
  have hc : cur ∈ nms zs ls := e ▸ mem_zone hz
  have hn : nm ∈ nms zs ls := by rcases h.st with ⟨_, q⟩ | q
                                 · rw [← q]; exact hc
                                 · exact q
  have hi := (h.at_ hn).2
  rw [← e, idx_zone g hz] at hi
  have hk := (List.getElem?_eq_some_iff.1 hz).1
  exact ⟨hn, by unfold endN; rw [path_end (j := L.length) (by omega) (h.few g hn)]; exact hi.symm⟩
theorem Pth.none {c : ByteArray} (h : Pth zs ls nm L c.toList) (hz : hasZ zs c = false) (hl : hasL ls c = false) : nm ∉ nms zs ls := fun hn => by
  rcases mem_nms.1 (h.at_ hn).1 with q | q
  · rw [hz] at q; cases q
  · rw [hl] at q; cases q
theorem Pth.step (g : GoodB zs ls) (h : Pth zs ls nm L cur) {k : Nat} {x : LinD} (hx : ls[k]? = some x) (e : x.nm.toList = cur) (hc : L.contains cur = false) : Pth zs ls nm (L ++ [cur]) x.to'.toList ∧ L.length < ls.length := by
  have hcm : cur ∈ nms zs ls := e ▸ mem_link hx
  have hn : nm ∈ nms zs ls := by rcases h.st with ⟨_, q⟩ | q
                                 · rw [← q]; exact hcm
                                 · exact q
  have hi := (h.at_ hn).2
  have hik : (nms zs ls).idxOf cur = zs.length + k := by rw [← e]; exact idx_link g hx
  have P : Pth zs ls nm (L ++ [cur]) x.to'.toList := by
    refine ⟨Or.inr hn, fun _ => ⟨g.to_ x (get_mem hx), ?_⟩, fun i y hy => ?_, fun i m him hm => ?_⟩
    · rw [List.length_append, List.length_cons, List.length_nil, Nat.zero_add, ends_succ, ← hi, hik, nx_link hx]
    · by_cases c : i < L.length
      · rw [List.getElem?_append_left c] at hy; exact h.seen i y hy
      · have hl := (List.getElem?_eq_some_iff.1 hy).1
        simp only [List.length_append, List.length_cons, List.length_nil] at hl
        have ei : i = L.length := by omega
        subst ei
        have ey : cur = y := by simpa using hy
        subst ey
        exact ⟨hcm, hi, by rw [← hi, hik]; omega⟩
    · simp only [List.length_append, List.length_cons, List.length_nil] at hm
      by_cases c : m < L.length
      · exact h.dis i m him c
      · have em : m = L.length := by omega
        subst em
        obtain ⟨y, hy⟩ := get_lt him
        obtain ⟨y1, y2, _⟩ := h.seen i y hy
        intro q
        rw [← y2, ← hi] at q
        have ex : cur = y := by
          have a := idx_get hcm
          rw [← q, idx_get y1] at a
          exact (Option.some.inj a).symm
        subst ex
        have : L.contains cur = true := by simpa using List.mem_of_getElem? hy
        rw [hc] at this; cases this
  refine ⟨P, ?_⟩
  have := P.few g hn
  simp only [List.length_append, List.length_cons, List.length_nil] at this
  omega
end
end Go.Proofs.YtbagdlafpahgdaaGreatDoor
namespace Go.Proofs.YtbagdlafpahgdaaGreatDoor
set_option linter.unusedVariables false
set_option linter.unusedSimpArgs false
open Go.RowKit
section
variable {rs : List RuD} {zs : List ZonD} {ls : List LinD}
/-- who is at no zone after as many links as there are comes tto none -/
theorem over (g : GoodB zs ls) {p : Nat} (hp : p < zs.length + ls.length) (h : ¬ ends zs ls ls.length p < zs.length) (n : Nat) : zs.length ≤ ends zs ls n p := by
  have hS : ∀ i, i < ls.length + 1 → zs.length ≤ ends zs ls i p := fun i hi => by
    rcases Nat.lt_or_ge (ends zs ls i p) zs.length with c | c
    · exact absurd (by rw [path_end c (show i ≤ ls.length by omega)]; exact c) h
    · exact c
  by_cases d : ∃ i k, i < k ∧ k < ls.length + 1 ∧ ends zs ls i p = ends zs ls k p
  · obtain ⟨i, k, hik, hk, e⟩ := d
    exact path_loop (j := k) (fun m hm => hS m (by omega)) ⟨i, hik, e⟩ n
  · have := path_few g hp (j := ls.length + 1) hS (fun i k hik hk e => d ⟨i, k, hik, hk, e⟩)
    omega
theorem end_zone (g : GoodB zs ls) {i : Nat} {z : ZonD} (hz : zs[i]? = some z) : endN zs ls z.nm.toList = i := by
  unfold endN
  rw [idx_zone g hz, ends_zone (List.getElem?_eq_some_iff.1 hz).1]
theorem end_link (g : GoodB zs ls) {i : Nat} {x : LinD} (hx : ls[i]? = some x) : (endN zs ls x.nm.toList < zs.length → endN zs ls x.to'.toList = endN zs ls x.nm.toList) ∧ (¬ endN zs ls x.nm.toList < zs.length → ¬ endN zs ls x.to'.toList < zs.length) := by
  have e2 : endN zs ls x.to'.toList = ends zs ls (ls.length + 1) (zs.length + i) := by
    unfold endN
    rw [← nx_link hx]
    rfl
  have hi := (List.getElem?_eq_some_iff.1 hx).1
  have e1 : endN zs ls x.nm.toList = ends zs ls ls.length (zs.length + i) := by unfold endN; rw [idx_link g hx]
  rw [e1, e2]
  constructor
  · intro h; exact path_end h (Nat.le_succ _)
  · intro h
    have := over g (show zs.length + i < zs.length + ls.length by omega) h (ls.length + 1)
    omega
theorem res_zone (h0 : bokC rs zs ls = 0) {i : Nat} {z : ZonD} (hz : zs[i]? = some z) : resC rs zs ls z.nm = 0 :=
  resC_ok h0 (mem_zone hz) (by rw [end_zone (good_of h0) hz]; exact (List.getElem?_eq_some_iff.1 hz).1)
theorem res_link (h0 : bokC rs zs ls = 0) {i : Nat} {x : LinD} (hx : ls[i]? = some x) :
    resC rs zs ls x.to' = resC rs zs ls x.nm ∧ (resC rs zs ls x.nm = 0 → endN zs ls x.to'.toList = endN zs ls x.nm.toList) ∧ (resC rs zs ls x.nm = 0 ∨ resC rs zs ls x.nm = 8) := by
  have g := good_of h0
  have m1 := mem_link (zs := zs) hx
  have m2 := g.to_ x (get_mem hx)
  obtain ⟨a, b⟩ := end_link g hx
  by_cases c : endN zs ls x.nm.toList < zs.length
  · have r1 := resC_ok h0 m1 c
    have r2 := resC_ok h0 m2 (by rw [a c]; exact c)
    exact ⟨r2.trans r1.symm, fun _ => a c, Or.inl r1⟩
  · have r1 := resC_loop h0 m1 c
    have r2 := resC_loop h0 m2 (b c)
    exact ⟨r2.trans r1.symm, fun q => absurd (r1.symm.trans q) (by decide), Or.inr r1⟩
end
end Go.Proofs.YtbagdlafpahgdaaGreatDoor
