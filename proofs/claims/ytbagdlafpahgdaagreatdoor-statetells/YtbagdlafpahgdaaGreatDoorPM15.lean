/- Rows of names in memory; two cells stored; what the reference's Has returns for a text; the way of Resolve through links. What a zone's own name and a link's names lead tto. No function of the program in it. -/
import Derived.Laws.Rows
import Derived.Test.YtbagdlafpahgdaaGreatDoorPM14
import Derived.Test.YtbagdlafpahgdaaGreatDoorPM11
namespace Go.Proofs.YtbagdlafpahgdaaGreatDoor
set_option linter.unusedVariables false
set_option linter.unusedSimpArgs false
open Go.RowKit
/-- a name in its cell -/
abbrev nmC (x : List UInt8) : List Value := [.string (S x)]
theorem nm_len (x : List UInt8) : (nmC x).length = 1 := rfl
theorem nm_one (x : List UInt8) : ∀ u ∈ nmC x, u.oneCell' = true := fun u hu => by simp [nmC] at hu; rw [hu]; rfl
theorem Row.one {α : Type} {w W : World} {e : α → List Value} {A : Option Addr} {l : List α} {i : Nat} {x : α} {v0 : Value} (h : Row w 1 e A l) (hx : l[i]? = some x) (he : e x = [v0]) (g : Gr w W) :
    ∃ b off, A = some ⟨b, off, none⟩ ∧ W.cell? ⟨b, off + i, none⟩ = some v0 := by
  obtain ⟨b, off, rfl, hb, hc⟩ := h i x hx
  rw [he] at hc
  have := hc 0 v0 rfl
  rw [Nat.mul_one, Nat.add_zero] at this
  exact ⟨b, off, rfl, g.holds this⟩
/-- two cells stored one behind the other -/
theorem store2 {W : World} {p : Nat} {T : TypeId} {r0 r1 : Value} (h : W.heap[p]? = some (.cells #[r0, r1] T (0, 0))) (v0 v1 : Value) :
    ((W.setCell ⟨p, 0, none⟩ v0).setCell ⟨p, 1, none⟩ v1).heap[p]? = some (.cells #[v0, v1] T (0, 0)) := by
  have e0 : (W.setCell ⟨p, 0, none⟩ v0).heap[p]? = some (.cells #[v0, r1] T (0, 0)) := heap_setCell_same W p 0 #[r0, r1] T v0 h
  exact heap_setCell_same (W.setCell ⟨p, 0, none⟩ v0) p 1 #[v0, r1] T v1 e0
theorem store2_below {W a : World} {p : Nat} {B : Nat} (h : Below B a W) (hB : B ≤ p) (v0 v1 : Value) : Below B a ((W.setCell ⟨p, 0, none⟩ v0).setCell ⟨p, 1, none⟩ v1) := Below.setCell (Below.setCell h hB _) hB _
theorem unfrozen {W : World} {p i : Nat} {cs : Array Value} {T : TypeId} (h : W.heap[p]? = some (.cells cs T (0, 0))) : W.frozen? ⟨p, i, none⟩ = false := by simp [World.frozen?, h]

theorem con_take {l : List (List UInt8)} {k : Nat} {y x : List UInt8} (h : l[k]? = some y) : (l.take (k + 1)).contains x = ((l.take k).contains x || (x == y)) := by
  have hk : k < l.length := (List.getElem?_eq_some_iff.1 h).1
  have e : l[k] = y := (List.getElem?_eq_some_iff.1 h).2
  rw [List.take_succ_eq_append_getElem hk, e]
  simp [List.contains_eq_any_beq, List.any_append]
  congr 1
  by_cases q : x = y <;> simp [q]
theorem con_hit {l : List (List UInt8)} {k : Nat} {y x : List UInt8} (h : l[k]? = some y) (e : (x == y) = true) : l.contains x = true := by
  have := eq_of_beq e
  subst this
  simpa using List.mem_of_getElem? h

set_option maxHeartbeats 4000000 in
theorem rhas (A : Option Addr) (c : Nat) (l : List (List UInt8)) (nm : ByteArray) (w : World) (hl : l.length ≤ maxLen) (h : Row w 1 nmC A l) :
    Calls Tryz.prog 47 #[.slice A l.length c, .string nm] w fun e w' => e = .returned (.bool (l.contains nm.toList)) ∧ Gr w w' := by
  have H := Lib.hid h
  unfold maxLen at hl
  clear h
  go_enter Tryz.func47, Tryz.ntmps47
  go_wp2_with fail
  go_loopw [9] (fun i W => ∃ k : Nat, k ≤ l.length ∧ i = .int .i64 k ∧ Hid ((l.take k).contains nm.toList = false) ∧ Hid (Gr w W)) (fun i W => l.length - (intOf i).toNat)
  case atStart => exact ⟨0, Nat.zero_le _, rfl, (by unfold Hid; simp), Gr.refl _⟩
  case round =>
    obtain ⟨k, hk, rfl, hf, hg⟩ := hrel
    by_cases hlt : k < l.length
    · obtain ⟨y, hy⟩ := get_lt hlt
      obtain ⟨b, off, rfl, c0⟩ := H.out.one hy rfl hg.out
      have HT : Hid ((l.take (k + 1)).contains nm.toList = ((l.take k).contains nm.toList || (nm.toList == y))) := con_take hy
      have HH : Hid ((nm.toList == y) = true → l.contains nm.toList = true) := fun q => con_hit hy q
      clear hy H
      obtain ⟨q, eq⟩ : ∃ q, (nm.toList == y) = q := ⟨_, rfl⟩
      rw [eq] at HT HH
      cases q with
      | true =>
        have HA := Lib.hid (HH.out rfl)
        clear HH HT hf
        go_wp2_with fail
        go_ret
        exact ⟨ret_bool HA.out.symm, hg.out⟩
      | false =>
        clear HH
        go_wp2_with fail
        go_roundw
        case rel => exact ⟨k + 1, by omega, by go_num, by unfold Hid; rw [HT.out, hf.out]; rfl, hg.out⟩
        case measure => simp [intOf]; omega
    · have e : k = l.length := by omega
      have HA : Hid (l.contains nm.toList = false) := by unfold Hid; have := hf.out; rw [e, List.take_length] at this; exact this
      clear e hf H
      go_wp2_with fail
      go_ret
      exact ⟨ret_bool HA.out.symm, hg.out⟩

/-- the way through links: the names met so far, and the one under way -/
structure Pth (zs : List ZonD) (ls : List LinD) (nm : List UInt8) (L : List (List UInt8)) (cur : List UInt8) : Prop where
  st : (L = [] ∧ cur = nm) ∨ nm ∈ nms zs ls
  at_ : nm ∈ nms zs ls → cur ∈ nms zs ls ∧ (nms zs ls).idxOf cur = ends zs ls L.length ((nms zs ls).idxOf nm)
  seen : ∀ (i : Nat) (x : List UInt8), L[i]? = some x → x ∈ nms zs ls ∧ (nms zs ls).idxOf x = ends zs ls i ((nms zs ls).idxOf nm) ∧ zs.length ≤ ends zs ls i ((nms zs ls).idxOf nm)
  dis : ∀ i k, i < k → k < L.length → ends zs ls i ((nms zs ls).idxOf nm) ≠ ends zs ls k ((nms zs ls).idxOf nm)
section
variable {zs : List ZonD} {ls : List LinD} {nm cur : List UInt8} {L : List (List UInt8)}
theorem pth_start : Pth zs ls nm [] nm := ⟨Or.inl ⟨rfl, rfl⟩, fun h => ⟨h, rfl⟩, fun i x h => by simp at h, fun i k _ h => by simp at h⟩
theorem Pth.few (g : GoodB zs ls) (h : Pth zs ls nm L cur) (hn : nm ∈ nms zs ls) : L.length ≤ ls.length :=
  path_few g (p := (nms zs ls).idxOf nm) (by rw [← nms_len]; exact idx_lt hn) (fun i hi => by obtain ⟨x, hx⟩ := get_lt hi; exact (h.seen i x hx).2.2) h.dis
theorem mem_zone {k : Nat} {z : ZonD} (hz : zs[k]? = some z) : z.nm.toList ∈ nms zs ls := List.mem_of_getElem? (nms_zone hz)
theorem mem_link {k : Nat} {x : LinD} (hx : ls[k]? = some x) : x.nm.toList ∈ nms zs ls := List.mem_of_getElem? (nms_link (zs := zs) hx)
theorem Pth.zone (g : GoodB zs ls) (h : Pth zs ls nm L cur) {k : Nat} {z : ZonD} (hz : zs[k]? = some z) (e : z.nm.toList = cur) : nm ∈ nms zs ls ∧ endN zs ls nm = k := by
  have hc : cur ∈ nms zs ls := e ▸ mem_zone hz
  have hn : nm ∈ nms zs ls := by rcases h.st with ⟨_, q⟩ | q
                                 · rw [← q]; exact hc
                                 · exact q
  have hi := (h.at_ hn).2
  rw [← e, idx_zone g hz] at hi
  have hk := (List.getElem?_eq_some_iff.1 hz).1
  exact ⟨hn, by unfold endN; rw [path_end (j := L.length) (by omega) (h.few g hn)]; exact hi.symm⟩
theorem Pth.none {c : ByteArray} (h : Pth zs ls nm L c.toList) (hz : hasZ zs c = false) (hl : hasL ls c = false) : nm ∉ nms zs ls := fun hn => by
  rcases mem_nms.1 (h.at_ hn).1 with q | q
  · rw [hz] at q; cases q
  · rw [hl] at q; cases q
theorem Pth.loop (g : GoodB zs ls) (h : Pth zs ls nm L cur) {k : Nat} {x : LinD} (hx : ls[k]? = some x) (e : x.nm.toList = cur) (hc : L.contains cur = true) : nm ∈ nms zs ls ∧ ¬ endN zs ls nm < zs.length := by
  have hm : cur ∈ L := by simpa using hc
  obtain ⟨i, hi, ei⟩ := List.getElem_of_mem hm
  have hi' : L[i]? = some cur := by rw [List.getElem?_eq_getElem hi, ei]
  have hn : nm ∈ nms zs ls := by rcases h.st with ⟨q, _⟩ | q
                                 · rw [q] at hm; cases hm
                                 · exact q
  refine ⟨hn, ?_⟩
  have hp := path_loop (zs := zs) (ls := ls) (p := (nms zs ls).idxOf nm) (j := L.length) (fun i hi => by obtain ⟨x, hx⟩ := get_lt hi; exact (h.seen i x hx).2.2)
    ⟨i, hi, by rw [← (h.seen i cur hi').2.1, ← (h.at_ hn).2]⟩ ls.length
  unfold endN
  omega
theorem Pth.step (g : GoodB zs ls) (h : Pth zs ls nm L cur) {k : Nat} {x : LinD} (hx : ls[k]? = some x) (e : x.nm.toList = cur) (hc : L.contains cur = false) : Pth zs ls nm (L ++ [cur]) x.to'.toList ∧ L.length < ls.length := by
  have hcm : cur ∈ nms zs ls := e ▸ mem_link hx
  have hn : nm ∈ nms zs ls := by rcases h.st with ⟨_, q⟩ | q
                                 · rw [← q]; exact hcm
                                 · exact q
  have hi := (h.at_ hn).2
  have hik : (nms zs ls).idxOf cur = zs.length + k := by rw [← e]; exact idx_link g hx
  have P : Pth zs ls nm (L ++ [cur]) x.to'.toList := by
    refine ⟨Or.inr hn, fun _ => ⟨g.to_ x (get_mem hx), ?_⟩, fun i y hy => ?_, fun i m him hm => ?_⟩
    · rw [List.length_append, List.length_cons, List.length_nil, Nat.zero_add, ends_succ, ← hi, hik, nx_link hx]
    · by_cases c : i < L.length
      · rw [List.getElem?_append_left c] at hy; exact h.seen i y hy
      · have hl := (List.getElem?_eq_some_iff.1 hy).1
        simp only [List.length_append, List.length_cons, List.length_nil] at hl
        have ei : i = L.length := by omega
        subst ei
        have ey : cur = y := by simpa using hy
        subst ey
        exact ⟨hcm, hi, by rw [← hi, hik]; omega⟩
    · simp only [List.length_append, List.length_cons, List.length_nil] at hm
      by_cases c : m < L.length
      · exact h.dis i m him c
      · have em : m = L.length := by omega
        subst em
        obtain ⟨y, hy⟩ := get_lt him
        obtain ⟨y1, y2, _⟩ := h.seen i y hy
        intro q
        rw [← y2, ← hi] at q
        have ex : cur = y := by
          have a := idx_get hcm
          rw [← q, idx_get y1] at a
          exact (Option.some.inj a).symm
        subst ex
        have : L.contains cur = true := by simpa using List.mem_of_getElem? hy
        rw [hc] at this; cases this
  refine ⟨P, ?_⟩
  have := P.few g hn
  simp only [List.length_append, List.length_cons, List.length_nil] at this
  omega
end
end Go.Proofs.YtbagdlafpahgdaaGreatDoor
namespace Go.Proofs.YtbagdlafpahgdaaGreatDoor
set_option linter.unusedVariables false
set_option linter.unusedSimpArgs false
open Go.RowKit
section
variable {rs : List RuD} {zs : List ZonD} {ls : List LinD}
/-- who is at no zone after as many links as there are comes tto none -/
theorem over (g : GoodB zs ls) {p : Nat} (hp : p < zs.length + ls.length) (h : ¬ ends zs ls ls.length p < zs.length) (n : Nat) : zs.length ≤ ends zs ls n p := by
  have hS : ∀ i, i < ls.length + 1 → zs.length ≤ ends zs ls i p := fun i hi => by
    rcases Nat.lt_or_ge (ends zs ls i p) zs.length with c | c
    · exact absurd (by rw [path_end c (show i ≤ ls.length by omega)]; exact c) h
    · exact c
  by_cases d : ∃ i k, i < k ∧ k < ls.length + 1 ∧ ends zs ls i p = ends zs ls k p
  · obtain ⟨i, k, hik, hk, e⟩ := d
    exact path_loop (j := k) (fun m hm => hS m (by omega)) ⟨i, hik, e⟩ n
  · have := path_few g hp (j := ls.length + 1) hS (fun i k hik hk e => d ⟨i, k, hik, hk, e⟩)
    omega
end
end Go.Proofs.YtbagdlafpahgdaaGreatDoor
