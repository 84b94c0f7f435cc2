/- The library's stable sort at pending transitions, told as a list; the order's closure. Blocks of a call's own; rows of its own that are appended tto. No function of the program in it. -/
import Derived.Test.YtkbegommjlmfmaaGreatDoorQM08
import Derived.Test.YtkbegommjlmfmaaGreatDoorQM23
import Derived.Test.YtkbegommjlmfmaaGreatDoorQM24
import Derived.Deep.AppendLies
import Derived.OwnWalk
import Derived.Laws.OwnMore
import Derived.Test.YtkbegommjlmfmaaGreatDoorQM20
namespace Go.Proofs.YtkbegommjlmfmaaGreatDoor
set_option linter.unusedVariables false
set_option linter.unusedSimpArgs false
open Go.Shelf Go.RowKit Go.Lib Go.Sort
def encP (x : PenD × Nat) : List Value := x.1.cells
def cfP (x y : PenD × Nat) : Int := Lib.compareInt x.1.no y.1.no
theorem cfP_lt : ltOf cfP = nomB (keyT PenD.no) := by
  funext x y
  unfold ltOf nomB cfP Lib.compareInt keyT
  exact decide_eq_decide.2 (by (repeat' split) <;> omega)
theorem encP_len (x : PenD × Nat) : (encP x).length = 12 := rfl
theorem encP_one (x : PenD × Nat) : ∀ v ∈ encP x, v.oneCell' = true := fun u hu => by simp [encP, PenD.cells, RuD.cells] at hu; rcases hu with rfl | rfl | rfl | rfl | rfl | rfl | rfl | rfl | rfl | rfl | rfl | rfl <;> rfl

set_option maxHeartbeats 1000000 in
theorem isNaN_any (x : Int) (W : World) : Calls Tryz.prog 68 #[.int .i64 x] W fun e w' => e = .returned (.bool false) ∧ w' = W := by
  go_enter Tryz.func68, Tryz.ntmps68
  go_wp2
  go_ret
  simp

set_option maxHeartbeats 1000000 in
theorem compare_any (x y : Int) (W : World) : Calls Tryz.prog 41 #[.int .i64 x, .int .i64 y] W fun e w' => e = .returned (.int .i64 (Lib.compareInt x y)) ∧ w' = W := by
  have K := fun x W => isNaN_any x W
  unfold Lib.compareInt
  go_enter Tryz.func41, Tryz.ntmps41
  go_wp2_with (go_at_call 68; refine (K _ _).mono ?_; rintro e w1 ⟨rfl, rfl⟩)
  all_goals (go_ret; refine ⟨?_, rfl⟩; (repeat' split) <;> first | rfl | (exfalso; omega))

set_option maxHeartbeats 1000000 in
theorem order_any (x y : PenD × Nat) (W : World) : Calls Tryz.prog 40 #[.agg (encP x).toArray, .agg (encP y).toArray] W fun e w' => e = .returned (.int .i64 (cfP x y)) ∧ ∃ q os', w' = grow (W.drewN q) os' := by
  obtain ⟨⟨nx, ⟨znm, fr, tt, mo, zk, d, n, at', by', sv, lt⟩⟩, ix⟩ := x
  obtain ⟨⟨ny, ⟨znm2, fr2, tt2, mo2, zk2, d2, n2, at2, by2, sv2, lt2⟩⟩, iy⟩ := y
  have K := fun W => compare_any nx ny W
  unfold cfP
  simp only [encP, PenD.cells, RuD.cells, List.cons_append, List.nil_append]
  generalize Lib.compareInt nx ny = r at K ⊢
  go_enter Tryz.func40, Tryz.ntmps40
  go_wp2_with (go_at_call 41; refine (K _).mono ?_; rintro e w1 ⟨rfl, rfl⟩)
  go_ret
  exact ⟨rfl, 0, _, by rw [alloc_eq_grow, alloc_eq_grow, grow_grow]; rfl⟩
theorem order_lays (blk off size : Nat) (w : World) : CmpLays Tryz.prog 40 #[] encP 12 cfP blk off size w := fun _ _ _ _ x y => order_any x y _

theorem holds_of_row {w : World} {b : Nat} {cur : Array Value} {T : TypeId} {l : List PenD} (hb : w.heap[b]? = some (.cells cur T (0, 0))) (hr : Row w 12 PenD.cells (some ⟨b, 0, none⟩) l) : HoldsK encP 12 w b 0 l.zipIdx.toArray := fun t ht => by
  rw [size_flatK] at ht
  have hs : l.zipIdx.toArray.size = l.length := by simp
  rw [hs] at ht
  have hi : t / 12 < l.length := Nat.div_lt_of_lt_mul (by omega)
  obtain ⟨p, hp⟩ := get_lt hi
  have he : l.zipIdx.toArray[t / 12]! = (p, t / 12) := by
    rw [getElem!_pos _ (t / 12) (by rw [hs]; exact hi)]
    simp [(List.getElem?_eq_some_iff.1 hp).2]
  refine ⟨?_, unfrozen hb⟩
  rw [get_flatK _ _ _ _ (by rw [hs]; exact ht), he]
  obtain ⟨b', off', e, _, hc⟩ := hr _ _ hp
  injection e with e; injection e with e1 e2
  subst e1; subst e2
  have hj : t % 12 < (encP (p, t / 12)).length := by rw [encP_len]; omega
  have := hc (t % 12) ((encP (p, t / 12))[t % 12]!) (by rw [getElem!_pos (encP (p, t / 12)) (t % 12) hj]; exact List.getElem?_eq_getElem hj)
  rwa [show 0 + t / 12 * 12 + t % 12 = 0 + t by omega] at this
theorem row_of_holds {w : World} {b : Nat} {d : Array (PenD × Nat)} (hb : b < w.heap.size) (h : HoldsK encP 12 w b 0 d) : Row w 12 PenD.cells (some ⟨b, 0, none⟩) (d.toList.map (·.1)) := fun i x hx => by
  rw [List.getElem?_map] at hx
  obtain ⟨y, hy, rfl⟩ := Option.map_eq_some_iff.1 hx
  have hi : i < d.size := by simpa using (List.getElem?_eq_some_iff.1 hy).1
  have hd : d[i]! = y := by
    rw [getElem!_pos d i hi]
    simpa using (List.getElem?_eq_some_iff.1 hy).2
  refine ⟨b, 0, rfl, hb, fun j v hv => ?_⟩
  have hj : j < 12 := (List.getElem?_eq_some_iff.1 hv).1
  have := (h.cell hi hj).1
  rw [hd] at this
  rw [this]
  have e : (encP y)[j]? = some v := hv
  rw [List.getElem?_eq_some_iff] at e
  obtain ⟨q, e⟩ := e
  rw [getElem!_pos (encP y) j q, e]
theorem swk_below {α : Type} [Inhabited α] {enc : α → List Value} {k blk off B : Nat} {d : Array α} {w W : World} (S : SWK enc k w blk off d W) (h : B ≤ blk) (hB : B ≤ w.heap.size) : Go.RowKit.Below B w W := by
  obtain ⟨n, os, rfl⟩ := S
  refine ⟨rfl, rfl, rfl, ?_, fun j hj => ?_⟩
  · exact size_sortWorldK_c enc k w blk off n d os
  · show (w.heap.modify blk _ ++ os)[j]? = w.heap[j]?
    rw [Array.getElem?_append_left (by rw [Array.size_modify]; omega), Array.getElem?_modify, if_neg (by omega)]

set_option maxHeartbeats 1000000 in
set_option maxRecDepth 100000 in
/-- SortStableFunc by nominal times -/
theorem sort_any (l : List PenD) (b cap : Nat) (w : World) {cur : Array Value} {T : TypeId} (hb : w.heap[b]? = some (.cells cur T (0, 0))) (hr : Row w 12 PenD.cells (some ⟨b, 0, none⟩) l) (hl : l.length ≤ 100000) :
    Calls Tryz.prog 39 #[.slice (some ⟨b, 0, none⟩) l.length cap, .func (.func 40) #[] #[]] w fun e w' => e = .returned (.tuple #[]) ∧ Row w' 12 PenD.cells (some ⟨b, 0, none⟩) (stab PenD.no l) ∧ ∀ B, B ≤ b → Go.RowKit.Below B w w' := by
  have eg : ∀ args w, (callFunc 40 args).run Tryz.prog w = .ok (.enter 40 args) w := enters_of Tryz.func40 (by kernel_rfl) rfl
  have hs : l.zipIdx.toArray.size = l.length := by simp
  have hH := holds_of_row hb hr
  have hlt : b < w.heap.size := (Array.getElem?_eq_some_iff.1 hb).1
  have R : RowK encP 12 w b 0 l.zipIdx.toArray := ⟨encP_len, encP_one, hH, hlt⟩
  have K := stable_any encP (keyT PenD.no) tagT cfP cfP_lt 40 #[] eg b 0 cap l.zipIdx.toArray w R (order_lays _ _ _ _) (by rw [hs]; exact hl) zip_grow
  rw [hs] at K
  have HL : Aside (∀ (d' : Array (PenD × Nat)) (w' : World), SWK encP 12 w b 0 d' w' → PermIn 0 l.length l.zipIdx.toArray d' → SortedIn (lexB (keyT PenD.no) tagT) 0 l.length d' → Row w' 12 PenD.cells (some ⟨b, 0, none⟩) (stab PenD.no l) ∧ ∀ B, B ≤ b → Go.RowKit.Below B w w') := fun d' w' S P Q => by
    have e := sorted_list (key := PenD.no) (l := l) (d' := d') (by rw [hs]; exact P) (by rw [hs]; exact Q)
    rw [← e]
    exact ⟨row_of_holds (S.lt hlt) (S.holds hlt hH (P.1)), fun B hB => swk_below S hB (by omega)⟩
  clear hb hr hH R hs hlt eg
  go_enter Tryz.func39, Tryz.ntmps39
  go_wp2_with (go_at_call 67; refine K.mono ?_; rintro e w1 ⟨rfl, d', S, P, Q⟩)
  go_end0
  exact ⟨rfl, HL.out d' w1 S P Q⟩
end Go.Proofs.YtkbegommjlmfmaaGreatDoor
namespace Go.Proofs.YtkbegommjlmfmaaGreatDoor
set_option linter.unusedVariables false
set_option linter.unusedSimpArgs false
open Go.RowKit
theorem bheap_gr {W W' : World} {B : Nat} {o : Obj} (g : Gr W W') (h : W.heap[B]? = some o) : W'.heap[B]? = some o := by
  have hb : B < W.heap.size := by
    by_cases c : B < W.heap.size
    · exact c
    · rw [Array.getElem?_eq_none (by omega)] at h; cases h
  rw [Below.block g B hb]; exact h
theorem bheap_new (W : World) (o : Obj) : (W.alloc o).heap[W.heap.size]? = some o := by unfold World.alloc; simp
theorem box_one (w : World) (o : Obj) : Gr w (w.alloc o) ∧ (w.alloc o).heap[w.heap.size]? = some o := ⟨Gr.alloc w o, bheap_new w o⟩
theorem box_two (w : World) (o1 o2 : Obj) : Gr w ((w.alloc o1).alloc o2) ∧ ((w.alloc o1).alloc o2).heap[w.heap.size]? = some o1 ∧ ((w.alloc o1).alloc o2).heap[w.heap.size + 1]? = some o2 := by
  refine ⟨(Gr.alloc w o1).alloc' o2, bheap_gr (Gr.alloc _ o2) (bheap_new w o1), ?_⟩
  have := bheap_new (w.alloc o1) o2
  rwa [show (w.alloc o1).heap.size = w.heap.size + 1 by unfold World.alloc; simp] at this
theorem bcell_row {W : World} {b i : Nat} {cs : Array Value} {T : TypeId} {v : Value} (h : W.heap[b]? = some (.cells cs T (0, 0))) (hv : cs[i]? = some v) : W.cell? ⟨b, i, none⟩ = some v := by simp [World.cell?, h, hv]
theorem flat_get {α : Type} {enc : α → List Value} {k : Nat} (hk : ∀ x, (enc x).length = k) : ∀ (l : List α) (i : Nat) (x : α), l[i]? = some x → ∀ j v, (enc x)[j]? = some v → (l.flatMap enc)[i * k + j]? = some v
  | [], i, x, h => by simp at h
  | y :: l, 0, x, h => fun j v hv => by
    have e : y = x := by simpa using h
    subst e
    have hj : j < (enc y).length := (List.getElem?_eq_some_iff.1 hv).1
    rw [List.flatMap_cons, Nat.zero_mul, Nat.zero_add, List.getElem?_append_left hj]; exact hv
  | y :: l, i + 1, x, h => fun j v hv => by
    have h' : l[i]? = some x := by simpa using h
    have := flat_get hk l i x h' j v hv
    rw [List.flatMap_cons, List.getElem?_append_right (by rw [hk y, Nat.add_mul]; omega), hk y, show (i + 1) * k + j - k = i * k + j by rw [Nat.add_mul]; omega]
    exact this
theorem flat_len {α : Type} {enc : α → List Value} {k : Nat} (hk : ∀ x, (enc x).length = k) : ∀ (l : List α), (l.flatMap enc).length = l.length * k
  | [] => by simp
  | y :: l => by rw [List.flatMap_cons, List.length_append, flat_len hk l, hk y, List.length_cons, Nat.add_mul]; omega
/-- a row of the call's own: the things of l, each in k cells -/
def Own {α : Type} (w : World) (base : Nat) (e : TypeId) (k : Nat) (enc : α → List Value) (v : Value) (l : List α) : Prop := w.ownsRow base e k v l.length (l.flatMap enc)
section
variable {α : Type} {w w' : World} {base k : Nat} {e : TypeId} {enc : α → List Value} {v : Value} {l : List α}
theorem Own.nil_ (w : World) (base : Nat) (e : TypeId) (k : Nat) (enc : α → List Value) : Own w base e k enc (.slice none 0 0) ([] : List α) := ⟨by simp, Or.inl ⟨rfl, rfl⟩⟩
theorem Own.gr (h : Own w base e k enc v l) (g : Gr w w') : Own w' base e k enc v l :=
  World.ownsRow.kept (row := none) h ⟨g.os, g.tape, g.output, Below.size g, fun i hi _ => g.block i hi⟩ (by cases v.ownBlock <;> simp)
theorem Own.form (h : Own w base e k enc v l) : ∃ A c, v = .slice A l.length c ∧ l.length ≤ c ∧ c ≤ maxLen ∧ (∀ a, A = some a → a.off = 0 ∧ a.spot = none ∧ base ≤ a.block ∧ a.block < w.heap.size) := by
  rcases h.2 with ⟨rfl, h0⟩ | ⟨g, cap, cur, rfl, hb, hg, h1, h2, _⟩
  · exact ⟨none, 0, by rw [h0], by omega, Nat.zero_le _, fun a ha => by cases ha⟩
  · exact ⟨some ⟨g, 0, none⟩, cap, rfl, h1, h2, fun a ha => by injection ha with ha; subst ha; exact ⟨rfl, rfl, hb, (Array.getElem?_eq_some_iff.1 hg).1⟩⟩
theorem Own.row {A : Option Addr} {n c : Nat} (hk : ∀ x, (enc x).length = k) (h : Own w base e k enc (.slice A n c) l) : Row w k enc A l := fun i x hx => by
  rcases h.2 with ⟨hv, h0⟩ | ⟨g, cap, cur, hv, hb, hg, _⟩
  · have : i < l.length := (List.getElem?_eq_some_iff.1 hx).1
    omega
  · injection hv with hA
    subst hA
    refine ⟨g, 0, rfl, (Array.getElem?_eq_some_iff.1 hg).1, fun j u hu => ?_⟩
    have h2 := World.ownsRow.cells h (g := g) rfl (i * k + j) u (flat_get hk l i x hx j u hu)
    rwa [show (⟨g, 0, none⟩ : Addr).add (i * k + j) = ⟨g, 0 + i * k + j, none⟩ by unfold Addr.add; split <;> simp_all] at h2
end
/-- the row with one thing more -/
theorem own_more {α : Type} {w : World} {base k : Nat} {e : TypeId} {enc : α → List Value} {v : Value} {l l' : List α} {x : α} (hl : l' = l ++ [x]) (h : w.ownsRow base e k v (l.length + 1) (l.flatMap enc ++ enc x)) : Own w base e k enc v l' := by
  subst hl
  unfold Own
  rw [List.length_append, List.flatMap_append]
  simpa using h
theorem own_base {α : Type} {w : World} {base k : Nat} {e : TypeId} {enc : α → List Value} {v : Value} {l : List α} (h : Own w base e k enc v l) : ∀ j, v.ownBlock = some j → base ≤ j := fun j hj => (World.ownsRow.lt h j hj).1
/-- what lay below the base lies so still -/
theorem grown_gr {a w w' : World} {row : Option Nat} (h : Gr a w) (g : w.grownBy w' row) (hr : ∀ j, row = some j → a.heap.size ≤ j) : Gr a w' :=
  Below.grown h g (Below.size h) (fun j hj => hr j hj)
theorem ru_len (r : RuD) : r.cells.length = 11 := rfl
theorem ru_one (r : RuD) : ∀ u ∈ r.cells, u.oneCell' = true := fun u hu => by simp [RuD.cells] at hu; rcases hu with rfl | rfl | rfl | rfl | rfl | rfl | rfl | rfl | rfl | rfl | rfl <;> rfl
end Go.Proofs.YtkbegommjlmfmaaGreatDoor
