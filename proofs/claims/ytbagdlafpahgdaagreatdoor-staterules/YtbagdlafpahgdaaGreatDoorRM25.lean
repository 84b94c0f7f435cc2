/- The library's stable sort at pending transitions, told as a list; the order's closure. -/
import Derived.Test.YtbagdlafpahgdaaGreatDoorRM24
import Derived.Test.YtbagdlafpahgdaaGreatDoorRM14
import Derived.Test.YtbagdlafpahgdaaGreatDoorRM16
namespace Go.Proofs.YtbagdlafpahgdaaGreatDoor
set_option linter.unusedVariables false
set_option linter.unusedSimpArgs false
open Go.Shelf Go.RowKit Go.Lib Go.Sort
def encP (x : PenD × Nat) : List Value := x.1.cells
def cfP (x y : PenD × Nat) : Int := Lib.compareInt x.1.no y.1.no
theorem cfP_lt : ltOf cfP = nomB (keyT PenD.no) := by
  funext x y
  unfold ltOf nomB cfP Lib.compareInt keyT
  exact decide_eq_decide.2 (by (repeat' split) <;> omega)
theorem encP_len (x : PenD × Nat) : (encP x).length = 12 := rfl
theorem encP_one (x : PenD × Nat) : ∀ v ∈ encP x, v.oneCell' = true := fun u hu => by simp [encP, PenD.cells, RuD.cells] at hu; rcases hu with rfl | rfl | rfl | rfl | rfl | rfl | rfl | rfl | rfl | rfl | rfl | rfl <;> rfl

set_option maxHeartbeats 1000000 in
theorem isNaN_any (x : Int) (W : World) : Calls Tryz.prog 98 #[.int .i64 x] W fun e w' => e = .returned (.bool false) ∧ w' = W := by
  go_enter Tryz.func98, Tryz.ntmps98
  go_wp2
  go_ret
  simp

set_option maxHeartbeats 1000000 in
theorem compare_any (x y : Int) (W : World) : Calls Tryz.prog 63 #[.int .i64 x, .int .i64 y] W fun e w' => e = .returned (.int .i64 (Lib.compareInt x y)) ∧ w' = W := by
  have K := fun x W => isNaN_any x W
  unfold Lib.compareInt
  go_enter Tryz.func63, Tryz.ntmps63
  go_wp2_with (go_at_call 98; refine (K _ _).mono ?_; rintro e w1 ⟨rfl, rfl⟩)
  all_goals (go_ret; refine ⟨?_, rfl⟩; (repeat' split) <;> first | rfl | (exfalso; omega))

set_option maxHeartbeats 1000000 in
theorem order_any (x y : PenD × Nat) (W : World) : Calls Tryz.prog 62 #[.agg (encP x).toArray, .agg (encP y).toArray] W fun e w' => e = .returned (.int .i64 (cfP x y)) ∧ ∃ q os', w' = grow (W.drewN q) os' := by
  obtain ⟨⟨nx, ⟨znm, fr, tt, mo, zk, d, n, at', by', sv, lt⟩⟩, ix⟩ := x
  obtain ⟨⟨ny, ⟨znm2, fr2, tt2, mo2, zk2, d2, n2, at2, by2, sv2, lt2⟩⟩, iy⟩ := y
  have K := fun W => compare_any nx ny W
  unfold cfP
  simp only [encP, PenD.cells, RuD.cells, List.cons_append, List.nil_append]
  generalize Lib.compareInt nx ny = r at K ⊢
  go_enter Tryz.func62, Tryz.ntmps62
  go_wp2_with (go_at_call 63; refine (K _).mono ?_; rintro e w1 ⟨rfl, rfl⟩)
  go_ret
  exact ⟨rfl, 0, _, by rw [alloc_eq_grow, alloc_eq_grow, grow_grow]; rfl⟩
theorem order_lays (blk off size : Nat) (w : World) : CmpLays Tryz.prog 62 #[] encP 12 cfP blk off size w := fun _ _ _ _ x y => order_any x y _

theorem holds_of_row {w : World} {b : Nat} {cur : Array Value} {T : TypeId} {l : List PenD} (hb : w.heap[b]? = some (.cells cur T (0, 0))) (hr : Row w 12 PenD.cells (some ⟨b, 0, none⟩) l) : HoldsK encP 12 w b 0 l.zipIdx.toArray := fun t ht => by
  rw [size_flatK] at ht
  have hs : l.zipIdx.toArray.size = l.length := by simp
  rw [hs] at ht
  have hi : t / 12 < l.length := Nat.div_lt_of_lt_mul (by omega)
  obtain ⟨p, hp⟩ := get_lt hi
  have he : l.zipIdx.toArray[t / 12]! = (p, t / 12) := by
    rw [getElem!_pos _ (t / 12) (by rw [hs]; exact hi)]
    simp [(List.getElem?_eq_some_iff.1 hp).2]
  refine ⟨?_, unfrozen hb⟩
  rw [get_flatK _ _ _ _ (by rw [hs]; exact ht), he]
  obtain ⟨b', off', e, _, hc⟩ := hr _ _ hp
  injection e with e; injection e with e1 e2
  subst e1; subst e2
  have hj : t % 12 < (encP (p, t / 12)).length := by rw [encP_len]; omega
  have := hc (t % 12) ((encP (p, t / 12))[t % 12]!) (by rw [getElem!_pos (encP (p, t / 12)) (t % 12) hj]; exact List.getElem?_eq_getElem hj)
  rwa [show 0 + t / 12 * 12 + t % 12 = 0 + t by omega] at this
theorem row_of_holds {w : World} {b : Nat} {d : Array (PenD × Nat)} (hb : b < w.heap.size) (h : HoldsK encP 12 w b 0 d) : Row w 12 PenD.cells (some ⟨b, 0, none⟩) (d.toList.map (·.1)) := fun i x hx => by
  rw [List.getElem?_map] at hx
  obtain ⟨y, hy, rfl⟩ := Option.map_eq_some_iff.1 hx
  have hi : i < d.size := by simpa using (List.getElem?_eq_some_iff.1 hy).1
  have hd : d[i]! = y := by
    rw [getElem!_pos d i hi]
    simpa using (List.getElem?_eq_some_iff.1 hy).2
  refine ⟨b, 0, rfl, hb, fun j v hv => ?_⟩
  have hj : j < 12 := (List.getElem?_eq_some_iff.1 hv).1
  have := (h.cell hi hj).1
  rw [hd] at this
  rw [this]
  have e : (encP y)[j]? = some v := hv
  rw [List.getElem?_eq_some_iff] at e
  obtain ⟨q, e⟩ := e
  rw [getElem!_pos (encP y) j q, e]
theorem swk_below {α : Type} [Inhabited α] {enc : α → List Value} {k blk off B : Nat} {d : Array α} {w W : World} (S : SWK enc k w blk off d W) (h : B ≤ blk) (hB : B ≤ w.heap.size) : Go.RowKit.Below B w W := by
  obtain ⟨n, os, rfl⟩ := S
  refine ⟨rfl, rfl, rfl, ?_, fun j hj => ?_⟩
  · exact size_sortWorldK_c enc k w blk off n d os
  · show (w.heap.modify blk _ ++ os)[j]? = w.heap[j]?
    rw [Array.getElem?_append_left (by rw [Array.size_modify]; omega), Array.getElem?_modify, if_neg (by omega)]

set_option maxHeartbeats 1000000 in
set_option maxRecDepth 100000 in
/-- SortStableFunc by nominal times -/
theorem sort_any (l : List PenD) (b cap : Nat) (w : World) {cur : Array Value} {T : TypeId} (hb : w.heap[b]? = some (.cells cur T (0, 0))) (hr : Row w 12 PenD.cells (some ⟨b, 0, none⟩) l) (hl : l.length ≤ 100000) :
    Calls Tryz.prog 61 #[.slice (some ⟨b, 0, none⟩) l.length cap, .func (.func 62) #[] #[]] w fun e w' => e = .returned (.tuple #[]) ∧ Row w' 12 PenD.cells (some ⟨b, 0, none⟩) (stab PenD.no l) ∧ ∀ B, B ≤ b → Go.RowKit.Below B w w' := by
  have eg : ∀ args w, (callFunc 62 args).run Tryz.prog w = .ok (.enter 62 args) w := enters_of Tryz.func62 (by kernel_rfl) rfl
  have hs : l.zipIdx.toArray.size = l.length := by simp
  have hH := holds_of_row hb hr
  have hlt : b < w.heap.size := (Array.getElem?_eq_some_iff.1 hb).1
  have R : RowK encP 12 w b 0 l.zipIdx.toArray := ⟨encP_len, encP_one, hH, hlt⟩
  have K := stable_any encP (keyT PenD.no) tagT cfP cfP_lt 62 #[] eg b 0 cap l.zipIdx.toArray w R (order_lays _ _ _ _) (by rw [hs]; exact hl) zip_grow
  rw [hs] at K
  have HL : Aside (∀ (d' : Array (PenD × Nat)) (w' : World), SWK encP 12 w b 0 d' w' → PermIn 0 l.length l.zipIdx.toArray d' → SortedIn (lexB (keyT PenD.no) tagT) 0 l.length d' → Row w' 12 PenD.cells (some ⟨b, 0, none⟩) (stab PenD.no l) ∧ ∀ B, B ≤ b → Go.RowKit.Below B w w') := fun d' w' S P Q => by
    have e := sorted_list (key := PenD.no) (l := l) (d' := d') (by rw [hs]; exact P) (by rw [hs]; exact Q)
    rw [← e]
    exact ⟨row_of_holds (S.lt hlt) (S.holds hlt hH (P.1)), fun B hB => swk_below S hB (by omega)⟩
  clear hb hr hH R hs hlt eg
  go_enter Tryz.func61, Tryz.ntmps61
  go_wp2_with (go_at_call 97; refine K.mono ?_; rintro e w1 ⟨rfl, d', S, P, Q⟩)
  go_end0
  exact ⟨rfl, HL.out d' w1 S P Q⟩
end Go.Proofs.YtbagdlafpahgdaaGreatDoor
