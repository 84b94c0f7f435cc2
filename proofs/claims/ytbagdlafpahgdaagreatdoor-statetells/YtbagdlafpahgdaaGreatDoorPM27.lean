/- What the project's positions and follow of package names return. A day of a month as an argument: how it is read, how it is shut again. A rule as an argument: how it is read, how it is shut again. -/
import Derived.Maps.RangeWalk
import Derived.Test.YtbagdlafpahgdaaGreatDoorPM15
import Derived.Test.YtbagdlafpahgdaaGreatDoorPM17
import Derived.ProofKit
import Derived.OpenShut
import Derived.ChangeSame
import Derived.Test.YtbagdlafpahgdaaGreatDoorPM07
namespace Go.Proofs.YtbagdlafpahgdaaGreatDoor
set_option linter.unusedVariables false
set_option linter.unusedSimpArgs false
open Go.RowKit
theorem take_map {α β : Type} {f : α → β} {l : List α} {k : Nat} {x : α} (h : l[k]? = some x) : (l.take (k + 1)).map f = (l.take k).map f ++ [f x] := by
  have hk : k < l.length := (List.getElem?_eq_some_iff.1 h).1
  have e : l[k] = x := (List.getElem?_eq_some_iff.1 h).2
  rw [List.take_succ_eq_append_getElem hk, List.map_append, e]; rfl
theorem gb_heap {w w' : World} {q b : Nat} {o : Obj} (h : w.heap[b]? = some o) (g : w.grownBy w' (some q)) (hne : b ≠ q) : w'.heap[b]? = some o :=
  (g.block b (Array.getElem?_eq_some_iff.1 h).1 (fun e => hne (Option.some.inj e))).trans h
theorem new_zone {zs : List ZonD} {ls : List LinD} (g : GoodB zs ls) {k : Nat} {z : ZonD} (hz : zs[k]? = some z) : z.nm.toList ∉ (zs.take k).map fun z => z.nm.toList := fun h => by
  obtain ⟨y, hy, e⟩ := List.mem_map.1 h
  obtain ⟨i, hi, ei⟩ := List.getElem_of_mem hy
  rw [List.length_take] at hi
  rw [List.getElem_take] at ei
  have hy' : zs[i]? = some y := by rw [List.getElem?_eq_getElem (by omega), ei]
  have a := idx_zone g hy'
  have b := idx_zone g hz
  rw [e] at a
  omega
theorem new_link {zs : List ZonD} {ls : List LinD} (g : GoodB zs ls) {k : Nat} {x : LinD} (hx : ls[k]? = some x) : x.nm.toList ∉ zs.map (fun z => z.nm.toList) ++ (ls.take k).map fun x => x.nm.toList := fun h => by
  have b := idx_link g hx
  rcases List.mem_append.1 h with h | h
  · obtain ⟨y, hy, e⟩ := List.mem_map.1 h
    obtain ⟨i, hi, ei⟩ := List.getElem_of_mem hy
    have a := idx_zone g (show zs[i]? = some y by rw [List.getElem?_eq_getElem hi, ei])
    rw [e] at a
    omega
  · obtain ⟨y, hy, e⟩ := List.mem_map.1 h
    obtain ⟨i, hi, ei⟩ := List.getElem_of_mem hy
    rw [List.length_take] at hi
    rw [List.getElem_take] at ei
    have a := idx_link g (show ls[i]? = some y by rw [List.getElem?_eq_getElem (by omega), ei])
    rw [e] at a
    omega

theorem law9 : Maps.Keyed Tryz.prog 9 := Maps.string_keyed Tryz.underlying9

theorem zero3 (w : World) : (zeroValue 3).run Tryz.prog w = .ok (.int .i64 0) w := by kernel_rfl

theorem key9 (s : ByteArray) (h : s.size ≤ maxLen) : keyOf Tryz.prog 9 (.string s) = some (.string s.toList) := by
  rw [ByteArray.toList_eq]
  exact WideMaps.keyOf_string_mk Tryz.underlying9 h

theorem make_hint (n : Int) (w : World) : (Instr.makeMap 72 (some (.int .i64 n))).run Tryz.prog w = .ok (.map (some w.heap.size)) (w.alloc (.map #[] 0)) := by
  have h := run_underlying (w := w) Tryz.underlying72
  simp [Instr.makeMap, h, go_sem]

/-- the map of the positions of all names -/
def MapAt (w : World) (m : Nat) (L : List (List UInt8)) : Prop := ∃ (n : Nat) (D : DataW Unit), n ≤ 1000 ∧ w.ownsMap Tryz.prog 9 (plainElem Tryz.prog 3) m n D ∧ Places D L

theorem MapAt.gr {w w' : World} {m : Nat} {L : List (List UInt8)} (h : MapAt w m L) (g : Gr w w') : MapAt w' m L := by
  obtain ⟨n, D, hn, h1, h2⟩ := h
  exact ⟨n, D, hn, h1.kept (row := none) ⟨g.os, g.tape, g.output, Below.size g, fun i hi _ => g.block i hi⟩ (by simp), h2⟩

def PosE (zs : List ZonD) (ls : List LinD) (w : World) (e : Ending) (w' : World) : Prop := ∃ m, e = .returned (.map (some m)) ∧ w.heap.size ≤ m ∧ MapAt w' m (nms zs ls) ∧ Gr w w'

set_option maxRecDepth 100000 in
set_option maxHeartbeats 8000000 in
theorem ppositions (b : BokD) (w : World) (hb : b.At w) (g : GoodB b.zs b.ls) :
    Calls Tryz.prog 28 #[bookV b] w (PosE b.zs b.ls w) := by
  obtain ⟨Ar, cr, rs, Az, cz, zs, Al, cl, ls⟩ := b
  have HZ : Hid (Row w 2 ZonD.cells Az zs) := hb.2.1.2.1
  have HL : Hid (Row w 2 LinD.cells Al ls) := hb.2.2.2.1
  have HZI : Hid (∀ z ∈ zs, z.nm.size ≤ maxLen) := fun z hz => (hb.2.1.2.2 z hz).1
  have HLI : Hid (∀ z ∈ ls, z.nm.size ≤ maxLen) := fun z hz => (hb.2.2.2.2 z hz).1
  have GD : Hid (GoodB zs ls) := g
  have hzl : zs.length ≤ 20 := g.z20
  have hll : ls.length ≤ 20 := g.l20
  have hmm := make_hint
  have B0 := Lib.hid (box_two w (.cells #[.slice Ar rs.length cr, .slice Az zs.length cz, .slice Al ls.length cl] 26) (.map #[] 0))
  clear hb g
  show Calls _ _ _ _ (PosE zs ls w)
  have x1 : ((w.alloc (.cells #[.slice Ar rs.length cr, .slice Az zs.length cz, .slice Al ls.length cl] 26))).cell? ⟨w.heap.size, 1, none⟩ = some (.slice Az zs.length cz) := bcell_row (box_one w _).2 rfl
  have x2 : ((w.alloc (.cells #[.slice Ar rs.length cr, .slice Az zs.length cz, .slice Al ls.length cl] 26))).cell? ⟨w.heap.size, 2, none⟩ = some (.slice Al ls.length cl) := bcell_row (box_one w _).2 rfl
  have y1 : ((w.alloc (.cells #[.slice Ar rs.length cr, .slice Az zs.length cz, .slice Al ls.length cl] 26)).alloc (.map #[] 0)).cell? ⟨w.heap.size, 1, none⟩ = some (.slice Az zs.length cz) := bcell_row B0.out.2.1 rfl
  go_enter Tryz.func28, Tryz.ntmps28
  go_wp2_with fail
  clear x1 x2 y1
  generalize (w.alloc (.cells #[.slice Ar rs.length cr, .slice Az zs.length cz, .slice Al ls.length cl] 26)).alloc (.map #[] 0) = w1 at B0 ⊢
  generalize hq : w.heap.size = q at B0 ⊢
  have HQE := Lib.hid (Nat.le_of_eq hq)
  have HM : Hid (w.heap.size ≤ q + 1) := by unfold Hid; omega
  clear hq
  obtain ⟨m, em⟩ : ∃ m, q + 1 = m := ⟨_, rfl⟩
  rw [em] at HM ⊢
  have HMQ : Hid (q ≠ m) := by unfold Hid; omega
  have M0 : Hid (w1.ownsMap Tryz.prog 9 (plainElem Tryz.prog 3) m 0 (.map [] : DataW Unit)) := by
    unfold Hid
    rw [← em]
    exact ⟨#[], 0, B0.out.2.2, ⟨by simp, MapKept.stamped_empty 0, by simp⟩, Nat.le_refl _, rfl⟩
  have G1 := Lib.hid B0.out.1
  have HB1 := Lib.hid B0.out.2.1
  clear B0 em
  go_loopw [19] (fun i W => ∃ (k n : Nat) (D : DataW Unit), k ≤ zs.length ∧ i = .int .i64 k ∧ n ≤ 100 + k ∧ Hid (W.ownsMap Tryz.prog 9 (plainElem Tryz.prog 3) m n D) ∧ Hid (Places D ((zs.take k).map fun z => z.nm.toList)) ∧ Hid (Gr w W) ∧ Hid (W.heap[q]? = some (.cells #[.slice Ar rs.length cr, .slice Az zs.length cz, .slice Al ls.length cl] 26 (0, 0)))) (fun i W => zs.length - (intOf i).toNat)
  case atStart => exact ⟨0, 0, _, Nat.zero_le _, rfl, Nat.zero_le _, M0, places_nil, G1, HB1⟩
  case round =>
    obtain ⟨k, n, D, hk, rfl, hn, hm, hp, hg, hbk⟩ := hrel
    by_cases hlt : k < zs.length
    · obtain ⟨⟨znm, zA, zc, ze⟩, hz⟩ := get_lt hlt
      obtain ⟨bz, off, rfl, c0, c1⟩ := HZ.out.two hz rfl hg.out
      have TM := Lib.hid (take_map (f := fun z : ZonD => z.nm.toList) hz)
      have HK := Lib.hid (key9 znm (HZI.out _ (get_mem hz)))
      have NI : Hid (znm.toList ∉ (zs.take k).map fun z => z.nm.toList) := new_zone GD.out hz
      have WF : Hid ((Lit.int .i64 (k : Int)).wf = true) := WalkArith.wf_i64 (by omega)
      clear hz
      have ZB := Lib.hid (box_one wr (.cells #[.string znm, .slice zA ze.length zc] 36))
      have OW : Hid ((wr.alloc (.cells #[.string znm, .slice zA ze.length zc] 36)).ownsMap Tryz.prog 9 (plainElem Tryz.prog 3) m n D) := hm.out.alloc _
      go_wp2_with (at_mapUpdate; refine wpList_mapUpdate_own _ (by rfl) _ _ _ 72 (by rfl) 9 3 law9 Tryz.underlying72 (plainElem Tryz.prog 3) m n D (by rfl) OW.out (by unfold maxLen; omega) _ _ (.string znm.toList) (by rfl) (by rfl) HK.out (.lit (.int .i64 (k))) [] (plainElem_int Tryz.underlying3 WF.out) ?_; intro w3 hown3 hgrow3)
      have P3 : Hid (Places (D.put (.string znm.toList) (.lit (.int .i64 (k : Int)))) ((zs.take (k + 1)).map fun z => z.nm.toList)) := by unfold Hid; rw [TM.out]; exact places_put hp.out NI.out (by rw [List.length_map, List.length_take]; omega)
      have G3 := Lib.hid (grown_gr (hg.out.trans ZB.out.1) hgrow3 (fun j hj => by injection hj with hj; rw [← hj]; exact HM.out))
      have HB3 := Lib.hid (gb_heap (bheap_gr ZB.out.1 hbk.out) hgrow3 HMQ.out)
      go_roundw
      case rel => exact ⟨k + 1, n + 1, _, by omega, by go_num, by omega, hown3, P3, G3, HB3⟩
      case measure => simp [intOf]; omega
    · have e : k = zs.length := by omega
      have P0 : Hid (Places D (zs.map (fun z => z.nm.toList) ++ (ls.take 0).map fun x => x.nm.toList)) := by unfold Hid; have := hp.out; rw [e, List.take_length] at this; simpa using this
      clear hp e
      have x2 : wr.cell? ⟨q, 2, none⟩ = some (.slice Al ls.length cl) := bcell_row hbk.out rfl
      go_wp2_with fail
      clear x2
      go_loopw [32] (fun i W => ∃ (j n : Nat) (D : DataW Unit), j ≤ ls.length ∧ i = .int .i64 j ∧ n ≤ 200 + j ∧ Hid (W.ownsMap Tryz.prog 9 (plainElem Tryz.prog 3) m n D) ∧ Hid (Places D (zs.map (fun z => z.nm.toList) ++ (ls.take j).map fun x => x.nm.toList)) ∧ Hid (Gr w W) ∧ Hid (W.heap[q]? = some (.cells #[.slice Ar rs.length cr, .slice Az zs.length cz, .slice Al ls.length cl] 26 (0, 0)))) (fun i W => ls.length - (intOf i).toNat)
      case atStart => exact ⟨0, n, D, Nat.zero_le _, rfl, by omega, hm, P0, hg, hbk⟩
      case round =>
        clear hm P0 hg hbk hlt hn
        obtain ⟨j, n, D, hj, rfl, hn, hm, hp, hg, hbk⟩ := hrel
        by_cases hlt : j < ls.length
        · obtain ⟨⟨xnm, xt⟩, hx⟩ := get_lt hlt
          obtain ⟨bz, off, rfl, c0, c1⟩ := HL.out.two hx rfl hg.out
          have TM := Lib.hid (take_map (f := fun z : LinD => z.nm.toList) hx)
          have HK := Lib.hid (key9 xnm (HLI.out _ (get_mem hx)))
          have NI := Lib.hid (new_link GD.out hx)
          have WF : Hid ((Lit.int .i64 ((zs.length : Int) + (j : Int))).wf = true) := WalkArith.wf_i64 (by omega)
          clear hx
          have ZB := Lib.hid (box_one wr (.cells #[.string xnm, .string xt] 46))
          have OW : Hid ((wr.alloc (.cells #[.string xnm, .string xt] 46)).ownsMap Tryz.prog 9 (plainElem Tryz.prog 3) m n D) := hm.out.alloc _
          have y1 : (wr.alloc (.cells #[.string xnm, .string xt] 46)).cell? ⟨q, 1, none⟩ = some (.slice Az zs.length cz) := bcell_row (bheap_gr ZB.out.1 hbk.out) rfl
          go_wp2_with (at_mapUpdate; refine wpList_mapUpdate_own _ (by rfl) _ _ _ 72 (by rfl) 9 3 law9 Tryz.underlying72 (plainElem Tryz.prog 3) m n D (by rfl) OW.out (by unfold maxLen; omega) _ _ (.string xnm.toList) (by rfl) (by rfl) HK.out (.lit (.int .i64 ((zs.length : Int) + (j : Int)))) [] (plainElem_int Tryz.underlying3 WF.out) ?_; intro w3 hown3 hgrow3)
          have P3 : Hid (Places (D.put (.string xnm.toList) (.lit (.int .i64 ((zs.length : Int) + (j : Int))))) (zs.map (fun z => z.nm.toList) ++ (ls.take (j + 1)).map fun x => x.nm.toList)) := by unfold Hid; rw [TM.out, ← List.append_assoc]; exact places_put hp.out NI.out (by rw [List.length_append, List.length_map, List.length_map, List.length_take]; omega)
          have G3 := Lib.hid (grown_gr (hg.out.trans ZB.out.1) hgrow3 (fun j hj => by injection hj with hj; rw [← hj]; exact HM.out))
          have HB3 := Lib.hid (gb_heap (bheap_gr ZB.out.1 hbk.out) hgrow3 HMQ.out)
          go_roundw
          case rel => exact ⟨j + 1, n + 1, _, by omega, by go_num, by omega, hown3, P3, G3, HB3⟩
          case measure => simp [intOf]; omega
        · have e : j = ls.length := by omega
          have P9 : Hid (Places D (nms zs ls)) := by unfold Hid nms; have := hp.out; rw [e, List.take_length] at this; exact this
          clear hp e
          go_wp2_with fail
          go_ret
          exact ⟨m, rfl, HM.out, ⟨n, D, by omega, hm.out, P9.out⟩, hg.out⟩

/-- what follow leaves -/
def FolE (n e : Nat) (w : World) (x : Ending) (w' : World) : Prop := x = .returned (.tuple #[.int .i64 (if e < n then (e : Int) else 0), .bool (decide (e < n))]) ∧ Gr w w'
theorem fol_ok {e n : Nat} {w w' : World} (h : e < n) (g : Gr w w') : FolE n e w (.returned (.tuple #[.int .i64 (e : Int), .bool true])) w' := ⟨by rw [if_pos h, decide_eq_true h], g⟩
theorem fol_no {e n : Nat} {w w' : World} (h : ¬ e < n) (g : Gr w w') : FolE n e w (.returned (.tuple #[.int .i64 0, .bool false])) w' := ⟨by rw [if_neg h, decide_eq_false h], g⟩

set_option maxRecDepth 100000 in
set_option maxHeartbeats 8000000 in
theorem pfollow (b : BokD) (m p : Nat) (w : World) (hb : b.At w) (g : GoodB b.zs b.ls) (hm : MapAt w m (nms b.zs b.ls)) (hp : p < b.zs.length + b.ls.length) :
    Calls Tryz.prog 29 #[bookV b, .map (some m), .int .i64 p] w (FolE b.zs.length (ends b.zs b.ls b.ls.length p) w) := by
  obtain ⟨Ar, cr, rs, Az, cz, zs, Al, cl, ls⟩ := b
  have HL : Hid (Row w 2 LinD.cells Al ls) := hb.2.2.2.1
  have HLI : Hid (∀ z ∈ ls, z.to'.size ≤ maxLen) := fun z hz => (hb.2.2.2.2 z hz).2
  have GD : Hid (GoodB zs ls) := g
  have HM : Hid (MapAt w m (nms zs ls)) := hm
  have HP : Hid (p < zs.length + ls.length) := hp
  have hzl : zs.length ≤ 20 := g.z20
  have hll : ls.length ≤ 20 := g.l20
  have B0 := Lib.hid (box_one w (.cells #[.slice Ar rs.length cr, .slice Az zs.length cz, .slice Al ls.length cl] 26))
  simp only
  clear hb g hm hp
  go_enter Tryz.func29, Tryz.ntmps29
  go_wp2_with fail
  generalize w.alloc (.cells #[.slice Ar rs.length cr, .slice Az zs.length cz, .slice Al ls.length cl] 26) = w1 at B0 ⊢
  generalize w.heap.size = q at B0 ⊢
  have G1 := Lib.hid B0.out.1
  have HB1 := Lib.hid B0.out.2
  have x2 : w1.cell? ⟨q, 2, none⟩ = some (.slice Al ls.length cl) := bcell_row B0.out.2 rfl
  clear B0
  go_wp2_with fail
  clear x2
  go_loopw [2, 11] (fun u i W => ∃ j : Nat, j ≤ ls.length ∧ i = .int .i64 j ∧ u = .int .i64 (ends zs ls j p) ∧ Hid (Gr w1 W)) (fun u i W => ls.length - (intOf i).toNat)
  case atStart => exact ⟨0, Nat.zero_le _, rfl, rfl, Gr.refl _⟩
  case round =>
    obtain ⟨j, hj, rfl, rfl, hg⟩ := hrel
    have EL := Lib.hid (ends_lt GD.out HP.out j)
    have x1 : wr.cell? ⟨q, 1, none⟩ = some (.slice Az zs.length cz) := bcell_row (bheap_gr hg.out HB1.out) rfl
    have x2 : wr.cell? ⟨q, 2, none⟩ = some (.slice Al ls.length cl) := bcell_row (bheap_gr hg.out HB1.out) rfl
    by_cases hlt : j < ls.length
    · by_cases hz : ends zs ls j p < zs.length
      · have E := Lib.hid (path_end (zs := zs) (ls := ls) (p := p) (n := ls.length) hz hj)
        obtain ⟨e, ee⟩ : ∃ e, ends zs ls j p = e := ⟨_, rfl⟩
        rw [ee] at hz E
        rw [ee]
        clear EL ee
        go_wp2_with fail
        go_ret2
        rw [E.out]
        exact fol_ok hz (G1.out.trans hg.out)
      · obtain ⟨i, x, ei, hx⟩ := (at_pos (zs := zs) (ls := ls) EL.out).resolve_left (fun ⟨z, hz'⟩ => hz (List.getElem?_eq_some_iff.1 hz').1)
        obtain ⟨xnm, xt⟩ := x
        have NXT : Hid (ends zs ls (j + 1) p = (nms zs ls).idxOf xt.toList) := by unfold Hid; rw [ends_succ, ei]; exact nx_link hx
        obtain ⟨bz, off, rfl, c0, c1⟩ := HL.out.two hx rfl (G1.out.trans hg.out)
        have HK := Lib.hid (key9 xt (HLI.out _ (get_mem hx)))
        have TO := Lib.hid (GD.out.to_ _ (get_mem hx))
        have hi := (List.getElem?_eq_some_iff.1 hx).1
        rw [ei]
        clear hx EL hz ei
        obtain ⟨n, D, _, ho, hpl⟩ := HM.out.gr (G1.out.trans hg.out)
        have OW := Lib.hid ho
        have PL := Lib.hid hpl
        clear ho hpl
        have l0 : (0 : Int) ≤ (i : Int) := by omega
        have e1 : ((zs.length + i : Nat) : Int) - (zs.length : Int) = (i : Int) := by omega
        have e2 : decide (((zs.length + i : Nat) : Int) < (zs.length : Int)) = false := decide_eq_false (by omega)
        go_wp2_with (at_lookup; refine wpList_lookup_own_int _ (by rfl) _ _ 72 (by rfl) 9 3 .i64 law9 Tryz.underlying72 Tryz.underlying3 (zero3 _) m n D (by rfl) OW.out _ _ (by rfl) HK.out ?_; intro cv hat hwc)
        have EC : Hid (cv = ((ends zs ls (j + 1) p : Nat) : Int)) := by
          unfold Hid
          rw [NXT.out]
          have := (PL.out.2.1 _ _ (idx_get TO.out)).2 (.lit (.int .i64 0))
          rw [hat] at this
          injection this with this
          injection this with _ this
        go_roundw
        case rel => exact ⟨j + 1, by omega, by go_num, by rw [EC.out], hg.out⟩
        case measure => simp [intOf]; omega
    · have ej : j = ls.length := by omega
      subst ej
      obtain ⟨e, ee⟩ : ∃ e, ends zs ls ls.length p = e := ⟨_, rfl⟩
      have EE := Lib.hid ee
      rw [ee]
      clear ee EL hj
      by_cases hz : e < zs.length
      · go_wp2_with fail
        go_ret2
        rw [EE.out]
        exact fol_ok hz (G1.out.trans hg.out)
      · go_wp2_with fail
        go_ret2
        rw [EE.out]
        exact fol_no hz (G1.out.trans hg.out)
end Go.Proofs.YtbagdlafpahgdaaGreatDoor
namespace Go.Proofs.YtbagdlafpahgdaaGreatDoor
open Go.ChangeShapes Go.WideShapes Go.ChangeAt Go.RowKit
set_option linter.unusedVariables false
set_option linter.unusedSimpArgs false
section
variable {H : Type} {enc : TypeId × Value → H} {W : World} {base : Nat} {sp : Nat → Bool} {held : Bool}
/-- the datum of a day -/
abbrev dayD (k d n : Int) : DataW H := .agg [.lit (.int .i64 k), .lit (.int .i64 d), .lit (.int .i64 n)]
theorem cellsDay : Tryz.prog.cellsOf 42 = 3 := by kernel_rfl
theorem cellsInt : Tryz.prog.cellsOf 3 = 1 := by kernel_rfl
end
end Go.Proofs.YtbagdlafpahgdaaGreatDoor
namespace Go.Proofs.YtbagdlafpahgdaaGreatDoor
open Go.ChangeShapes Go.WideShapes Go.ChangeAt Go.RowKit
set_option linter.unusedVariables false
set_option linter.unusedSimpArgs false
section
variable {H : Type} {enc : TypeId × Value → H} {W : World} {base : Nat} {sp : Nat → Bool} {held : Bool}
theorem cellsRule : Tryz.prog.cellsOf 44 = 11 := by kernel_rfl
theorem cellsStr : Tryz.prog.cellsOf 9 = 1 := by kernel_rfl
theorem int_cell {c : Value} {m : Nat} {x : DataW H × List MemPlace} (h : DataW.trod enc Tryz.prog W base sp held m 3 [c] = some x) : ∃ a : Int, c = .int .i64 a ∧ x = (.lit (.int .i64 a), []) ∧ (Lit.int .i64 a).wf = true := by
  obtain ⟨a, ea, rfl, wa⟩ := DataW.trod_int Tryz.underlying3 h
  exact ⟨a, (List.cons.inj ea).1, rfl, wa⟩
theorem str_cell {c : Value} {m : Nat} {x : DataW H × List MemPlace} (h : DataW.trod enc Tryz.prog W base sp held m 9 [c] = some x) : ∃ s : ByteArray, c = .string s ∧ x = (.lit (.string s.data.toList), []) ∧ s.size ≤ maxLen := by
  obtain ⟨a, ea, hx, wa⟩ := DataW.trod_string Tryz.underlying9 h
  exact ⟨a, (List.cons.inj ea).1, hx, wa⟩
theorem day_cells {c0 c1 c2 : Value} {m : Nat} {x : DataW H × List MemPlace} (hf : DataW.trod enc Tryz.prog W base sp held m 42 [c0, c1, c2] = some x) :
    ∃ a b c : Int, c0 = .int .i64 a ∧ c1 = .int .i64 b ∧ c2 = .int .i64 c ∧ x = (dayD a b c, []) ∧ (Lit.int .i64 a).wf = true ∧ (Lit.int .i64 b).wf = true ∧ (Lit.int .i64 c).wf = true := by
  obtain ⟨xs, m', _, hx, _, hlen, hfs⟩ := DataW.trod_struct Tryz.underlying42 hf
  match xs, hlen with
  | [y0, y1, y2], _ =>
    have f0 : DataW.trod enc Tryz.prog W base sp held m' 3 (([c0, c1, c2].drop 0).take (Tryz.prog.cellsOf 3)) = some y0 := hfs 0 _ rfl
    have f1 : DataW.trod enc Tryz.prog W base sp held m' 3 (([c0, c1, c2].drop 1).take (Tryz.prog.cellsOf 3)) = some y1 := hfs 1 _ rfl
    have f2 : DataW.trod enc Tryz.prog W base sp held m' 3 (([c0, c1, c2].drop 2).take (Tryz.prog.cellsOf 3)) = some y2 := hfs 2 _ rfl
    rw [cellsInt] at f0 f1 f2
    obtain ⟨a, ea, rfl, wa⟩ := int_cell f0
    obtain ⟨b, eb, rfl, wb⟩ := int_cell f1
    obtain ⟨c, ec, rfl, wc⟩ := int_cell f2
    exact ⟨a, b, c, ea, eb, ec, hx, wa, wb, wc⟩
end
end Go.Proofs.YtbagdlafpahgdaaGreatDoor
