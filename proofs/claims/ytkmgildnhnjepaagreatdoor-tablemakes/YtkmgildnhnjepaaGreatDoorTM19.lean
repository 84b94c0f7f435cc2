/- A region that draws its order and ends in a store: what looks at no memory may be taken first, though the store does not wait for it. No program in it. What the project's positions and follow of package names return. A region that draws its order and ends in a call that writes: what is read for another call ahead of it may be taken first. No program in it. -/
import Derived.Test.YtkmgildnhnjepaaGreatDoorTM17
import Derived.Maps.RangeWalk
import Derived.Test.YtkmgildnhnjepaaGreatDoorTM12
import Derived.Test.YtkmgildnhnjepaaGreatDoorTM16
namespace Go.Proofs.YtkmgildnhnjepaaGreatDoor
open Go
set_option linter.unusedVariables false
section
variable {P : Program} {ops : Array Oper} {Q : Exit → Act → World → Prop} {md : Region.Mode} {T : World → Prop} {k : Nat}
theorem till_firstP {i : Nat} {oi : Oper} {v : Value} (hi : ops[i]? = some oi) (hsel : ∀ (j : Nat) (o : Oper) cs b, ops[j]? = some o → o.op ≠ .select cs b)
    (hQ : ∀ c a w, Q (.panic c) (a.put oi.dst v) w → Q (.panic c) a w) (hki : k ≠ i) :
    ∀ (n : Nat) (L : Array Bool) (a : Act) (w : World),
      (∀ j oj, ops[j]? = some oj → j ≠ i → L.getD j true = false → (∀ e ∈ oj.after, Region.binds md e = true → e.on ≠ i) → oi.apart ops oj = true) →
      i ∈ Region.ready md ops L → YieldsIf P ops (fun _ => True) oi v a → Till k T L w →
      wpTill P md ops Q k T n (L.setIfInBounds i true) (a.put oi.dst v) w → wpTill P md ops Q k T (n + 1) L a w := by
  have tset : ∀ (L : Array Bool) (w : World), Till k T (L.setIfInBounds i true) w ↔ Till k T L w := fun L w => by unfold Till; rw [getD_set_ne true (Ne.symm hki)]
  intro n
  induction n with
  | zero =>
    intro L a w _ hr hy hT H
    refine ⟨fun h => (by rw [h] at hr; cases hr), fun j hj => ?_⟩
    by_cases hji : j = i
    · subst hji; exact hy.wpOp hi trivial ⟨(tset L w).2 hT, H⟩
    · have := ready_mono hj hji
      rw [H.1] at this
      cases this
  | succ n ih =>
    intro L a w hfree hr hy hT H
    refine ⟨fun h => (by rw [h] at hr; cases hr), fun j hj => ?_⟩
    by_cases hji : j = i
    · subst hji; exact hy.wpOp hi trivial ⟨(tset L w).2 hT, H⟩
    · have h1 := H.2 j (ready_mono hj hji)
      obtain ⟨hjun, oj, hoj, hall⟩ := mem_ready.1 hj
      have hnot : ∀ e ∈ oj.after, Region.binds md e = true → e.on ≠ i := fun e he hb heq => by
        have g1 := hall e he hb
        have g0 := (mem_ready.1 hr).1
        rw [heq] at g1
        rcases Nat.lt_or_ge i L.size with h' | h'
        · simp [h'] at g0 g1; rw [g0] at g1; cases g1
        · simp [Array.getElem?_eq_none h'] at g1
      have h1' := wpOp_mono (K' := fun a' w' => (fun _ : World => True) w' ∧ (Till k T ((L.setIfInBounds i true).setIfInBounds j true) w' ∧ wpTill P md ops Q k T n ((L.setIfInBounds i true).setIfInBounds j true) a' w')) (fun a' w' q => ⟨trivial, q⟩) h1
      have h2 := wpOp_putIf hoj (hfree j oj hoj hji hjun hnot) (fun cs b => hsel i oi cs b hi) (fun cs b => hsel j oj cs b hoj) hQ hy h1'
      have hfree' : ∀ m om, ops[m]? = some om → m ≠ i → (L.setIfInBounds j true).getD m true = false → (∀ e ∈ om.after, Region.binds md e = true → e.on ≠ i) → oi.apart ops om = true := fun m om hm hmi hun hno => by
        refine hfree m om hm hmi ?_ hno
        by_cases hjm : j = m
        · subst hjm; exact hjun
        · rw [getD_set_ne true hjm] at hun; exact hun
      refine wpOp_mono (fun a' w' h3 => ?_) h2
      have hc : (L.setIfInBounds i true).setIfInBounds j true = (L.setIfInBounds j true).setIfInBounds i true := Array.setIfInBounds_comm _ _ (Ne.symm hji)
      have h4 := h3.2.2
      rw [hc] at h4
      have hT' : Till k T (L.setIfInBounds j true) w' := (tset _ w').1 h4.1
      exact ⟨hT', ih (L.setIfInBounds j true) a' w' hfree' (ready_mono hr (Ne.symm hji)) h3.1 hT' h4.2⟩
/-- take number i first, which looks at no memory -/
theorem till_pure {i : Nat} {oi : Oper} {v : Value} {n : Nat} {L : Array Bool} {a : Act} {w : World} (hi : ops[i]? = some oi) (hs : Region.noSelect ops = true) (hf : Region.free md ops L i = true) (hr : (Region.ready md ops L).contains i = true)
    (hki : (k != i) = true) (hQ : ∀ c a w, Q (.panic c) (a.put oi.dst v) w → Q (.panic c) a w) (hy : YieldsIf P ops (fun _ => True) oi v a) (hT : T w)
    (h : wpTill P md ops Q k T n (L.setIfInBounds i true) (a.put oi.dst v) w) : wpTill P md ops Q k T (n + 1) L a w :=
  till_firstP hi (Region.noSelect_spec hs) hQ (by simpa using hki) n L a w (Region.free_spec hi hf) (by simpa using hr) hy (Or.inr hT) h
end
end Go.Proofs.YtkmgildnhnjepaaGreatDoor
namespace Go.Proofs.YtkmgildnhnjepaaGreatDoor
set_option linter.unusedVariables false
set_option linter.unusedSimpArgs false
open Go.RowKit
theorem gr_none {w w' : World} (h : Gr w w') : w.grownBy w' none := ⟨h.os, h.tape, h.output, Below.size h, fun i hi _ => h.block i hi⟩
theorem take_map {α β : Type} {f : α → β} {l : List α} {k : Nat} {x : α} (h : l[k]? = some x) : (l.take (k + 1)).map f = (l.take k).map f ++ [f x] := by
  have hk : k < l.length := (List.getElem?_eq_some_iff.1 h).1
  have e : l[k] = x := (List.getElem?_eq_some_iff.1 h).2
  rw [List.take_succ_eq_append_getElem hk, List.map_append, e]; rfl
theorem gb_heap {w w' : World} {q b : Nat} {o : Obj} (h : w.heap[b]? = some o) (g : w.grownBy w' (some q)) (hne : b ≠ q) : w'.heap[b]? = some o :=
  (g.block b (Array.getElem?_eq_some_iff.1 h).1 (fun e => hne (Option.some.inj e))).trans h
theorem new_zone {zs : List ZonD} {ls : List LinD} (g : GoodB zs ls) {k : Nat} {z : ZonD} (hz : zs[k]? = some z) : z.nm.toList ∉ (zs.take k).map fun z => z.nm.toList := fun h => by
  obtain ⟨y, hy, e⟩ := List.mem_map.1 h
  obtain ⟨i, hi, ei⟩ := List.getElem_of_mem hy
  rw [List.length_take] at hi
  rw [List.getElem_take] at ei
  have hy' : zs[i]? = some y := by rw [List.getElem?_eq_getElem (by omega), ei]
  have a := idx_zone g hy'
  have b := idx_zone g hz
  rw [e] at a
  omega
theorem new_link {zs : List ZonD} {ls : List LinD} (g : GoodB zs ls) {k : Nat} {x : LinD} (hx : ls[k]? = some x) : x.nm.toList ∉ zs.map (fun z => z.nm.toList) ++ (ls.take k).map fun x => x.nm.toList := fun h => by
  have b := idx_link g hx
  rcases List.mem_append.1 h with h | h
  · obtain ⟨y, hy, e⟩ := List.mem_map.1 h
    obtain ⟨i, hi, ei⟩ := List.getElem_of_mem hy
    have a := idx_zone g (show zs[i]? = some y by rw [List.getElem?_eq_getElem hi, ei])
    rw [e] at a
    omega
  · obtain ⟨y, hy, e⟩ := List.mem_map.1 h
    obtain ⟨i, hi, ei⟩ := List.getElem_of_mem hy
    rw [List.length_take] at hi
    rw [List.getElem_take] at ei
    have a := idx_link g (show ls[i]? = some y by rw [List.getElem?_eq_getElem (by omega), ei])
    rw [e] at a
    omega

theorem law9 : Maps.Keyed Tryz.prog 9 := Maps.string_keyed Tryz.underlying9

theorem zero3 (w : World) : (zeroValue 3).run Tryz.prog w = .ok (.int .i64 0) w := by kernel_rfl

theorem key9 (s : ByteArray) (h : s.size ≤ maxLen) : keyOf Tryz.prog 9 (.string s) = some (.string s.toList) := by
  rw [ByteArray.toList_eq]
  exact WideMaps.keyOf_string_mk Tryz.underlying9 h

theorem make_hint (n : Int) (w : World) : (Instr.makeMap 100 (some (.int .i64 n))).run Tryz.prog w = .ok (.map (some w.heap.size)) (w.alloc (.map #[] 0)) := by
  have h := run_underlying (w := w) Tryz.underlying100
  simp [Instr.makeMap, h, go_sem]

/-- the map of the positions of all names -/
def MapAt (w : World) (m : Nat) (L : List (List UInt8)) : Prop := ∃ (n : Nat) (D : DataW Unit), n ≤ 1000 ∧ w.ownsMap Tryz.prog 9 (plainElem Tryz.prog 3) m n D ∧ Places D L

theorem MapAt.gr {w w' : World} {m : Nat} {L : List (List UInt8)} (h : MapAt w m L) (g : Gr w w') : MapAt w' m L := by
  obtain ⟨n, D, hn, h1, h2⟩ := h
  exact ⟨n, D, hn, h1.kept (row := none) ⟨g.os, g.tape, g.output, Below.size g, fun i hi _ => g.block i hi⟩ (by simp), h2⟩

def PosE (zs : List ZonD) (ls : List LinD) (w : World) (e : Ending) (w' : World) : Prop := ∃ m, e = .returned (.map (some m)) ∧ w.heap.size ≤ m ∧ MapAt w' m (nms zs ls) ∧ Gr w w'

set_option maxRecDepth 100000 in
set_option maxHeartbeats 8000000 in
theorem ppositions (b : BokD) (w : World) (hb : b.At w) (g : GoodB b.zs b.ls) :
    Calls Tryz.prog 47 #[bookV b] w (PosE b.zs b.ls w) := by
  obtain ⟨Ar, cr, rs, Az, cz, zs, Al, cl, ls⟩ := b
  have HZ : Hid (Row w 2 ZonD.cells Az zs) := hb.2.1.2.1
  have HL : Hid (Row w 2 LinD.cells Al ls) := hb.2.2.2.1
  have HZI : Hid (∀ z ∈ zs, z.nm.size ≤ maxLen) := fun z hz => (hb.2.1.2.2 z hz).1
  have HLI : Hid (∀ z ∈ ls, z.nm.size ≤ maxLen) := fun z hz => (hb.2.2.2.2 z hz).1
  have GD : Hid (GoodB zs ls) := g
  have hzl : zs.length ≤ 20 := g.z20
  have hll : ls.length ≤ 20 := g.l20
  have hmm := make_hint
  have B0 := Lib.hid (box_two w (.cells #[.slice Ar rs.length cr, .slice Az zs.length cz, .slice Al ls.length cl] 26) (.map #[] 0))
  clear hb g
  show Calls _ _ _ _ (PosE zs ls w)
  have x1 : ((w.alloc (.cells #[.slice Ar rs.length cr, .slice Az zs.length cz, .slice Al ls.length cl] 26))).cell? ⟨w.heap.size, 1, none⟩ = some (.slice Az zs.length cz) := bcell_row (box_one w _).2 rfl
  have x2 : ((w.alloc (.cells #[.slice Ar rs.length cr, .slice Az zs.length cz, .slice Al ls.length cl] 26))).cell? ⟨w.heap.size, 2, none⟩ = some (.slice Al ls.length cl) := bcell_row (box_one w _).2 rfl
  have y1 : ((w.alloc (.cells #[.slice Ar rs.length cr, .slice Az zs.length cz, .slice Al ls.length cl] 26)).alloc (.map #[] 0)).cell? ⟨w.heap.size, 1, none⟩ = some (.slice Az zs.length cz) := bcell_row B0.out.2.1 rfl
  go_enter Tryz.func47, Tryz.ntmps47
  go_wp2_with fail
  clear x1 x2 y1
  generalize (w.alloc (.cells #[.slice Ar rs.length cr, .slice Az zs.length cz, .slice Al ls.length cl] 26)).alloc (.map #[] 0) = w1 at B0 ⊢
  generalize hq : w.heap.size = q at B0 ⊢
  have HQE := Lib.hid (Nat.le_of_eq hq)
  have HM : Hid (w.heap.size ≤ q + 1) := by unfold Hid; omega
  clear hq
  obtain ⟨m, em⟩ : ∃ m, q + 1 = m := ⟨_, rfl⟩
  rw [em] at HM ⊢
  have HMQ : Hid (q ≠ m) := by unfold Hid; omega
  have M0 : Hid (w1.ownsMap Tryz.prog 9 (plainElem Tryz.prog 3) m 0 (.map [] : DataW Unit)) := by
    unfold Hid
    rw [← em]
    exact ⟨#[], 0, B0.out.2.2, ⟨by simp, MapKept.stamped_empty 0, by simp⟩, Nat.le_refl _, rfl⟩
  have G1 := Lib.hid B0.out.1
  have HB1 := Lib.hid B0.out.2.1
  clear B0 em
  go_loopw [19] (fun i W => ∃ (k n : Nat) (D : DataW Unit), k ≤ zs.length ∧ i = .int .i64 k ∧ n ≤ 100 + k ∧ Hid (W.ownsMap Tryz.prog 9 (plainElem Tryz.prog 3) m n D) ∧ Hid (Places D ((zs.take k).map fun z => z.nm.toList)) ∧ Hid (Gr w W) ∧ Hid (W.heap[q]? = some (.cells #[.slice Ar rs.length cr, .slice Az zs.length cz, .slice Al ls.length cl] 26 (0, 0)))) (fun i W => zs.length - (intOf i).toNat)
  case atStart => exact ⟨0, 0, _, Nat.zero_le _, rfl, Nat.zero_le _, M0, places_nil, G1, HB1⟩
  case round =>
    obtain ⟨k, n, D, hk, rfl, hn, hm, hp, hg, hbk⟩ := hrel
    by_cases hlt : k < zs.length
    · obtain ⟨⟨znm, zA, zc, ze⟩, hz⟩ := get_lt hlt
      obtain ⟨bz, off, rfl, c0, c1⟩ := HZ.out.two hz rfl hg.out
      have TM := Lib.hid (take_map (f := fun z : ZonD => z.nm.toList) hz)
      have HK := Lib.hid (key9 znm (HZI.out _ (get_mem hz)))
      have NI : Hid (znm.toList ∉ (zs.take k).map fun z => z.nm.toList) := new_zone GD.out hz
      have WF : Hid ((Lit.int .i64 (k : Int)).wf = true) := WalkArith.wf_i64 (by omega)
      clear hz
      have ZB := Lib.hid (box_one wr (.cells #[.string znm, .slice zA ze.length zc] 57))
      have OW : Hid ((wr.alloc (.cells #[.string znm, .slice zA ze.length zc] 57)).ownsMap Tryz.prog 9 (plainElem Tryz.prog 3) m n D) := hm.out.alloc _
      go_wp2_with (at_mapUpdate; refine wpList_mapUpdate_own _ (by rfl) _ _ _ 100 (by rfl) 9 3 law9 Tryz.underlying100 (plainElem Tryz.prog 3) m n D (by rfl) OW.out (by unfold maxLen; omega) _ _ (.string znm.toList) (by rfl) (by rfl) HK.out (.lit (.int .i64 (k))) [] (plainElem_int Tryz.underlying3 WF.out) ?_; intro w3 hown3 hgrow3)
      have P3 : Hid (Places (D.put (.string znm.toList) (.lit (.int .i64 (k : Int)))) ((zs.take (k + 1)).map fun z => z.nm.toList)) := by unfold Hid; rw [TM.out]; exact places_put hp.out NI.out (by rw [List.length_map, List.length_take]; omega)
      have G3 := Lib.hid (grown_gr (hg.out.trans ZB.out.1) hgrow3 (fun j hj => by injection hj with hj; rw [← hj]; exact HM.out))
      have HB3 := Lib.hid (gb_heap (bheap_gr ZB.out.1 hbk.out) hgrow3 HMQ.out)
      go_roundw
      case rel => exact ⟨k + 1, n + 1, _, by omega, by go_num, by omega, hown3, P3, G3, HB3⟩
      case measure => simp [intOf]; omega
    · have e : k = zs.length := by omega
      have P0 : Hid (Places D (zs.map (fun z => z.nm.toList) ++ (ls.take 0).map fun x => x.nm.toList)) := by unfold Hid; have := hp.out; rw [e, List.take_length] at this; simpa using this
      clear hp e
      have x2 : wr.cell? ⟨q, 2, none⟩ = some (.slice Al ls.length cl) := bcell_row hbk.out rfl
      go_wp2_with fail
      clear x2
      go_loopw [32] (fun i W => ∃ (j n : Nat) (D : DataW Unit), j ≤ ls.length ∧ i = .int .i64 j ∧ n ≤ 200 + j ∧ Hid (W.ownsMap Tryz.prog 9 (plainElem Tryz.prog 3) m n D) ∧ Hid (Places D (zs.map (fun z => z.nm.toList) ++ (ls.take j).map fun x => x.nm.toList)) ∧ Hid (Gr w W) ∧ Hid (W.heap[q]? = some (.cells #[.slice Ar rs.length cr, .slice Az zs.length cz, .slice Al ls.length cl] 26 (0, 0)))) (fun i W => ls.length - (intOf i).toNat)
      case atStart => exact ⟨0, n, D, Nat.zero_le _, rfl, by omega, hm, P0, hg, hbk⟩
      case round =>
        clear hm P0 hg hbk hlt hn
        obtain ⟨j, n, D, hj, rfl, hn, hm, hp, hg, hbk⟩ := hrel
        by_cases hlt : j < ls.length
        · obtain ⟨⟨xnm, xt⟩, hx⟩ := get_lt hlt
          obtain ⟨bz, off, rfl, c0, c1⟩ := HL.out.two hx rfl hg.out
          have TM := Lib.hid (take_map (f := fun z : LinD => z.nm.toList) hx)
          have HK := Lib.hid (key9 xnm (HLI.out _ (get_mem hx)))
          have NI := Lib.hid (new_link GD.out hx)
          have WF : Hid ((Lit.int .i64 ((zs.length : Int) + (j : Int))).wf = true) := WalkArith.wf_i64 (by omega)
          clear hx
          have ZB := Lib.hid (box_one wr (.cells #[.string xnm, .string xt] 52))
          have OW : Hid ((wr.alloc (.cells #[.string xnm, .string xt] 52)).ownsMap Tryz.prog 9 (plainElem Tryz.prog 3) m n D) := hm.out.alloc _
          have y1 : (wr.alloc (.cells #[.string xnm, .string xt] 52)).cell? ⟨q, 1, none⟩ = some (.slice Az zs.length cz) := bcell_row (bheap_gr ZB.out.1 hbk.out) rfl
          go_wp2_with (at_mapUpdate; refine wpList_mapUpdate_own _ (by rfl) _ _ _ 100 (by rfl) 9 3 law9 Tryz.underlying100 (plainElem Tryz.prog 3) m n D (by rfl) OW.out (by unfold maxLen; omega) _ _ (.string xnm.toList) (by rfl) (by rfl) HK.out (.lit (.int .i64 ((zs.length : Int) + (j : Int)))) [] (plainElem_int Tryz.underlying3 WF.out) ?_; intro w3 hown3 hgrow3)
          have P3 : Hid (Places (D.put (.string xnm.toList) (.lit (.int .i64 ((zs.length : Int) + (j : Int))))) (zs.map (fun z => z.nm.toList) ++ (ls.take (j + 1)).map fun x => x.nm.toList)) := by unfold Hid; rw [TM.out, ← List.append_assoc]; exact places_put hp.out NI.out (by rw [List.length_append, List.length_map, List.length_map, List.length_take]; omega)
          have G3 := Lib.hid (grown_gr (hg.out.trans ZB.out.1) hgrow3 (fun j hj => by injection hj with hj; rw [← hj]; exact HM.out))
          have HB3 := Lib.hid (gb_heap (bheap_gr ZB.out.1 hbk.out) hgrow3 HMQ.out)
          go_roundw
          case rel => exact ⟨j + 1, n + 1, _, by omega, by go_num, by omega, hown3, P3, G3, HB3⟩
          case measure => simp [intOf]; omega
        · have e : j = ls.length := by omega
          have P9 : Hid (Places D (nms zs ls)) := by unfold Hid nms; have := hp.out; rw [e, List.take_length] at this; exact this
          clear hp e
          go_wp2_with fail
          go_ret
          exact ⟨m, rfl, HM.out, ⟨n, D, by omega, hm.out, P9.out⟩, hg.out⟩

/-- what follow leaves -/
def FolE (n e : Nat) (w : World) (x : Ending) (w' : World) : Prop := x = .returned (.tuple #[.int .i64 (if e < n then (e : Int) else 0), .bool (decide (e < n))]) ∧ Gr w w'
theorem fol_ok {e n : Nat} {w w' : World} (h : e < n) (g : Gr w w') : FolE n e w (.returned (.tuple #[.int .i64 (e : Int), .bool true])) w' := ⟨by rw [if_pos h, decide_eq_true h], g⟩
theorem fol_no {e n : Nat} {w w' : World} (h : ¬ e < n) (g : Gr w w') : FolE n e w (.returned (.tuple #[.int .i64 0, .bool false])) w' := ⟨by rw [if_neg h, decide_eq_false h], g⟩

set_option maxRecDepth 100000 in
set_option maxHeartbeats 8000000 in
theorem pfollow (b : BokD) (m p : Nat) (w : World) (hb : b.At w) (g : GoodB b.zs b.ls) (hm : MapAt w m (nms b.zs b.ls)) (hp : p < b.zs.length + b.ls.length) :
    Calls Tryz.prog 48 #[bookV b, .map (some m), .int .i64 p] w (FolE b.zs.length (ends b.zs b.ls b.ls.length p) w) := by
  obtain ⟨Ar, cr, rs, Az, cz, zs, Al, cl, ls⟩ := b
  have HL : Hid (Row w 2 LinD.cells Al ls) := hb.2.2.2.1
  have HLI : Hid (∀ z ∈ ls, z.to'.size ≤ maxLen) := fun z hz => (hb.2.2.2.2 z hz).2
  have GD : Hid (GoodB zs ls) := g
  have HM : Hid (MapAt w m (nms zs ls)) := hm
  have HP : Hid (p < zs.length + ls.length) := hp
  have hzl : zs.length ≤ 20 := g.z20
  have hll : ls.length ≤ 20 := g.l20
  have B0 := Lib.hid (box_one w (.cells #[.slice Ar rs.length cr, .slice Az zs.length cz, .slice Al ls.length cl] 26))
  simp only
  clear hb g hm hp
  go_enter Tryz.func48, Tryz.ntmps48
  go_wp2_with fail
  generalize w.alloc (.cells #[.slice Ar rs.length cr, .slice Az zs.length cz, .slice Al ls.length cl] 26) = w1 at B0 ⊢
  generalize w.heap.size = q at B0 ⊢
  have G1 := Lib.hid B0.out.1
  have HB1 := Lib.hid B0.out.2
  have x2 : w1.cell? ⟨q, 2, none⟩ = some (.slice Al ls.length cl) := bcell_row B0.out.2 rfl
  clear B0
  go_wp2_with fail
  clear x2
  go_loopw [2, 11] (fun u i W => ∃ j : Nat, j ≤ ls.length ∧ i = .int .i64 j ∧ u = .int .i64 (ends zs ls j p) ∧ Hid (Gr w1 W)) (fun u i W => ls.length - (intOf i).toNat)
  case atStart => exact ⟨0, Nat.zero_le _, rfl, rfl, Gr.refl _⟩
  case round =>
    obtain ⟨j, hj, rfl, rfl, hg⟩ := hrel
    have EL := Lib.hid (ends_lt GD.out HP.out j)
    have x1 : wr.cell? ⟨q, 1, none⟩ = some (.slice Az zs.length cz) := bcell_row (bheap_gr hg.out HB1.out) rfl
    have x2 : wr.cell? ⟨q, 2, none⟩ = some (.slice Al ls.length cl) := bcell_row (bheap_gr hg.out HB1.out) rfl
    by_cases hlt : j < ls.length
    · by_cases hz : ends zs ls j p < zs.length
      · have E := Lib.hid (path_end (zs := zs) (ls := ls) (p := p) (n := ls.length) hz hj)
        obtain ⟨e, ee⟩ : ∃ e, ends zs ls j p = e := ⟨_, rfl⟩
        rw [ee] at hz E
        rw [ee]
        clear EL ee
        go_wp2_with fail
        go_ret2
        rw [E.out]
        exact fol_ok hz (G1.out.trans hg.out)
      · obtain ⟨i, x, ei, hx⟩ := (at_pos (zs := zs) (ls := ls) EL.out).resolve_left (fun ⟨z, hz'⟩ => hz (List.getElem?_eq_some_iff.1 hz').1)
        obtain ⟨xnm, xt⟩ := x
        have NXT : Hid (ends zs ls (j + 1) p = (nms zs ls).idxOf xt.toList) := by unfold Hid; rw [ends_succ, ei]; exact nx_link hx
        obtain ⟨bz, off, rfl, c0, c1⟩ := HL.out.two hx rfl (G1.out.trans hg.out)
        have HK := Lib.hid (key9 xt (HLI.out _ (get_mem hx)))
        have TO := Lib.hid (GD.out.to_ _ (get_mem hx))
        have hi := (List.getElem?_eq_some_iff.1 hx).1
        rw [ei]
        clear hx EL hz ei
        obtain ⟨n, D, _, ho, hpl⟩ := HM.out.gr (G1.out.trans hg.out)
        have OW := Lib.hid ho
        have PL := Lib.hid hpl
        clear ho hpl
        have l0 : (0 : Int) ≤ (i : Int) := by omega
        have e1 : ((zs.length + i : Nat) : Int) - (zs.length : Int) = (i : Int) := by omega
        have e2 : decide (((zs.length + i : Nat) : Int) < (zs.length : Int)) = false := decide_eq_false (by omega)
        go_wp2_with (at_lookup; refine wpList_lookup_own_int _ (by rfl) _ _ 100 (by rfl) 9 3 .i64 law9 Tryz.underlying100 Tryz.underlying3 (zero3 _) m n D (by rfl) OW.out _ _ (by rfl) HK.out ?_; intro cv hat hwc)
        have EC : Hid (cv = ((ends zs ls (j + 1) p : Nat) : Int)) := by
          unfold Hid
          rw [NXT.out]
          have := (PL.out.2.1 _ _ (idx_get TO.out)).2 (.lit (.int .i64 0))
          rw [hat] at this
          injection this with this
          injection this with _ this
        go_roundw
        case rel => exact ⟨j + 1, by omega, by go_num, by rw [EC.out], hg.out⟩
        case measure => simp [intOf]; omega
    · have ej : j = ls.length := by omega
      subst ej
      obtain ⟨e, ee⟩ : ∃ e, ends zs ls ls.length p = e := ⟨_, rfl⟩
      have EE := Lib.hid ee
      rw [ee]
      clear ee EL hj
      by_cases hz : e < zs.length
      · go_wp2_with fail
        go_ret2
        rw [EE.out]
        exact fol_ok hz (G1.out.trans hg.out)
      · go_wp2_with fail
        go_ret2
        rw [EE.out]
        exact fol_no hz (G1.out.trans hg.out)
end Go.Proofs.YtkmgildnhnjepaaGreatDoor
namespace Go.Proofs.YtkmgildnhnjepaaGreatDoor
open Go
set_option linter.unusedVariables false
section
variable {P : Program} {ops : Array Oper} {Q : Exit → Act → World → Prop} {md : Region.Mode} {T : World → Prop} {k : Nat}
theorem till_firstM {i m : Nat} {oi : Oper} {v : Value} (hi : ops[i]? = some oi) (hsel : ∀ (j : Nat) (o : Oper) cs b, ops[j]? = some o → o.op ≠ .select cs b)
    (hQ : ∀ c a w, Q (.panic c) (a.put oi.dst v) w → Q (.panic c) a w) (hki : k ≠ i) (hmi : m ≠ i) (hw : waits md ops k m = true) (hw2 : waits md ops m i = true) :
    ∀ (n : Nat) (L : Array Bool) (a : Act) (w : World), L.getD k true = false → L.getD m true = false →
      (∀ j oj, ops[j]? = some oj → j ≠ i → L.getD j true = false → (∀ e ∈ oj.after, Region.binds md e = true → e.on ≠ i) → oi.apart ops oj = true) →
      i ∈ Region.ready md ops L → YieldsIf P ops T oi v a → T w →
      wpTill P md ops Q k T n (L.setIfInBounds i true) (a.put oi.dst v) w → wpTill P md ops Q k T (n + 1) L a w := by
  intro n
  induction n with
  | zero =>
    intro L a w hk hm _ hr hy hT H
    refine ⟨fun h => (by rw [h] at hr; cases hr), fun j hj => ?_⟩
    by_cases hji : j = i
    · subst hji; exact hy.wpOp hi hT ⟨Or.inr hT, H⟩
    · have := ready_mono hj hji
      rw [H.1] at this
      cases this
  | succ n ih =>
    intro L a w hk hm hfree hr hy hT H
    refine ⟨fun h => (by rw [h] at hr; cases hr), fun j hj => ?_⟩
    by_cases hji : j = i
    · subst hji; exact hy.wpOp hi hT ⟨Or.inr hT, H⟩
    · have h1 := H.2 j (ready_mono hj hji)
      obtain ⟨hjun, oj, hoj, hall⟩ := mem_ready.1 hj
      have hnotx : ∀ x, L.getD x true = false → ∀ e ∈ oj.after, Region.binds md e = true → e.on ≠ x := fun x gx e he hb heq => by
        have g1 := hall e he hb
        have g0 := gx
        rw [heq] at g1
        rcases Nat.lt_or_ge x L.size with h' | h'
        · simp [h'] at g0 g1; rw [g0] at g1; cases g1
        · simp [Array.getElem?_eq_none h'] at g1
      have hnot := hnotx i (mem_ready.1 hr).1
      have hnm := hnotx m hm
      have hjm : j ≠ m := fun e => by
        subst e
        unfold waits at hw2
        rw [hoj] at hw2
        simp only [Array.any_eq_true', Bool.and_eq_true, beq_iff_eq] at hw2
        obtain ⟨e, he, hb, ho⟩ := hw2
        exact hnot e he hb ho
      have hjk : j ≠ k := fun e => by
        subst e
        unfold waits at hw
        rw [hoj] at hw
        simp only [Array.any_eq_true', Bool.and_eq_true, beq_iff_eq] at hw
        obtain ⟨e, he, hb, ho⟩ := hw
        exact hnm e he hb ho
      have hk' : (L.setIfInBounds j true).getD k true = false := by rw [getD_set_ne true hjk]; exact hk
      have hm' : (L.setIfInBounds j true).getD m true = false := by rw [getD_set_ne true hjm]; exact hm
      have hk2 : ((L.setIfInBounds i true).setIfInBounds j true).getD k true = false := by rw [getD_set_ne true hjk, getD_set_ne true (Ne.symm hki)]; exact hk
      have h1' := wpOp_mono (K' := fun a' w' => T w' ∧ wpTill P md ops Q k T n ((L.setIfInBounds i true).setIfInBounds j true) a' w') (fun a' w' q => ⟨q.1.resolve_left (by rw [hk2]; simp), q.2⟩) h1
      have h2 := wpOp_putIf hoj (hfree j oj hoj hji hjun hnot) (fun cs b => hsel i oi cs b hi) (fun cs b => hsel j oj cs b hoj) hQ hy h1'
      have hfree' : ∀ m om, ops[m]? = some om → m ≠ i → (L.setIfInBounds j true).getD m true = false → (∀ e ∈ om.after, Region.binds md e = true → e.on ≠ i) → oi.apart ops om = true := fun m om hm hmi hun hno => by
        refine hfree m om hm hmi ?_ hno
        by_cases hjm : j = m
        · subst hjm; exact hjun
        · rw [getD_set_ne true hjm] at hun; exact hun
      refine wpOp_mono (fun a' w' h3 => ⟨Or.inr h3.2.1, ih (L.setIfInBounds j true) a' w' hk' hm' hfree' (ready_mono hr (Ne.symm hji)) h3.1 h3.2.1 ?_⟩) h2
      rw [Array.setIfInBounds_comm _ _ hji]
      exact h3.2.2
/-- take number i first, for which the last one waits by m -/
theorem till_mid (m : Nat) {i : Nat} {oi : Oper} {v : Value} {n : Nat} {L : Array Bool} {a : Act} {w : World} (hi : ops[i]? = some oi) (hs : Region.noSelect ops = true) (hf : Region.free md ops L i = true) (hr : (Region.ready md ops L).contains i = true)
    (hki : (L.getD k true == false && L.getD m true == false && k != i && m != i && waits md ops k m && waits md ops m i) = true) (hQ : ∀ c a w, Q (.panic c) (a.put oi.dst v) w → Q (.panic c) a w) (hy : YieldsIf P ops T oi v a) (hT : T w)
    (h : wpTill P md ops Q k T n (L.setIfInBounds i true) (a.put oi.dst v) w) : wpTill P md ops Q k T (n + 1) L a w := by
  simp only [Bool.and_eq_true, bne_iff_ne, beq_iff_eq] at hki
  exact till_firstM hi (Region.noSelect_spec hs) hQ hki.1.1.1.2 hki.1.1.2 hki.1.2 hki.2 n L a w hki.1.1.1.1.1 hki.1.1.1.1.2 (Region.free_spec hi hf) (by simpa using hr) hy hT h
end
end Go.Proofs.YtkmgildnhnjepaaGreatDoor
