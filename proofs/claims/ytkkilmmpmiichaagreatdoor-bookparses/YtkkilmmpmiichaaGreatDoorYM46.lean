/- What the project's Parse of package book returns. -/
import Derived.Test.YtkkilmmpmiichaaGreatDoorYM44
import Derived.Test.YtkkilmmpmiichaaGreatDoorYM45
namespace Go.Proofs.YtkkilmmpmiichaaGreatDoor
set_option linter.unusedVariables false
set_option linter.unusedSimpArgs false
open Go.RowKit
/-- what Split at line feeds leaves -/
def SplitLn (t : ByteArray) (w : World) (e : Ending) (w' : World) : Prop := ∃ g : Nat, w.heap.size ≤ g ∧ e = .returned (.slice (some ⟨g, 0, none⟩) (lns t).length (lns t).length) ∧ Gr w w' ∧ ∀ j x, (lns t)[j]? = some x → w'.cell? ⟨g, j, none⟩ = some (.string x)

theorem splitLn (t : ByteArray) (m : Int) (w : World) (hs : t.size ≤ 1048576) (hm : w.cell? ⟨0, 0, none⟩ = some (.int .i64 m)) :
    Calls Tryz.prog 8 #[.string t, .string ⟨#[10]⟩] w (SplitLn t w) := by
  refine (Tryz.strings_Split t ⟨#[10]⟩ m w (by omega) hm (by decide)).mono ?_
  rintro e w' ⟨rfl, rfl⟩
  refine ⟨w.heap.size, Nat.le_refl _, by rw [lns_len], Gr.alloc _ _, fun j x hj => ?_⟩
  rw [World.cell?_alloc_new]
  show ((lns t).map Value.string).toArray[j]? = _
  simp [hj]

theorem store3 {W : World} {b : Nat} {T : TypeId} {r0 r1 r2 : Value} (h : W.heap[b]? = some (.cells #[r0, r1, r2] T (0, 0))) (v0 v1 v2 : Value) : (((W.setCell ⟨b, 0, none⟩ v0).setCell ⟨b, 1, none⟩ v1).setCell ⟨b, 2, none⟩ v2).heap[b]? = some (.cells #[v0, v1, v2] T (0, 0)) := blk_set (blk_set (blk_set h))
theorem store3_gr {w W : World} {b : Nat} (h : Gr w W) (hb : w.heap.size ≤ b) (v0 v1 v2 : Value) : Gr w (((W.setCell ⟨b, 0, none⟩ v0).setCell ⟨b, 1, none⟩ v1).setCell ⟨b, 2, none⟩ v2) := Below.setCell (Below.setCell (Below.setCell h hb _) hb _) hb _
/-- the answer without a book -/
theorem parA_zero {s : ByteArray} {w w' : World} {n e : Int} (h : parB s = (BkS.zero, n, e)) (g : Gr w w') : ParA s w (.returned (.tuple #[.agg #[.slice none 0 0, .slice none 0 0, .slice none 0 0], .int .i64 n, .int .i64 e])) w' := by
  refine ⟨⟨none, 0, [], none, 0, [], none, 0, []⟩, by rw [h]; rfl, ?_, by rw [h]; exact ⟨rfl, rfl, rfl⟩, g⟩
  exact ⟨⟨⟨Nat.le_refl _, Nat.zero_le _⟩, Row.nil _ _ _ _, (fun r hr => by cases hr)⟩, ⟨⟨Nat.le_refl _, Nat.zero_le _⟩, Row.nil _ _ _ _, (fun r hr => by cases hr)⟩, ⟨⟨Nat.le_refl _, Nat.zero_le _⟩, Row.nil _ _ _ _, (fun r hr => by cases hr)⟩⟩
theorem parB_big {s : ByteArray} (h : 60000 < s.size) : parB s = (BkS.zero, 0, 2) := by unfold parB; rw [if_pos h]
theorem parB_nil {s : ByteArray} (h : s.toList = []) : parB s = (BkS.zero, 0, 0) := by
  have : s.size = 0 := by rw [size_toList, h]; rfl
  unfold parB; rw [if_neg (by omega), if_pos h]
theorem parB_bad {s : ByteArray} {m : Nat} (h : ¬ 60000 < s.size) (hn : ¬ s.toList = []) (hr : runB BkS.zero (lns s) 0 = .inl m) : parB s = (BkS.zero, (m : Int), 3) := by unfold parB; rw [if_neg h, if_neg hn, hr]
theorem parB_open {s : ByteArray} {p : BkS} (h : ¬ 60000 < s.size) (hn : ¬ s.toList = []) (hr : runB BkS.zero (lns s) 0 = .inr p) (h1 : p.st = 1) : parB s = (BkS.zero, ((lns s).length : Int) + 1, 3) := by unfold parB; rw [if_neg h, if_neg hn, hr]; simp only; rw [if_pos h1]
theorem parB_chk {s : ByteArray} {p : BkS} (h : ¬ 60000 < s.size) (hn : ¬ s.toList = []) (hr : runB BkS.zero (lns s) 0 = .inr p) (h1 : ¬ p.st = 1) (hc : p.chk ≠ 0) : parB s = (BkS.zero, 0, p.chk) := by unfold parB; rw [if_neg h, if_neg hn, hr]; simp only; rw [if_neg h1, if_pos hc]
theorem parB_ok {s : ByteArray} {p : BkS} (h : ¬ 60000 < s.size) (hn : ¬ s.toList = []) (hr : runB BkS.zero (lns s) 0 = .inr p) (h1 : ¬ p.st = 1) (hc : p.chk = 0) : parB s = (p, 0, 0) := by unfold parB; rw [if_neg h, if_neg hn, hr]; simp only; rw [if_neg h1, if_neg (by simpa using hc)]
/-- a zone without its place -/
def bareZ (z : ZonD) : ZonD := ⟨z.nm, none, 0, z.eras⟩
theorem hasZ_bare (zs : List ZonD) (nm : ByteArray) : hasZ (zs.map bareZ) nm = hasZ zs nm := by unfold hasZ; rw [List.any_map]; rfl
theorem zonC_bare (rs : List RuD) (zs : List ZonD) (i : Nat) : zonC rs (zs.map bareZ) i = zonC rs zs i := by
  cases h : zs[i]? with
  | none => unfold zonC; rw [List.getElem?_map, h]; rfl
  | some z => rw [zonC_at h, zonC_at (z := bareZ z) (by rw [List.getElem?_map, h]; rfl), ← List.map_take, hasZ_bare]; rfl
theorem linC_bare (zs : List ZonD) (ls : List LinD) (i : Nat) : linC (zs.map bareZ) ls i = linC zs ls i := by
  cases h : ls[i]? with
  | none => unfold linC; rw [h]
  | some x => rw [linC_at h, linC_at h, hasZ_bare, hasZ_bare]
theorem bokC_bare (rs : List RuD) (zs : List ZonD) (ls : List LinD) : bokC rs (zs.map bareZ) ls = bokC rs zs ls := by
  unfold bokC
  rw [List.length_map, show zonC rs (zs.map bareZ) = zonC rs zs from funext (zonC_bare rs zs), show linC (zs.map bareZ) ls = linC zs ls from funext (linC_bare zs ls)]
theorem Is_chk {b : BokD} {p : BkS} (h : b.Is p) : bokC b.rs b.zs b.ls = p.chk := by
  unfold BkS.chk
  rw [← h.1, ← h.2.1, ← h.2.2, List.map_map, ← bokC_bare]
  rfl
/-- the parser's book -/
theorem PAt.forms {W : World} {base pb n : Nat} {p : BkS} {v0 v1 v2 : Value} {zs : List ZonD} (h : PAt W base pb n p v0 v1 v2 zs) : ∃ Ar cr Az cz Al cl, v0 = .slice Ar p.rs.length cr ∧ v1 = .slice Az zs.length cz ∧ v2 = .slice Al p.ls.length cl := by
  obtain ⟨Ar, cr, e0, _⟩ := h.rs.form
  obtain ⟨Az, cz, e1, _⟩ := h.zr.form
  obtain ⟨Al, cl, e2, _⟩ := h.lr.form
  exact ⟨Ar, cr, Az, cz, Al, cl, e0, e1, e2⟩
theorem PAt.at' {W : World} {base pb n cr cz cl : Nat} {Ar Az Al : Option Addr} {p : BkS} {zs : List ZonD} (h : PAt W base pb n p (.slice Ar p.rs.length cr) (.slice Az zs.length cz) (.slice Al p.ls.length cl) zs) :
    BokD.At W ⟨Ar, cr, p.rs, Az, cz, zs, Al, cl, p.ls⟩ ∧ BokD.Is ⟨Ar, cr, p.rs, Az, cz, zs, Al, cl, p.ls⟩ p := by
  have sl : ∀ {α : Type} {w : World} {bs k c : Nat} {e : TypeId} {enc : α → List Value} {A : Option Addr} {l : List α}, Own w bs e k enc (.slice A l.length c) l → SlOk l.length c := fun h => by
    obtain ⟨A', c', e', d1, d2, _⟩ := h.form
    injection e' with _ _ ec
    subst ec
    exact ⟨d1, d2⟩
  refine ⟨⟨⟨sl h.rs, h.rs.row ru_len, h.ri⟩, ⟨sl h.zr, h.zr.row zo_len, fun z hz => ?_⟩, ⟨sl h.lr, h.lr.row li_len, h.li⟩⟩, rfl, h.zm, rfl⟩
  have hz' := h.zz.base_le z hz
  exact ⟨hz'.2.1, sl hz'.1, hz'.1.row er_len, hz'.2.2⟩
theorem PAt.farq {W : World} {base pb n : Nat} {p : BkS} {v0 v1 v2 : Value} {zs : List ZonD} (h : PAt W base pb n p v0 v1 v2 zs) {q : Addr} (hq : q.block < base) (hp : q.block ≠ pb) (u : Value) : PAt (W.setCell q u) base pb n p v0 v1 v2 zs :=
  ⟨h.lt, set_lt h.le, (heap_set_ne W q u (Ne.symm hp)).trans h.blk, h.rs.far _ (far_pb h.rs hq), h.zr.far _ (far_pb h.zr hq), h.lr.far _ (far_pb h.lr hq), h.ri, h.li, h.zz.far _ (zs_far_pb h.zz hq), h.zm, h.nr, h.nz, h.nl, h.ne⟩
theorem ParA.of {s : ByteArray} {w w' : World} {b : BokD} {p : BkS} (h : parB s = (p, 0, 0)) (ha : b.At w' ∧ b.Is p) (g : Gr w w') : ParA s w (.returned (.tuple #[.agg #[.slice b.Ar b.rs.length b.cr, .slice b.Az b.zs.length b.cz, .slice b.Al b.ls.length b.cl], .int .i64 0, .int .i64 0])) w' :=
  ⟨b, by rw [h], ha.1, by rw [h]; exact ha.2, g⟩
/-- a parser as it begins -/
theorem PAt.first {w : World} {base pb : Nat} (h : w.heap[pb]? = some (.cells #[.slice none 0 0, .slice none 0 0, .slice none 0 0, .int .i64 0] 35 (0, 0))) (hp : pb < base) (hb : base ≤ w.heap.size) : PSt w base pb 0 BkS.zero :=
  ⟨_, _, _, [], hp, hb, h, Own.nil_ _ _ _ _ _, Own.nil_ _ _ _ _ _, Own.nil_ _ _ _ _ _, (fun r hr => by cases hr), (fun r hr => by cases hr), ⟨base, Nat.le_refl _, hb, (fun z hz => by cases hz), (fun z hz => by cases hz)⟩, rfl, Nat.le_refl _, Nat.le_refl _, Nat.le_refl _, (fun z hz => by cases hz)⟩

set_option maxRecDepth 100000 in
set_option maxHeartbeats 20000000 in
theorem pbookParse (s : ByteArray) (w : World) (hm : s.size ≤ maxLen) (ht : RpTab w) (hk : BkTab w) : Calls Tryz.prog 4 #[.string s] w (ParA s w) := by
  unfold maxLen at hm
  have B0 := Lib.hid (box_one w (.cells #[.slice none 0 0, .slice none 0 0, .slice none 0 0] 26))
  have HT := Lib.hid ht
  have HK := Lib.hid hk
  obtain ⟨mx, hmx⟩ := ht.1.2.2.2
  have HM := Lib.hid hmx
  clear ht hk hmx
  by_cases hbig : 60000 < s.size
  · have E := Lib.hid (parB_big hbig)
    have t1 : decide (60000 < (s.size : Int)) = true := ltT (by omega)
    have HZ := Lib.hid B0.out.2
    have G1 := Lib.hid B0.out.1
    clear B0 hbig
    go_enter Tryz.func4, Tryz.ntmps4
    go_upto_region 2 with fail
    generalize w.alloc (.cells #[.slice none 0 0, .slice none 0 0, .slice none 0 0] 26) = w1 at HZ G1 ⊢
    have z0 : w1.cell? ⟨w.heap.size, 0, none⟩ = some (.slice none 0 0) := bcell_row HZ.out rfl
    have z1 : w1.cell? ⟨w.heap.size, 1, none⟩ = some (.slice none 0 0) := bcell_row HZ.out rfl
    have z2 : w1.cell? ⟨w.heap.size, 2, none⟩ = some (.slice none 0 0) := bcell_row HZ.out rfl
    have fz : ∀ i, w1.frozen? ⟨w.heap.size, i, none⟩ = false := fun i => by simp [World.frozen?, HZ.out]
    have ST := Lib.hid (store3 HZ.out (.slice none 0 0) (.slice none 0 0) (.slice none 0 0))
    have SG := Lib.hid (store3_gr G1.out (Nat.le_refl w.heap.size) (.slice none 0 0) (.slice none 0 0) (.slice none 0 0))
    go_wp2_with fail
    clear z0 z1 z2 fz
    generalize (((w1.setCell ⟨w.heap.size, 0, none⟩ (.slice none 0 0)).setCell ⟨w.heap.size, 1, none⟩ (.slice none 0 0)).setCell ⟨w.heap.size, 2, none⟩ (.slice none 0 0)) = FF at ST SG ⊢
    have y0 : FF.cell? ⟨w.heap.size, 0, none⟩ = some (.slice none 0 0) := bcell_row ST.out rfl
    have y1 : FF.cell? ⟨w.heap.size, 1, none⟩ = some (.slice none 0 0) := bcell_row ST.out rfl
    have y2 : FF.cell? ⟨w.heap.size, 2, none⟩ = some (.slice none 0 0) := bcell_row ST.out rfl
    exact bodyPost_ret (v := .tuple #[.agg #[.slice none 0 0, .slice none 0 0, .slice none 0 0], .int .i64 0, .int .i64 2]) (by simp [results, Tryz.results4, go_sem, y0, y1, y2]) rfl (parA_zero E.out SG.out)

  have t1 : decide (60000 < (s.size : Int)) = false := ltF (by omega)
  have NB := Lib.hid hbig
  have KS := Lib.hid (fun w h => splitLn s mx w (by omega) h)
  by_cases hnil : s.toList = []
  · have E := Lib.hid (parB_nil hnil)
    obtain rfl : s = ⟨#[]⟩ := str_nil2 hnil
    have HZ := Lib.hid B0.out.2
    have G1 := Lib.hid B0.out.1
    clear B0 hbig hnil NB KS hm
    go_enter Tryz.func4, Tryz.ntmps4
    go_upto_region 4 with fail
    generalize w.alloc (.cells #[.slice none 0 0, .slice none 0 0, .slice none 0 0] 26) = w1 at HZ G1 ⊢
    have z0 : w1.cell? ⟨w.heap.size, 0, none⟩ = some (.slice none 0 0) := bcell_row HZ.out rfl
    have z1 : w1.cell? ⟨w.heap.size, 1, none⟩ = some (.slice none 0 0) := bcell_row HZ.out rfl
    have z2 : w1.cell? ⟨w.heap.size, 2, none⟩ = some (.slice none 0 0) := bcell_row HZ.out rfl
    have fz : ∀ i, w1.frozen? ⟨w.heap.size, i, none⟩ = false := fun i => by simp [World.frozen?, HZ.out]
    have ST := Lib.hid (store3 HZ.out (.slice none 0 0) (.slice none 0 0) (.slice none 0 0))
    have SG := Lib.hid (store3_gr G1.out (Nat.le_refl w.heap.size) (.slice none 0 0) (.slice none 0 0) (.slice none 0 0))
    go_wp2_with fail
    clear z0 z1 z2 fz
    generalize (((w1.setCell ⟨w.heap.size, 0, none⟩ (.slice none 0 0)).setCell ⟨w.heap.size, 1, none⟩ (.slice none 0 0)).setCell ⟨w.heap.size, 2, none⟩ (.slice none 0 0)) = FF at ST SG ⊢
    have y0 : FF.cell? ⟨w.heap.size, 0, none⟩ = some (.slice none 0 0) := bcell_row ST.out rfl
    have y1 : FF.cell? ⟨w.heap.size, 1, none⟩ = some (.slice none 0 0) := bcell_row ST.out rfl
    have y2 : FF.cell? ⟨w.heap.size, 2, none⟩ = some (.slice none 0 0) := bcell_row ST.out rfl
    exact bodyPost_ret (v := .tuple #[.agg #[.slice none 0 0, .slice none 0 0, .slice none 0 0], .int .i64 0, .int .i64 0]) (by simp [results, Tryz.results4, go_sem, y0, y1, y2]) rfl (parA_zero E.out SG.out)

  have NN := Lib.hid hnil
  have n1 : ¬ s = ⟨#[]⟩ := fun e => hnil (by rw [e]; exact lit0)
  have n2 : (s.toList == []) = false := by simpa using hnil
  have LB : Hid ((lns s).length ≤ 60001) := by
    have := Lib.countB_le ⟨#[10]⟩ (by decide) s.size s (Nat.le_refl _)
    unfold Hid; rw [lns_len]; omega
  have LZ : Hid (∀ x ∈ lns s, x.size ≤ 60000) := fun x hx => Nat.le_trans (lns_size hx) (by omega)
  have KL := Lib.hid (fun x p base pb n W hs hp hn hok ht => paddLine x p base pb n W hs hp hn hok ht)
  have B1 := Lib.hid (box_two w (.cells #[.slice none 0 0, .slice none 0 0, .slice none 0 0] 26) (.cells #[.slice none 0 0, .slice none 0 0, .slice none 0 0, .int .i64 0] 35))
  clear hnil hbig B0
  go_enter Tryz.func4, Tryz.ntmps4
  go_wp2_with fail
  generalize (w.alloc (.cells #[.slice none 0 0, .slice none 0 0, .slice none 0 0] 26)).alloc (.cells #[.slice none 0 0, .slice none 0 0, .slice none 0 0, .int .i64 0] 35) = w1 at B1 ⊢
  refine (KS.out w1 (B1.out.1.holds HM.out)).mono ?_
  rintro e w2 ⟨g, hg, rfl, g2, hcell⟩
  have CE := Lib.hid hcell
  have G2 := Lib.hid (B1.out.1.trans g2)
  have HZ2 := Lib.hid (bheap_gr g2 B1.out.2.1)
  have HP2 := Lib.hid (bheap_gr g2 B1.out.2.2)
  have gpb : w.heap.size + 1 < g := Nat.lt_of_lt_of_le (Array.getElem?_eq_some_iff.1 B1.out.2.2).1 hg
  have psz := Lib.hid (Array.getElem?_eq_some_iff.1 HP2.out).1
  have L1 := LB.out
  clear KS B1 g2 hcell hg n1 n2 t1
  generalize hN : (lns s).length = N at L1 ⊢
  have HN := Lib.hid hN
  clear hN
  go_wp2_with fail
  go_loopw [21] (fun i W => ∃ (k : Nat) (p : BkS), k ≤ N ∧ i = .int .i64 k ∧ Hid (PSt W w2.heap.size (w.heap.size + 1) k p) ∧ Hid p.Ok ∧ Hid (runB BkS.zero (lns s) 0 = runB p ((lns s).drop k) k) ∧ Hid (Tch w2.heap.size (w.heap.size + 1) w2 W)) (fun i W => N - (intOf i).toNat)
  case atStart => exact ⟨0, BkS.zero, Nat.zero_le _, rfl, PAt.first HP2.out psz.out (Nat.le_refl _), BkS.Ok.zero, rfl, Tch.refl _ _ _⟩
  case round =>
    obtain ⟨k, p, hk, rfl, hp, hok, hr, htc⟩ := hrel
    have GR := Lib.hid (htc.out.below G2.out (Nat.le_succ _) (Below.size G2.out))
    have HZr : Hid (wr.heap[w.heap.size]? = some (.cells #[.slice none 0 0, .slice none 0 0, .slice none 0 0] 26 (0, 0))) := (htc.out.block w.heap.size (by have := psz.out; omega) (by omega)).trans HZ2.out
    by_cases hlt : k < N
    · obtain ⟨x, hx⟩ := get_lt (show k < (lns s).length by rw [HN.out]; exact hlt)
      have c0 : wr.cell? ⟨g, k, none⟩ = some (.string x) := by
        have := CE.out k x hx
        rw [htc.out.cell (b := g) (o := k) (World.block_lt_of_cell? w2 ⟨g, k, none⟩ this) (show g ≠ w.heap.size + 1 by omega)]; exact this
      have KX := Lib.hid (KL.out x p w2.heap.size (w.heap.size + 1) k wr (LZ.out x (get_mem hx)) hp.out (by omega) hok.out (GR.out.rpT HT.out))
      have SOK : Hid (∀ q, stepB p x = some q → q.Ok) := fun q hq => hok.out.step hq
      have RB : Hid (stepB p x = none → runB BkS.zero (lns s) 0 = .inl (k + 1)) := fun h => hr.out.trans (runB_bad hx h)
      have RS : Hid (∀ q, stepB p x = some q → runB BkS.zero (lns s) 0 = runB q ((lns s).drop (k + 1)) (k + 1)) := fun q h => hr.out.trans (runB_step hx h)
      have k0 : (0 : Int) ≤ (k : Int) := by omega
      have k1 : (k : Int) < (N : Int) := by omega
      clear hx KL hp hok hr
      cases hst : stepB p x with
      | none =>
        have E := Lib.hid (parB_bad NB.out NN.out (RB.out hst))
        rw [hst] at KX
        clear hst RB RS SOK
        go_wp2_with fail
        clear c0
        refine KX.out.mono ?_
        rintro e w4 ⟨rfl, tc4⟩
        have GF := Lib.hid ((htc.out.trans tc4).below G2.out (Nat.le_succ _) (Below.size G2.out))
        have HZ4 : Hid (w4.heap[w.heap.size]? = some (.cells #[.slice none 0 0, .slice none 0 0, .slice none 0 0] 26 (0, 0))) := (tc4.block w.heap.size (by have := psz.out; omega) (by omega)).trans HZr.out
        have E2 : Hid (parB s = (BkS.zero, (k : Int) + 1, 3)) := by unfold Hid; rw [E.out]; rfl
        clear KX tc4 E
        go_upto_region 11 with fail
        have z0 : w4.cell? ⟨w.heap.size, 0, none⟩ = some (.slice none 0 0) := bcell_row HZ4.out rfl
        have z1 : w4.cell? ⟨w.heap.size, 1, none⟩ = some (.slice none 0 0) := bcell_row HZ4.out rfl
        have z2 : w4.cell? ⟨w.heap.size, 2, none⟩ = some (.slice none 0 0) := bcell_row HZ4.out rfl
        have fz : ∀ i, w4.frozen? ⟨w.heap.size, i, none⟩ = false := fun i => by simp [World.frozen?, HZ4.out]
        have ST := Lib.hid (store3 HZ4.out (.slice none 0 0) (.slice none 0 0) (.slice none 0 0))
        have SG := Lib.hid (store3_gr GF.out (Nat.le_refl w.heap.size) (.slice none 0 0) (.slice none 0 0) (.slice none 0 0))
        go_wp2_with fail
        clear z0 z1 z2 fz
        generalize (((w4.setCell ⟨w.heap.size, 0, none⟩ (.slice none 0 0)).setCell ⟨w.heap.size, 1, none⟩ (.slice none 0 0)).setCell ⟨w.heap.size, 2, none⟩ (.slice none 0 0)) = FF at ST SG ⊢
        have y0 : FF.cell? ⟨w.heap.size, 0, none⟩ = some (.slice none 0 0) := bcell_row ST.out rfl
        have y1 : FF.cell? ⟨w.heap.size, 1, none⟩ = some (.slice none 0 0) := bcell_row ST.out rfl
        have y2 : FF.cell? ⟨w.heap.size, 2, none⟩ = some (.slice none 0 0) := bcell_row ST.out rfl
        exact bodyPost_ret (v := .tuple #[.agg #[.slice none 0 0, .slice none 0 0, .slice none 0 0], .int .i64 ((k : Int) + 1), .int .i64 3]) (by simp [results, Tryz.results4, go_sem, y0, y1, y2]) rfl (parA_zero E2.out SG.out)

      | some q =>
        rw [hst] at KX
        have QO := Lib.hid (SOK.out q hst)
        have QR := Lib.hid (RS.out q hst)
        clear hst RB RS SOK
        go_wp2_with fail
        clear c0
        refine KX.out.mono ?_
        rintro e w4 ⟨rfl, ps4, tc4⟩
        have TC4 := Lib.hid (htc.out.trans tc4)
        clear KX tc4
        go_wp2_with fail
        go_roundw
        case rel => exact ⟨k + 1, q, by omega, by go_num, ps4, QO, QR, TC4⟩
        case measure => simp [intOf]; omega
    · have ek : k = N := by omega
      have RE' : Hid (runB BkS.zero (lns s) 0 = .inr p) := by unfold Hid; rw [hr.out]; exact runB_end (by rw [HN.out]; omega)
      clear hr hok KL CE LZ
      obtain ⟨v0, v1, v2, zs, hpp⟩ := hp.out
      have P := Lib.hid hpp
      clear hpp hp
      have y3 : wr.cell? ⟨w.heap.size + 1, 3, none⟩ = some (.int .i64 (p.st : Int)) := bcell_row P.out.blk rfl
      by_cases h1 : p.st = 1
      · have E := Lib.hid (parB_open NB.out NN.out RE'.out h1)
        rw [h1] at y3
        have y3' : wr.cell? ⟨w.heap.size + 1, 3, none⟩ = some (.int .i64 1) := y3
        have E2 : Hid (parB s = (BkS.zero, (N : Int) + 1, 3)) := by unfold Hid; rw [E.out, HN.out]
        clear y3 h1 E
        go_upto_region 14 with fail
        clear y3'
        have z0 : wr.cell? ⟨w.heap.size, 0, none⟩ = some (.slice none 0 0) := bcell_row HZr.out rfl
        have z1 : wr.cell? ⟨w.heap.size, 1, none⟩ = some (.slice none 0 0) := bcell_row HZr.out rfl
        have z2 : wr.cell? ⟨w.heap.size, 2, none⟩ = some (.slice none 0 0) := bcell_row HZr.out rfl
        have fz : ∀ i, wr.frozen? ⟨w.heap.size, i, none⟩ = false := fun i => by simp [World.frozen?, HZr.out]
        have ST := Lib.hid (store3 HZr.out (.slice none 0 0) (.slice none 0 0) (.slice none 0 0))
        have SG := Lib.hid (store3_gr GR.out (Nat.le_refl w.heap.size) (.slice none 0 0) (.slice none 0 0) (.slice none 0 0))
        go_wp2_with fail
        clear z0 z1 z2 fz
        generalize (((wr.setCell ⟨w.heap.size, 0, none⟩ (.slice none 0 0)).setCell ⟨w.heap.size, 1, none⟩ (.slice none 0 0)).setCell ⟨w.heap.size, 2, none⟩ (.slice none 0 0)) = FF at ST SG ⊢
        have y0 : FF.cell? ⟨w.heap.size, 0, none⟩ = some (.slice none 0 0) := bcell_row ST.out rfl
        have y1 : FF.cell? ⟨w.heap.size, 1, none⟩ = some (.slice none 0 0) := bcell_row ST.out rfl
        have y2 : FF.cell? ⟨w.heap.size, 2, none⟩ = some (.slice none 0 0) := bcell_row ST.out rfl
        exact bodyPost_ret (v := .tuple #[.agg #[.slice none 0 0, .slice none 0 0, .slice none 0 0], .int .i64 ((N : Int) + 1), .int .i64 3]) (by simp [results, Tryz.results4, go_sem, y0, y1, y2]) rfl (parA_zero E2.out SG.out)

      have t1 : ((p.st : Int) == 1) = false := beqF (by omega)
      obtain ⟨Ar, cr, Az, cz, Al, cl, rfl, rfl, rfl⟩ := P.out.forms
      have KC := Lib.hid (pbookCheck ⟨Ar, cr, p.rs, Az, cz, zs, Al, cl, p.ls⟩ wr P.out.at'.1 (GR.out.bk HK.out))
      simp only at KC
      rw [show bokC p.rs zs p.ls = p.chk from Is_chk P.out.at'.2] at KC
      have q0 : wr.cell? ⟨w.heap.size + 1, 0, none⟩ = some (.slice Ar p.rs.length cr) := bcell_row P.out.blk rfl
      have q1 : wr.cell? ⟨w.heap.size + 1, 1, none⟩ = some (.slice Az zs.length cz) := bcell_row P.out.blk rfl
      have q2 : wr.cell? ⟨w.heap.size + 1, 2, none⟩ = some (.slice Al p.ls.length cl) := bcell_row P.out.blk rfl
      generalize hcc : p.chk = cc at KC
      have HC := Lib.hid hcc
      clear hcc
      go_wp2_with fail
      clear y3 t1 q0 q1 q2
      refine KC.out.mono ?_
      rintro e w4 ⟨rfl, g4⟩
      have GF := Lib.hid (GR.out.trans g4)
      have HZ4 := Lib.hid (bheap_gr g4 HZr.out)
      have P4 := Lib.hid (P.out.gr g4)
      clear KC g4 P
      by_cases h0 : cc = 0
      · have E := Lib.hid (parB_ok NB.out NN.out RE'.out h1 (HC.out.trans h0))
        have tc := bneF h0
        have q0 : w4.cell? ⟨w.heap.size + 1, 0, none⟩ = some (.slice Ar p.rs.length cr) := bcell_row P4.out.blk rfl
        have q1 : w4.cell? ⟨w.heap.size + 1, 1, none⟩ = some (.slice Az zs.length cz) := bcell_row P4.out.blk rfl
        have q2 : w4.cell? ⟨w.heap.size + 1, 2, none⟩ = some (.slice Al p.ls.length cl) := bcell_row P4.out.blk rfl
        have PF := Lib.hid (((P4.out.farq (q := ⟨w.heap.size, 0, none⟩) (by have := psz.out; show w.heap.size < _; omega) (by show w.heap.size ≠ _; omega) (.slice Ar p.rs.length cr)).farq (q := ⟨w.heap.size, 1, none⟩) (by have := psz.out; show w.heap.size < _; omega) (by show w.heap.size ≠ _; omega) (.slice Az zs.length cz)).farq (q := ⟨w.heap.size, 2, none⟩) (by have := psz.out; show w.heap.size < _; omega) (by show w.heap.size ≠ _; omega) (.slice Al p.ls.length cl))
        clear h0 h1 HC
        go_upto_region 18 with fail
        have z0 : w4.cell? ⟨w.heap.size, 0, none⟩ = some (.slice none 0 0) := bcell_row HZ4.out rfl
        have z1 : w4.cell? ⟨w.heap.size, 1, none⟩ = some (.slice none 0 0) := bcell_row HZ4.out rfl
        have z2 : w4.cell? ⟨w.heap.size, 2, none⟩ = some (.slice none 0 0) := bcell_row HZ4.out rfl
        have fz : ∀ i, w4.frozen? ⟨w.heap.size, i, none⟩ = false := fun i => by simp [World.frozen?, HZ4.out]
        have ST := Lib.hid (store3 HZ4.out (.slice Ar p.rs.length cr) (.slice Az zs.length cz) (.slice Al p.ls.length cl))
        have SG := Lib.hid (store3_gr GF.out (Nat.le_refl w.heap.size) (.slice Ar p.rs.length cr) (.slice Az zs.length cz) (.slice Al p.ls.length cl))
        go_wp2_with fail
        clear z0 z1 z2 fz
        generalize (((w4.setCell ⟨w.heap.size, 0, none⟩ (.slice Ar p.rs.length cr)).setCell ⟨w.heap.size, 1, none⟩ (.slice Az zs.length cz)).setCell ⟨w.heap.size, 2, none⟩ (.slice Al p.ls.length cl)) = FF at ST SG PF ⊢
        have y0 : FF.cell? ⟨w.heap.size, 0, none⟩ = some (.slice Ar p.rs.length cr) := bcell_row ST.out rfl
        have y1 : FF.cell? ⟨w.heap.size, 1, none⟩ = some (.slice Az zs.length cz) := bcell_row ST.out rfl
        have y2 : FF.cell? ⟨w.heap.size, 2, none⟩ = some (.slice Al p.ls.length cl) := bcell_row ST.out rfl
        exact bodyPost_ret (v := .tuple #[.agg #[.slice Ar p.rs.length cr, .slice Az zs.length cz, .slice Al p.ls.length cl], .int .i64 0, .int .i64 0]) (by simp [results, Tryz.results4, go_sem, y0, y1, y2]) rfl (ParA.of (b := ⟨Ar, cr, p.rs, Az, cz, zs, Al, cl, p.ls⟩) E.out PF.out.at' SG.out)

      · have E := Lib.hid (parB_chk NB.out NN.out RE'.out h1 (by rw [HC.out]; exact h0))
        rw [HC.out] at E
        have tc := bneT h0
        clear h0 h1 HC
        go_upto_region 17 with fail
        clear tc
        have z0 : w4.cell? ⟨w.heap.size, 0, none⟩ = some (.slice none 0 0) := bcell_row HZ4.out rfl
        have z1 : w4.cell? ⟨w.heap.size, 1, none⟩ = some (.slice none 0 0) := bcell_row HZ4.out rfl
        have z2 : w4.cell? ⟨w.heap.size, 2, none⟩ = some (.slice none 0 0) := bcell_row HZ4.out rfl
        have fz : ∀ i, w4.frozen? ⟨w.heap.size, i, none⟩ = false := fun i => by simp [World.frozen?, HZ4.out]
        have ST := Lib.hid (store3 HZ4.out (.slice none 0 0) (.slice none 0 0) (.slice none 0 0))
        have SG := Lib.hid (store3_gr GF.out (Nat.le_refl w.heap.size) (.slice none 0 0) (.slice none 0 0) (.slice none 0 0))
        go_wp2_with fail
        clear z0 z1 z2 fz
        generalize (((w4.setCell ⟨w.heap.size, 0, none⟩ (.slice none 0 0)).setCell ⟨w.heap.size, 1, none⟩ (.slice none 0 0)).setCell ⟨w.heap.size, 2, none⟩ (.slice none 0 0)) = FF at ST SG ⊢
        have y0 : FF.cell? ⟨w.heap.size, 0, none⟩ = some (.slice none 0 0) := bcell_row ST.out rfl
        have y1 : FF.cell? ⟨w.heap.size, 1, none⟩ = some (.slice none 0 0) := bcell_row ST.out rfl
        have y2 : FF.cell? ⟨w.heap.size, 2, none⟩ = some (.slice none 0 0) := bcell_row ST.out rfl
        exact bodyPost_ret (v := .tuple #[.agg #[.slice none 0 0, .slice none 0 0, .slice none 0 0], .int .i64 0, .int .i64 cc]) (by simp [results, Tryz.results4, go_sem, y0, y1, y2]) rfl (parA_zero E.out SG.out)

end Go.Proofs.YtkkilmmpmiichaaGreatDoor
