/- What the project's Resolve of package names returns. The project's Resolve for every book; the empty book. -/
import Derived.Test.YtkmgildnhnjepaaGreatDoorTM19
import Derived.Test.YtkmgildnhnjepaaGreatDoorTM34
import Derived.Test.YtkmgildnhnjepaaGreatDoorTM30
namespace Go.Proofs.YtkmgildnhnjepaaGreatDoor
set_option linter.unusedVariables false
set_option linter.unusedSimpArgs false
open Go.RowKit
theorem zat_out {z : ZonD} {W : World} {q : Nat} (h : z.At W) (hne : ∀ b off, z.A = some ⟨b, off, none⟩ → b ≠ q) (v0 v1 : Value) : z.At ((W.setCell ⟨q, 0, none⟩ v0).setCell ⟨q, 1, none⟩ v1) := by
  refine ⟨h.1, h.2.1, fun i x hx => ?_, h.2.2.2⟩
  obtain ⟨b, off, e, hlt, hc⟩ := h.2.2.1 i x hx
  have := hne b off e
  refine ⟨b, off, e, by simpa [World.setCell] using hlt, fun j u hu => ?_⟩
  rw [World.cell?_setCell_other _ _ _ _ (by first | (simp; done) | (simp; omega)), World.cell?_setCell_other _ _ _ _ (by first | (simp; done) | (simp; omega))]
  exact hc j u hu

set_option maxRecDepth 100000 in
set_option maxHeartbeats 8000000 in
theorem presolve0 (b : BokD) (nm : ByteArray) (w : World) (hb : b.At w) (hn : nm.size ≤ maxLen)
    (hc : ∀ W, Gr w W → Calls Tryz.prog 46 #[bookV b] W fun e W' => e = .returned (.int .i64 (bokC b.rs b.zs b.ls)) ∧ Gr W W') :
    Calls Tryz.prog 19 #[bookV b, .string nm] w (ResE b.rs b.zs b.ls nm w) := by
  have K := Lib.hid hc
  have KP := Lib.hid (fun W (g : Gr w W) h => ppositions b W (hb.gr g) h)
  have KF := Lib.hid (fun m p W (g : Gr w W) h h1 h2 => pfollow b m p W (hb.gr g) h h1 h2)
  have KC := Lib.hid (fun z W h1 h2 => pcopyZone z W h1 h2)
  have HK := Lib.hid (key9 nm hn)
  obtain ⟨Ar, cr, rs, Az, cz, zs, Al, cl, ls⟩ := b
  have HZ : Hid (Row w 2 ZonD.cells Az zs) := hb.2.1.2.1
  have HZA : Hid (∀ z ∈ zs, z.At w) := hb.2.1.2.2
  simp only at K KP KF
  have GB : Hid (bokC rs zs ls = 0 → GoodB zs ls) := good_of
  have ZF : Hid (bokC rs zs ls = 0 → ∀ z ∈ zs, z.Few) := zone_few
  have B0 := Lib.hid (box_two w (.cells #[.slice Ar rs.length cr, .slice Az zs.length cz, .slice Al ls.length cl] 26) (.cells #[.string ⟨#[]⟩, .slice none 0 0] 57))
  clear hb hc hn
  show Calls _ _ _ _ (ResE rs zs ls nm w)
  go_enter Tryz.func19, Tryz.ntmps19
  go_wp2_with fail
  generalize (w.alloc (.cells #[.slice Ar rs.length cr, .slice Az zs.length cz, .slice Al ls.length cl] 26)).alloc (.cells #[.string ⟨#[]⟩, .slice none 0 0] 57) = w1 at B0 ⊢
  generalize hq : w.heap.size = q at B0 ⊢
  have QE1 := Lib.hid (show w.heap.size ≤ q + 1 by omega)
  clear hq
  have x0 : w1.cell? ⟨q, 0, none⟩ = some (.slice Ar rs.length cr) := bcell_row B0.out.2.1 rfl
  have x1 : w1.cell? ⟨q, 1, none⟩ = some (.slice Az zs.length cz) := bcell_row B0.out.2.1 rfl
  have x2 : w1.cell? ⟨q, 2, none⟩ = some (.slice Al ls.length cl) := bcell_row B0.out.2.1 rfl
  go_wp2_with fail
  clear x0 x1 x2
  refine (K.out w1 B0.out.1).mono ?_
  rintro e w2 ⟨rfl, g2⟩
  have G2 := Lib.hid (B0.out.1.trans g2)
  have HB2 := Lib.hid (bheap_gr g2 B0.out.2.1)
  have HR2 := Lib.hid (bheap_gr g2 B0.out.2.2)
  clear B0 K g2
  by_cases h0 : bokC rs zs ls = 0
  case neg =>
    have E := Lib.hid (resC_bad (nm := nm) h0)
    have H0 := Lib.hid h0
    have t0 := bneT h0
    generalize bokC rs zs ls = cc at E H0 t0 ⊢
    clear h0
    have y0 : w2.cell? ⟨q + 1, 0, none⟩ = some (.string ⟨#[]⟩) := bcell_row HR2.out rfl
    have y1 : w2.cell? ⟨q + 1, 1, none⟩ = some (.slice none 0 0) := bcell_row HR2.out rfl
    have f0 : w2.frozen? ⟨q + 1, 0, none⟩ = false := unfrozen HR2.out
    have f1 : w2.frozen? ⟨q + 1, 1, none⟩ = false := unfrozen HR2.out
    have s0 : ((w2.setCell ⟨q + 1, 0, none⟩ (.string ⟨#[]⟩)).setCell ⟨q + 1, 1, none⟩ (.slice none 0 0)).cell? ⟨q + 1, 0, none⟩ = some (.string ⟨#[]⟩) := bcell_row (store2 HR2.out _ _) rfl
    have s1 : ((w2.setCell ⟨q + 1, 0, none⟩ (.string ⟨#[]⟩)).setCell ⟨q + 1, 1, none⟩ (.slice none 0 0)).cell? ⟨q + 1, 1, none⟩ = some (.slice none 0 0) := bcell_row (store2 HR2.out _ _) rfl
    go_wp2_with fail
    exact bodyPost_ret (v := .tuple #[.agg #[.string ⟨#[]⟩, .slice none 0 0], .int .i64 cc]) (by simp [results, Tryz.results19, go_sem, s0, s1]) rfl (resE_no E.out H0.out (store2_below G2.out QE1.out _ _))
  case pos =>
    have H0 := Lib.hid h0
    have GD := Lib.hid (GB.out h0)
    have ZS := Lib.hid (ZF.out h0)
    rw [h0]
    clear GB ZF h0
    have x0 : w2.cell? ⟨q, 0, none⟩ = some (.slice Ar rs.length cr) := bcell_row HB2.out rfl
    have x1 : w2.cell? ⟨q, 1, none⟩ = some (.slice Az zs.length cz) := bcell_row HB2.out rfl
    have x2 : w2.cell? ⟨q, 2, none⟩ = some (.slice Al ls.length cl) := bcell_row HB2.out rfl
    go_wp2_with fail
    clear x0 x1 x2
    refine (KP.out w2 G2.out GD.out).mono ?_
    rintro e w3 ⟨m, rfl, _, hm, g3⟩
    have HM := Lib.hid hm
    obtain ⟨n, D, _, how, hpl⟩ := hm
    have OW := Lib.hid how
    have PL := Lib.hid hpl
    have G3 := Lib.hid (G2.out.trans g3)
    have HB3 := Lib.hid (bheap_gr g3 HB2.out)
    have HR3 := Lib.hid (bheap_gr g3 HR2.out)
    clear KP how hpl g3 HB2 HR2 G2
    by_cases hin : nm.toList ∈ nms zs ls
    case neg =>
      have RC := Lib.hid (resC_none H0.out hin)
      have eh : Maps.has D (.string nm.toList) = false := PL.out.2.2 _ hin
      have y0 : w3.cell? ⟨q + 1, 0, none⟩ = some (.string ⟨#[]⟩) := bcell_row HR3.out rfl
      have y1 : w3.cell? ⟨q + 1, 1, none⟩ = some (.slice none 0 0) := bcell_row HR3.out rfl
      have f0 : w3.frozen? ⟨q + 1, 0, none⟩ = false := unfrozen HR3.out
      have f1 : w3.frozen? ⟨q + 1, 1, none⟩ = false := unfrozen HR3.out
      have s0 : ((w3.setCell ⟨q + 1, 0, none⟩ (.string ⟨#[]⟩)).setCell ⟨q + 1, 1, none⟩ (.slice none 0 0)).cell? ⟨q + 1, 0, none⟩ = some (.string ⟨#[]⟩) := bcell_row (store2 HR3.out _ _) rfl
      have s1 : ((w3.setCell ⟨q + 1, 0, none⟩ (.string ⟨#[]⟩)).setCell ⟨q + 1, 1, none⟩ (.slice none 0 0)).cell? ⟨q + 1, 1, none⟩ = some (.slice none 0 0) := bcell_row (store2 HR3.out _ _) rfl
      go_wp2_with (at_lookup; refine wpList_lookup_own_ok_int _ (by rfl) _ _ 100 (by rfl) 9 3 .i64 law9 Tryz.underlying100 Tryz.underlying3 (zero3 _) m n D (by rfl) OW.out _ _ (by rfl) HK.out ?_; intro cv hat hwc)
      exact bodyPost_ret (v := .tuple #[.agg #[.string ⟨#[]⟩, .slice none 0 0], .int .i64 6]) (by simp [results, Tryz.results19, go_sem, s0, s1]) rfl (resE_no RC.out (by decide) (store2_below G3.out QE1.out _ _))
    case pos =>
      have HI := Lib.hid hin
      have eh : Maps.has D (.string nm.toList) = true := (PL.out.2.1 _ _ (idx_get hin)).1
      clear hin
      have x0 : w3.cell? ⟨q, 0, none⟩ = some (.slice Ar rs.length cr) := bcell_row HB3.out rfl
      have x1 : w3.cell? ⟨q, 1, none⟩ = some (.slice Az zs.length cz) := bcell_row HB3.out rfl
      have x2 : w3.cell? ⟨q, 2, none⟩ = some (.slice Al ls.length cl) := bcell_row HB3.out rfl
      go_wp2_with (at_lookup; refine wpList_lookup_own_ok_int _ (by rfl) _ _ 100 (by rfl) 9 3 .i64 law9 Tryz.underlying100 Tryz.underlying3 (zero3 _) m n D (by rfl) OW.out _ _ (by rfl) HK.out ?_; intro cv hat hwc)
      clear x0 x1 x2
      have ec : cv = (((nms zs ls).idxOf nm.toList : Nat) : Int) := by
        have := (PL.out.2.1 _ _ (idx_get HI.out)).2 (.lit (.int .i64 0))
        rw [hat] at this
        injection this with this
        injection this with _ this
      subst ec
      clear hat hwc eh
      refine (KF.out m _ w3 G3.out GD.out HM.out (by rw [← nms_len]; exact idx_lt HI.out)).mono ?_
      rintro e w4 ⟨rfl, g4⟩
      have G4 := Lib.hid (G3.out.trans g4)
      have HB4 := Lib.hid (bheap_gr g4 HB3.out)
      have HR4 := Lib.hid (bheap_gr g4 HR3.out)
      clear g4 HB3 HR3 G3 OW PL HM KF
      obtain ⟨p, ep⟩ : ∃ p, ends zs ls ls.length ((nms zs ls).idxOf nm.toList) = p := ⟨_, rfl⟩
      have EP : Hid (endN zs ls nm.toList = p) := ep
      rw [ep]
      clear ep
      by_cases hp : p < zs.length
      case neg =>
        have RC := Lib.hid (resC_loop H0.out HI.out (by rw [EP.out]; exact hp))
        rw [if_neg hp, decide_eq_false hp]
        have y0 : w4.cell? ⟨q + 1, 0, none⟩ = some (.string ⟨#[]⟩) := bcell_row HR4.out rfl
        have y1 : w4.cell? ⟨q + 1, 1, none⟩ = some (.slice none 0 0) := bcell_row HR4.out rfl
        have f0 : w4.frozen? ⟨q + 1, 0, none⟩ = false := unfrozen HR4.out
        have f1 : w4.frozen? ⟨q + 1, 1, none⟩ = false := unfrozen HR4.out
        have s0 : ((w4.setCell ⟨q + 1, 0, none⟩ (.string ⟨#[]⟩)).setCell ⟨q + 1, 1, none⟩ (.slice none 0 0)).cell? ⟨q + 1, 0, none⟩ = some (.string ⟨#[]⟩) := bcell_row (store2 HR4.out _ _) rfl
        have s1 : ((w4.setCell ⟨q + 1, 0, none⟩ (.string ⟨#[]⟩)).setCell ⟨q + 1, 1, none⟩ (.slice none 0 0)).cell? ⟨q + 1, 1, none⟩ = some (.slice none 0 0) := bcell_row (store2 HR4.out _ _) rfl
        go_wp2_with fail
        exact bodyPost_ret (v := .tuple #[.agg #[.string ⟨#[]⟩, .slice none 0 0], .int .i64 8]) (by simp [results, Tryz.results19, go_sem, s0, s1]) rfl (resE_no RC.out (by decide) (store2_below G4.out QE1.out _ _))
      case pos =>
        have RC := Lib.hid (resC_ok H0.out HI.out (by rw [EP.out]; exact hp))
        rw [if_pos hp, decide_eq_true hp]
        obtain ⟨⟨znm, zA, zc, ze⟩, hz⟩ := get_lt hp
        obtain ⟨bz, off, rfl, c0, c1⟩ := HZ.out.two hz rfl G4.out
        have HZK := Lib.hid hz
        have l0 : (0 : Int) ≤ (p : Int) := by omega
        have l1 : (p : Int) < (zs.length : Int) := by omega
        have x1 : w4.cell? ⟨q, 1, none⟩ = some (.slice (some ⟨bz, off, none⟩) zs.length cz) := bcell_row HB4.out rfl
        clear hz
        go_wp2_with fail
        clear x1 c0 c1
        refine (KC.out ⟨znm, zA, zc, ze⟩ w4 ((HZA.out _ (get_mem HZK.out)).gr G4.out) (ZS.out _ (get_mem HZK.out))).mono ?_
        rintro e w5 ⟨A5, c5, rfl, hat5, g5, hbb⟩
        have HNQ : Hid (∀ b off, A5 = some ⟨b, off, none⟩ → b ≠ q + 1) := fun b off e => by have := hbb b off e; have := (Array.getElem?_eq_some_iff.1 HR4.out).1; omega
        have ZAT := Lib.hid hat5
        have G5 := Lib.hid (G4.out.trans g5)
        have HR5 := Lib.hid (bheap_gr g5 HR4.out)
        clear hat5 g5 hbb HR4 HB4 G4
        have y0 : w5.cell? ⟨q + 1, 0, none⟩ = some (.string ⟨#[]⟩) := bcell_row HR5.out rfl
        have y1 : w5.cell? ⟨q + 1, 1, none⟩ = some (.slice none 0 0) := bcell_row HR5.out rfl
        have f0 : w5.frozen? ⟨q + 1, 0, none⟩ = false := unfrozen HR5.out
        have f1 : w5.frozen? ⟨q + 1, 1, none⟩ = false := unfrozen HR5.out
        have s0 : ((w5.setCell ⟨q + 1, 0, none⟩ (.string znm)).setCell ⟨q + 1, 1, none⟩ (.slice A5 ze.length c5)).cell? ⟨q + 1, 0, none⟩ = some (.string znm) := bcell_row (store2 HR5.out _ _) rfl
        have s1 : ((w5.setCell ⟨q + 1, 0, none⟩ (.string znm)).setCell ⟨q + 1, 1, none⟩ (.slice A5 ze.length c5)).cell? ⟨q + 1, 1, none⟩ = some (.slice A5 ze.length c5) := bcell_row (store2 HR5.out _ _) rfl
        go_wp2_with fail
        exact bodyPost_ret (v := .tuple #[.agg #[.string znm, .slice A5 ze.length c5], .int .i64 0]) (by simp [results, Tryz.results19, go_sem, s0, s1]) rfl ⟨⟨znm, A5, c5, ze⟩, by rw [RC.out], zat_out ZAT.out HNQ.out _ _, store2_below G5.out QE1.out _ _, fun _ => ⟨⟨znm, zA, zc, ze⟩, by rw [EP.out]; exact HZK.out, rfl, rfl⟩, fun q => absurd RC.out q⟩
end Go.Proofs.YtkmgildnhnjepaaGreatDoor
namespace Go.Proofs.YtkmgildnhnjepaaGreatDoor
set_option linter.unusedVariables false
set_option linter.unusedSimpArgs false
open Go.RowKit
theorem presolve (b : BokD) (nm : ByteArray) (w : World) (hb : b.At w) (hn : nm.size ≤ maxLen) (ht : BkTab w) :
    Calls Tryz.prog 19 #[bookV b, .string nm] w (ResE b.rs b.zs b.ls nm w) := presolve0 b nm w hb hn (fun W g => pbookCheck b W (hb.gr g) (g.bk ht))

end Go.Proofs.YtkmgildnhnjepaaGreatDoor
