/- What the reference's StateAt returns, for every book, name and time. -/
import Derived.Test.YtbagdlafpahgdaaGreatDoorPM38
import Derived.Test.YtbagdlafpahgdaaGreatDoorPM40
import Derived.Test.YtbagdlafpahgdaaGreatDoorPM24
import Derived.Test.YtbagdlafpahgdaaGreatDoorPM41
import Derived.Test.YtbagdlafpahgdaaGreatDoorPM45
namespace Go.Proofs.YtbagdlafpahgdaaGreatDoor
set_option linter.unusedVariables false
set_option linter.unusedSimpArgs false
open Go.RowKit
set_option maxHeartbeats 1000000 in
theorem risTime_any (t : Int) (w : World) : Calls Tryz.prog 22 #[.int .i64 t] w fun e w' => e = .returned (.bool (tmB t)) ∧ w = w' := by
  have K1 := fun w => yearDay_any 1600 w (by omega) (by omega)
  have K2 := fun w => yearDay_any 2400 w (by omega) (by omega)
  rw [Cal.ys_1600] at K1
  rw [Cal.ys_2400] at K2
  have KA := Lib.hid K1
  have KB := Lib.hid K2
  have T : Hid (tmB t = (decide (-11676096000 ≤ t) && decide (t < 13569465600))) := by
    unfold Hid tmB
    rw [Bool.eq_iff_iff]; simp; omega
  clear K1 K2
  generalize tmB t = R at T ⊢
  obtain ⟨p, ep⟩ : ∃ p, decide (-11676096000 ≤ t) = p := ⟨_, rfl⟩
  obtain ⟨q, eq⟩ : ∃ q, decide (t < 13569465600) = q := ⟨_, rfl⟩
  rw [ep, eq] at T
  cases p with
  | false =>
    go_enter Tryz.func22, Tryz.ntmps22
    go_wp2_with fail
    refine (KA.out w).mono ?_
    rintro e w1 ⟨rfl, rfl⟩
    go_wp2_with fail
    go_ret
    exact ⟨ret_bool T.out.symm, rfl⟩
  | true =>
    go_enter Tryz.func22, Tryz.ntmps22
    go_wp2_with fail
    refine (KA.out w).mono ?_
    rintro e w1 ⟨rfl, rfl⟩
    go_wp2_with fail
    refine (KB.out w).mono ?_
    rintro e w1 ⟨rfl, rfl⟩
    cases q
    all_goals
      go_wp2
      go_ret
      exact ⟨ret_bool T.out.symm, rfl⟩

set_option maxRecDepth 100000 in
set_option maxHeartbeats 40000000 in
theorem rAt (b : BokD) (nm : ByteArray) (t : Int) (w : World) (hb : b.At w) (hm : HasMax w) :
    Calls Tryz.prog 9 #[bookV b, .string nm, .int .i64 t] w (AtE b.rs b.zs b.ls nm t w) := by
  have mixed : Tryz.prog.follows .mixedOrders = true := by kernel_rfl
  have KR := Lib.hid (fun W (g : Gr w W) => rresolve b nm W (hb.gr g) (g.max hm))
  have KI := Lib.hid (fun W => risTime_any t W)
  have KT := Lib.hid (fun ru eo W (g : Gr w W) h0 h1 h2 => rturns b ru eo W (hb.gr g) h0 h1 h2)
  have HM := Lib.hid hm
  obtain ⟨Ar, cr, rs, Az, cz, zs, Al, cl, ls⟩ := b
  simp only at KR KT
  have IN : Hid (∀ r ∈ rs, r.In) := hb.1.2.2
  show Calls _ _ _ _ (AtE rs zs ls nm t w)
  have B0 := Lib.hid (box_two w (.cells #[.slice Ar rs.length cr, .slice Az zs.length cz, .slice Al ls.length cl] 26) (.cells #[.int .i64 0, .bool false, .string ⟨#[]⟩] 28))
  clear hb hm
  go_enter Tryz.func9, Tryz.ntmps9
  go_wp2_with fail
  generalize (w.alloc (.cells #[.slice Ar rs.length cr, .slice Az zs.length cz, .slice Al ls.length cl] 26)).alloc (.cells #[.int .i64 0, .bool false, .string ⟨#[]⟩] 28) = w1 at B0 ⊢
  obtain ⟨q, hq⟩ : ∃ q, w.heap.size = q := ⟨_, rfl⟩
  have QS : Hid (w.heap.size ≤ q) := Nat.le_of_eq hq
  have NQ : Hid (w.heap.size ≤ q + 1) := by unfold Hid; omega
  rw [hq] at B0 ⊢
  clear hq
  have x0 : w1.cell? ⟨q, 0, none⟩ = some (.slice Ar rs.length cr) := bcell_row B0.out.2.1 rfl
  have x1 : w1.cell? ⟨q, 1, none⟩ = some (.slice Az zs.length cz) := bcell_row B0.out.2.1 rfl
  have x2 : w1.cell? ⟨q, 2, none⟩ = some (.slice Al ls.length cl) := bcell_row B0.out.2.1 rfl
  go_wp2_with fail
  clear x0 x1 x2
  refine (KR.out w1 B0.out.1).mono ?_
  rintro e w2 ⟨⟨znm, zA, zc, es⟩, rfl, zat, g2, hok, hno⟩
  have G2 := Lib.hid (B0.out.1.trans g2)
  have HB2 := Lib.hid (bheap_gr g2 B0.out.2.1)
  have HQ2 := Lib.hid (bheap_gr g2 B0.out.2.2)
  have ZAT := Lib.hid zat
  have OK := Lib.hid hok
  clear g2 B0 zat hok hno KR
  have NZ := Lib.hid (box_one w2 (.cells #[.string znm, .slice zA es.length zc] 36))
  have G3 := Lib.hid (G2.out.trans NZ.out.1)
  have HB3 := Lib.hid (bheap_gr NZ.out.1 HB2.out)
  have HQ3 := Lib.hid (bheap_gr NZ.out.1 HQ2.out)
  have ZR := Lib.hid (ZAT.out.2.2.1.gr NZ.out.1)
  have ZC : Hid (es.length ≤ zc) := ZAT.out.2.1.1
  by_cases h0 : resC rs zs ls nm = 0
  case neg =>
    have EX := Lib.hid (And.intro (atC_res (t := t) h0) h0)
    have t0 := bneT h0
    clear ZAT OK G2 HB2 HQ2 h0
    generalize resC rs zs ls nm = C at EX t0 ⊢
    have y0 : (w2.alloc (.cells #[.string znm, .slice zA es.length zc] 36)).cell? ⟨q + 1, 0, none⟩ = some (.int .i64 0) := bcell_row HQ3.out rfl
    have y1 : (w2.alloc (.cells #[.string znm, .slice zA es.length zc] 36)).cell? ⟨q + 1, 1, none⟩ = some (.bool false) := bcell_row HQ3.out rfl
    have y2 : (w2.alloc (.cells #[.string znm, .slice zA es.length zc] 36)).cell? ⟨q + 1, 2, none⟩ = some (.string ⟨#[]⟩) := bcell_row HQ3.out rfl
    have f0 : (w2.alloc (.cells #[.string znm, .slice zA es.length zc] 36)).frozen? ⟨q + 1, 0, none⟩ = false := unfrozen HQ3.out
    have f1 : (w2.alloc (.cells #[.string znm, .slice zA es.length zc] 36)).frozen? ⟨q + 1, 1, none⟩ = false := unfrozen HQ3.out
    have f2 : (w2.alloc (.cells #[.string znm, .slice zA es.length zc] 36)).frozen? ⟨q + 1, 2, none⟩ = false := unfrozen HQ3.out
    have s0 : ((((w2.alloc (.cells #[.string znm, .slice zA es.length zc] 36)).setCell ⟨q + 1, 0, none⟩ (.int .i64 0)).setCell ⟨q + 1, 1, none⟩ (.bool false)).setCell ⟨q + 1, 2, none⟩ (.string ⟨#[]⟩)).cell? ⟨q + 1, 0, none⟩ = some (.int .i64 0) := bcell_row (st3 HQ3.out (.int .i64 0) (.bool false) (.string ⟨#[]⟩)) rfl
    have s1 : ((((w2.alloc (.cells #[.string znm, .slice zA es.length zc] 36)).setCell ⟨q + 1, 0, none⟩ (.int .i64 0)).setCell ⟨q + 1, 1, none⟩ (.bool false)).setCell ⟨q + 1, 2, none⟩ (.string ⟨#[]⟩)).cell? ⟨q + 1, 1, none⟩ = some (.bool false) := bcell_row (st3 HQ3.out (.int .i64 0) (.bool false) (.string ⟨#[]⟩)) rfl
    have s2 : ((((w2.alloc (.cells #[.string znm, .slice zA es.length zc] 36)).setCell ⟨q + 1, 0, none⟩ (.int .i64 0)).setCell ⟨q + 1, 1, none⟩ (.bool false)).setCell ⟨q + 1, 2, none⟩ (.string ⟨#[]⟩)).cell? ⟨q + 1, 2, none⟩ = some (.string ⟨#[]⟩) := bcell_row (st3 HQ3.out (.int .i64 0) (.bool false) (.string ⟨#[]⟩)) rfl
    go_wp2_with fail
    exact bodyPost_ret (v := .tuple #[.agg #[.int .i64 0, .bool false, .string ⟨#[]⟩], .int .i64 C]) (by simp [results, Tryz.results9, go_sem, s0, s1, s2]) rfl (atE_no EX.out.1 EX.out.2 (st3_below G3.out NQ.out (.int .i64 0) (.bool false) (.string ⟨#[]⟩)))
  case pos =>
    obtain ⟨y, hy, e1, e2⟩ := OK.out h0
    have EE : erasN zs ls nm = es := (erasN_at hy).trans e2.symm
    obtain ⟨l1, l2, hg⟩ := good_erasN h0
    rw [EE] at l1 l2
    have hx := eraE_get (t := t) l1
    have lx := (List.getElem?_eq_some_iff.1 hx).1
    obtain ⟨⟨eo, ru, sv, fm, un⟩, hxe⟩ : ∃ x, eraE es t = x := ⟨_, rfl⟩
    rw [hxe] at hx
    have EN : Hid (eraN zs ls nm t = ⟨eo, ru, sv, fm, un⟩) := by unfold Hid eraN; rw [EE, hxe]
    have EA := good_eraN t h0
    rw [EN.out] at EA
    have NU0 := eraA_num EA
    have NU : Hid (-64800 ≤ eo ∧ eo ≤ 64800) := NU0.1
    have SZ : Hid (ru.toList ≠ [] → sv = 0) := fun h => (eraA_ru EA h).1
    have SO := abbrC_zero (savP_ok zs ls t EA)
    have SB : Hid (0 ≤ (savP ⟨eo, ru, sv, fm, un⟩ (eraT rs zs ls ⟨eo, ru, sv, fm, un⟩) t).1 ∧ (savP ⟨eo, ru, sv, fm, un⟩ (eraT rs zs ls ⟨eo, ru, sv, fm, un⟩) t).1 ≤ 10800 ∧ (savP ⟨eo, ru, sv, fm, un⟩ (eraT rs zs ls ⟨eo, ru, sv, fm, un⟩) t).2.size ≤ maxLen) := ⟨SO.2.1, SO.2.2, savP_size IN.out _ t⟩
    have RI : Hid (Rise (eraT rs zs ls ⟨eo, ru, sv, fm, un⟩)) := eraT_rise
    have LT : Hid ((eraT rs zs ls ⟨eo, ru, sv, fm, un⟩).length ≤ 100000) := eraT_len
    have H0 := Lib.hid h0
    have KO := Lib.hid (fun ru eo W (g : Gr w W) h1 h2 => KT.out ru eo W g (resC_zero.1 h0).1 h1 h2)
    obtain ⟨bz, oz, rfl, c0, c1, c2, c3, c4⟩ := Row.five ZR.out hx rfl (Gr.refl _)
    have KE := Lib.hid (fun W (hr : Row W 5 EraD.cells (some ⟨bz, oz, none⟩) es) => reraAt znm (some ⟨bz, oz, none⟩) zc es t W hr l1 l2 ZC.out)
    have HR3 := Lib.hid (And.intro c0 (And.intro c1 (And.intro c2 (And.intro c3 c4))))
    have i0 : (0 : Int) ≤ (eraI es t : Int) := by omega
    have i1 : (eraI es t : Int) < (es.length : Int) := by omega
    clear hy e1 e2 EE hg EA NU0 SO l1 l2 hx lx hxe c0 c1 c2 c3 c4 KT
    rw [h0]
    clear h0
    go_wp2_with fail
    have NZ1 : Hid (Gr w2 (w2.alloc (.cells #[.string znm, .slice (some ⟨bz, oz, none⟩) es.length zc] 36))) := NZ.out.1
    generalize w2.alloc (.cells #[.string znm, .slice (some ⟨bz, oz, none⟩) es.length zc] 36) = w3 at NZ NZ1 G3 HB3 HQ3 ZR HR3 ⊢
    generalize w2.heap.size = qz at NZ ⊢
    refine (KI.out w3).mono ?_
    rintro e w4 ⟨rfl, rfl⟩
    cases hb : tmB t with
    | false =>
      have EX := Lib.hid (And.intro (atC_time H0.out hb) (show (1 : Int) ≠ 0 by decide))
      clear hb NZ1 HR3 KE
      have y0 : w3.cell? ⟨q + 1, 0, none⟩ = some (.int .i64 0) := bcell_row HQ3.out rfl
      have y1 : w3.cell? ⟨q + 1, 1, none⟩ = some (.bool false) := bcell_row HQ3.out rfl
      have y2 : w3.cell? ⟨q + 1, 2, none⟩ = some (.string ⟨#[]⟩) := bcell_row HQ3.out rfl
      have f0 : w3.frozen? ⟨q + 1, 0, none⟩ = false := unfrozen HQ3.out
      have f1 : w3.frozen? ⟨q + 1, 1, none⟩ = false := unfrozen HQ3.out
      have f2 : w3.frozen? ⟨q + 1, 2, none⟩ = false := unfrozen HQ3.out
      have s0 : (((w3.setCell ⟨q + 1, 0, none⟩ (.int .i64 0)).setCell ⟨q + 1, 1, none⟩ (.bool false)).setCell ⟨q + 1, 2, none⟩ (.string ⟨#[]⟩)).cell? ⟨q + 1, 0, none⟩ = some (.int .i64 0) := bcell_row (st3 HQ3.out (.int .i64 0) (.bool false) (.string ⟨#[]⟩)) rfl
      have s1 : (((w3.setCell ⟨q + 1, 0, none⟩ (.int .i64 0)).setCell ⟨q + 1, 1, none⟩ (.bool false)).setCell ⟨q + 1, 2, none⟩ (.string ⟨#[]⟩)).cell? ⟨q + 1, 1, none⟩ = some (.bool false) := bcell_row (st3 HQ3.out (.int .i64 0) (.bool false) (.string ⟨#[]⟩)) rfl
      have s2 : (((w3.setCell ⟨q + 1, 0, none⟩ (.int .i64 0)).setCell ⟨q + 1, 1, none⟩ (.bool false)).setCell ⟨q + 1, 2, none⟩ (.string ⟨#[]⟩)).cell? ⟨q + 1, 2, none⟩ = some (.string ⟨#[]⟩) := bcell_row (st3 HQ3.out (.int .i64 0) (.bool false) (.string ⟨#[]⟩)) rfl
      go_wp2_with fail
      exact bodyPost_ret (v := .tuple #[.agg #[.int .i64 0, .bool false, .string ⟨#[]⟩], .int .i64 1]) (by simp [results, Tryz.results9, go_sem, s0, s1, s2]) rfl (atE_no EX.out.1 EX.out.2 (st3_below G3.out NQ.out (.int .i64 0) (.bool false) (.string ⟨#[]⟩)))
    | true =>
      have AC : Hid (atC rs zs ls nm t = eraK rs zs ls ⟨eo, ru, sv, fm, un⟩) := by unfold Hid; rw [← EN.out]; exact atC_era H0.out hb
      clear hb H0
      have HZ4 := Lib.hid NZ.out.2
      have HR4 := Lib.hid HR3.out
      have G4 := Lib.hid G3.out
      have HB4 := Lib.hid HB3.out
      have HQ4 := Lib.hid HQ3.out
      have ZR4 := Lib.hid ZR.out
      clear NZ NZ1 HR3 G3 HB3 HQ3 ZR
      obtain ⟨w4, hw4⟩ : ∃ x, x = w3 := ⟨_, rfl⟩
      subst hw4
      go_wp2_with fail
      refine wp_region_noPanic ?_
      refine till_start 8 (fun wx => wx.heap[qz]? = some (.cells #[.string znm, .slice (some ⟨bz, oz, none⟩) es.length zc] 36 (0, 0)) ∧ wx.cell? ⟨bz, oz + eraI es t * 5, none⟩ = some (.int .i64 eo) ∧ wx.cell? ⟨bz, oz + eraI es t * 5 + 1, none⟩ = some (.string ru) ∧ wx.cell? ⟨bz, oz + eraI es t * 5 + 2, none⟩ = some (.int .i64 sv) ∧ wx.cell? ⟨bz, oz + eraI es t * 5 + 3, none⟩ = some (.string fm) ∧ wx.cell? ⟨bz, oz + eraI es t * 5 + 4, none⟩ = some (.int .i64 un)) (by kernel_rfl) ⟨HZ4.out, HR4.out.1, HR4.out.2.1, HR4.out.2.2.1, HR4.out.2.2.2.1, HR4.out.2.2.2.2⟩ (fun hHeld => ?_)
      (try dsimp only at hHeld)
      have GG0 := Lib.hid (Gr.drew w4)
      have HQ4d := Lib.hid (bheap_gr GG0.out HQ4.out)
      have HB4d := Lib.hid (bheap_gr GG0.out HB4.out)
      have G4d := Lib.hid (G4.out.trans GG0.out)
      have ZR4d := Lib.hid (ZR4.out.gr GG0.out)
      generalize w4.drew = wd at hHeld GG0 HQ4d HB4d G4d ZR4d ⊢
      clear HQ4 HB4 HZ4 HR4 G4 GG0 ZR4
      refine till_take (i := 0) (oi := { dst := some 26, op := _, type := _, pos := _, after := _, guard := _ }) (v := ?v15) rfl (by kernel_rfl) (by kernel_rfl) (by kernel_rfl) (by kernel_rfl) (fun _ _ _ h => h) (Or.inl ⟨by rfl, ?hy15⟩) (by assumption) ?rest15
      case hy15 => (intro w hSw; go_simp <;> (with_reducible rfl))
      (try simp only [Act.put, List.setIfInBounds_toArray, List.set_cons_zero, List.set_cons_succ])
      refine till_take (i := 1) (oi := { dst := some 27, op := _, type := _, pos := _, after := _, guard := _ }) (v := ?v16) rfl (by kernel_rfl) (by kernel_rfl) (by kernel_rfl) (by kernel_rfl) (fun _ _ _ h => h) (Or.inl ⟨by rfl, ?hy16⟩) (by assumption) ?rest16
      case hy16 => (intro w hSw; have a1 := bcell_row (i := 1) hSw.1 rfl; go_simp <;> (with_reducible rfl))
      (try simp only [Act.put, List.setIfInBounds_toArray, List.set_cons_zero, List.set_cons_succ])
      refine till_take (i := 2) (oi := { dst := some 28, op := _, type := _, pos := _, after := _, guard := _ }) (v := ?v17) rfl (by kernel_rfl) (by kernel_rfl) (by kernel_rfl) (by kernel_rfl) (fun _ _ _ h => h) (Or.inl ⟨by rfl, ?hy17⟩) (by assumption) ?rest17
      case hy17 => (intro w hSw; have a0 := bcell_row (i := 0) hSw.1 rfl; have a1 := bcell_row (i := 1) hSw.1 rfl; go_simp <;> (with_reducible rfl))
      (try simp only [Act.put, List.setIfInBounds_toArray, List.set_cons_zero, List.set_cons_succ])
      refine till_take (i := 3) (oi := { dst := some 29, op := _, type := _, pos := _, after := _, guard := _ }) (v := ?v18) rfl (by kernel_rfl) (by kernel_rfl) (by kernel_rfl) (by kernel_rfl) (fun _ _ _ h => h) (Or.inl ⟨by rfl, ?hy18⟩) (by assumption) ?rest18
      case hy18 => (intro w hSw; go_simp <;> (with_reducible rfl))
      (try simp only [Act.put, List.setIfInBounds_toArray, List.set_cons_zero, List.set_cons_succ])
      refine till_two (i := 4) (j := 7) (by kernel_rfl) rfl rfl (fun K hK => ?_) (fun K hK => ?_)
      · go_simp
        (with_reducible refine (KE.out wd ZR4d.out).mono ?_)
        rintro e w4_1 ⟨rfl, g1⟩
        (go_wp2_with fail)
        refine hK.out _ _ (Or.inr ⟨bheap_gr g1 hHeld.1, g1.holds hHeld.2.1, g1.holds hHeld.2.2.1, g1.holds hHeld.2.2.2.1, g1.holds hHeld.2.2.2.2.1, g1.holds hHeld.2.2.2.2.2⟩) ?_
        clear hK K
        (try simp only [Act.put, List.setIfInBounds_toArray, List.set_cons_zero, List.set_cons_succ])
        have hH2 : w4_1.heap[qz]? = some (.cells #[.string znm, .slice (some ⟨bz, oz, none⟩) es.length zc] 36 (0, 0)) ∧ w4_1.cell? ⟨bz, oz + eraI es t * 5, none⟩ = some (.int .i64 eo) ∧ w4_1.cell? ⟨bz, oz + eraI es t * 5 + 1, none⟩ = some (.string ru) ∧ w4_1.cell? ⟨bz, oz + eraI es t * 5 + 2, none⟩ = some (.int .i64 sv) ∧ w4_1.cell? ⟨bz, oz + eraI es t * 5 + 3, none⟩ = some (.string fm) ∧ w4_1.cell? ⟨bz, oz + eraI es t * 5 + 4, none⟩ = some (.int .i64 un) := ⟨bheap_gr g1 hHeld.1, g1.holds hHeld.2.1, g1.holds hHeld.2.2.1, g1.holds hHeld.2.2.2.1, g1.holds hHeld.2.2.2.2.1, g1.holds hHeld.2.2.2.2.2⟩
        clear hHeld
        have hHeld := hH2
        clear hH2
        clear ZR4d
        have G2 := Lib.hid (G4d.out.trans g1)
        have HB2 := Lib.hid (bheap_gr g1 HB4d.out)
        have HQ2 := Lib.hid (bheap_gr g1 HQ4d.out)
        clear G4d HB4d HQ4d
        clear g1
        refine till_take (i := 5) (oi := { dst := some 31, op := _, type := _, pos := _, after := _, guard := _ }) (v := ?v3) rfl (by kernel_rfl) (by kernel_rfl) (by kernel_rfl) (by kernel_rfl) (fun _ _ _ h => h) (Or.inl ⟨by rfl, ?hy3⟩) (by assumption) ?rest3
        case hy3 => (intro w hSw; go_simp <;> (with_reducible rfl))
        (try simp only [Act.put, List.setIfInBounds_toArray, List.set_cons_zero, List.set_cons_succ])
        refine till_take (i := 6) (oi := { dst := some 32, op := _, type := _, pos := _, after := _, guard := _ }) (v := ?v4) rfl (by kernel_rfl) (by kernel_rfl) (by kernel_rfl) (by kernel_rfl) (fun _ _ _ h => h) (Or.inl ⟨by rfl, ?hy4⟩) (by assumption) ?rest4
        case hy4 => (intro w hSw; have c0 := hSw.2.1; have c1 := hSw.2.2.1; have c2 := hSw.2.2.2.1; have c3 := hSw.2.2.2.2.1; have c4 := hSw.2.2.2.2.2; go_simp <;> (with_reducible rfl))
        (try simp only [Act.put, List.setIfInBounds_toArray, List.set_cons_zero, List.set_cons_succ])
        refine till_one (i := 7) (by kernel_rfl) rfl (fun K hK => ?_)
        have NB5 := Lib.hid (box_one w4_1 (.cells #[.int .i64 0, .string ⟨#[]⟩, .int .i64 0, .string ⟨#[]⟩, .int .i64 0] 40))
        have NE5 : Hid (q + 1 + 1 ≤ w4_1.heap.size) := (Array.getElem?_eq_some_iff.1 HQ2.out).1
        go_simp
        refine hK.out _ _ (Or.inr ⟨bheap_gr NB5.out.1 hHeld.1, NB5.out.1.holds hHeld.2.1, NB5.out.1.holds hHeld.2.2.1, NB5.out.1.holds hHeld.2.2.2.1, NB5.out.1.holds hHeld.2.2.2.2.1, NB5.out.1.holds hHeld.2.2.2.2.2⟩) ?_
        clear hK K
        (try simp only [Act.put, List.setIfInBounds_toArray, List.set_cons_zero, List.set_cons_succ])
        generalize w4_1.alloc (.cells #[.int .i64 0, .string ⟨#[]⟩, .int .i64 0, .string ⟨#[]⟩, .int .i64 0] 40) = w7_5 at NB5 ⊢
        generalize w4_1.heap.size = qe at NB5 NE5 ⊢
        have hH2 : w7_5.heap[qz]? = some (.cells #[.string znm, .slice (some ⟨bz, oz, none⟩) es.length zc] 36 (0, 0)) ∧ w7_5.cell? ⟨bz, oz + eraI es t * 5, none⟩ = some (.int .i64 eo) ∧ w7_5.cell? ⟨bz, oz + eraI es t * 5 + 1, none⟩ = some (.string ru) ∧ w7_5.cell? ⟨bz, oz + eraI es t * 5 + 2, none⟩ = some (.int .i64 sv) ∧ w7_5.cell? ⟨bz, oz + eraI es t * 5 + 3, none⟩ = some (.string fm) ∧ w7_5.cell? ⟨bz, oz + eraI es t * 5 + 4, none⟩ = some (.int .i64 un) := ⟨bheap_gr NB5.out.1 hHeld.1, NB5.out.1.holds hHeld.2.1, NB5.out.1.holds hHeld.2.2.1, NB5.out.1.holds hHeld.2.2.2.1, NB5.out.1.holds hHeld.2.2.2.2.1, NB5.out.1.holds hHeld.2.2.2.2.2⟩
        clear hHeld
        have hHeld := hH2
        clear hH2
        have G6 := Lib.hid (G2.out.trans NB5.out.1)
        have HB6 := Lib.hid (bheap_gr NB5.out.1 HB2.out)
        have HQ6 := Lib.hid (bheap_gr NB5.out.1 HQ2.out)
        clear G2 HB2 HQ2
        have E5 := Lib.hid NB5.out.2
        have NE := Lib.hid NE5.out
        clear NB5 NE5
        refine till_one (i := 8) (by kernel_rfl) rfl (fun K hK => ?_)
        have z0 : w7_5.cell? ⟨qe, 0, none⟩ = some (.int .i64 0) := bcell_row E5.out rfl
        have z1 : w7_5.cell? ⟨qe, 1, none⟩ = some (.string ⟨#[]⟩) := bcell_row E5.out rfl
        have z2 : w7_5.cell? ⟨qe, 2, none⟩ = some (.int .i64 0) := bcell_row E5.out rfl
        have z3 : w7_5.cell? ⟨qe, 3, none⟩ = some (.string ⟨#[]⟩) := bcell_row E5.out rfl
        have z4 : w7_5.cell? ⟨qe, 4, none⟩ = some (.int .i64 0) := bcell_row E5.out rfl
        have fz0 : w7_5.frozen? ⟨qe, 0, none⟩ = false := unfrozen E5.out
        have fz1 : w7_5.frozen? ⟨qe, 1, none⟩ = false := unfrozen E5.out
        have fz2 : w7_5.frozen? ⟨qe, 2, none⟩ = false := unfrozen E5.out
        have fz3 : w7_5.frozen? ⟨qe, 3, none⟩ = false := unfrozen E5.out
        have fz4 : w7_5.frozen? ⟨qe, 4, none⟩ = false := unfrozen E5.out
        have FN := Lib.hid (And.intro (st5_below G6.out (Nat.le_trans QS.out (Nat.le_trans (Nat.le_add_right q 2) NE.out)) (.int .i64 eo) (.string ru) (.int .i64 sv) (.string fm) (.int .i64 un)) (And.intro ((Below.block (st5_below (Below.refl _ w7_5) NE.out (.int .i64 eo) (.string ru) (.int .i64 sv) (.string fm) (.int .i64 un)) (q + 1) (Nat.lt_succ_self _)).trans HQ6.out) (And.intro ((Below.block (st5_below (Below.refl _ w7_5) NE.out (.int .i64 eo) (.string ru) (.int .i64 sv) (.string fm) (.int .i64 un)) (q) (Nat.lt_succ_of_lt (Nat.lt_succ_self _))).trans HB6.out) (st5 E5.out (.int .i64 eo) (.string ru) (.int .i64 sv) (.string fm) (.int .i64 un)))))
        go_simp
        clear z0 fz0 z1 fz1 z2 fz2 z3 fz3 z4 fz4
        refine hK.out _ _ (Or.inl (by kernel_rfl)) ?_
        clear hK K
        (try simp only [Act.put, List.setIfInBounds_toArray, List.set_cons_zero, List.set_cons_succ])
        clear hHeld
        generalize (((((w7_5.setCell ⟨qe, 0, none⟩ (.int .i64 eo)).setCell ⟨qe, 1, none⟩ (.string ru)).setCell ⟨qe, 2, none⟩ (.int .i64 sv)).setCell ⟨qe, 3, none⟩ (.string fm)).setCell ⟨qe, 4, none⟩ (.int .i64 un)) = wf at FN ⊢
        clear G6 HB6 HQ6 E5
        refine till_done (by kernel_rfl) ?_ _
        refine NoPanic.normal ?_
        have G5 : Hid (Gr w wf) := FN.out.1
        have HQ5 := Lib.hid FN.out.2.1
        have HB5 := Lib.hid FN.out.2.2.1
        have HE5 := Lib.hid FN.out.2.2.2
        clear FN NE
        by_cases hru : ru.toList = []
        · have ET : Hid (eraT rs zs ls ⟨eo, ru, sv, fm, un⟩ = []) := by unfold Hid eraT; rw [if_pos hru]
          have EC : Hid (atC rs zs ls nm t = 0) := by unfold Hid; rw [AC.out]; unfold eraK; rw [if_pos hru]
          obtain rfl := str_nil hru
          rw [ET.out] at SB LT RI
          clear hru AC KO
          have y1 : wf.cell? ⟨qe, 1, none⟩ = some (.string ⟨#[]⟩) := bcell_row HE5.out rfl
          have x0 : wf.cell? ⟨qe, 0, none⟩ = some (.int .i64 eo) := bcell_row HE5.out rfl
          have x1 : wf.cell? ⟨qe, 1, none⟩ = some (.string ⟨#[]⟩) := bcell_row HE5.out rfl
          have x2 : wf.cell? ⟨qe, 2, none⟩ = some (.int .i64 sv) := bcell_row HE5.out rfl
          have x3 : wf.cell? ⟨qe, 3, none⟩ = some (.string fm) := bcell_row HE5.out rfl
          have x4 : wf.cell? ⟨qe, 4, none⟩ = some (.int .i64 un) := bcell_row HE5.out rfl
          go_wp2_with fail
          clear x0 x1 x2 x3 x4
          refine (rtypeOf ⟨eo, ⟨#[]⟩, sv, fm, un⟩ none 0 [] t wf (Row.nil _ _ _ _) LT.out RI.out (G5.out.max HM.out) SZ.out NU.out.1 NU.out.2 SB.out.1 SB.out.2.1 SB.out.2.2).mono ?_
          rintro e w7 ⟨rfl, g7⟩
          have G7 := Lib.hid (G5.out.trans g7)
          have HQ7 := Lib.hid (bheap_gr g7 HQ5.out)
          clear g7
          have y0 : w7.cell? ⟨q + 1, 0, none⟩ = some (.int .i64 0) := bcell_row HQ7.out rfl
          have y1 : w7.cell? ⟨q + 1, 1, none⟩ = some (.bool false) := bcell_row HQ7.out rfl
          have y2 : w7.cell? ⟨q + 1, 2, none⟩ = some (.string ⟨#[]⟩) := bcell_row HQ7.out rfl
          have f0 : w7.frozen? ⟨q + 1, 0, none⟩ = false := unfrozen HQ7.out
          have f1 : w7.frozen? ⟨q + 1, 1, none⟩ = false := unfrozen HQ7.out
          have f2 : w7.frozen? ⟨q + 1, 2, none⟩ = false := unfrozen HQ7.out
          have s0 : (((w7.setCell ⟨q + 1, 0, none⟩ (.int .i64 (eo + (savP ⟨eo, ⟨#[]⟩, sv, fm, un⟩ [] t).1))).setCell ⟨q + 1, 1, none⟩ (.bool (decide (0 < (savP ⟨eo, ⟨#[]⟩, sv, fm, un⟩ [] t).1)))).setCell ⟨q + 1, 2, none⟩ (.string (S (abbrR fm.toList (savP ⟨eo, ⟨#[]⟩, sv, fm, un⟩ [] t).1 (savP ⟨eo, ⟨#[]⟩, sv, fm, un⟩ [] t).2.toList).1))).cell? ⟨q + 1, 0, none⟩ = some (.int .i64 (eo + (savP ⟨eo, ⟨#[]⟩, sv, fm, un⟩ [] t).1)) := bcell_row (st3 HQ7.out (.int .i64 (eo + (savP ⟨eo, ⟨#[]⟩, sv, fm, un⟩ [] t).1)) (.bool (decide (0 < (savP ⟨eo, ⟨#[]⟩, sv, fm, un⟩ [] t).1))) (.string (S (abbrR fm.toList (savP ⟨eo, ⟨#[]⟩, sv, fm, un⟩ [] t).1 (savP ⟨eo, ⟨#[]⟩, sv, fm, un⟩ [] t).2.toList).1))) rfl
          have s1 : (((w7.setCell ⟨q + 1, 0, none⟩ (.int .i64 (eo + (savP ⟨eo, ⟨#[]⟩, sv, fm, un⟩ [] t).1))).setCell ⟨q + 1, 1, none⟩ (.bool (decide (0 < (savP ⟨eo, ⟨#[]⟩, sv, fm, un⟩ [] t).1)))).setCell ⟨q + 1, 2, none⟩ (.string (S (abbrR fm.toList (savP ⟨eo, ⟨#[]⟩, sv, fm, un⟩ [] t).1 (savP ⟨eo, ⟨#[]⟩, sv, fm, un⟩ [] t).2.toList).1))).cell? ⟨q + 1, 1, none⟩ = some (.bool (decide (0 < (savP ⟨eo, ⟨#[]⟩, sv, fm, un⟩ [] t).1))) := bcell_row (st3 HQ7.out (.int .i64 (eo + (savP ⟨eo, ⟨#[]⟩, sv, fm, un⟩ [] t).1)) (.bool (decide (0 < (savP ⟨eo, ⟨#[]⟩, sv, fm, un⟩ [] t).1))) (.string (S (abbrR fm.toList (savP ⟨eo, ⟨#[]⟩, sv, fm, un⟩ [] t).1 (savP ⟨eo, ⟨#[]⟩, sv, fm, un⟩ [] t).2.toList).1))) rfl
          have s2 : (((w7.setCell ⟨q + 1, 0, none⟩ (.int .i64 (eo + (savP ⟨eo, ⟨#[]⟩, sv, fm, un⟩ [] t).1))).setCell ⟨q + 1, 1, none⟩ (.bool (decide (0 < (savP ⟨eo, ⟨#[]⟩, sv, fm, un⟩ [] t).1)))).setCell ⟨q + 1, 2, none⟩ (.string (S (abbrR fm.toList (savP ⟨eo, ⟨#[]⟩, sv, fm, un⟩ [] t).1 (savP ⟨eo, ⟨#[]⟩, sv, fm, un⟩ [] t).2.toList).1))).cell? ⟨q + 1, 2, none⟩ = some (.string (S (abbrR fm.toList (savP ⟨eo, ⟨#[]⟩, sv, fm, un⟩ [] t).1 (savP ⟨eo, ⟨#[]⟩, sv, fm, un⟩ [] t).2.toList).1)) := bcell_row (st3 HQ7.out (.int .i64 (eo + (savP ⟨eo, ⟨#[]⟩, sv, fm, un⟩ [] t).1)) (.bool (decide (0 < (savP ⟨eo, ⟨#[]⟩, sv, fm, un⟩ [] t).1))) (.string (S (abbrR fm.toList (savP ⟨eo, ⟨#[]⟩, sv, fm, un⟩ [] t).1 (savP ⟨eo, ⟨#[]⟩, sv, fm, un⟩ [] t).2.toList).1))) rfl
          go_wp2_with fail
          exact bodyPost_ret (v := .tuple #[.agg #[.int .i64 (eo + (savP ⟨eo, ⟨#[]⟩, sv, fm, un⟩ [] t).1), .bool (decide (0 < (savP ⟨eo, ⟨#[]⟩, sv, fm, un⟩ [] t).1)), .string (S (abbrR fm.toList (savP ⟨eo, ⟨#[]⟩, sv, fm, un⟩ [] t).1 (savP ⟨eo, ⟨#[]⟩, sv, fm, un⟩ [] t).2.toList).1)], .int .i64 0]) (by simp [results, Tryz.results9, go_sem, s0, s1, s2]) rfl (atE_yes EC.out EN.out ET.out (st3_below G7.out NQ.out (.int .i64 (eo + (savP ⟨eo, ⟨#[]⟩, sv, fm, un⟩ [] t).1)) (.bool (decide (0 < (savP ⟨eo, ⟨#[]⟩, sv, fm, un⟩ [] t).1))) (.string (S (abbrR fm.toList (savP ⟨eo, ⟨#[]⟩, sv, fm, un⟩ [] t).1 (savP ⟨eo, ⟨#[]⟩, sv, fm, un⟩ [] t).2.toList).1))))
        · have ET : Hid (eraT rs zs ls ⟨eo, ru, sv, fm, un⟩ = (ofL rs zs ls ru eo)) := by unfold Hid eraT; rw [if_neg hru]
          have AC2 : Hid (atC rs zs ls nm t = ofC rs zs ls ru eo) := by unfold Hid; rw [AC.out]; unfold eraK; rw [if_neg hru]
          obtain ⟨n1, n2, n3⟩ := str_nonnil hru
          rw [ET.out] at SB LT RI
          clear hru AC
          have x0 : wf.cell? ⟨qe, 0, none⟩ = some (.int .i64 eo) := bcell_row HE5.out rfl
          have x1 : wf.cell? ⟨qe, 1, none⟩ = some (.string ru) := bcell_row HE5.out rfl
          have y0 : wf.cell? ⟨q, 0, none⟩ = some (.slice Ar rs.length cr) := bcell_row HB5.out rfl
          have y1 : wf.cell? ⟨q, 1, none⟩ = some (.slice Az zs.length cz) := bcell_row HB5.out rfl
          have y2 : wf.cell? ⟨q, 2, none⟩ = some (.slice Al ls.length cl) := bcell_row HB5.out rfl
          go_wp2_with fail
          clear x0 x1 y0 y1 y2
          refine (KO.out ru eo wf G5.out NU.out.1 NU.out.2).mono ?_
          rintro e w6 ⟨A6, c6, rfl, ta, g6⟩
          have G6 := Lib.hid (G5.out.trans g6)
          have HQ6 := Lib.hid (bheap_gr g6 HQ5.out)
          have HE6 := Lib.hid (bheap_gr g6 HE5.out)
          have TA := Lib.hid ta.2
          clear ta g6 G5 HQ5 HE5 HB5 KO
          by_cases hk : ofC rs zs ls ru eo = 0
          · have EC := Lib.hid (AC2.out.trans hk)
            have tk : (ofC rs zs ls ru eo != 0) = false := bneF hk
            clear AC2 hk
            have x0 : w6.cell? ⟨qe, 0, none⟩ = some (.int .i64 eo) := bcell_row HE6.out rfl
            have x1 : w6.cell? ⟨qe, 1, none⟩ = some (.string ru) := bcell_row HE6.out rfl
            have x2 : w6.cell? ⟨qe, 2, none⟩ = some (.int .i64 sv) := bcell_row HE6.out rfl
            have x3 : w6.cell? ⟨qe, 3, none⟩ = some (.string fm) := bcell_row HE6.out rfl
            have x4 : w6.cell? ⟨qe, 4, none⟩ = some (.int .i64 un) := bcell_row HE6.out rfl
            go_wp2_with fail
            clear x0 x1 x2 x3 x4
            refine (rtypeOf ⟨eo, ru, sv, fm, un⟩ A6 c6 (ofL rs zs ls ru eo) t w6 TA.out LT.out RI.out (G6.out.max HM.out) SZ.out NU.out.1 NU.out.2 SB.out.1 SB.out.2.1 SB.out.2.2).mono ?_
            rintro e w7 ⟨rfl, g7⟩
            have G7 := Lib.hid (G6.out.trans g7)
            have HQ7 := Lib.hid (bheap_gr g7 HQ6.out)
            clear g7
            have y0 : w7.cell? ⟨q + 1, 0, none⟩ = some (.int .i64 0) := bcell_row HQ7.out rfl
            have y1 : w7.cell? ⟨q + 1, 1, none⟩ = some (.bool false) := bcell_row HQ7.out rfl
            have y2 : w7.cell? ⟨q + 1, 2, none⟩ = some (.string ⟨#[]⟩) := bcell_row HQ7.out rfl
            have f0 : w7.frozen? ⟨q + 1, 0, none⟩ = false := unfrozen HQ7.out
            have f1 : w7.frozen? ⟨q + 1, 1, none⟩ = false := unfrozen HQ7.out
            have f2 : w7.frozen? ⟨q + 1, 2, none⟩ = false := unfrozen HQ7.out
            have s0 : (((w7.setCell ⟨q + 1, 0, none⟩ (.int .i64 (eo + (savP ⟨eo, ru, sv, fm, un⟩ (ofL rs zs ls ru eo) t).1))).setCell ⟨q + 1, 1, none⟩ (.bool (decide (0 < (savP ⟨eo, ru, sv, fm, un⟩ (ofL rs zs ls ru eo) t).1)))).setCell ⟨q + 1, 2, none⟩ (.string (S (abbrR fm.toList (savP ⟨eo, ru, sv, fm, un⟩ (ofL rs zs ls ru eo) t).1 (savP ⟨eo, ru, sv, fm, un⟩ (ofL rs zs ls ru eo) t).2.toList).1))).cell? ⟨q + 1, 0, none⟩ = some (.int .i64 (eo + (savP ⟨eo, ru, sv, fm, un⟩ (ofL rs zs ls ru eo) t).1)) := bcell_row (st3 HQ7.out (.int .i64 (eo + (savP ⟨eo, ru, sv, fm, un⟩ (ofL rs zs ls ru eo) t).1)) (.bool (decide (0 < (savP ⟨eo, ru, sv, fm, un⟩ (ofL rs zs ls ru eo) t).1))) (.string (S (abbrR fm.toList (savP ⟨eo, ru, sv, fm, un⟩ (ofL rs zs ls ru eo) t).1 (savP ⟨eo, ru, sv, fm, un⟩ (ofL rs zs ls ru eo) t).2.toList).1))) rfl
            have s1 : (((w7.setCell ⟨q + 1, 0, none⟩ (.int .i64 (eo + (savP ⟨eo, ru, sv, fm, un⟩ (ofL rs zs ls ru eo) t).1))).setCell ⟨q + 1, 1, none⟩ (.bool (decide (0 < (savP ⟨eo, ru, sv, fm, un⟩ (ofL rs zs ls ru eo) t).1)))).setCell ⟨q + 1, 2, none⟩ (.string (S (abbrR fm.toList (savP ⟨eo, ru, sv, fm, un⟩ (ofL rs zs ls ru eo) t).1 (savP ⟨eo, ru, sv, fm, un⟩ (ofL rs zs ls ru eo) t).2.toList).1))).cell? ⟨q + 1, 1, none⟩ = some (.bool (decide (0 < (savP ⟨eo, ru, sv, fm, un⟩ (ofL rs zs ls ru eo) t).1))) := bcell_row (st3 HQ7.out (.int .i64 (eo + (savP ⟨eo, ru, sv, fm, un⟩ (ofL rs zs ls ru eo) t).1)) (.bool (decide (0 < (savP ⟨eo, ru, sv, fm, un⟩ (ofL rs zs ls ru eo) t).1))) (.string (S (abbrR fm.toList (savP ⟨eo, ru, sv, fm, un⟩ (ofL rs zs ls ru eo) t).1 (savP ⟨eo, ru, sv, fm, un⟩ (ofL rs zs ls ru eo) t).2.toList).1))) rfl
            have s2 : (((w7.setCell ⟨q + 1, 0, none⟩ (.int .i64 (eo + (savP ⟨eo, ru, sv, fm, un⟩ (ofL rs zs ls ru eo) t).1))).setCell ⟨q + 1, 1, none⟩ (.bool (decide (0 < (savP ⟨eo, ru, sv, fm, un⟩ (ofL rs zs ls ru eo) t).1)))).setCell ⟨q + 1, 2, none⟩ (.string (S (abbrR fm.toList (savP ⟨eo, ru, sv, fm, un⟩ (ofL rs zs ls ru eo) t).1 (savP ⟨eo, ru, sv, fm, un⟩ (ofL rs zs ls ru eo) t).2.toList).1))).cell? ⟨q + 1, 2, none⟩ = some (.string (S (abbrR fm.toList (savP ⟨eo, ru, sv, fm, un⟩ (ofL rs zs ls ru eo) t).1 (savP ⟨eo, ru, sv, fm, un⟩ (ofL rs zs ls ru eo) t).2.toList).1)) := bcell_row (st3 HQ7.out (.int .i64 (eo + (savP ⟨eo, ru, sv, fm, un⟩ (ofL rs zs ls ru eo) t).1)) (.bool (decide (0 < (savP ⟨eo, ru, sv, fm, un⟩ (ofL rs zs ls ru eo) t).1))) (.string (S (abbrR fm.toList (savP ⟨eo, ru, sv, fm, un⟩ (ofL rs zs ls ru eo) t).1 (savP ⟨eo, ru, sv, fm, un⟩ (ofL rs zs ls ru eo) t).2.toList).1))) rfl
            go_wp2_with fail
            exact bodyPost_ret (v := .tuple #[.agg #[.int .i64 (eo + (savP ⟨eo, ru, sv, fm, un⟩ (ofL rs zs ls ru eo) t).1), .bool (decide (0 < (savP ⟨eo, ru, sv, fm, un⟩ (ofL rs zs ls ru eo) t).1)), .string (S (abbrR fm.toList (savP ⟨eo, ru, sv, fm, un⟩ (ofL rs zs ls ru eo) t).1 (savP ⟨eo, ru, sv, fm, un⟩ (ofL rs zs ls ru eo) t).2.toList).1)], .int .i64 0]) (by simp [results, Tryz.results9, go_sem, s0, s1, s2]) rfl (atE_yes EC.out EN.out ET.out (st3_below G7.out NQ.out (.int .i64 (eo + (savP ⟨eo, ru, sv, fm, un⟩ (ofL rs zs ls ru eo) t).1)) (.bool (decide (0 < (savP ⟨eo, ru, sv, fm, un⟩ (ofL rs zs ls ru eo) t).1))) (.string (S (abbrR fm.toList (savP ⟨eo, ru, sv, fm, un⟩ (ofL rs zs ls ru eo) t).1 (savP ⟨eo, ru, sv, fm, un⟩ (ofL rs zs ls ru eo) t).2.toList).1))))
          · have EX := Lib.hid (And.intro AC2.out hk)
            have tk : (ofC rs zs ls ru eo != 0) = true := bneT hk
            clear AC2 hk HE6 TA ET
            generalize ofC rs zs ls ru eo = C at EX tk ⊢
            have y0 : w6.cell? ⟨q + 1, 0, none⟩ = some (.int .i64 0) := bcell_row HQ6.out rfl
            have y1 : w6.cell? ⟨q + 1, 1, none⟩ = some (.bool false) := bcell_row HQ6.out rfl
            have y2 : w6.cell? ⟨q + 1, 2, none⟩ = some (.string ⟨#[]⟩) := bcell_row HQ6.out rfl
            have f0 : w6.frozen? ⟨q + 1, 0, none⟩ = false := unfrozen HQ6.out
            have f1 : w6.frozen? ⟨q + 1, 1, none⟩ = false := unfrozen HQ6.out
            have f2 : w6.frozen? ⟨q + 1, 2, none⟩ = false := unfrozen HQ6.out
            have s0 : (((w6.setCell ⟨q + 1, 0, none⟩ (.int .i64 0)).setCell ⟨q + 1, 1, none⟩ (.bool false)).setCell ⟨q + 1, 2, none⟩ (.string ⟨#[]⟩)).cell? ⟨q + 1, 0, none⟩ = some (.int .i64 0) := bcell_row (st3 HQ6.out (.int .i64 0) (.bool false) (.string ⟨#[]⟩)) rfl
            have s1 : (((w6.setCell ⟨q + 1, 0, none⟩ (.int .i64 0)).setCell ⟨q + 1, 1, none⟩ (.bool false)).setCell ⟨q + 1, 2, none⟩ (.string ⟨#[]⟩)).cell? ⟨q + 1, 1, none⟩ = some (.bool false) := bcell_row (st3 HQ6.out (.int .i64 0) (.bool false) (.string ⟨#[]⟩)) rfl
            have s2 : (((w6.setCell ⟨q + 1, 0, none⟩ (.int .i64 0)).setCell ⟨q + 1, 1, none⟩ (.bool false)).setCell ⟨q + 1, 2, none⟩ (.string ⟨#[]⟩)).cell? ⟨q + 1, 2, none⟩ = some (.string ⟨#[]⟩) := bcell_row (st3 HQ6.out (.int .i64 0) (.bool false) (.string ⟨#[]⟩)) rfl
            go_wp2_with fail
            exact bodyPost_ret (v := .tuple #[.agg #[.int .i64 0, .bool false, .string ⟨#[]⟩], .int .i64 C]) (by simp [results, Tryz.results9, go_sem, s0, s1, s2]) rfl (atE_no EX.out.1 EX.out.2 (st3_below G6.out NQ.out (.int .i64 0) (.bool false) (.string ⟨#[]⟩)))
      · have NB8 := Lib.hid (box_one wd (.cells #[.int .i64 0, .string ⟨#[]⟩, .int .i64 0, .string ⟨#[]⟩, .int .i64 0] 40))
        have NE8 : Hid (q + 1 + 1 ≤ wd.heap.size) := (Array.getElem?_eq_some_iff.1 HQ4d.out).1
        go_simp
        refine hK.out _ _ (Or.inr ⟨bheap_gr NB8.out.1 hHeld.1, NB8.out.1.holds hHeld.2.1, NB8.out.1.holds hHeld.2.2.1, NB8.out.1.holds hHeld.2.2.2.1, NB8.out.1.holds hHeld.2.2.2.2.1, NB8.out.1.holds hHeld.2.2.2.2.2⟩) ?_
        clear hK K
        (try simp only [Act.put, List.setIfInBounds_toArray, List.set_cons_zero, List.set_cons_succ])
        generalize wd.alloc (.cells #[.int .i64 0, .string ⟨#[]⟩, .int .i64 0, .string ⟨#[]⟩, .int .i64 0] 40) = w7_8 at NB8 ⊢
        generalize wd.heap.size = qe at NB8 NE8 ⊢
        have hH2 : w7_8.heap[qz]? = some (.cells #[.string znm, .slice (some ⟨bz, oz, none⟩) es.length zc] 36 (0, 0)) ∧ w7_8.cell? ⟨bz, oz + eraI es t * 5, none⟩ = some (.int .i64 eo) ∧ w7_8.cell? ⟨bz, oz + eraI es t * 5 + 1, none⟩ = some (.string ru) ∧ w7_8.cell? ⟨bz, oz + eraI es t * 5 + 2, none⟩ = some (.int .i64 sv) ∧ w7_8.cell? ⟨bz, oz + eraI es t * 5 + 3, none⟩ = some (.string fm) ∧ w7_8.cell? ⟨bz, oz + eraI es t * 5 + 4, none⟩ = some (.int .i64 un) := ⟨bheap_gr NB8.out.1 hHeld.1, NB8.out.1.holds hHeld.2.1, NB8.out.1.holds hHeld.2.2.1, NB8.out.1.holds hHeld.2.2.2.1, NB8.out.1.holds hHeld.2.2.2.2.1, NB8.out.1.holds hHeld.2.2.2.2.2⟩
        clear hHeld
        have hHeld := hH2
        clear hH2
        have G9 := Lib.hid (G4d.out.trans NB8.out.1)
        have HB9 := Lib.hid (bheap_gr NB8.out.1 HB4d.out)
        have HQ9 := Lib.hid (bheap_gr NB8.out.1 HQ4d.out)
        have R9 := Lib.hid (ZR4d.out.gr NB8.out.1)
        clear G4d HB4d HQ4d ZR4d
        have E8 := Lib.hid NB8.out.2
        have NE := Lib.hid NE8.out
        clear NB8 NE8
        refine till_one (i := 4) (by kernel_rfl) rfl (fun K hK => ?_)
        go_simp
        (with_reducible refine (KE.out w7_8 R9.out).mono ?_)
        rintro e w4_10 ⟨rfl, g10⟩
        (go_wp2_with fail)
        refine hK.out _ _ (Or.inr ⟨bheap_gr g10 hHeld.1, g10.holds hHeld.2.1, g10.holds hHeld.2.2.1, g10.holds hHeld.2.2.2.1, g10.holds hHeld.2.2.2.2.1, g10.holds hHeld.2.2.2.2.2⟩) ?_
        clear hK K
        (try simp only [Act.put, List.setIfInBounds_toArray, List.set_cons_zero, List.set_cons_succ])
        have hH2 : w4_10.heap[qz]? = some (.cells #[.string znm, .slice (some ⟨bz, oz, none⟩) es.length zc] 36 (0, 0)) ∧ w4_10.cell? ⟨bz, oz + eraI es t * 5, none⟩ = some (.int .i64 eo) ∧ w4_10.cell? ⟨bz, oz + eraI es t * 5 + 1, none⟩ = some (.string ru) ∧ w4_10.cell? ⟨bz, oz + eraI es t * 5 + 2, none⟩ = some (.int .i64 sv) ∧ w4_10.cell? ⟨bz, oz + eraI es t * 5 + 3, none⟩ = some (.string fm) ∧ w4_10.cell? ⟨bz, oz + eraI es t * 5 + 4, none⟩ = some (.int .i64 un) := ⟨bheap_gr g10 hHeld.1, g10.holds hHeld.2.1, g10.holds hHeld.2.2.1, g10.holds hHeld.2.2.2.1, g10.holds hHeld.2.2.2.2.1, g10.holds hHeld.2.2.2.2.2⟩
        clear hHeld
        have hHeld := hH2
        clear hH2
        clear R9
        have G11 := Lib.hid (G9.out.trans g10)
        have HB11 := Lib.hid (bheap_gr g10 HB9.out)
        have HQ11 := Lib.hid (bheap_gr g10 HQ9.out)
        have E11 := Lib.hid (bheap_gr g10 E8.out)
        clear G9 HB9 HQ9 E8
        clear g10
        refine till_take (i := 5) (oi := { dst := some 31, op := _, type := _, pos := _, after := _, guard := _ }) (v := ?v12) rfl (by kernel_rfl) (by kernel_rfl) (by kernel_rfl) (by kernel_rfl) (fun _ _ _ h => h) (Or.inl ⟨by rfl, ?hy12⟩) (by assumption) ?rest12
        case hy12 => (intro w hSw; go_simp <;> (with_reducible rfl))
        (try simp only [Act.put, List.setIfInBounds_toArray, List.set_cons_zero, List.set_cons_succ])
        refine till_take (i := 6) (oi := { dst := some 32, op := _, type := _, pos := _, after := _, guard := _ }) (v := ?v13) rfl (by kernel_rfl) (by kernel_rfl) (by kernel_rfl) (by kernel_rfl) (fun _ _ _ h => h) (Or.inl ⟨by rfl, ?hy13⟩) (by assumption) ?rest13
        case hy13 => (intro w hSw; have c0 := hSw.2.1; have c1 := hSw.2.2.1; have c2 := hSw.2.2.2.1; have c3 := hSw.2.2.2.2.1; have c4 := hSw.2.2.2.2.2; go_simp <;> (with_reducible rfl))
        (try simp only [Act.put, List.setIfInBounds_toArray, List.set_cons_zero, List.set_cons_succ])
        refine till_one (i := 8) (by kernel_rfl) rfl (fun K hK => ?_)
        have z0 : w4_10.cell? ⟨qe, 0, none⟩ = some (.int .i64 0) := bcell_row E11.out rfl
        have z1 : w4_10.cell? ⟨qe, 1, none⟩ = some (.string ⟨#[]⟩) := bcell_row E11.out rfl
        have z2 : w4_10.cell? ⟨qe, 2, none⟩ = some (.int .i64 0) := bcell_row E11.out rfl
        have z3 : w4_10.cell? ⟨qe, 3, none⟩ = some (.string ⟨#[]⟩) := bcell_row E11.out rfl
        have z4 : w4_10.cell? ⟨qe, 4, none⟩ = some (.int .i64 0) := bcell_row E11.out rfl
        have fz0 : w4_10.frozen? ⟨qe, 0, none⟩ = false := unfrozen E11.out
        have fz1 : w4_10.frozen? ⟨qe, 1, none⟩ = false := unfrozen E11.out
        have fz2 : w4_10.frozen? ⟨qe, 2, none⟩ = false := unfrozen E11.out
        have fz3 : w4_10.frozen? ⟨qe, 3, none⟩ = false := unfrozen E11.out
        have fz4 : w4_10.frozen? ⟨qe, 4, none⟩ = false := unfrozen E11.out
        have FN := Lib.hid (And.intro (st5_below G11.out (Nat.le_trans QS.out (Nat.le_trans (Nat.le_add_right q 2) NE.out)) (.int .i64 eo) (.string ru) (.int .i64 sv) (.string fm) (.int .i64 un)) (And.intro ((Below.block (st5_below (Below.refl _ w4_10) NE.out (.int .i64 eo) (.string ru) (.int .i64 sv) (.string fm) (.int .i64 un)) (q + 1) (Nat.lt_succ_self _)).trans HQ11.out) (And.intro ((Below.block (st5_below (Below.refl _ w4_10) NE.out (.int .i64 eo) (.string ru) (.int .i64 sv) (.string fm) (.int .i64 un)) (q) (Nat.lt_succ_of_lt (Nat.lt_succ_self _))).trans HB11.out) (st5 E11.out (.int .i64 eo) (.string ru) (.int .i64 sv) (.string fm) (.int .i64 un)))))
        go_simp
        clear z0 fz0 z1 fz1 z2 fz2 z3 fz3 z4 fz4
        refine hK.out _ _ (Or.inl (by kernel_rfl)) ?_
        clear hK K
        (try simp only [Act.put, List.setIfInBounds_toArray, List.set_cons_zero, List.set_cons_succ])
        clear hHeld
        generalize (((((w4_10.setCell ⟨qe, 0, none⟩ (.int .i64 eo)).setCell ⟨qe, 1, none⟩ (.string ru)).setCell ⟨qe, 2, none⟩ (.int .i64 sv)).setCell ⟨qe, 3, none⟩ (.string fm)).setCell ⟨qe, 4, none⟩ (.int .i64 un)) = wf at FN ⊢
        clear G11 HB11 HQ11 E11
        refine till_done (by kernel_rfl) ?_ _
        refine NoPanic.normal ?_
        have G5 : Hid (Gr w wf) := FN.out.1
        have HQ5 := Lib.hid FN.out.2.1
        have HB5 := Lib.hid FN.out.2.2.1
        have HE5 := Lib.hid FN.out.2.2.2
        clear FN NE
        by_cases hru : ru.toList = []
        · have ET : Hid (eraT rs zs ls ⟨eo, ru, sv, fm, un⟩ = []) := by unfold Hid eraT; rw [if_pos hru]
          have EC : Hid (atC rs zs ls nm t = 0) := by unfold Hid; rw [AC.out]; unfold eraK; rw [if_pos hru]
          obtain rfl := str_nil hru
          rw [ET.out] at SB LT RI
          clear hru AC KO
          have y1 : wf.cell? ⟨qe, 1, none⟩ = some (.string ⟨#[]⟩) := bcell_row HE5.out rfl
          have x0 : wf.cell? ⟨qe, 0, none⟩ = some (.int .i64 eo) := bcell_row HE5.out rfl
          have x1 : wf.cell? ⟨qe, 1, none⟩ = some (.string ⟨#[]⟩) := bcell_row HE5.out rfl
          have x2 : wf.cell? ⟨qe, 2, none⟩ = some (.int .i64 sv) := bcell_row HE5.out rfl
          have x3 : wf.cell? ⟨qe, 3, none⟩ = some (.string fm) := bcell_row HE5.out rfl
          have x4 : wf.cell? ⟨qe, 4, none⟩ = some (.int .i64 un) := bcell_row HE5.out rfl
          go_wp2_with fail
          clear x0 x1 x2 x3 x4
          refine (rtypeOf ⟨eo, ⟨#[]⟩, sv, fm, un⟩ none 0 [] t wf (Row.nil _ _ _ _) LT.out RI.out (G5.out.max HM.out) SZ.out NU.out.1 NU.out.2 SB.out.1 SB.out.2.1 SB.out.2.2).mono ?_
          rintro e w7 ⟨rfl, g7⟩
          have G7 := Lib.hid (G5.out.trans g7)
          have HQ7 := Lib.hid (bheap_gr g7 HQ5.out)
          clear g7
          have y0 : w7.cell? ⟨q + 1, 0, none⟩ = some (.int .i64 0) := bcell_row HQ7.out rfl
          have y1 : w7.cell? ⟨q + 1, 1, none⟩ = some (.bool false) := bcell_row HQ7.out rfl
          have y2 : w7.cell? ⟨q + 1, 2, none⟩ = some (.string ⟨#[]⟩) := bcell_row HQ7.out rfl
          have f0 : w7.frozen? ⟨q + 1, 0, none⟩ = false := unfrozen HQ7.out
          have f1 : w7.frozen? ⟨q + 1, 1, none⟩ = false := unfrozen HQ7.out
          have f2 : w7.frozen? ⟨q + 1, 2, none⟩ = false := unfrozen HQ7.out
          have s0 : (((w7.setCell ⟨q + 1, 0, none⟩ (.int .i64 (eo + (savP ⟨eo, ⟨#[]⟩, sv, fm, un⟩ [] t).1))).setCell ⟨q + 1, 1, none⟩ (.bool (decide (0 < (savP ⟨eo, ⟨#[]⟩, sv, fm, un⟩ [] t).1)))).setCell ⟨q + 1, 2, none⟩ (.string (S (abbrR fm.toList (savP ⟨eo, ⟨#[]⟩, sv, fm, un⟩ [] t).1 (savP ⟨eo, ⟨#[]⟩, sv, fm, un⟩ [] t).2.toList).1))).cell? ⟨q + 1, 0, none⟩ = some (.int .i64 (eo + (savP ⟨eo, ⟨#[]⟩, sv, fm, un⟩ [] t).1)) := bcell_row (st3 HQ7.out (.int .i64 (eo + (savP ⟨eo, ⟨#[]⟩, sv, fm, un⟩ [] t).1)) (.bool (decide (0 < (savP ⟨eo, ⟨#[]⟩, sv, fm, un⟩ [] t).1))) (.string (S (abbrR fm.toList (savP ⟨eo, ⟨#[]⟩, sv, fm, un⟩ [] t).1 (savP ⟨eo, ⟨#[]⟩, sv, fm, un⟩ [] t).2.toList).1))) rfl
          have s1 : (((w7.setCell ⟨q + 1, 0, none⟩ (.int .i64 (eo + (savP ⟨eo, ⟨#[]⟩, sv, fm, un⟩ [] t).1))).setCell ⟨q + 1, 1, none⟩ (.bool (decide (0 < (savP ⟨eo, ⟨#[]⟩, sv, fm, un⟩ [] t).1)))).setCell ⟨q + 1, 2, none⟩ (.string (S (abbrR fm.toList (savP ⟨eo, ⟨#[]⟩, sv, fm, un⟩ [] t).1 (savP ⟨eo, ⟨#[]⟩, sv, fm, un⟩ [] t).2.toList).1))).cell? ⟨q + 1, 1, none⟩ = some (.bool (decide (0 < (savP ⟨eo, ⟨#[]⟩, sv, fm, un⟩ [] t).1))) := bcell_row (st3 HQ7.out (.int .i64 (eo + (savP ⟨eo, ⟨#[]⟩, sv, fm, un⟩ [] t).1)) (.bool (decide (0 < (savP ⟨eo, ⟨#[]⟩, sv, fm, un⟩ [] t).1))) (.string (S (abbrR fm.toList (savP ⟨eo, ⟨#[]⟩, sv, fm, un⟩ [] t).1 (savP ⟨eo, ⟨#[]⟩, sv, fm, un⟩ [] t).2.toList).1))) rfl
          have s2 : (((w7.setCell ⟨q + 1, 0, none⟩ (.int .i64 (eo + (savP ⟨eo, ⟨#[]⟩, sv, fm, un⟩ [] t).1))).setCell ⟨q + 1, 1, none⟩ (.bool (decide (0 < (savP ⟨eo, ⟨#[]⟩, sv, fm, un⟩ [] t).1)))).setCell ⟨q + 1, 2, none⟩ (.string (S (abbrR fm.toList (savP ⟨eo, ⟨#[]⟩, sv, fm, un⟩ [] t).1 (savP ⟨eo, ⟨#[]⟩, sv, fm, un⟩ [] t).2.toList).1))).cell? ⟨q + 1, 2, none⟩ = some (.string (S (abbrR fm.toList (savP ⟨eo, ⟨#[]⟩, sv, fm, un⟩ [] t).1 (savP ⟨eo, ⟨#[]⟩, sv, fm, un⟩ [] t).2.toList).1)) := bcell_row (st3 HQ7.out (.int .i64 (eo + (savP ⟨eo, ⟨#[]⟩, sv, fm, un⟩ [] t).1)) (.bool (decide (0 < (savP ⟨eo, ⟨#[]⟩, sv, fm, un⟩ [] t).1))) (.string (S (abbrR fm.toList (savP ⟨eo, ⟨#[]⟩, sv, fm, un⟩ [] t).1 (savP ⟨eo, ⟨#[]⟩, sv, fm, un⟩ [] t).2.toList).1))) rfl
          go_wp2_with fail
          exact bodyPost_ret (v := .tuple #[.agg #[.int .i64 (eo + (savP ⟨eo, ⟨#[]⟩, sv, fm, un⟩ [] t).1), .bool (decide (0 < (savP ⟨eo, ⟨#[]⟩, sv, fm, un⟩ [] t).1)), .string (S (abbrR fm.toList (savP ⟨eo, ⟨#[]⟩, sv, fm, un⟩ [] t).1 (savP ⟨eo, ⟨#[]⟩, sv, fm, un⟩ [] t).2.toList).1)], .int .i64 0]) (by simp [results, Tryz.results9, go_sem, s0, s1, s2]) rfl (atE_yes EC.out EN.out ET.out (st3_below G7.out NQ.out (.int .i64 (eo + (savP ⟨eo, ⟨#[]⟩, sv, fm, un⟩ [] t).1)) (.bool (decide (0 < (savP ⟨eo, ⟨#[]⟩, sv, fm, un⟩ [] t).1))) (.string (S (abbrR fm.toList (savP ⟨eo, ⟨#[]⟩, sv, fm, un⟩ [] t).1 (savP ⟨eo, ⟨#[]⟩, sv, fm, un⟩ [] t).2.toList).1))))
        · have ET : Hid (eraT rs zs ls ⟨eo, ru, sv, fm, un⟩ = (ofL rs zs ls ru eo)) := by unfold Hid eraT; rw [if_neg hru]
          have AC2 : Hid (atC rs zs ls nm t = ofC rs zs ls ru eo) := by unfold Hid; rw [AC.out]; unfold eraK; rw [if_neg hru]
          obtain ⟨n1, n2, n3⟩ := str_nonnil hru
          rw [ET.out] at SB LT RI
          clear hru AC
          have x0 : wf.cell? ⟨qe, 0, none⟩ = some (.int .i64 eo) := bcell_row HE5.out rfl
          have x1 : wf.cell? ⟨qe, 1, none⟩ = some (.string ru) := bcell_row HE5.out rfl
          have y0 : wf.cell? ⟨q, 0, none⟩ = some (.slice Ar rs.length cr) := bcell_row HB5.out rfl
          have y1 : wf.cell? ⟨q, 1, none⟩ = some (.slice Az zs.length cz) := bcell_row HB5.out rfl
          have y2 : wf.cell? ⟨q, 2, none⟩ = some (.slice Al ls.length cl) := bcell_row HB5.out rfl
          go_wp2_with fail
          clear x0 x1 y0 y1 y2
          refine (KO.out ru eo wf G5.out NU.out.1 NU.out.2).mono ?_
          rintro e w6 ⟨A6, c6, rfl, ta, g6⟩
          have G6 := Lib.hid (G5.out.trans g6)
          have HQ6 := Lib.hid (bheap_gr g6 HQ5.out)
          have HE6 := Lib.hid (bheap_gr g6 HE5.out)
          have TA := Lib.hid ta.2
          clear ta g6 G5 HQ5 HE5 HB5 KO
          by_cases hk : ofC rs zs ls ru eo = 0
          · have EC := Lib.hid (AC2.out.trans hk)
            have tk : (ofC rs zs ls ru eo != 0) = false := bneF hk
            clear AC2 hk
            have x0 : w6.cell? ⟨qe, 0, none⟩ = some (.int .i64 eo) := bcell_row HE6.out rfl
            have x1 : w6.cell? ⟨qe, 1, none⟩ = some (.string ru) := bcell_row HE6.out rfl
            have x2 : w6.cell? ⟨qe, 2, none⟩ = some (.int .i64 sv) := bcell_row HE6.out rfl
            have x3 : w6.cell? ⟨qe, 3, none⟩ = some (.string fm) := bcell_row HE6.out rfl
            have x4 : w6.cell? ⟨qe, 4, none⟩ = some (.int .i64 un) := bcell_row HE6.out rfl
            go_wp2_with fail
            clear x0 x1 x2 x3 x4
            refine (rtypeOf ⟨eo, ru, sv, fm, un⟩ A6 c6 (ofL rs zs ls ru eo) t w6 TA.out LT.out RI.out (G6.out.max HM.out) SZ.out NU.out.1 NU.out.2 SB.out.1 SB.out.2.1 SB.out.2.2).mono ?_
            rintro e w7 ⟨rfl, g7⟩
            have G7 := Lib.hid (G6.out.trans g7)
            have HQ7 := Lib.hid (bheap_gr g7 HQ6.out)
            clear g7
            have y0 : w7.cell? ⟨q + 1, 0, none⟩ = some (.int .i64 0) := bcell_row HQ7.out rfl
            have y1 : w7.cell? ⟨q + 1, 1, none⟩ = some (.bool false) := bcell_row HQ7.out rfl
            have y2 : w7.cell? ⟨q + 1, 2, none⟩ = some (.string ⟨#[]⟩) := bcell_row HQ7.out rfl
            have f0 : w7.frozen? ⟨q + 1, 0, none⟩ = false := unfrozen HQ7.out
            have f1 : w7.frozen? ⟨q + 1, 1, none⟩ = false := unfrozen HQ7.out
            have f2 : w7.frozen? ⟨q + 1, 2, none⟩ = false := unfrozen HQ7.out
            have s0 : (((w7.setCell ⟨q + 1, 0, none⟩ (.int .i64 (eo + (savP ⟨eo, ru, sv, fm, un⟩ (ofL rs zs ls ru eo) t).1))).setCell ⟨q + 1, 1, none⟩ (.bool (decide (0 < (savP ⟨eo, ru, sv, fm, un⟩ (ofL rs zs ls ru eo) t).1)))).setCell ⟨q + 1, 2, none⟩ (.string (S (abbrR fm.toList (savP ⟨eo, ru, sv, fm, un⟩ (ofL rs zs ls ru eo) t).1 (savP ⟨eo, ru, sv, fm, un⟩ (ofL rs zs ls ru eo) t).2.toList).1))).cell? ⟨q + 1, 0, none⟩ = some (.int .i64 (eo + (savP ⟨eo, ru, sv, fm, un⟩ (ofL rs zs ls ru eo) t).1)) := bcell_row (st3 HQ7.out (.int .i64 (eo + (savP ⟨eo, ru, sv, fm, un⟩ (ofL rs zs ls ru eo) t).1)) (.bool (decide (0 < (savP ⟨eo, ru, sv, fm, un⟩ (ofL rs zs ls ru eo) t).1))) (.string (S (abbrR fm.toList (savP ⟨eo, ru, sv, fm, un⟩ (ofL rs zs ls ru eo) t).1 (savP ⟨eo, ru, sv, fm, un⟩ (ofL rs zs ls ru eo) t).2.toList).1))) rfl
            have s1 : (((w7.setCell ⟨q + 1, 0, none⟩ (.int .i64 (eo + (savP ⟨eo, ru, sv, fm, un⟩ (ofL rs zs ls ru eo) t).1))).setCell ⟨q + 1, 1, none⟩ (.bool (decide (0 < (savP ⟨eo, ru, sv, fm, un⟩ (ofL rs zs ls ru eo) t).1)))).setCell ⟨q + 1, 2, none⟩ (.string (S (abbrR fm.toList (savP ⟨eo, ru, sv, fm, un⟩ (ofL rs zs ls ru eo) t).1 (savP ⟨eo, ru, sv, fm, un⟩ (ofL rs zs ls ru eo) t).2.toList).1))).cell? ⟨q + 1, 1, none⟩ = some (.bool (decide (0 < (savP ⟨eo, ru, sv, fm, un⟩ (ofL rs zs ls ru eo) t).1))) := bcell_row (st3 HQ7.out (.int .i64 (eo + (savP ⟨eo, ru, sv, fm, un⟩ (ofL rs zs ls ru eo) t).1)) (.bool (decide (0 < (savP ⟨eo, ru, sv, fm, un⟩ (ofL rs zs ls ru eo) t).1))) (.string (S (abbrR fm.toList (savP ⟨eo, ru, sv, fm, un⟩ (ofL rs zs ls ru eo) t).1 (savP ⟨eo, ru, sv, fm, un⟩ (ofL rs zs ls ru eo) t).2.toList).1))) rfl
            have s2 : (((w7.setCell ⟨q + 1, 0, none⟩ (.int .i64 (eo + (savP ⟨eo, ru, sv, fm, un⟩ (ofL rs zs ls ru eo) t).1))).setCell ⟨q + 1, 1, none⟩ (.bool (decide (0 < (savP ⟨eo, ru, sv, fm, un⟩ (ofL rs zs ls ru eo) t).1)))).setCell ⟨q + 1, 2, none⟩ (.string (S (abbrR fm.toList (savP ⟨eo, ru, sv, fm, un⟩ (ofL rs zs ls ru eo) t).1 (savP ⟨eo, ru, sv, fm, un⟩ (ofL rs zs ls ru eo) t).2.toList).1))).cell? ⟨q + 1, 2, none⟩ = some (.string (S (abbrR fm.toList (savP ⟨eo, ru, sv, fm, un⟩ (ofL rs zs ls ru eo) t).1 (savP ⟨eo, ru, sv, fm, un⟩ (ofL rs zs ls ru eo) t).2.toList).1)) := bcell_row (st3 HQ7.out (.int .i64 (eo + (savP ⟨eo, ru, sv, fm, un⟩ (ofL rs zs ls ru eo) t).1)) (.bool (decide (0 < (savP ⟨eo, ru, sv, fm, un⟩ (ofL rs zs ls ru eo) t).1))) (.string (S (abbrR fm.toList (savP ⟨eo, ru, sv, fm, un⟩ (ofL rs zs ls ru eo) t).1 (savP ⟨eo, ru, sv, fm, un⟩ (ofL rs zs ls ru eo) t).2.toList).1))) rfl
            go_wp2_with fail
            exact bodyPost_ret (v := .tuple #[.agg #[.int .i64 (eo + (savP ⟨eo, ru, sv, fm, un⟩ (ofL rs zs ls ru eo) t).1), .bool (decide (0 < (savP ⟨eo, ru, sv, fm, un⟩ (ofL rs zs ls ru eo) t).1)), .string (S (abbrR fm.toList (savP ⟨eo, ru, sv, fm, un⟩ (ofL rs zs ls ru eo) t).1 (savP ⟨eo, ru, sv, fm, un⟩ (ofL rs zs ls ru eo) t).2.toList).1)], .int .i64 0]) (by simp [results, Tryz.results9, go_sem, s0, s1, s2]) rfl (atE_yes EC.out EN.out ET.out (st3_below G7.out NQ.out (.int .i64 (eo + (savP ⟨eo, ru, sv, fm, un⟩ (ofL rs zs ls ru eo) t).1)) (.bool (decide (0 < (savP ⟨eo, ru, sv, fm, un⟩ (ofL rs zs ls ru eo) t).1))) (.string (S (abbrR fm.toList (savP ⟨eo, ru, sv, fm, un⟩ (ofL rs zs ls ru eo) t).1 (savP ⟨eo, ru, sv, fm, un⟩ (ofL rs zs ls ru eo) t).2.toList).1))))
          · have EX := Lib.hid (And.intro AC2.out hk)
            have tk : (ofC rs zs ls ru eo != 0) = true := bneT hk
            clear AC2 hk HE6 TA ET
            generalize ofC rs zs ls ru eo = C at EX tk ⊢
            have y0 : w6.cell? ⟨q + 1, 0, none⟩ = some (.int .i64 0) := bcell_row HQ6.out rfl
            have y1 : w6.cell? ⟨q + 1, 1, none⟩ = some (.bool false) := bcell_row HQ6.out rfl
            have y2 : w6.cell? ⟨q + 1, 2, none⟩ = some (.string ⟨#[]⟩) := bcell_row HQ6.out rfl
            have f0 : w6.frozen? ⟨q + 1, 0, none⟩ = false := unfrozen HQ6.out
            have f1 : w6.frozen? ⟨q + 1, 1, none⟩ = false := unfrozen HQ6.out
            have f2 : w6.frozen? ⟨q + 1, 2, none⟩ = false := unfrozen HQ6.out
            have s0 : (((w6.setCell ⟨q + 1, 0, none⟩ (.int .i64 0)).setCell ⟨q + 1, 1, none⟩ (.bool false)).setCell ⟨q + 1, 2, none⟩ (.string ⟨#[]⟩)).cell? ⟨q + 1, 0, none⟩ = some (.int .i64 0) := bcell_row (st3 HQ6.out (.int .i64 0) (.bool false) (.string ⟨#[]⟩)) rfl
            have s1 : (((w6.setCell ⟨q + 1, 0, none⟩ (.int .i64 0)).setCell ⟨q + 1, 1, none⟩ (.bool false)).setCell ⟨q + 1, 2, none⟩ (.string ⟨#[]⟩)).cell? ⟨q + 1, 1, none⟩ = some (.bool false) := bcell_row (st3 HQ6.out (.int .i64 0) (.bool false) (.string ⟨#[]⟩)) rfl
            have s2 : (((w6.setCell ⟨q + 1, 0, none⟩ (.int .i64 0)).setCell ⟨q + 1, 1, none⟩ (.bool false)).setCell ⟨q + 1, 2, none⟩ (.string ⟨#[]⟩)).cell? ⟨q + 1, 2, none⟩ = some (.string ⟨#[]⟩) := bcell_row (st3 HQ6.out (.int .i64 0) (.bool false) (.string ⟨#[]⟩)) rfl
            go_wp2_with fail
            exact bodyPost_ret (v := .tuple #[.agg #[.int .i64 0, .bool false, .string ⟨#[]⟩], .int .i64 C]) (by simp [results, Tryz.results9, go_sem, s0, s1, s2]) rfl (atE_no EX.out.1 EX.out.2 (st3_below G6.out NQ.out (.int .i64 0) (.bool false) (.string ⟨#[]⟩)))
end Go.Proofs.YtbagdlafpahgdaaGreatDoor
