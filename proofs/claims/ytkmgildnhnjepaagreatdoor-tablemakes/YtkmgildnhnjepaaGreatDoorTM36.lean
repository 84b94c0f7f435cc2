/- What the project's At of package state returns, for every book, name and time. -/
import Derived.Test.YtkmgildnhnjepaaGreatDoorTM34
import Derived.Test.YtkmgildnhnjepaaGreatDoorTM31
import Derived.Test.YtkmgildnhnjepaaGreatDoorTM19
import Derived.Test.YtkmgildnhnjepaaGreatDoorTM35
namespace Go.Proofs.YtkmgildnhnjepaaGreatDoor
set_option linter.unusedVariables false
set_option linter.unusedSimpArgs false
open Go.RowKit
set_option maxRecDepth 100000 in
set_option maxHeartbeats 40000000 in
theorem pAt (b : BokD) (nm : ByteArray) (t : Int) (w : World) (hb : b.At w) (hn : nm.size ≤ maxLen) (t1 : -9223372036854775808 ≤ t) (t2 : t ≤ 9223372036854775807) (ht : BkTab w) :
    Calls Tryz.prog 17 #[bookV b, .string nm, .int .i64 t] w (AtE b.rs b.zs b.ls nm t w) := by
  have mixed : Tryz.prog.follows .mixedOrders = true := by kernel_rfl
  have KR := Lib.hid (fun W (g : Gr w W) => presolve b nm W (hb.gr g) hn (g.bk ht))
  have KS := Lib.hid (fun W (g : Gr w W) => pstamp t W (g.bk ht) t1 t2)
  have KW := Lib.hid (fun x W (g : Gr w W) => withTurns_any b x W (hb.gr g) (g.bk ht))
  have HM : Hid (HasMax w) := ht.2.2
  obtain ⟨Ar, cr, rs, Az, cz, zs, Al, cl, ls⟩ := b
  simp only at KR KW
  have IN : Hid (∀ r ∈ rs, r.In) := hb.1.2.2
  show Calls _ _ _ _ (AtE rs zs ls nm t w)
  have B0 := Lib.hid (box_two w (.cells #[.slice Ar rs.length cr, .slice Az zs.length cz, .slice Al ls.length cl] 26) (.cells #[.int .i64 0, .bool false, .string ⟨#[]⟩] 46))
  clear hb ht hn
  go_enter Tryz.func17, Tryz.ntmps17
  go_wp2_with fail
  generalize (w.alloc (.cells #[.slice Ar rs.length cr, .slice Az zs.length cz, .slice Al ls.length cl] 26)).alloc (.cells #[.int .i64 0, .bool false, .string ⟨#[]⟩] 46) = w1 at B0 ⊢
  obtain ⟨q, hq⟩ : ∃ q, w.heap.size = q := ⟨_, rfl⟩
  have QS : Hid (w.heap.size ≤ q) := Nat.le_of_eq hq
  have NQ : Hid (w.heap.size ≤ q + 1) := by unfold Hid; omega
  rw [hq] at B0 ⊢
  clear hq
  have x0 : w1.cell? ⟨q, 0, none⟩ = some (.slice Ar rs.length cr) := bcell_row B0.out.2.1 rfl
  have x1 : w1.cell? ⟨q, 1, none⟩ = some (.slice Az zs.length cz) := bcell_row B0.out.2.1 rfl
  have x2 : w1.cell? ⟨q, 2, none⟩ = some (.slice Al ls.length cl) := bcell_row B0.out.2.1 rfl
  go_wp2_with fail
  clear x0 x1 x2
  refine (KR.out w1 B0.out.1).mono ?_
  rintro e w2 ⟨⟨znm, zA, zc, es⟩, rfl, zat, g2, hok, hno⟩
  have G2 := Lib.hid (B0.out.1.trans g2)
  have HB2 := Lib.hid (bheap_gr g2 B0.out.2.1)
  have HQ2 := Lib.hid (bheap_gr g2 B0.out.2.2)
  have ZAT := Lib.hid zat
  have OK := Lib.hid hok
  clear g2 B0 zat hok hno KR
  have NZ := Lib.hid (box_one w2 (.cells #[.string znm, .slice zA es.length zc] 57))
  have G3 := Lib.hid (G2.out.trans NZ.out.1)
  have HB3 := Lib.hid (bheap_gr NZ.out.1 HB2.out)
  have HQ3 := Lib.hid (bheap_gr NZ.out.1 HQ2.out)
  have ZR := Lib.hid (ZAT.out.2.2.1.gr NZ.out.1)
  have ZC : Hid (es.length ≤ zc) := ZAT.out.2.1.1
  by_cases h0 : resC rs zs ls nm = 0
  case neg =>
    have EX := Lib.hid (And.intro (atC_res (t := t) h0) h0)
    have t0 := bneT h0
    clear ZAT OK G2 HB2 HQ2 h0
    generalize resC rs zs ls nm = C at EX t0 ⊢
    have y0 : (w2.alloc (.cells #[.string znm, .slice zA es.length zc] 57)).cell? ⟨q + 1, 0, none⟩ = some (.int .i64 0) := bcell_row HQ3.out rfl
    have y1 : (w2.alloc (.cells #[.string znm, .slice zA es.length zc] 57)).cell? ⟨q + 1, 1, none⟩ = some (.bool false) := bcell_row HQ3.out rfl
    have y2 : (w2.alloc (.cells #[.string znm, .slice zA es.length zc] 57)).cell? ⟨q + 1, 2, none⟩ = some (.string ⟨#[]⟩) := bcell_row HQ3.out rfl
    have f0 : (w2.alloc (.cells #[.string znm, .slice zA es.length zc] 57)).frozen? ⟨q + 1, 0, none⟩ = false := unfrozen HQ3.out
    have f1 : (w2.alloc (.cells #[.string znm, .slice zA es.length zc] 57)).frozen? ⟨q + 1, 1, none⟩ = false := unfrozen HQ3.out
    have f2 : (w2.alloc (.cells #[.string znm, .slice zA es.length zc] 57)).frozen? ⟨q + 1, 2, none⟩ = false := unfrozen HQ3.out
    have s0 : ((((w2.alloc (.cells #[.string znm, .slice zA es.length zc] 57)).setCell ⟨q + 1, 0, none⟩ (.int .i64 0)).setCell ⟨q + 1, 1, none⟩ (.bool false)).setCell ⟨q + 1, 2, none⟩ (.string ⟨#[]⟩)).cell? ⟨q + 1, 0, none⟩ = some (.int .i64 0) := bcell_row (st3 HQ3.out (.int .i64 0) (.bool false) (.string ⟨#[]⟩)) rfl
    have s1 : ((((w2.alloc (.cells #[.string znm, .slice zA es.length zc] 57)).setCell ⟨q + 1, 0, none⟩ (.int .i64 0)).setCell ⟨q + 1, 1, none⟩ (.bool false)).setCell ⟨q + 1, 2, none⟩ (.string ⟨#[]⟩)).cell? ⟨q + 1, 1, none⟩ = some (.bool false) := bcell_row (st3 HQ3.out (.int .i64 0) (.bool false) (.string ⟨#[]⟩)) rfl
    have s2 : ((((w2.alloc (.cells #[.string znm, .slice zA es.length zc] 57)).setCell ⟨q + 1, 0, none⟩ (.int .i64 0)).setCell ⟨q + 1, 1, none⟩ (.bool false)).setCell ⟨q + 1, 2, none⟩ (.string ⟨#[]⟩)).cell? ⟨q + 1, 2, none⟩ = some (.string ⟨#[]⟩) := bcell_row (st3 HQ3.out (.int .i64 0) (.bool false) (.string ⟨#[]⟩)) rfl
    go_wp2_with fail
    exact bodyPost_ret (v := .tuple #[.agg #[.int .i64 0, .bool false, .string ⟨#[]⟩], .int .i64 C]) (by simp [results, Tryz.results17, go_sem, s0, s1, s2]) rfl (atE_no EX.out.1 EX.out.2 (st3_below G3.out NQ.out (.int .i64 0) (.bool false) (.string ⟨#[]⟩)))
  case pos =>
    obtain ⟨y, hy, e1, e2⟩ := OK.out h0
    have EE : erasN zs ls nm = es := (erasN_at hy).trans e2.symm
    obtain ⟨l1, l2, hg⟩ := good_erasN h0
    rw [EE] at l1 l2
    have EN : Hid (eraN zs ls nm t = (eraE es t)) := by unfold Hid eraN; rw [EE]
    have EA := good_eraN t h0
    rw [EN.out] at EA
    have NU := eraA_num EA
    have SO := abbrC_zero (savP_ok zs ls t EA)
    have SL : (savP (eraE es t) (eraT rs zs ls (eraE es t)) t).2.size ≤ maxLen := savP_size IN.out ((eraE es t)) t
    have SB : Hid (-64800 ≤ (eraE es t).off ∧ (eraE es t).off ≤ 64800 ∧ 0 ≤ (savP (eraE es t) (eraT rs zs ls (eraE es t)) t).1 ∧ (savP (eraE es t) (eraT rs zs ls (eraE es t)) t).1 ≤ 10800 ∧ (savP (eraE es t) (eraT rs zs ls (eraE es t)) t).2.size ≤ maxLen) := ⟨NU.1.1, NU.1.2, SO.2.1, SO.2.2, SL⟩
    have RI : Hid (Rise (eraT rs zs ls (eraE es t))) := eraT_rise
    have LT : Hid ((eraT rs zs ls (eraE es t)).length ≤ 100000) := eraT_len
    have H0 := Lib.hid h0
    have KE := Lib.hid (fun W (hr : Row W 5 EraD.cells zA es) => peraAt zA zc es t W hr l1 l2 ZC.out)
    clear hy e1 e2 EE hg EA NU SO SL l1 l2 OK ZAT G2 HB2 HQ2
    rw [h0]
    clear h0
    go_wp2_with fail
    generalize w2.alloc (.cells #[.string znm, .slice zA es.length zc] 57) = w3 at NZ G3 HB3 HQ3 ZR ⊢
    generalize w2.heap.size = qz at NZ ⊢
    refine (KS.out w3 G3.out).mono ?_
    rintro e w4 ⟨rfl, g4⟩
    have G4 := Lib.hid (G3.out.trans g4)
    have HB4 := Lib.hid (bheap_gr g4 HB3.out)
    have HQ4 := Lib.hid (bheap_gr g4 HQ3.out)
    have HZ4 := Lib.hid (bheap_gr g4 NZ.out.2)
    have ZR4 := Lib.hid (ZR.out.gr g4)
    clear g4 G3 HB3 HQ3 NZ ZR KS
    have TC := Lib.hid (show tmC t = if tmB t = true then 0 else 1 from rfl)
    generalize tmC t = tc at TC ⊢
    cases hb : tmB t with
    | false =>
      have ec : tc = 1 := by rw [TC.out, hb]; rfl
      have EX := Lib.hid (And.intro (atC_time H0.out hb) (show (1 : Int) ≠ 0 by decide))
      subst ec
      clear TC hb HB4 HZ4
      have y0 : w4.cell? ⟨q + 1, 0, none⟩ = some (.int .i64 0) := bcell_row HQ4.out rfl
      have y1 : w4.cell? ⟨q + 1, 1, none⟩ = some (.bool false) := bcell_row HQ4.out rfl
      have y2 : w4.cell? ⟨q + 1, 2, none⟩ = some (.string ⟨#[]⟩) := bcell_row HQ4.out rfl
      have f0 : w4.frozen? ⟨q + 1, 0, none⟩ = false := unfrozen HQ4.out
      have f1 : w4.frozen? ⟨q + 1, 1, none⟩ = false := unfrozen HQ4.out
      have f2 : w4.frozen? ⟨q + 1, 2, none⟩ = false := unfrozen HQ4.out
      have s0 : (((w4.setCell ⟨q + 1, 0, none⟩ (.int .i64 0)).setCell ⟨q + 1, 1, none⟩ (.bool false)).setCell ⟨q + 1, 2, none⟩ (.string ⟨#[]⟩)).cell? ⟨q + 1, 0, none⟩ = some (.int .i64 0) := bcell_row (st3 HQ4.out (.int .i64 0) (.bool false) (.string ⟨#[]⟩)) rfl
      have s1 : (((w4.setCell ⟨q + 1, 0, none⟩ (.int .i64 0)).setCell ⟨q + 1, 1, none⟩ (.bool false)).setCell ⟨q + 1, 2, none⟩ (.string ⟨#[]⟩)).cell? ⟨q + 1, 1, none⟩ = some (.bool false) := bcell_row (st3 HQ4.out (.int .i64 0) (.bool false) (.string ⟨#[]⟩)) rfl
      have s2 : (((w4.setCell ⟨q + 1, 0, none⟩ (.int .i64 0)).setCell ⟨q + 1, 1, none⟩ (.bool false)).setCell ⟨q + 1, 2, none⟩ (.string ⟨#[]⟩)).cell? ⟨q + 1, 2, none⟩ = some (.string ⟨#[]⟩) := bcell_row (st3 HQ4.out (.int .i64 0) (.bool false) (.string ⟨#[]⟩)) rfl
      go_wp2_with fail
      exact bodyPost_ret (v := .tuple #[.agg #[.int .i64 0, .bool false, .string ⟨#[]⟩], .int .i64 1]) (by simp [results, Tryz.results17, go_sem, s0, s1, s2]) rfl (atE_no EX.out.1 EX.out.2 (st3_below G4.out NQ.out (.int .i64 0) (.bool false) (.string ⟨#[]⟩)))
    | true =>
      have ec : tc = 0 := by rw [TC.out, hb]; rfl
      have AC : Hid (atC rs zs ls nm t = eraK rs zs ls (eraE es t)) := by unfold Hid; rw [← EN.out]; exact atC_era H0.out hb
      subst ec
      clear TC hb H0
      go_wp2_with fail
      refine wp_region_noPanic ?_
      refine till_start 10 (fun wx => wx.heap[q]? = some (.cells #[.slice Ar rs.length cr, .slice Az zs.length cz, .slice Al ls.length cl] 26 (0, 0)) ∧ wx.heap[qz]? = some (.cells #[.string znm, .slice zA es.length zc] 57 (0, 0))) (by kernel_rfl) ⟨HB4.out, HZ4.out⟩ (fun hHeld => ?_)
      (try dsimp only at hHeld)
      have GG0 := Lib.hid (Gr.drew w4)
      have HQ4d := Lib.hid (bheap_gr GG0.out HQ4.out)
      have G4d := Lib.hid (G4.out.trans GG0.out)
      have ZR4d := Lib.hid (ZR4.out.gr GG0.out)
      generalize w4.drew = wd at hHeld GG0 HQ4d G4d ZR4d ⊢
      clear HQ4 HB4 HZ4 GG0 ZR4
      refine till_take (i := 0) (oi := { dst := some 34, op := _, type := _, pos := _, after := _, guard := _ }) (v := ?v1) rfl (by kernel_rfl) (by kernel_rfl) (by kernel_rfl) (by kernel_rfl) (fun _ _ _ h => h) (Or.inl ⟨by rfl, ?hy1⟩) (by assumption) ?rest1
      case hy1 => (intro w hSw; have a0 := bcell_row (i := 0) hSw.1 rfl; have a1 := bcell_row (i := 1) hSw.1 rfl; have a2 := bcell_row (i := 2) hSw.1 rfl; go_simp <;> (with_reducible rfl))
      (try simp only [Act.put, List.setIfInBounds_toArray, List.set_cons_zero, List.set_cons_succ])
      refine till_take (i := 1) (oi := { dst := some 35, op := _, type := _, pos := _, after := _, guard := _ }) (v := ?v2) rfl (by kernel_rfl) (by kernel_rfl) (by kernel_rfl) (by kernel_rfl) (fun _ _ _ h => h) (Or.inl ⟨by rfl, ?hy2⟩) (by assumption) ?rest2
      case hy2 => (intro w hSw; go_simp <;> (with_reducible rfl))
      (try simp only [Act.put, List.setIfInBounds_toArray, List.set_cons_zero, List.set_cons_succ])
      refine till_take (i := 2) (oi := { dst := some 36, op := _, type := _, pos := _, after := _, guard := _ }) (v := ?v3) rfl (by kernel_rfl) (by kernel_rfl) (by kernel_rfl) (by kernel_rfl) (fun _ _ _ h => h) (Or.inl ⟨by rfl, ?hy3⟩) (by assumption) ?rest3
      case hy3 => (intro w hSw; have a1 := bcell_row (i := 1) hSw.2 rfl; go_simp <;> (with_reducible rfl))
      (try simp only [Act.put, List.setIfInBounds_toArray, List.set_cons_zero, List.set_cons_succ])
      refine till_take (i := 3) (oi := { dst := some 37, op := _, type := _, pos := _, after := _, guard := _ }) (v := ?v4) rfl (by kernel_rfl) (by kernel_rfl) (by kernel_rfl) (by kernel_rfl) (fun _ _ _ h => h) (Or.inl ⟨by rfl, ?hy4⟩) (by assumption) ?rest4
      case hy4 => (intro w hSw; go_simp <;> (with_reducible rfl))
      (try simp only [Act.put, List.setIfInBounds_toArray, List.set_cons_zero, List.set_cons_succ])
      refine till_two (i := 4) (j := 9) (by kernel_rfl) rfl rfl (fun K hK => ?_) (fun K hK => ?_)
      · go_simp
        (with_reducible refine (KE.out wd ZR4d.out).mono ?_)
        rintro e w4_5 ⟨rfl, g5⟩
        (go_wp2_with fail)
        refine hK.out _ _ (Or.inr ⟨bheap_gr g5 hHeld.1, bheap_gr g5 hHeld.2⟩) ?_
        clear hK K
        (try simp only [Act.put, List.setIfInBounds_toArray, List.set_cons_zero, List.set_cons_succ])
        have hH2 : w4_5.heap[q]? = some (.cells #[.slice Ar rs.length cr, .slice Az zs.length cz, .slice Al ls.length cl] 26 (0, 0)) ∧ w4_5.heap[qz]? = some (.cells #[.string znm, .slice zA es.length zc] 57 (0, 0)) := ⟨bheap_gr g5 hHeld.1, bheap_gr g5 hHeld.2⟩
        clear hHeld
        have hHeld := hH2
        clear hH2
        clear ZR4d
        have G6 := Lib.hid (G4d.out.trans g5)
        have HQ6 := Lib.hid (bheap_gr g5 HQ4d.out)
        clear G4d HQ4d
        clear g5
        refine till_two (i := 5) (j := 9) (by kernel_rfl) rfl rfl (fun K hK => ?_) (fun K hK => ?_)
        · go_simp
          (with_reducible refine (KW.out (eraE es t) w4_5 G6.out).mono ?_)
          rintro e w5_7 ⟨A, c, rfl, ta, g7⟩
          (go_wp2_with fail)
          refine hK.out _ _ (Or.inr ⟨bheap_gr g7 hHeld.1, bheap_gr g7 hHeld.2⟩) ?_
          clear hK K
          (try simp only [Act.put, List.setIfInBounds_toArray, List.set_cons_zero, List.set_cons_succ])
          have hH2 : w5_7.heap[q]? = some (.cells #[.slice Ar rs.length cr, .slice Az zs.length cz, .slice Al ls.length cl] 26 (0, 0)) ∧ w5_7.heap[qz]? = some (.cells #[.string znm, .slice zA es.length zc] 57 (0, 0)) := ⟨bheap_gr g7 hHeld.1, bheap_gr g7 hHeld.2⟩
          clear hHeld
          have hHeld := hH2
          clear hH2
          have G8 := Lib.hid (G6.out.trans g7)
          have HQ8 := Lib.hid (bheap_gr g7 HQ6.out)
          clear G6 HQ6
          have TA7 := Lib.hid ta
          clear g7 ta
          refine till_pure (i := 6) (oi := { dst := some 33, op := _, type := _, pos := _, after := _, guard := _ }) (v := ?v9) rfl (by kernel_rfl) (by kernel_rfl) (by kernel_rfl) (by kernel_rfl) (fun _ _ _ h => h) (Or.inl ⟨by rfl, ?hy9⟩) (by assumption) ?rest9
          case hy9 => (intro w hSw; go_simp <;> (with_reducible rfl))
          (try simp only [Act.put, List.setIfInBounds_toArray, List.set_cons_zero, List.set_cons_succ])
          refine till_pure (i := 7) (oi := { dst := some 40, op := _, type := _, pos := _, after := _, guard := _ }) (v := ?v10) rfl (by kernel_rfl) (by kernel_rfl) (by kernel_rfl) (by kernel_rfl) (fun _ _ _ h => h) (Or.inl ⟨by rfl, ?hy10⟩) (by assumption) ?rest10
          case hy10 => (intro w hSw; go_simp <;> (with_reducible rfl))
          (try simp only [Act.put, List.setIfInBounds_toArray, List.set_cons_zero, List.set_cons_succ])
          refine till_pure (i := 8) (oi := { dst := some 41, op := _, type := _, pos := _, after := _, guard := _ }) (v := ?v11) rfl (by kernel_rfl) (by kernel_rfl) (by kernel_rfl) (by kernel_rfl) (fun _ _ _ h => h) (Or.inl ⟨by rfl, ?hy11⟩) (by assumption) ?rest11
          case hy11 => (intro w hSw; go_simp <;> (with_reducible rfl))
          (try simp only [Act.put, List.setIfInBounds_toArray, List.set_cons_zero, List.set_cons_succ])
          refine till_one (i := 9) (by kernel_rfl) rfl (fun K hK => ?_)
          have NB12 := Lib.hid (box_one w5_7 (.cells #[.int .i64 0, .string ⟨#[]⟩, .int .i64 0, .string ⟨#[]⟩, .int .i64 0, .slice none 0 0] 92))
          have NE12 : Hid (q + 1 + 1 ≤ w5_7.heap.size) := (Array.getElem?_eq_some_iff.1 HQ8.out).1
          go_simp
          refine hK.out _ _ (Or.inr ⟨bheap_gr NB12.out.1 hHeld.1, bheap_gr NB12.out.1 hHeld.2⟩) ?_
          clear hK K
          (try simp only [Act.put, List.setIfInBounds_toArray, List.set_cons_zero, List.set_cons_succ])
          generalize w5_7.alloc (.cells #[.int .i64 0, .string ⟨#[]⟩, .int .i64 0, .string ⟨#[]⟩, .int .i64 0, .slice none 0 0] 92) = w9_12 at NB12 ⊢
          generalize w5_7.heap.size = qe at NB12 NE12 ⊢
          have hH2 : w9_12.heap[q]? = some (.cells #[.slice Ar rs.length cr, .slice Az zs.length cz, .slice Al ls.length cl] 26 (0, 0)) ∧ w9_12.heap[qz]? = some (.cells #[.string znm, .slice zA es.length zc] 57 (0, 0)) := ⟨bheap_gr NB12.out.1 hHeld.1, bheap_gr NB12.out.1 hHeld.2⟩
          clear hHeld
          have hHeld := hH2
          clear hH2
          have G13 := Lib.hid (G8.out.trans NB12.out.1)
          have HQ13 := Lib.hid (bheap_gr NB12.out.1 HQ8.out)
          have TA13 := Lib.hid (And.intro TA7.out.1 (TA7.out.2.gr NB12.out.1))
          clear G8 HQ8 TA7
          have E12 := Lib.hid NB12.out.2
          have NE := Lib.hid NE12.out
          clear NB12 NE12
          refine till_one (i := 10) (by kernel_rfl) rfl (fun K hK => ?_)
          have z0 : w9_12.cell? ⟨qe, 0, none⟩ = some (.int .i64 0) := bcell_row E12.out rfl
          have z1 : w9_12.cell? ⟨qe, 1, none⟩ = some (.string ⟨#[]⟩) := bcell_row E12.out rfl
          have z2 : w9_12.cell? ⟨qe, 2, none⟩ = some (.int .i64 0) := bcell_row E12.out rfl
          have z3 : w9_12.cell? ⟨qe, 3, none⟩ = some (.string ⟨#[]⟩) := bcell_row E12.out rfl
          have z4 : w9_12.cell? ⟨qe, 4, none⟩ = some (.int .i64 0) := bcell_row E12.out rfl
          have z5 : w9_12.cell? ⟨qe, 5, none⟩ = some (.slice none 0 0) := bcell_row E12.out rfl
          have fz0 : w9_12.frozen? ⟨qe, 0, none⟩ = false := unfrozen E12.out
          have fz1 : w9_12.frozen? ⟨qe, 1, none⟩ = false := unfrozen E12.out
          have fz2 : w9_12.frozen? ⟨qe, 2, none⟩ = false := unfrozen E12.out
          have fz3 : w9_12.frozen? ⟨qe, 3, none⟩ = false := unfrozen E12.out
          have fz4 : w9_12.frozen? ⟨qe, 4, none⟩ = false := unfrozen E12.out
          have fz5 : w9_12.frozen? ⟨qe, 5, none⟩ = false := unfrozen E12.out
          have FN := Lib.hid (And.intro (st6_below G13.out (Nat.le_trans QS.out (Nat.le_trans (Nat.le_add_right q 2) NE.out)) (.int .i64 (eraE es t).off) (.string (eraE es t).ru) (.int .i64 (eraE es t).sv) (.string (eraE es t).fm) (.int .i64 (eraE es t).un) (.slice A (eraT rs zs ls (eraE es t)).length c)) (And.intro ((Below.block (st6_below (Below.refl _ w9_12) NE.out (.int .i64 (eraE es t).off) (.string (eraE es t).ru) (.int .i64 (eraE es t).sv) (.string (eraE es t).fm) (.int .i64 (eraE es t).un) (.slice A (eraT rs zs ls (eraE es t)).length c)) (q + 1) (Nat.lt_succ_self _)).trans HQ13.out) (And.intro (st6 E12.out (.int .i64 (eraE es t).off) (.string (eraE es t).ru) (.int .i64 (eraE es t).sv) (.string (eraE es t).fm) (.int .i64 (eraE es t).un) (.slice A (eraT rs zs ls (eraE es t)).length c)) (And.intro TA13.out.1 (turs_out E12.out TA13.out.2 (.int .i64 (eraE es t).off) (.string (eraE es t).ru) (.int .i64 (eraE es t).sv) (.string (eraE es t).fm) (.int .i64 (eraE es t).un) (.slice A (eraT rs zs ls (eraE es t)).length c))))))
          go_simp
          clear z0 fz0 z1 fz1 z2 fz2 z3 fz3 z4 fz4 z5 fz5
          refine hK.out _ _ (Or.inl (by kernel_rfl)) ?_
          clear hK K
          (try simp only [Act.put, List.setIfInBounds_toArray, List.set_cons_zero, List.set_cons_succ])
          clear hHeld
          generalize ((((((w9_12.setCell ⟨qe, 0, none⟩ (.int .i64 (eraE es t).off)).setCell ⟨qe, 1, none⟩ (.string (eraE es t).ru)).setCell ⟨qe, 2, none⟩ (.int .i64 (eraE es t).sv)).setCell ⟨qe, 3, none⟩ (.string (eraE es t).fm)).setCell ⟨qe, 4, none⟩ (.int .i64 (eraE es t).un)).setCell ⟨qe, 5, none⟩ (.slice A (eraT rs zs ls (eraE es t)).length c)) = wf at FN ⊢
          clear G13 HQ13 E12 TA13
          refine till_one (i := 11) (by kernel_rfl) rfl (fun K hK => ?_)
          go_simp
          refine hK.out _ _ (Or.inl (by kernel_rfl)) ?_
          clear hK K
          (try simp only [Act.put, List.setIfInBounds_toArray, List.set_cons_zero, List.set_cons_succ])
          refine till_done (by kernel_rfl) ?_ _
          refine NoPanic.normal ?_
          have G5 : Hid (Gr w wf) := FN.out.1
          have HQ5 := Lib.hid FN.out.2.1
          have HE5 := Lib.hid FN.out.2.2.1
          have TA5 := Lib.hid FN.out.2.2.2
          clear FN NE
          by_cases hk : eraK rs zs ls (eraE es t) = 0
          · have EC := Lib.hid (AC.out.trans hk)
            have tk : (eraK rs zs ls (eraE es t) != 0) = false := bneF hk
            clear AC hk
            have x0 : wf.cell? ⟨qe, 0, none⟩ = some (.int .i64 (eraE es t).off) := bcell_row HE5.out rfl
            have x1 : wf.cell? ⟨qe, 1, none⟩ = some (.string (eraE es t).ru) := bcell_row HE5.out rfl
            have x2 : wf.cell? ⟨qe, 2, none⟩ = some (.int .i64 (eraE es t).sv) := bcell_row HE5.out rfl
            have x3 : wf.cell? ⟨qe, 3, none⟩ = some (.string (eraE es t).fm) := bcell_row HE5.out rfl
            have x4 : wf.cell? ⟨qe, 4, none⟩ = some (.int .i64 (eraE es t).un) := bcell_row HE5.out rfl
            have x5 : wf.cell? ⟨qe, 5, none⟩ = some (.slice A (eraT rs zs ls (eraE es t)).length c) := bcell_row HE5.out rfl
            go_wp2_with fail
            refine (savingAt_any (eraE es t) A c (eraT rs zs ls (eraE es t)) t wf TA5.out.2 LT.out RI.out).mono ?_
            rintro e w6 ⟨rfl, g6⟩
            have G6 := Lib.hid (G5.out.trans g6)
            have HQ6 := Lib.hid (bheap_gr g6 HQ5.out)
            have HE6 := Lib.hid (bheap_gr g6 HE5.out)
            clear g6 G5 HQ5 HE5 TA5 x0 x1 x2 x3 x4 x5 tk
            have x0 : w6.cell? ⟨qe, 0, none⟩ = some (.int .i64 (eraE es t).off) := bcell_row HE6.out rfl
            have x1 : w6.cell? ⟨qe, 1, none⟩ = some (.string (eraE es t).ru) := bcell_row HE6.out rfl
            have x2 : w6.cell? ⟨qe, 2, none⟩ = some (.int .i64 (eraE es t).sv) := bcell_row HE6.out rfl
            have x3 : w6.cell? ⟨qe, 3, none⟩ = some (.string (eraE es t).fm) := bcell_row HE6.out rfl
            have x4 : w6.cell? ⟨qe, 4, none⟩ = some (.int .i64 (eraE es t).un) := bcell_row HE6.out rfl
            have x5 : w6.cell? ⟨qe, 5, none⟩ = some (.slice A (eraT rs zs ls (eraE es t)).length c) := bcell_row HE6.out rfl
            go_wp2_with fail
            refine (localType_any (eraE es t).off (eraE es t).sv (eraE es t).un (savP (eraE es t) (eraT rs zs ls (eraE es t)) t).1 (eraE es t).ru (eraE es t).fm (savP (eraE es t) (eraT rs zs ls (eraE es t)) t).2 A (eraT rs zs ls (eraE es t)).length c w6 (G6.out.max HM.out) SB.out.2.2.2.2 SB.out.1 SB.out.2.1 SB.out.2.2.1 SB.out.2.2.2.1).mono ?_
            rintro e w7 ⟨rfl, g7⟩
            have G7 := Lib.hid (G6.out.trans g7)
            have HQ7 := Lib.hid (bheap_gr g7 HQ6.out)
            clear g7 G6 HQ6 HE6 x0 x1 x2 x3 x4 x5
            have y0 : w7.cell? ⟨q + 1, 0, none⟩ = some (.int .i64 0) := bcell_row HQ7.out rfl
            have y1 : w7.cell? ⟨q + 1, 1, none⟩ = some (.bool false) := bcell_row HQ7.out rfl
            have y2 : w7.cell? ⟨q + 1, 2, none⟩ = some (.string ⟨#[]⟩) := bcell_row HQ7.out rfl
            have f0 : w7.frozen? ⟨q + 1, 0, none⟩ = false := unfrozen HQ7.out
            have f1 : w7.frozen? ⟨q + 1, 1, none⟩ = false := unfrozen HQ7.out
            have f2 : w7.frozen? ⟨q + 1, 2, none⟩ = false := unfrozen HQ7.out
            have s0 : (((w7.setCell ⟨q + 1, 0, none⟩ (.int .i64 ((eraE es t).off + (savP (eraE es t) (eraT rs zs ls (eraE es t)) t).1))).setCell ⟨q + 1, 1, none⟩ (.bool (decide (0 < (savP (eraE es t) (eraT rs zs ls (eraE es t)) t).1)))).setCell ⟨q + 1, 2, none⟩ (.string (S (abbrR (eraE es t).fm.toList (savP (eraE es t) (eraT rs zs ls (eraE es t)) t).1 (savP (eraE es t) (eraT rs zs ls (eraE es t)) t).2.toList).1))).cell? ⟨q + 1, 0, none⟩ = some (.int .i64 ((eraE es t).off + (savP (eraE es t) (eraT rs zs ls (eraE es t)) t).1)) := bcell_row (st3 HQ7.out (.int .i64 ((eraE es t).off + (savP (eraE es t) (eraT rs zs ls (eraE es t)) t).1)) (.bool (decide (0 < (savP (eraE es t) (eraT rs zs ls (eraE es t)) t).1))) (.string (S (abbrR (eraE es t).fm.toList (savP (eraE es t) (eraT rs zs ls (eraE es t)) t).1 (savP (eraE es t) (eraT rs zs ls (eraE es t)) t).2.toList).1))) rfl
            have s1 : (((w7.setCell ⟨q + 1, 0, none⟩ (.int .i64 ((eraE es t).off + (savP (eraE es t) (eraT rs zs ls (eraE es t)) t).1))).setCell ⟨q + 1, 1, none⟩ (.bool (decide (0 < (savP (eraE es t) (eraT rs zs ls (eraE es t)) t).1)))).setCell ⟨q + 1, 2, none⟩ (.string (S (abbrR (eraE es t).fm.toList (savP (eraE es t) (eraT rs zs ls (eraE es t)) t).1 (savP (eraE es t) (eraT rs zs ls (eraE es t)) t).2.toList).1))).cell? ⟨q + 1, 1, none⟩ = some (.bool (decide (0 < (savP (eraE es t) (eraT rs zs ls (eraE es t)) t).1))) := bcell_row (st3 HQ7.out (.int .i64 ((eraE es t).off + (savP (eraE es t) (eraT rs zs ls (eraE es t)) t).1)) (.bool (decide (0 < (savP (eraE es t) (eraT rs zs ls (eraE es t)) t).1))) (.string (S (abbrR (eraE es t).fm.toList (savP (eraE es t) (eraT rs zs ls (eraE es t)) t).1 (savP (eraE es t) (eraT rs zs ls (eraE es t)) t).2.toList).1))) rfl
            have s2 : (((w7.setCell ⟨q + 1, 0, none⟩ (.int .i64 ((eraE es t).off + (savP (eraE es t) (eraT rs zs ls (eraE es t)) t).1))).setCell ⟨q + 1, 1, none⟩ (.bool (decide (0 < (savP (eraE es t) (eraT rs zs ls (eraE es t)) t).1)))).setCell ⟨q + 1, 2, none⟩ (.string (S (abbrR (eraE es t).fm.toList (savP (eraE es t) (eraT rs zs ls (eraE es t)) t).1 (savP (eraE es t) (eraT rs zs ls (eraE es t)) t).2.toList).1))).cell? ⟨q + 1, 2, none⟩ = some (.string (S (abbrR (eraE es t).fm.toList (savP (eraE es t) (eraT rs zs ls (eraE es t)) t).1 (savP (eraE es t) (eraT rs zs ls (eraE es t)) t).2.toList).1)) := bcell_row (st3 HQ7.out (.int .i64 ((eraE es t).off + (savP (eraE es t) (eraT rs zs ls (eraE es t)) t).1)) (.bool (decide (0 < (savP (eraE es t) (eraT rs zs ls (eraE es t)) t).1))) (.string (S (abbrR (eraE es t).fm.toList (savP (eraE es t) (eraT rs zs ls (eraE es t)) t).1 (savP (eraE es t) (eraT rs zs ls (eraE es t)) t).2.toList).1))) rfl
            go_wp2_with fail
            exact bodyPost_ret (v := .tuple #[.agg #[.int .i64 ((eraE es t).off + (savP (eraE es t) (eraT rs zs ls (eraE es t)) t).1), .bool (decide (0 < (savP (eraE es t) (eraT rs zs ls (eraE es t)) t).1)), .string (S (abbrR (eraE es t).fm.toList (savP (eraE es t) (eraT rs zs ls (eraE es t)) t).1 (savP (eraE es t) (eraT rs zs ls (eraE es t)) t).2.toList).1)], .int .i64 0]) (by simp [results, Tryz.results17, go_sem, s0, s1, s2]) rfl (atE_yes EC.out EN.out rfl (st3_below G7.out NQ.out (.int .i64 ((eraE es t).off + (savP (eraE es t) (eraT rs zs ls (eraE es t)) t).1)) (.bool (decide (0 < (savP (eraE es t) (eraT rs zs ls (eraE es t)) t).1))) (.string (S (abbrR (eraE es t).fm.toList (savP (eraE es t) (eraT rs zs ls (eraE es t)) t).1 (savP (eraE es t) (eraT rs zs ls (eraE es t)) t).2.toList).1))))
          · have EX := Lib.hid (And.intro AC.out hk)
            have tk : (eraK rs zs ls (eraE es t) != 0) = true := bneT hk
            clear AC hk HE5 TA5
            generalize eraK rs zs ls (eraE es t) = C at EX tk ⊢
            have y0 : wf.cell? ⟨q + 1, 0, none⟩ = some (.int .i64 0) := bcell_row HQ5.out rfl
            have y1 : wf.cell? ⟨q + 1, 1, none⟩ = some (.bool false) := bcell_row HQ5.out rfl
            have y2 : wf.cell? ⟨q + 1, 2, none⟩ = some (.string ⟨#[]⟩) := bcell_row HQ5.out rfl
            have f0 : wf.frozen? ⟨q + 1, 0, none⟩ = false := unfrozen HQ5.out
            have f1 : wf.frozen? ⟨q + 1, 1, none⟩ = false := unfrozen HQ5.out
            have f2 : wf.frozen? ⟨q + 1, 2, none⟩ = false := unfrozen HQ5.out
            have s0 : (((wf.setCell ⟨q + 1, 0, none⟩ (.int .i64 0)).setCell ⟨q + 1, 1, none⟩ (.bool false)).setCell ⟨q + 1, 2, none⟩ (.string ⟨#[]⟩)).cell? ⟨q + 1, 0, none⟩ = some (.int .i64 0) := bcell_row (st3 HQ5.out (.int .i64 0) (.bool false) (.string ⟨#[]⟩)) rfl
            have s1 : (((wf.setCell ⟨q + 1, 0, none⟩ (.int .i64 0)).setCell ⟨q + 1, 1, none⟩ (.bool false)).setCell ⟨q + 1, 2, none⟩ (.string ⟨#[]⟩)).cell? ⟨q + 1, 1, none⟩ = some (.bool false) := bcell_row (st3 HQ5.out (.int .i64 0) (.bool false) (.string ⟨#[]⟩)) rfl
            have s2 : (((wf.setCell ⟨q + 1, 0, none⟩ (.int .i64 0)).setCell ⟨q + 1, 1, none⟩ (.bool false)).setCell ⟨q + 1, 2, none⟩ (.string ⟨#[]⟩)).cell? ⟨q + 1, 2, none⟩ = some (.string ⟨#[]⟩) := bcell_row (st3 HQ5.out (.int .i64 0) (.bool false) (.string ⟨#[]⟩)) rfl
            go_wp2_with fail
            exact bodyPost_ret (v := .tuple #[.agg #[.int .i64 0, .bool false, .string ⟨#[]⟩], .int .i64 C]) (by simp [results, Tryz.results17, go_sem, s0, s1, s2]) rfl (atE_no EX.out.1 EX.out.2 (st3_below G5.out NQ.out (.int .i64 0) (.bool false) (.string ⟨#[]⟩)))
        · have NB16 := Lib.hid (box_one w4_5 (.cells #[.int .i64 0, .string ⟨#[]⟩, .int .i64 0, .string ⟨#[]⟩, .int .i64 0, .slice none 0 0] 92))
          have NE16 : Hid (q + 1 + 1 ≤ w4_5.heap.size) := (Array.getElem?_eq_some_iff.1 HQ6.out).1
          go_simp
          refine hK.out _ _ (Or.inr ⟨bheap_gr NB16.out.1 hHeld.1, bheap_gr NB16.out.1 hHeld.2⟩) ?_
          clear hK K
          (try simp only [Act.put, List.setIfInBounds_toArray, List.set_cons_zero, List.set_cons_succ])
          generalize w4_5.alloc (.cells #[.int .i64 0, .string ⟨#[]⟩, .int .i64 0, .string ⟨#[]⟩, .int .i64 0, .slice none 0 0] 92) = w9_16 at NB16 ⊢
          generalize w4_5.heap.size = qe at NB16 NE16 ⊢
          have hH2 : w9_16.heap[q]? = some (.cells #[.slice Ar rs.length cr, .slice Az zs.length cz, .slice Al ls.length cl] 26 (0, 0)) ∧ w9_16.heap[qz]? = some (.cells #[.string znm, .slice zA es.length zc] 57 (0, 0)) := ⟨bheap_gr NB16.out.1 hHeld.1, bheap_gr NB16.out.1 hHeld.2⟩
          clear hHeld
          have hHeld := hH2
          clear hH2
          have G17 := Lib.hid (G6.out.trans NB16.out.1)
          have HQ17 := Lib.hid (bheap_gr NB16.out.1 HQ6.out)
          clear G6 HQ6
          have E16 := Lib.hid NB16.out.2
          have NE := Lib.hid NE16.out
          clear NB16 NE16
          refine till_one (i := 5) (by kernel_rfl) rfl (fun K hK => ?_)
          go_simp
          (with_reducible refine (KW.out (eraE es t) w9_16 G17.out).mono ?_)
          rintro e w5_18 ⟨A, c, rfl, ta, g18⟩
          (go_wp2_with fail)
          refine hK.out _ _ (Or.inr ⟨bheap_gr g18 hHeld.1, bheap_gr g18 hHeld.2⟩) ?_
          clear hK K
          (try simp only [Act.put, List.setIfInBounds_toArray, List.set_cons_zero, List.set_cons_succ])
          have hH2 : w5_18.heap[q]? = some (.cells #[.slice Ar rs.length cr, .slice Az zs.length cz, .slice Al ls.length cl] 26 (0, 0)) ∧ w5_18.heap[qz]? = some (.cells #[.string znm, .slice zA es.length zc] 57 (0, 0)) := ⟨bheap_gr g18 hHeld.1, bheap_gr g18 hHeld.2⟩
          clear hHeld
          have hHeld := hH2
          clear hH2
          have G19 := Lib.hid (G17.out.trans g18)
          have HQ19 := Lib.hid (bheap_gr g18 HQ17.out)
          have E19 := Lib.hid (bheap_gr g18 E16.out)
          clear G17 HQ17 E16
          have TA18 := Lib.hid ta
          clear g18 ta
          refine till_pure (i := 6) (oi := { dst := some 33, op := _, type := _, pos := _, after := _, guard := _ }) (v := ?v20) rfl (by kernel_rfl) (by kernel_rfl) (by kernel_rfl) (by kernel_rfl) (fun _ _ _ h => h) (Or.inl ⟨by rfl, ?hy20⟩) (by assumption) ?rest20
          case hy20 => (intro w hSw; go_simp <;> (with_reducible rfl))
          (try simp only [Act.put, List.setIfInBounds_toArray, List.set_cons_zero, List.set_cons_succ])
          refine till_pure (i := 7) (oi := { dst := some 40, op := _, type := _, pos := _, after := _, guard := _ }) (v := ?v21) rfl (by kernel_rfl) (by kernel_rfl) (by kernel_rfl) (by kernel_rfl) (fun _ _ _ h => h) (Or.inl ⟨by rfl, ?hy21⟩) (by assumption) ?rest21
          case hy21 => (intro w hSw; go_simp <;> (with_reducible rfl))
          (try simp only [Act.put, List.setIfInBounds_toArray, List.set_cons_zero, List.set_cons_succ])
          refine till_pure (i := 8) (oi := { dst := some 41, op := _, type := _, pos := _, after := _, guard := _ }) (v := ?v22) rfl (by kernel_rfl) (by kernel_rfl) (by kernel_rfl) (by kernel_rfl) (fun _ _ _ h => h) (Or.inl ⟨by rfl, ?hy22⟩) (by assumption) ?rest22
          case hy22 => (intro w hSw; go_simp <;> (with_reducible rfl))
          (try simp only [Act.put, List.setIfInBounds_toArray, List.set_cons_zero, List.set_cons_succ])
          refine till_one (i := 10) (by kernel_rfl) rfl (fun K hK => ?_)
          have z0 : w5_18.cell? ⟨qe, 0, none⟩ = some (.int .i64 0) := bcell_row E19.out rfl
          have z1 : w5_18.cell? ⟨qe, 1, none⟩ = some (.string ⟨#[]⟩) := bcell_row E19.out rfl
          have z2 : w5_18.cell? ⟨qe, 2, none⟩ = some (.int .i64 0) := bcell_row E19.out rfl
          have z3 : w5_18.cell? ⟨qe, 3, none⟩ = some (.string ⟨#[]⟩) := bcell_row E19.out rfl
          have z4 : w5_18.cell? ⟨qe, 4, none⟩ = some (.int .i64 0) := bcell_row E19.out rfl
          have z5 : w5_18.cell? ⟨qe, 5, none⟩ = some (.slice none 0 0) := bcell_row E19.out rfl
          have fz0 : w5_18.frozen? ⟨qe, 0, none⟩ = false := unfrozen E19.out
          have fz1 : w5_18.frozen? ⟨qe, 1, none⟩ = false := unfrozen E19.out
          have fz2 : w5_18.frozen? ⟨qe, 2, none⟩ = false := unfrozen E19.out
          have fz3 : w5_18.frozen? ⟨qe, 3, none⟩ = false := unfrozen E19.out
          have fz4 : w5_18.frozen? ⟨qe, 4, none⟩ = false := unfrozen E19.out
          have fz5 : w5_18.frozen? ⟨qe, 5, none⟩ = false := unfrozen E19.out
          have FN := Lib.hid (And.intro (st6_below G19.out (Nat.le_trans QS.out (Nat.le_trans (Nat.le_add_right q 2) NE.out)) (.int .i64 (eraE es t).off) (.string (eraE es t).ru) (.int .i64 (eraE es t).sv) (.string (eraE es t).fm) (.int .i64 (eraE es t).un) (.slice A (eraT rs zs ls (eraE es t)).length c)) (And.intro ((Below.block (st6_below (Below.refl _ w5_18) NE.out (.int .i64 (eraE es t).off) (.string (eraE es t).ru) (.int .i64 (eraE es t).sv) (.string (eraE es t).fm) (.int .i64 (eraE es t).un) (.slice A (eraT rs zs ls (eraE es t)).length c)) (q + 1) (Nat.lt_succ_self _)).trans HQ19.out) (And.intro (st6 E19.out (.int .i64 (eraE es t).off) (.string (eraE es t).ru) (.int .i64 (eraE es t).sv) (.string (eraE es t).fm) (.int .i64 (eraE es t).un) (.slice A (eraT rs zs ls (eraE es t)).length c)) (And.intro TA18.out.1 (turs_out E19.out TA18.out.2 (.int .i64 (eraE es t).off) (.string (eraE es t).ru) (.int .i64 (eraE es t).sv) (.string (eraE es t).fm) (.int .i64 (eraE es t).un) (.slice A (eraT rs zs ls (eraE es t)).length c))))))
          go_simp
          clear z0 fz0 z1 fz1 z2 fz2 z3 fz3 z4 fz4 z5 fz5
          refine hK.out _ _ (Or.inl (by kernel_rfl)) ?_
          clear hK K
          (try simp only [Act.put, List.setIfInBounds_toArray, List.set_cons_zero, List.set_cons_succ])
          clear hHeld
          generalize ((((((w5_18.setCell ⟨qe, 0, none⟩ (.int .i64 (eraE es t).off)).setCell ⟨qe, 1, none⟩ (.string (eraE es t).ru)).setCell ⟨qe, 2, none⟩ (.int .i64 (eraE es t).sv)).setCell ⟨qe, 3, none⟩ (.string (eraE es t).fm)).setCell ⟨qe, 4, none⟩ (.int .i64 (eraE es t).un)).setCell ⟨qe, 5, none⟩ (.slice A (eraT rs zs ls (eraE es t)).length c)) = wf at FN ⊢
          clear G19 HQ19 E19 TA18
          refine till_one (i := 11) (by kernel_rfl) rfl (fun K hK => ?_)
          go_simp
          refine hK.out _ _ (Or.inl (by kernel_rfl)) ?_
          clear hK K
          (try simp only [Act.put, List.setIfInBounds_toArray, List.set_cons_zero, List.set_cons_succ])
          refine till_done (by kernel_rfl) ?_ _
          refine NoPanic.normal ?_
          have G5 : Hid (Gr w wf) := FN.out.1
          have HQ5 := Lib.hid FN.out.2.1
          have HE5 := Lib.hid FN.out.2.2.1
          have TA5 := Lib.hid FN.out.2.2.2
          clear FN NE
          by_cases hk : eraK rs zs ls (eraE es t) = 0
          · have EC := Lib.hid (AC.out.trans hk)
            have tk : (eraK rs zs ls (eraE es t) != 0) = false := bneF hk
            clear AC hk
            have x0 : wf.cell? ⟨qe, 0, none⟩ = some (.int .i64 (eraE es t).off) := bcell_row HE5.out rfl
            have x1 : wf.cell? ⟨qe, 1, none⟩ = some (.string (eraE es t).ru) := bcell_row HE5.out rfl
            have x2 : wf.cell? ⟨qe, 2, none⟩ = some (.int .i64 (eraE es t).sv) := bcell_row HE5.out rfl
            have x3 : wf.cell? ⟨qe, 3, none⟩ = some (.string (eraE es t).fm) := bcell_row HE5.out rfl
            have x4 : wf.cell? ⟨qe, 4, none⟩ = some (.int .i64 (eraE es t).un) := bcell_row HE5.out rfl
            have x5 : wf.cell? ⟨qe, 5, none⟩ = some (.slice A (eraT rs zs ls (eraE es t)).length c) := bcell_row HE5.out rfl
            go_wp2_with fail
            refine (savingAt_any (eraE es t) A c (eraT rs zs ls (eraE es t)) t wf TA5.out.2 LT.out RI.out).mono ?_
            rintro e w6 ⟨rfl, g6⟩
            have G6 := Lib.hid (G5.out.trans g6)
            have HQ6 := Lib.hid (bheap_gr g6 HQ5.out)
            have HE6 := Lib.hid (bheap_gr g6 HE5.out)
            clear g6 G5 HQ5 HE5 TA5 x0 x1 x2 x3 x4 x5 tk
            have x0 : w6.cell? ⟨qe, 0, none⟩ = some (.int .i64 (eraE es t).off) := bcell_row HE6.out rfl
            have x1 : w6.cell? ⟨qe, 1, none⟩ = some (.string (eraE es t).ru) := bcell_row HE6.out rfl
            have x2 : w6.cell? ⟨qe, 2, none⟩ = some (.int .i64 (eraE es t).sv) := bcell_row HE6.out rfl
            have x3 : w6.cell? ⟨qe, 3, none⟩ = some (.string (eraE es t).fm) := bcell_row HE6.out rfl
            have x4 : w6.cell? ⟨qe, 4, none⟩ = some (.int .i64 (eraE es t).un) := bcell_row HE6.out rfl
            have x5 : w6.cell? ⟨qe, 5, none⟩ = some (.slice A (eraT rs zs ls (eraE es t)).length c) := bcell_row HE6.out rfl
            go_wp2_with fail
            refine (localType_any (eraE es t).off (eraE es t).sv (eraE es t).un (savP (eraE es t) (eraT rs zs ls (eraE es t)) t).1 (eraE es t).ru (eraE es t).fm (savP (eraE es t) (eraT rs zs ls (eraE es t)) t).2 A (eraT rs zs ls (eraE es t)).length c w6 (G6.out.max HM.out) SB.out.2.2.2.2 SB.out.1 SB.out.2.1 SB.out.2.2.1 SB.out.2.2.2.1).mono ?_
            rintro e w7 ⟨rfl, g7⟩
            have G7 := Lib.hid (G6.out.trans g7)
            have HQ7 := Lib.hid (bheap_gr g7 HQ6.out)
            clear g7 G6 HQ6 HE6 x0 x1 x2 x3 x4 x5
            have y0 : w7.cell? ⟨q + 1, 0, none⟩ = some (.int .i64 0) := bcell_row HQ7.out rfl
            have y1 : w7.cell? ⟨q + 1, 1, none⟩ = some (.bool false) := bcell_row HQ7.out rfl
            have y2 : w7.cell? ⟨q + 1, 2, none⟩ = some (.string ⟨#[]⟩) := bcell_row HQ7.out rfl
            have f0 : w7.frozen? ⟨q + 1, 0, none⟩ = false := unfrozen HQ7.out
            have f1 : w7.frozen? ⟨q + 1, 1, none⟩ = false := unfrozen HQ7.out
            have f2 : w7.frozen? ⟨q + 1, 2, none⟩ = false := unfrozen HQ7.out
            have s0 : (((w7.setCell ⟨q + 1, 0, none⟩ (.int .i64 ((eraE es t).off + (savP (eraE es t) (eraT rs zs ls (eraE es t)) t).1))).setCell ⟨q + 1, 1, none⟩ (.bool (decide (0 < (savP (eraE es t) (eraT rs zs ls (eraE es t)) t).1)))).setCell ⟨q + 1, 2, none⟩ (.string (S (abbrR (eraE es t).fm.toList (savP (eraE es t) (eraT rs zs ls (eraE es t)) t).1 (savP (eraE es t) (eraT rs zs ls (eraE es t)) t).2.toList).1))).cell? ⟨q + 1, 0, none⟩ = some (.int .i64 ((eraE es t).off + (savP (eraE es t) (eraT rs zs ls (eraE es t)) t).1)) := bcell_row (st3 HQ7.out (.int .i64 ((eraE es t).off + (savP (eraE es t) (eraT rs zs ls (eraE es t)) t).1)) (.bool (decide (0 < (savP (eraE es t) (eraT rs zs ls (eraE es t)) t).1))) (.string (S (abbrR (eraE es t).fm.toList (savP (eraE es t) (eraT rs zs ls (eraE es t)) t).1 (savP (eraE es t) (eraT rs zs ls (eraE es t)) t).2.toList).1))) rfl
            have s1 : (((w7.setCell ⟨q + 1, 0, none⟩ (.int .i64 ((eraE es t).off + (savP (eraE es t) (eraT rs zs ls (eraE es t)) t).1))).setCell ⟨q + 1, 1, none⟩ (.bool (decide (0 < (savP (eraE es t) (eraT rs zs ls (eraE es t)) t).1)))).setCell ⟨q + 1, 2, none⟩ (.string (S (abbrR (eraE es t).fm.toList (savP (eraE es t) (eraT rs zs ls (eraE es t)) t).1 (savP (eraE es t) (eraT rs zs ls (eraE es t)) t).2.toList).1))).cell? ⟨q + 1, 1, none⟩ = some (.bool (decide (0 < (savP (eraE es t) (eraT rs zs ls (eraE es t)) t).1))) := bcell_row (st3 HQ7.out (.int .i64 ((eraE es t).off + (savP (eraE es t) (eraT rs zs ls (eraE es t)) t).1)) (.bool (decide (0 < (savP (eraE es t) (eraT rs zs ls (eraE es t)) t).1))) (.string (S (abbrR (eraE es t).fm.toList (savP (eraE es t) (eraT rs zs ls (eraE es t)) t).1 (savP (eraE es t) (eraT rs zs ls (eraE es t)) t).2.toList).1))) rfl
            have s2 : (((w7.setCell ⟨q + 1, 0, none⟩ (.int .i64 ((eraE es t).off + (savP (eraE es t) (eraT rs zs ls (eraE es t)) t).1))).setCell ⟨q + 1, 1, none⟩ (.bool (decide (0 < (savP (eraE es t) (eraT rs zs ls (eraE es t)) t).1)))).setCell ⟨q + 1, 2, none⟩ (.string (S (abbrR (eraE es t).fm.toList (savP (eraE es t) (eraT rs zs ls (eraE es t)) t).1 (savP (eraE es t) (eraT rs zs ls (eraE es t)) t).2.toList).1))).cell? ⟨q + 1, 2, none⟩ = some (.string (S (abbrR (eraE es t).fm.toList (savP (eraE es t) (eraT rs zs ls (eraE es t)) t).1 (savP (eraE es t) (eraT rs zs ls (eraE es t)) t).2.toList).1)) := bcell_row (st3 HQ7.out (.int .i64 ((eraE es t).off + (savP (eraE es t) (eraT rs zs ls (eraE es t)) t).1)) (.bool (decide (0 < (savP (eraE es t) (eraT rs zs ls (eraE es t)) t).1))) (.string (S (abbrR (eraE es t).fm.toList (savP (eraE es t) (eraT rs zs ls (eraE es t)) t).1 (savP (eraE es t) (eraT rs zs ls (eraE es t)) t).2.toList).1))) rfl
            go_wp2_with fail
            exact bodyPost_ret (v := .tuple #[.agg #[.int .i64 ((eraE es t).off + (savP (eraE es t) (eraT rs zs ls (eraE es t)) t).1), .bool (decide (0 < (savP (eraE es t) (eraT rs zs ls (eraE es t)) t).1)), .string (S (abbrR (eraE es t).fm.toList (savP (eraE es t) (eraT rs zs ls (eraE es t)) t).1 (savP (eraE es t) (eraT rs zs ls (eraE es t)) t).2.toList).1)], .int .i64 0]) (by simp [results, Tryz.results17, go_sem, s0, s1, s2]) rfl (atE_yes EC.out EN.out rfl (st3_below G7.out NQ.out (.int .i64 ((eraE es t).off + (savP (eraE es t) (eraT rs zs ls (eraE es t)) t).1)) (.bool (decide (0 < (savP (eraE es t) (eraT rs zs ls (eraE es t)) t).1))) (.string (S (abbrR (eraE es t).fm.toList (savP (eraE es t) (eraT rs zs ls (eraE es t)) t).1 (savP (eraE es t) (eraT rs zs ls (eraE es t)) t).2.toList).1))))
          · have EX := Lib.hid (And.intro AC.out hk)
            have tk : (eraK rs zs ls (eraE es t) != 0) = true := bneT hk
            clear AC hk HE5 TA5
            generalize eraK rs zs ls (eraE es t) = C at EX tk ⊢
            have y0 : wf.cell? ⟨q + 1, 0, none⟩ = some (.int .i64 0) := bcell_row HQ5.out rfl
            have y1 : wf.cell? ⟨q + 1, 1, none⟩ = some (.bool false) := bcell_row HQ5.out rfl
            have y2 : wf.cell? ⟨q + 1, 2, none⟩ = some (.string ⟨#[]⟩) := bcell_row HQ5.out rfl
            have f0 : wf.frozen? ⟨q + 1, 0, none⟩ = false := unfrozen HQ5.out
            have f1 : wf.frozen? ⟨q + 1, 1, none⟩ = false := unfrozen HQ5.out
            have f2 : wf.frozen? ⟨q + 1, 2, none⟩ = false := unfrozen HQ5.out
            have s0 : (((wf.setCell ⟨q + 1, 0, none⟩ (.int .i64 0)).setCell ⟨q + 1, 1, none⟩ (.bool false)).setCell ⟨q + 1, 2, none⟩ (.string ⟨#[]⟩)).cell? ⟨q + 1, 0, none⟩ = some (.int .i64 0) := bcell_row (st3 HQ5.out (.int .i64 0) (.bool false) (.string ⟨#[]⟩)) rfl
            have s1 : (((wf.setCell ⟨q + 1, 0, none⟩ (.int .i64 0)).setCell ⟨q + 1, 1, none⟩ (.bool false)).setCell ⟨q + 1, 2, none⟩ (.string ⟨#[]⟩)).cell? ⟨q + 1, 1, none⟩ = some (.bool false) := bcell_row (st3 HQ5.out (.int .i64 0) (.bool false) (.string ⟨#[]⟩)) rfl
            have s2 : (((wf.setCell ⟨q + 1, 0, none⟩ (.int .i64 0)).setCell ⟨q + 1, 1, none⟩ (.bool false)).setCell ⟨q + 1, 2, none⟩ (.string ⟨#[]⟩)).cell? ⟨q + 1, 2, none⟩ = some (.string ⟨#[]⟩) := bcell_row (st3 HQ5.out (.int .i64 0) (.bool false) (.string ⟨#[]⟩)) rfl
            go_wp2_with fail
            exact bodyPost_ret (v := .tuple #[.agg #[.int .i64 0, .bool false, .string ⟨#[]⟩], .int .i64 C]) (by simp [results, Tryz.results17, go_sem, s0, s1, s2]) rfl (atE_no EX.out.1 EX.out.2 (st3_below G5.out NQ.out (.int .i64 0) (.bool false) (.string ⟨#[]⟩)))
      · have NB25 := Lib.hid (box_one wd (.cells #[.int .i64 0, .string ⟨#[]⟩, .int .i64 0, .string ⟨#[]⟩, .int .i64 0, .slice none 0 0] 92))
        have NE25 : Hid (q + 1 + 1 ≤ wd.heap.size) := (Array.getElem?_eq_some_iff.1 HQ4d.out).1
        go_simp
        refine hK.out _ _ (Or.inr ⟨bheap_gr NB25.out.1 hHeld.1, bheap_gr NB25.out.1 hHeld.2⟩) ?_
        clear hK K
        (try simp only [Act.put, List.setIfInBounds_toArray, List.set_cons_zero, List.set_cons_succ])
        generalize wd.alloc (.cells #[.int .i64 0, .string ⟨#[]⟩, .int .i64 0, .string ⟨#[]⟩, .int .i64 0, .slice none 0 0] 92) = w9_25 at NB25 ⊢
        generalize wd.heap.size = qe at NB25 NE25 ⊢
        have hH2 : w9_25.heap[q]? = some (.cells #[.slice Ar rs.length cr, .slice Az zs.length cz, .slice Al ls.length cl] 26 (0, 0)) ∧ w9_25.heap[qz]? = some (.cells #[.string znm, .slice zA es.length zc] 57 (0, 0)) := ⟨bheap_gr NB25.out.1 hHeld.1, bheap_gr NB25.out.1 hHeld.2⟩
        clear hHeld
        have hHeld := hH2
        clear hH2
        have G26 := Lib.hid (G4d.out.trans NB25.out.1)
        have HQ26 := Lib.hid (bheap_gr NB25.out.1 HQ4d.out)
        have R26 := Lib.hid (ZR4d.out.gr NB25.out.1)
        clear G4d HQ4d ZR4d
        have E25 := Lib.hid NB25.out.2
        have NE := Lib.hid NE25.out
        clear NB25 NE25
        refine till_one (i := 4) (by kernel_rfl) rfl (fun K hK => ?_)
        go_simp
        (with_reducible refine (KE.out w9_25 R26.out).mono ?_)
        rintro e w4_27 ⟨rfl, g27⟩
        (go_wp2_with fail)
        refine hK.out _ _ (Or.inr ⟨bheap_gr g27 hHeld.1, bheap_gr g27 hHeld.2⟩) ?_
        clear hK K
        (try simp only [Act.put, List.setIfInBounds_toArray, List.set_cons_zero, List.set_cons_succ])
        have hH2 : w4_27.heap[q]? = some (.cells #[.slice Ar rs.length cr, .slice Az zs.length cz, .slice Al ls.length cl] 26 (0, 0)) ∧ w4_27.heap[qz]? = some (.cells #[.string znm, .slice zA es.length zc] 57 (0, 0)) := ⟨bheap_gr g27 hHeld.1, bheap_gr g27 hHeld.2⟩
        clear hHeld
        have hHeld := hH2
        clear hH2
        clear R26
        have G28 := Lib.hid (G26.out.trans g27)
        have HQ28 := Lib.hid (bheap_gr g27 HQ26.out)
        have E28 := Lib.hid (bheap_gr g27 E25.out)
        clear G26 HQ26 E25
        clear g27
        refine till_one (i := 5) (by kernel_rfl) rfl (fun K hK => ?_)
        go_simp
        (with_reducible refine (KW.out (eraE es t) w4_27 G28.out).mono ?_)
        rintro e w5_29 ⟨A, c, rfl, ta, g29⟩
        (go_wp2_with fail)
        refine hK.out _ _ (Or.inr ⟨bheap_gr g29 hHeld.1, bheap_gr g29 hHeld.2⟩) ?_
        clear hK K
        (try simp only [Act.put, List.setIfInBounds_toArray, List.set_cons_zero, List.set_cons_succ])
        have hH2 : w5_29.heap[q]? = some (.cells #[.slice Ar rs.length cr, .slice Az zs.length cz, .slice Al ls.length cl] 26 (0, 0)) ∧ w5_29.heap[qz]? = some (.cells #[.string znm, .slice zA es.length zc] 57 (0, 0)) := ⟨bheap_gr g29 hHeld.1, bheap_gr g29 hHeld.2⟩
        clear hHeld
        have hHeld := hH2
        clear hH2
        have G30 := Lib.hid (G28.out.trans g29)
        have HQ30 := Lib.hid (bheap_gr g29 HQ28.out)
        have E30 := Lib.hid (bheap_gr g29 E28.out)
        clear G28 HQ28 E28
        have TA29 := Lib.hid ta
        clear g29 ta
        refine till_pure (i := 6) (oi := { dst := some 33, op := _, type := _, pos := _, after := _, guard := _ }) (v := ?v31) rfl (by kernel_rfl) (by kernel_rfl) (by kernel_rfl) (by kernel_rfl) (fun _ _ _ h => h) (Or.inl ⟨by rfl, ?hy31⟩) (by assumption) ?rest31
        case hy31 => (intro w hSw; go_simp <;> (with_reducible rfl))
        (try simp only [Act.put, List.setIfInBounds_toArray, List.set_cons_zero, List.set_cons_succ])
        refine till_pure (i := 7) (oi := { dst := some 40, op := _, type := _, pos := _, after := _, guard := _ }) (v := ?v32) rfl (by kernel_rfl) (by kernel_rfl) (by kernel_rfl) (by kernel_rfl) (fun _ _ _ h => h) (Or.inl ⟨by rfl, ?hy32⟩) (by assumption) ?rest32
        case hy32 => (intro w hSw; go_simp <;> (with_reducible rfl))
        (try simp only [Act.put, List.setIfInBounds_toArray, List.set_cons_zero, List.set_cons_succ])
        refine till_pure (i := 8) (oi := { dst := some 41, op := _, type := _, pos := _, after := _, guard := _ }) (v := ?v33) rfl (by kernel_rfl) (by kernel_rfl) (by kernel_rfl) (by kernel_rfl) (fun _ _ _ h => h) (Or.inl ⟨by rfl, ?hy33⟩) (by assumption) ?rest33
        case hy33 => (intro w hSw; go_simp <;> (with_reducible rfl))
        (try simp only [Act.put, List.setIfInBounds_toArray, List.set_cons_zero, List.set_cons_succ])
        refine till_one (i := 10) (by kernel_rfl) rfl (fun K hK => ?_)
        have z0 : w5_29.cell? ⟨qe, 0, none⟩ = some (.int .i64 0) := bcell_row E30.out rfl
        have z1 : w5_29.cell? ⟨qe, 1, none⟩ = some (.string ⟨#[]⟩) := bcell_row E30.out rfl
        have z2 : w5_29.cell? ⟨qe, 2, none⟩ = some (.int .i64 0) := bcell_row E30.out rfl
        have z3 : w5_29.cell? ⟨qe, 3, none⟩ = some (.string ⟨#[]⟩) := bcell_row E30.out rfl
        have z4 : w5_29.cell? ⟨qe, 4, none⟩ = some (.int .i64 0) := bcell_row E30.out rfl
        have z5 : w5_29.cell? ⟨qe, 5, none⟩ = some (.slice none 0 0) := bcell_row E30.out rfl
        have fz0 : w5_29.frozen? ⟨qe, 0, none⟩ = false := unfrozen E30.out
        have fz1 : w5_29.frozen? ⟨qe, 1, none⟩ = false := unfrozen E30.out
        have fz2 : w5_29.frozen? ⟨qe, 2, none⟩ = false := unfrozen E30.out
        have fz3 : w5_29.frozen? ⟨qe, 3, none⟩ = false := unfrozen E30.out
        have fz4 : w5_29.frozen? ⟨qe, 4, none⟩ = false := unfrozen E30.out
        have fz5 : w5_29.frozen? ⟨qe, 5, none⟩ = false := unfrozen E30.out
        have FN := Lib.hid (And.intro (st6_below G30.out (Nat.le_trans QS.out (Nat.le_trans (Nat.le_add_right q 2) NE.out)) (.int .i64 (eraE es t).off) (.string (eraE es t).ru) (.int .i64 (eraE es t).sv) (.string (eraE es t).fm) (.int .i64 (eraE es t).un) (.slice A (eraT rs zs ls (eraE es t)).length c)) (And.intro ((Below.block (st6_below (Below.refl _ w5_29) NE.out (.int .i64 (eraE es t).off) (.string (eraE es t).ru) (.int .i64 (eraE es t).sv) (.string (eraE es t).fm) (.int .i64 (eraE es t).un) (.slice A (eraT rs zs ls (eraE es t)).length c)) (q + 1) (Nat.lt_succ_self _)).trans HQ30.out) (And.intro (st6 E30.out (.int .i64 (eraE es t).off) (.string (eraE es t).ru) (.int .i64 (eraE es t).sv) (.string (eraE es t).fm) (.int .i64 (eraE es t).un) (.slice A (eraT rs zs ls (eraE es t)).length c)) (And.intro TA29.out.1 (turs_out E30.out TA29.out.2 (.int .i64 (eraE es t).off) (.string (eraE es t).ru) (.int .i64 (eraE es t).sv) (.string (eraE es t).fm) (.int .i64 (eraE es t).un) (.slice A (eraT rs zs ls (eraE es t)).length c))))))
        go_simp
        clear z0 fz0 z1 fz1 z2 fz2 z3 fz3 z4 fz4 z5 fz5
        refine hK.out _ _ (Or.inl (by kernel_rfl)) ?_
        clear hK K
        (try simp only [Act.put, List.setIfInBounds_toArray, List.set_cons_zero, List.set_cons_succ])
        clear hHeld
        generalize ((((((w5_29.setCell ⟨qe, 0, none⟩ (.int .i64 (eraE es t).off)).setCell ⟨qe, 1, none⟩ (.string (eraE es t).ru)).setCell ⟨qe, 2, none⟩ (.int .i64 (eraE es t).sv)).setCell ⟨qe, 3, none⟩ (.string (eraE es t).fm)).setCell ⟨qe, 4, none⟩ (.int .i64 (eraE es t).un)).setCell ⟨qe, 5, none⟩ (.slice A (eraT rs zs ls (eraE es t)).length c)) = wf at FN ⊢
        clear G30 HQ30 E30 TA29
        refine till_one (i := 11) (by kernel_rfl) rfl (fun K hK => ?_)
        go_simp
        refine hK.out _ _ (Or.inl (by kernel_rfl)) ?_
        clear hK K
        (try simp only [Act.put, List.setIfInBounds_toArray, List.set_cons_zero, List.set_cons_succ])
        refine till_done (by kernel_rfl) ?_ _
        refine NoPanic.normal ?_
        have G5 : Hid (Gr w wf) := FN.out.1
        have HQ5 := Lib.hid FN.out.2.1
        have HE5 := Lib.hid FN.out.2.2.1
        have TA5 := Lib.hid FN.out.2.2.2
        clear FN NE
        by_cases hk : eraK rs zs ls (eraE es t) = 0
        · have EC := Lib.hid (AC.out.trans hk)
          have tk : (eraK rs zs ls (eraE es t) != 0) = false := bneF hk
          clear AC hk
          have x0 : wf.cell? ⟨qe, 0, none⟩ = some (.int .i64 (eraE es t).off) := bcell_row HE5.out rfl
          have x1 : wf.cell? ⟨qe, 1, none⟩ = some (.string (eraE es t).ru) := bcell_row HE5.out rfl
          have x2 : wf.cell? ⟨qe, 2, none⟩ = some (.int .i64 (eraE es t).sv) := bcell_row HE5.out rfl
          have x3 : wf.cell? ⟨qe, 3, none⟩ = some (.string (eraE es t).fm) := bcell_row HE5.out rfl
          have x4 : wf.cell? ⟨qe, 4, none⟩ = some (.int .i64 (eraE es t).un) := bcell_row HE5.out rfl
          have x5 : wf.cell? ⟨qe, 5, none⟩ = some (.slice A (eraT rs zs ls (eraE es t)).length c) := bcell_row HE5.out rfl
          go_wp2_with fail
          refine (savingAt_any (eraE es t) A c (eraT rs zs ls (eraE es t)) t wf TA5.out.2 LT.out RI.out).mono ?_
          rintro e w6 ⟨rfl, g6⟩
          have G6 := Lib.hid (G5.out.trans g6)
          have HQ6 := Lib.hid (bheap_gr g6 HQ5.out)
          have HE6 := Lib.hid (bheap_gr g6 HE5.out)
          clear g6 G5 HQ5 HE5 TA5 x0 x1 x2 x3 x4 x5 tk
          have x0 : w6.cell? ⟨qe, 0, none⟩ = some (.int .i64 (eraE es t).off) := bcell_row HE6.out rfl
          have x1 : w6.cell? ⟨qe, 1, none⟩ = some (.string (eraE es t).ru) := bcell_row HE6.out rfl
          have x2 : w6.cell? ⟨qe, 2, none⟩ = some (.int .i64 (eraE es t).sv) := bcell_row HE6.out rfl
          have x3 : w6.cell? ⟨qe, 3, none⟩ = some (.string (eraE es t).fm) := bcell_row HE6.out rfl
          have x4 : w6.cell? ⟨qe, 4, none⟩ = some (.int .i64 (eraE es t).un) := bcell_row HE6.out rfl
          have x5 : w6.cell? ⟨qe, 5, none⟩ = some (.slice A (eraT rs zs ls (eraE es t)).length c) := bcell_row HE6.out rfl
          go_wp2_with fail
          refine (localType_any (eraE es t).off (eraE es t).sv (eraE es t).un (savP (eraE es t) (eraT rs zs ls (eraE es t)) t).1 (eraE es t).ru (eraE es t).fm (savP (eraE es t) (eraT rs zs ls (eraE es t)) t).2 A (eraT rs zs ls (eraE es t)).length c w6 (G6.out.max HM.out) SB.out.2.2.2.2 SB.out.1 SB.out.2.1 SB.out.2.2.1 SB.out.2.2.2.1).mono ?_
          rintro e w7 ⟨rfl, g7⟩
          have G7 := Lib.hid (G6.out.trans g7)
          have HQ7 := Lib.hid (bheap_gr g7 HQ6.out)
          clear g7 G6 HQ6 HE6 x0 x1 x2 x3 x4 x5
          have y0 : w7.cell? ⟨q + 1, 0, none⟩ = some (.int .i64 0) := bcell_row HQ7.out rfl
          have y1 : w7.cell? ⟨q + 1, 1, none⟩ = some (.bool false) := bcell_row HQ7.out rfl
          have y2 : w7.cell? ⟨q + 1, 2, none⟩ = some (.string ⟨#[]⟩) := bcell_row HQ7.out rfl
          have f0 : w7.frozen? ⟨q + 1, 0, none⟩ = false := unfrozen HQ7.out
          have f1 : w7.frozen? ⟨q + 1, 1, none⟩ = false := unfrozen HQ7.out
          have f2 : w7.frozen? ⟨q + 1, 2, none⟩ = false := unfrozen HQ7.out
          have s0 : (((w7.setCell ⟨q + 1, 0, none⟩ (.int .i64 ((eraE es t).off + (savP (eraE es t) (eraT rs zs ls (eraE es t)) t).1))).setCell ⟨q + 1, 1, none⟩ (.bool (decide (0 < (savP (eraE es t) (eraT rs zs ls (eraE es t)) t).1)))).setCell ⟨q + 1, 2, none⟩ (.string (S (abbrR (eraE es t).fm.toList (savP (eraE es t) (eraT rs zs ls (eraE es t)) t).1 (savP (eraE es t) (eraT rs zs ls (eraE es t)) t).2.toList).1))).cell? ⟨q + 1, 0, none⟩ = some (.int .i64 ((eraE es t).off + (savP (eraE es t) (eraT rs zs ls (eraE es t)) t).1)) := bcell_row (st3 HQ7.out (.int .i64 ((eraE es t).off + (savP (eraE es t) (eraT rs zs ls (eraE es t)) t).1)) (.bool (decide (0 < (savP (eraE es t) (eraT rs zs ls (eraE es t)) t).1))) (.string (S (abbrR (eraE es t).fm.toList (savP (eraE es t) (eraT rs zs ls (eraE es t)) t).1 (savP (eraE es t) (eraT rs zs ls (eraE es t)) t).2.toList).1))) rfl
          have s1 : (((w7.setCell ⟨q + 1, 0, none⟩ (.int .i64 ((eraE es t).off + (savP (eraE es t) (eraT rs zs ls (eraE es t)) t).1))).setCell ⟨q + 1, 1, none⟩ (.bool (decide (0 < (savP (eraE es t) (eraT rs zs ls (eraE es t)) t).1)))).setCell ⟨q + 1, 2, none⟩ (.string (S (abbrR (eraE es t).fm.toList (savP (eraE es t) (eraT rs zs ls (eraE es t)) t).1 (savP (eraE es t) (eraT rs zs ls (eraE es t)) t).2.toList).1))).cell? ⟨q + 1, 1, none⟩ = some (.bool (decide (0 < (savP (eraE es t) (eraT rs zs ls (eraE es t)) t).1))) := bcell_row (st3 HQ7.out (.int .i64 ((eraE es t).off + (savP (eraE es t) (eraT rs zs ls (eraE es t)) t).1)) (.bool (decide (0 < (savP (eraE es t) (eraT rs zs ls (eraE es t)) t).1))) (.string (S (abbrR (eraE es t).fm.toList (savP (eraE es t) (eraT rs zs ls (eraE es t)) t).1 (savP (eraE es t) (eraT rs zs ls (eraE es t)) t).2.toList).1))) rfl
          have s2 : (((w7.setCell ⟨q + 1, 0, none⟩ (.int .i64 ((eraE es t).off + (savP (eraE es t) (eraT rs zs ls (eraE es t)) t).1))).setCell ⟨q + 1, 1, none⟩ (.bool (decide (0 < (savP (eraE es t) (eraT rs zs ls (eraE es t)) t).1)))).setCell ⟨q + 1, 2, none⟩ (.string (S (abbrR (eraE es t).fm.toList (savP (eraE es t) (eraT rs zs ls (eraE es t)) t).1 (savP (eraE es t) (eraT rs zs ls (eraE es t)) t).2.toList).1))).cell? ⟨q + 1, 2, none⟩ = some (.string (S (abbrR (eraE es t).fm.toList (savP (eraE es t) (eraT rs zs ls (eraE es t)) t).1 (savP (eraE es t) (eraT rs zs ls (eraE es t)) t).2.toList).1)) := bcell_row (st3 HQ7.out (.int .i64 ((eraE es t).off + (savP (eraE es t) (eraT rs zs ls (eraE es t)) t).1)) (.bool (decide (0 < (savP (eraE es t) (eraT rs zs ls (eraE es t)) t).1))) (.string (S (abbrR (eraE es t).fm.toList (savP (eraE es t) (eraT rs zs ls (eraE es t)) t).1 (savP (eraE es t) (eraT rs zs ls (eraE es t)) t).2.toList).1))) rfl
          go_wp2_with fail
          exact bodyPost_ret (v := .tuple #[.agg #[.int .i64 ((eraE es t).off + (savP (eraE es t) (eraT rs zs ls (eraE es t)) t).1), .bool (decide (0 < (savP (eraE es t) (eraT rs zs ls (eraE es t)) t).1)), .string (S (abbrR (eraE es t).fm.toList (savP (eraE es t) (eraT rs zs ls (eraE es t)) t).1 (savP (eraE es t) (eraT rs zs ls (eraE es t)) t).2.toList).1)], .int .i64 0]) (by simp [results, Tryz.results17, go_sem, s0, s1, s2]) rfl (atE_yes EC.out EN.out rfl (st3_below G7.out NQ.out (.int .i64 ((eraE es t).off + (savP (eraE es t) (eraT rs zs ls (eraE es t)) t).1)) (.bool (decide (0 < (savP (eraE es t) (eraT rs zs ls (eraE es t)) t).1))) (.string (S (abbrR (eraE es t).fm.toList (savP (eraE es t) (eraT rs zs ls (eraE es t)) t).1 (savP (eraE es t) (eraT rs zs ls (eraE es t)) t).2.toList).1))))
        · have EX := Lib.hid (And.intro AC.out hk)
          have tk : (eraK rs zs ls (eraE es t) != 0) = true := bneT hk
          clear AC hk HE5 TA5
          generalize eraK rs zs ls (eraE es t) = C at EX tk ⊢
          have y0 : wf.cell? ⟨q + 1, 0, none⟩ = some (.int .i64 0) := bcell_row HQ5.out rfl
          have y1 : wf.cell? ⟨q + 1, 1, none⟩ = some (.bool false) := bcell_row HQ5.out rfl
          have y2 : wf.cell? ⟨q + 1, 2, none⟩ = some (.string ⟨#[]⟩) := bcell_row HQ5.out rfl
          have f0 : wf.frozen? ⟨q + 1, 0, none⟩ = false := unfrozen HQ5.out
          have f1 : wf.frozen? ⟨q + 1, 1, none⟩ = false := unfrozen HQ5.out
          have f2 : wf.frozen? ⟨q + 1, 2, none⟩ = false := unfrozen HQ5.out
          have s0 : (((wf.setCell ⟨q + 1, 0, none⟩ (.int .i64 0)).setCell ⟨q + 1, 1, none⟩ (.bool false)).setCell ⟨q + 1, 2, none⟩ (.string ⟨#[]⟩)).cell? ⟨q + 1, 0, none⟩ = some (.int .i64 0) := bcell_row (st3 HQ5.out (.int .i64 0) (.bool false) (.string ⟨#[]⟩)) rfl
          have s1 : (((wf.setCell ⟨q + 1, 0, none⟩ (.int .i64 0)).setCell ⟨q + 1, 1, none⟩ (.bool false)).setCell ⟨q + 1, 2, none⟩ (.string ⟨#[]⟩)).cell? ⟨q + 1, 1, none⟩ = some (.bool false) := bcell_row (st3 HQ5.out (.int .i64 0) (.bool false) (.string ⟨#[]⟩)) rfl
          have s2 : (((wf.setCell ⟨q + 1, 0, none⟩ (.int .i64 0)).setCell ⟨q + 1, 1, none⟩ (.bool false)).setCell ⟨q + 1, 2, none⟩ (.string ⟨#[]⟩)).cell? ⟨q + 1, 2, none⟩ = some (.string ⟨#[]⟩) := bcell_row (st3 HQ5.out (.int .i64 0) (.bool false) (.string ⟨#[]⟩)) rfl
          go_wp2_with fail
          exact bodyPost_ret (v := .tuple #[.agg #[.int .i64 0, .bool false, .string ⟨#[]⟩], .int .i64 C]) (by simp [results, Tryz.results17, go_sem, s0, s1, s2]) rfl (atE_no EX.out.1 EX.out.2 (st3_below G5.out NQ.out (.int .i64 0) (.bool false) (.string ⟨#[]⟩)))
end Go.Proofs.YtkmgildnhnjepaaGreatDoor
