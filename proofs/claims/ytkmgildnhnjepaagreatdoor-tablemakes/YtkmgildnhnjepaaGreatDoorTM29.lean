/- What the project's checkEra and checkZone of package book return. -/
import Derived.Test.YtkmgildnhnjepaaGreatDoorTM26
namespace Go.Proofs.YtkmgildnhnjepaaGreatDoor
set_option linter.unusedVariables false
set_option linter.unusedSimpArgs false
open Go.RowKit
theorem str_nil {s : ByteArray} (h : s.toList = []) : s = ⟨#[]⟩ := by rw [S_of s, h]; rfl
theorem str_nonnil {s : ByteArray} (h : ¬ s.toList = []) : (¬ s = ⟨#[]⟩) ∧ (s.toList == []) = false ∧ (s.toList != []) = true := by
  refine ⟨fun e => h (by rw [e]; exact lit0), ?_, ?_⟩
  · cases hs : s.toList with
    | nil => exact absurd hs h
    | cons a b => rfl
  · cases hs : s.toList with
    | nil => exact absurd hs h
    | cons a b => rfl

set_option maxHeartbeats 8000000 in
theorem pcheckEra (b : BokD) (e : EraD) (w : World) (hb : RusAt w b.Ar b.cr b.rs) (ht : BkTab w) :
    Calls Tryz.prog 105 #[bookV b, eraV e] w fun e' w' => e' = .returned (.int .i64 (eraA b.rs e)) ∧ Gr w w' := by
  have KR := Lib.hid (fun w hb ht => pcheckRules b e w hb ht)
  obtain ⟨Ar, cr, rs, Az, cz, zs, Al, cl, ls⟩ := b
  obtain ⟨eo, ru, sv, fm, un⟩ := e
  have HR := Lib.hid hb
  have HT := Lib.hid ht
  have KD := Lib.hid (fun w hm => abbrDash fm sv w hm)
  have KS := Lib.hid (fun w => isSave_any sv w)
  have EA : Hid (eraA rs ⟨eo, ru, sv, fm, un⟩ = if eo < -64800 ∨ 64800 < eo ∨ svB sv = false then 1 else if ru.toList = [] then abbrC fm sv dash else if sv ≠ 0 then 5 else rulC rs ⟨eo, ru, sv, fm, un⟩) := rfl
  show Calls _ _ _ _ fun e' w' => e' = .returned (.int .i64 (eraA rs ⟨eo, ru, sv, fm, un⟩)) ∧ Gr w w'
  generalize eraA rs ⟨eo, ru, sv, fm, un⟩ = C at EA ⊢
  simp only at KR HR
  generalize rulC rs ⟨eo, ru, sv, fm, un⟩ = C2 at EA KR
  clear hb ht
  have B0 := Lib.hid (box_two w (.cells #[.slice Ar rs.length cr, .slice Az zs.length cz, .slice Al ls.length cl] 134) (.cells #[.int .i64 eo, .string ru, .int .i64 sv, .string fm, .int .i64 un] 59))
  by_cases q1 : eo < -64800
  · have E : Hid (C = 1) := by unfold Hid; rw [EA.out, if_pos (Or.inl q1)]
    clear EA
    go_enter Tryz.func105, Tryz.ntmps105
    go_wp2_with fail
    go_ret
    exact ⟨ret_int E.out.symm, B0.out.1⟩
  by_cases q2 : 64800 < eo
  · have E : Hid (C = 1) := by unfold Hid; rw [EA.out, if_pos (Or.inr (Or.inl q2))]
    have q1' := ltF q1
    clear EA
    go_enter Tryz.func105, Tryz.ntmps105
    go_wp2_with fail
    go_ret
    exact ⟨ret_int E.out.symm, B0.out.1⟩
  have q1' := ltF q1
  have q2' := ltF q2
  have EA2 : Hid (C = if svB sv = false then 1 else if ru.toList = [] then abbrC fm sv dash else if sv ≠ 0 then 5 else C2) := by
    unfold Hid; rw [EA.out]
    cases svB sv with
    | false => rw [if_pos (Or.inr (Or.inr rfl)), if_pos rfl]
    | true => rw [if_neg (show ¬ (eo < -64800 ∨ 64800 < eo ∨ true = false) by simp [q1, q2])]; exact (if_neg (by simp)).symm
  clear EA
  generalize svB sv = bs at KS EA2
  cases bs with
  | false =>
    have E : Hid (C = 1) := by unfold Hid; rw [EA2.out, if_pos rfl]
    clear EA2
    go_enter Tryz.func105, Tryz.ntmps105
    go_wp2_with fail
    refine (KS.out _).mono ?_
    rintro e w1 ⟨rfl, rfl⟩
    go_wp2_with fail
    go_ret
    exact ⟨ret_int E.out.symm, B0.out.1⟩
  | true =>
  have EA3 : Hid (C = if ru.toList = [] then abbrC fm sv dash else if sv ≠ 0 then 5 else C2) := by unfold Hid; rw [EA2.out, if_neg (by simp)]
  clear EA2
  by_cases hru : ru.toList = []
  · have E : Hid (C = abbrC fm sv dash) := by unfold Hid; rw [EA3.out, if_pos hru]
    obtain rfl := str_nil hru
    clear EA3 hru
    go_enter Tryz.func105, Tryz.ntmps105
    go_wp2_with fail
    refine (KS.out _).mono ?_
    rintro e w1 ⟨rfl, rfl⟩
    go_wp2_with fail
    generalize (w.alloc (.cells #[.slice Ar rs.length cr, .slice Az zs.length cz, .slice Al ls.length cl] 134)).alloc (.cells #[.int .i64 eo, .string ⟨#[]⟩, .int .i64 sv, .string fm, .int .i64 un] 59) = w0 at B0 ⊢
    refine (KD.out w0 (B0.out.1.max HT.out.2.2)).mono ?_
    rintro e w1 ⟨rfl, g1⟩
    go_wp2_with fail
    go_ret
    exact ⟨ret_int E.out.symm, B0.out.1.trans g1⟩
  obtain ⟨n1, n2, n3⟩ := str_nonnil hru
  by_cases h0 : sv = 0
  · have E : Hid (C = C2) := by unfold Hid; rw [EA3.out, if_neg hru, if_neg (by simp [h0])]
    have t0 := bneF h0
    clear EA3 hru h0
    go_enter Tryz.func105, Tryz.ntmps105
    go_wp2_with fail
    refine (KS.out _).mono ?_
    rintro e w1 ⟨rfl, rfl⟩
    go_wp2_with fail
    generalize (w.alloc (.cells #[.slice Ar rs.length cr, .slice Az zs.length cz, .slice Al ls.length cl] 134)).alloc (.cells #[.int .i64 eo, .string ru, .int .i64 sv, .string fm, .int .i64 un] 59) = w0 at B0 ⊢
    refine (KR.out w0 (HR.out.gr B0.out.1) (B0.out.1.bk HT.out)).mono ?_
    rintro e w1 ⟨rfl, g1⟩
    go_wp2_with fail
    go_ret
    exact ⟨ret_int E.out.symm, B0.out.1.trans g1⟩
  · have E : Hid (C = 5) := by unfold Hid; rw [EA3.out, if_neg hru, if_pos h0]
    have t0 := bneT h0
    clear EA3 hru h0
    go_enter Tryz.func105, Tryz.ntmps105
    go_wp2_with fail
    refine (KS.out _).mono ?_
    rintro e w1 ⟨rfl, rfl⟩
    go_wp2_with fail
    go_ret
    exact ⟨ret_int E.out.symm, B0.out.1⟩

set_option maxHeartbeats 8000000 in
theorem pcheckZone (b : BokD) (i : Nat) (w : World) (hb : b.At w) (hi : i < b.zs.length) (ht : BkTab w) :
    Calls Tryz.prog 74 #[bookV b, .int .i64 i] w fun e' w' => e' = .returned (.int .i64 (zonC b.rs b.zs i)) ∧ Gr w w' := by
  have KE := Lib.hid (fun e w hb ht => pcheckEra b e w hb ht)
  obtain ⟨Ar, cr, rs, Az, cz, zs, Al, cl, ls⟩ := b
  have HR : Hid (RusAt w Ar cr rs) := hb.1
  have hl : zs.length ≤ maxLen := Nat.le_trans hb.2.1.1.1 hb.2.1.1.2
  have hlc : zs.length ≤ cz := hb.2.1.1.1
  have hcc : cz ≤ maxLen := hb.2.1.1.2
  have HRow : Hid (Row w 2 ZonD.cells Az zs) := hb.2.1.2.1
  obtain ⟨⟨nm, eA, ec, es⟩, hz⟩ := get_lt hi
  have hzat := hb.2.1.2.2 _ (get_mem hz)
  have hn : nm.size ≤ maxLen := hzat.1
  have hel : es.length ≤ maxLen := Nat.le_trans hzat.2.1.1 hzat.2.1.2
  have HErow : Hid (Row w 5 EraD.cells eA es) := hzat.2.2.1
  have HEin : Hid (∀ e ∈ es, e.In) := hzat.2.2.2
  have ZC : Hid (zonC rs zs i = if isNameB nm.toList = false then 3 else if hasZ (zs.take i) nm = true then 7 else if es.length = 0 then 5 else if 700 < es.length then 2 else fe (eraC rs es) es.length) := zonC_at hz
  have KN := Lib.hid (fun w => pname_any nm w hn)
  have KC := Lib.hid (fun B w h hc => con_z1 Az i cz (zs.take i) nm B w (by rw [List.length_take]; simp only at hi; omega) (by simp only at hi; omega) h hc)
  have KU := Lib.hid (fun k w h hk ht => pcheckUntil eA es.length ec es k w rfl hel h hzat.2.2.2 hk ht)
  have HT := Lib.hid ht
  show Calls _ _ _ _ fun e' w' => e' = .returned (.int .i64 (zonC rs zs i)) ∧ Gr w w'
  generalize zonC rs zs i = C at ZC ⊢
  have B0 := Lib.hid (box_two w (.cells #[.slice Ar rs.length cr, .slice Az zs.length cz, .slice Al ls.length cl] 134) (.cells #[.string nm, .slice eA es.length ec] 57))
  obtain ⟨b, off, rfl, c0, c1⟩ := HRow.out.two hz rfl (Gr.alloc w (.cells #[.slice Ar rs.length cr, .slice Az zs.length cz, .slice Al ls.length cl] 134))
  unfold maxLen at hl hel hcc
  have hi' : i < zs.length := hi
  clear hb ht hz hzat hn hi
  have i0 : (0 : Int) ≤ (i : Int) := by omega
  have i1 : (i : Int) < (zs.length : Int) := by omega
  have i2 : (i : Int) ≤ (cz : Int) := by omega
  go_enter Tryz.func74, Tryz.ntmps74
  go_wp2_with fail
  generalize (w.alloc (.cells #[.slice Ar rs.length cr, .slice (some ⟨b, off, none⟩) zs.length cz, .slice Al ls.length cl] 134)).alloc (.cells #[.string nm, .slice eA es.length ec] 57) = w0 at B0 ⊢
  clear c0 c1
  generalize w.heap.size = q at B0 ⊢
  have G0 := Lib.hid B0.out.1
  have HB1 := Lib.hid B0.out.2.1
  have HB2 := Lib.hid B0.out.2.2
  clear B0
  generalize isNameB nm.toList = bn at KN ZC
  refine (KN.out w0).mono ?_
  rintro e w1 ⟨rfl, rfl⟩
  cases bn with
  | false =>
    have E : Hid (C = 3) := by unfold Hid; rw [ZC.out, if_pos rfl]
    clear ZC
    go_wp2_with fail
    go_ret
    exact ⟨ret_int E.out.symm, G0.out⟩
  | true =>
  have ZC2 : Hid (C = if hasZ (zs.take i) nm = true then 7 else if es.length = 0 then 5 else if 700 < es.length then 2 else fe (eraC rs es) es.length) := by unfold Hid; rw [ZC.out, if_neg (by simp)]
  clear ZC KN
  have y1 : w0.cell? ⟨q, 1, none⟩ = some (.slice (some ⟨b, off, none⟩) zs.length cz) := bcell_row HB1.out rfl
  go_wp2_with fail
  clear y1
  refine (KC.out (q + 1) w0 ((HRow.out.gr G0.out).take i) (bcell_row HB2.out rfl)).mono ?_
  rintro e w1 ⟨rfl, g1⟩
  have G1 := Lib.hid (G0.out.trans g1)
  have HC1 := Lib.hid (bheap_gr g1 HB1.out)
  have HC2 := Lib.hid (bheap_gr g1 HB2.out)
  clear G0 HB1 HB2 g1 KC HRow
  generalize hasZ (zs.take i) nm = bz at ZC2
  cases bz with
  | true =>
    have E : Hid (C = 7) := by unfold Hid; rw [ZC2.out, if_pos rfl]
    clear ZC2
    go_wp2_with fail
    go_ret
    exact ⟨ret_int E.out.symm, G1.out⟩
  | false =>
  have ZC3 : Hid (C = if es.length = 0 then 5 else if 700 < es.length then 2 else fe (eraC rs es) es.length) := by unfold Hid; rw [ZC2.out, if_neg (by simp)]
  clear ZC2
  have y1 : w1.cell? ⟨q + 1, 1, none⟩ = some (.slice eA es.length ec) := bcell_row HC2.out rfl
  by_cases e0 : es.length = 0
  · have E : Hid (C = 5) := by unfold Hid; rw [ZC3.out, if_pos e0]
    have t0 : ((es.length : Int) == 0) = true := beqT (by omega)
    clear ZC3 e0
    go_wp2_with fail
    go_ret
    exact ⟨ret_int E.out.symm, G1.out⟩
  have t0 : ((es.length : Int) == 0) = false := beqF (by omega)
  by_cases e7 : 700 < es.length
  · have E : Hid (C = 2) := by unfold Hid; rw [ZC3.out, if_neg e0, if_pos e7]
    have t7 : decide (700 < (es.length : Int)) = true := ltT (by omega)
    clear ZC3 e0
    go_wp2_with fail
    go_ret
    exact ⟨ret_int E.out.symm, G1.out⟩
  have t7 : decide (700 < (es.length : Int)) = false := ltF (by omega)
  have ZC4 : Hid (C = fe (eraC rs es) es.length) := by unfold Hid; rw [ZC3.out, if_neg e0, if_neg e7]
  clear ZC3 e0 e7
  go_wp2_with fail
  clear y1 t0 t7
  have EC : Hid (∀ k e, es[k]? = some e → eraC rs es k = if eraA rs e = 0 then untC es k else eraA rs e) := fun k e h => eraC_at h
  have F0 : Hid (fe (eraC rs es) 0 = 0) := rfl
  have FS : Hid (∀ k, fe (eraC rs es) k = 0 → eraC rs es k = 0 → fe (eraC rs es) (k + 1) = 0) := fun k a b => fe_step a b
  have FH : Hid (∀ k, k < es.length → fe (eraC rs es) k = 0 → eraC rs es k ≠ 0 → C = eraC rs es k) := fun k hk a b => ZC4.out.trans (fe_hit a b _ hk)
  generalize eraC rs es = fc at ZC4 EC F0 FS FH
  go_loopw [44] (fun i W => ∃ k : Nat, k ≤ es.length ∧ i = .int .i64 k ∧ Hid (fe fc k = 0) ∧ Hid (Gr w1 W)) (fun i W => es.length - (intOf i).toNat)
  case atStart => exact ⟨0, Nat.zero_le _, rfl, F0, Gr.refl _⟩
  case round =>
    obtain ⟨k, hk, rfl, hf, hg⟩ := hrel
    by_cases hlt : k < es.length
    · obtain ⟨x, hx⟩ := get_lt hlt
      have RK := Lib.hid (EC.out k x hx)
      have FK := Lib.hid (FS.out k hf.out)
      have HK := Lib.hid (FH.out k hlt hf.out)
      have KX := Lib.hid (fun w hb ht => KE.out x w hb ht)
      have KY := Lib.hid (fun w h ht => KU.out k w h hlt ht)
      obtain ⟨eo, ru, sv, fm, un⟩ := x
      have GR := Lib.hid (G1.out.trans hg.out)
      obtain ⟨eb, eoff, rfl, c0, c1, c2, c3, c4⟩ := HErow.out.five hx rfl GR.out
      have HNB := Lib.hid (box_one wr (.cells #[.int .i64 eo, .string ru, .int .i64 sv, .string fm, .int .i64 un] 59))
      have D1 := Lib.hid (bheap_gr hg.out HC1.out)
      have D2 := Lib.hid (bheap_gr hg.out HC2.out)
      have v0 : wr.cell? ⟨q, 0, none⟩ = some (.slice Ar rs.length cr) := bcell_row D1.out rfl
      have v1 : wr.cell? ⟨q, 1, none⟩ = some (.slice (some ⟨b, off, none⟩) zs.length cz) := bcell_row D1.out rfl
      have v2 : wr.cell? ⟨q, 2, none⟩ = some (.slice Al ls.length cl) := bcell_row D1.out rfl
      have qq : q < wr.heap.size := World.block_lt_of_cell? wr ⟨q, 0, none⟩ v0
      have qn : ¬ q = wr.heap.size := by omega
      clear hx EC FS FH KE KU HEin
      go_wp2_with fail
      generalize wr.alloc (.cells #[.int .i64 eo, .string ru, .int .i64 sv, .string fm, .int .i64 un] 59) = w2 at HNB ⊢
      clear c0 c1 c2 c3 c4 v0 v1 v2 qn qq
      generalize wr.heap.size = q2 at HNB ⊢
      have G2 := Lib.hid (GR.out.trans HNB.out.1)
      refine (KX.out w2 (HR.out.gr G2.out) (G2.out.bk HT.out)).mono ?_
      rintro e w3 ⟨rfl, g3⟩
      have G3 := Lib.hid (G2.out.trans g3)
      have D3 := Lib.hid (bheap_gr (HNB.out.1.trans g3) D2.out)
      have GW := Lib.hid (hg.out.trans (HNB.out.1.trans g3))
      clear KX G2 g3 HNB D1 D2 GR
      generalize eraA rs ⟨eo, ru, sv, fm, un⟩ = ea at RK
      by_cases h0 : ea = 0
      · have t0 := bneF h0
        have RK2 : Hid (fc k = untC es k) := by unfold Hid; rw [RK.out, if_pos h0]
        have y1 : w3.cell? ⟨q + 1, 1, none⟩ = some (.slice (some ⟨eb, eoff, none⟩) es.length ec) := bcell_row D3.out rfl
        clear RK h0
        go_wp2_with fail
        clear y1
        refine (KY.out w3 (HErow.out.gr G3.out) (G3.out.bk HT.out)).mono ?_
        rintro e w4 ⟨rfl, g4⟩
        clear KY
        generalize untC es k = uc at RK2
        by_cases h1 : uc = 0
        · have t1 := bneF h1
          have Z : Hid (fc k = 0) := by unfold Hid; rw [RK2.out]; exact h1
          clear RK2 HK h1
          go_wp2_with fail
          go_roundw
          case rel => exact ⟨k + 1, by omega, by go_num, FK.out Z.out, GW.out.trans g4⟩
          case measure => simp [intOf]; omega
        · have t1 := bneT h1
          have E : Hid (C = uc) := by unfold Hid; rw [HK.out (by rw [RK2.out]; exact h1), RK2.out]
          clear RK2 HK h1
          go_wp2_with fail
          go_ret
          exact ⟨ret_int E.out.symm, G3.out.trans g4⟩
      · have t0 := bneT h0
        have RK2 : Hid (fc k = ea) := by unfold Hid; rw [RK.out, if_neg h0]
        have E : Hid (C = ea) := by unfold Hid; rw [HK.out (by rw [RK2.out]; exact h0), RK2.out]
        clear RK RK2 HK h0
        go_wp2_with fail
        go_ret
        exact ⟨ret_int E.out.symm, G3.out⟩
    · have e : k = es.length := by omega
      have E : Hid (C = 0) := by unfold Hid; rw [ZC4.out, ← e]; exact hf.out
      clear e hf
      go_wp2_with fail
      go_ret
      exact ⟨ret_int E.out.symm, G1.out.trans hg.out⟩
end Go.Proofs.YtkmgildnhnjepaaGreatDoor
