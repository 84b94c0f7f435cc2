/- What the project's checkLinks and Check of package book return. -/
import Derived.Deep.RegionHeld3
import Derived.Deep.DrawnRows
import Derived.Test.YtkmgildnhnjepaaGreatDoorTM29
namespace Go.Proofs.YtkmgildnhnjepaaGreatDoor
set_option linter.unusedVariables false
set_option linter.unusedSimpArgs false
open Go.RowKit
set_option maxHeartbeats 4000000 in
theorem pknown (Az : Option Addr) (cz : Nat) (zs : List ZonD) (A : Option Addr) (n c : Nat) (ls : List LinD) (nm : ByteArray) (B : Nat) (w : World) (hz : zs.length ≤ maxLen) (hzr : Row w 2 ZonD.cells Az zs) (hn : ls.length = n) (hl : n ≤ maxLen) (hlr : Row w 2 LinD.cells A ls)
    (hc : w.cell? ⟨B, 1, none⟩ = some (.slice Az zs.length cz)) :
    Calls Tryz.prog 107 #[.string nm, .slice A n c, .pointer (some ⟨B, 0, none⟩)] w fun e w' => e = .returned (.bool (hasZ zs nm || hasL ls nm)) ∧ Gr w w' := by
  have KZ := Lib.hid (fun B w h hc => con_z2 Az zs.length cz zs nm B w rfl hz h hc)
  have KL := Lib.hid (fun B w h hc => con_l1 A n c ls nm B w hn hl h hc)
  have HZ := Lib.hid hzr
  have HL := Lib.hid hlr
  have B0 := Lib.hid (box_one w (.cells #[.string nm] 9))
  have hb' : B < w.heap.size := World.block_lt_of_cell? w ⟨B, 1, none⟩ hc
  have hne : ¬ B = w.heap.size := by omega
  clear hz hzr hn hl hlr
  generalize hasZ zs nm = bz at KZ ⊢
  generalize hasL ls nm = bl at KL ⊢
  go_enter Tryz.func107, Tryz.ntmps107
  go_wp2_with fail
  generalize w.alloc (.cells #[.string nm] 9) = w0 at B0 ⊢
  clear hc hne hb'
  generalize w.heap.size = q at B0 ⊢
  refine (KZ.out q w0 (HZ.out.gr B0.out.1) (bcell_row B0.out.2 rfl)).mono ?_
  rintro e w1 ⟨rfl, g1⟩
  have G1 := Lib.hid (B0.out.1.trans g1)
  have HB := Lib.hid (bheap_gr g1 B0.out.2)
  clear B0 KZ g1
  cases bz with
  | true =>
    go_wp2_with fail
    go_ret
    exact ⟨rfl, G1.out⟩
  | false =>
    go_wp2_with fail
    refine (KL.out q w1 (HL.out.gr G1.out) (bcell_row HB.out rfl)).mono ?_
    rintro e w2 ⟨rfl, g2⟩
    go_wp2_with fail
    go_ret
    exact ⟨ret_bool (by simp), G1.out.trans g2⟩

theorem keepL {w W W' : World} {a b : Addr} {x z : Value} (h : W.cell? a = some x ∧ W.cell? b = some z ∧ Gr w W) (hg : Gr W W') : W'.cell? a = some x ∧ W'.cell? b = some z ∧ Gr w W' :=
  ⟨(Below.cell hg (World.block_lt_of_cell? W a h.1)).trans h.1, (Below.cell hg (World.block_lt_of_cell? W b h.2.1)).trans h.2.1, h.2.2.trans hg⟩

set_option maxRecDepth 100000 in
set_option maxHeartbeats 8000000 in
theorem pcheckLinks (b : BokD) (w : World) (hb : b.At w) :
    Calls Tryz.prog 75 #[bookV b] w fun e' w' => e' = .returned (.int .i64 (fe (linC b.zs b.ls) b.ls.length)) ∧ Gr w w' := by
  obtain ⟨Ar, cr, rs, Az, cz, zs, Al, cl, ls⟩ := b
  have hzl : zs.length ≤ maxLen := Nat.le_trans hb.2.1.1.1 hb.2.1.1.2
  have hll : ls.length ≤ maxLen := Nat.le_trans hb.2.2.1.1 hb.2.2.1.2
  have hlc : ls.length ≤ cl := hb.2.2.1.1
  have hcc : cl ≤ maxLen := hb.2.2.1.2
  have HZ : Hid (Row w 2 ZonD.cells Az zs) := hb.2.1.2.1
  have HL : Hid (Row w 2 LinD.cells Al ls) := hb.2.2.2.1
  have HI : Hid (∀ x ∈ ls, x.In) := hb.2.2.2.2
  have KW := Lib.hid (fun nm B w h1 h2 hc => pknown Az cz zs Al ls.length cl ls nm B w hzl h1 rfl hll h2 hc)
  have KP := Lib.hid (fun k nm B w (hk : k < ls.length) h1 h2 hc => pknown Az cz zs Al k cl (ls.take k) nm B w hzl h1 (by rw [List.length_take]; omega) (by omega) h2 hc)
  have LC : Hid (∀ k x, ls[k]? = some x → linC zs ls k = if (isNameB x.nm.toList && isNameB x.to'.toList) = false then 3 else if (hasZ zs x.nm || hasL (ls.take k) x.nm) = true then 7 else if (hasZ zs x.to' || hasL ls x.to') = false then 6 else 0) := fun k x h => linC_at h
  show Calls _ _ _ _ fun e' w' => e' = .returned (.int .i64 (fe (linC zs ls) ls.length)) ∧ Gr w w'
  obtain ⟨C, hC⟩ : ∃ C, fe (linC zs ls) ls.length = C := ⟨_, rfl⟩
  have FE := Lib.hid hC
  rw [hC]
  clear hC
  have F0 : Hid (fe (linC zs ls) 0 = 0) := rfl
  have FS : Hid (∀ k, fe (linC zs ls) k = 0 → linC zs ls k = 0 → fe (linC zs ls) (k + 1) = 0) := fun k a b => fe_step a b
  have FH : Hid (∀ k, k < ls.length → fe (linC zs ls) k = 0 → linC zs ls k ≠ 0 → C = linC zs ls k) := fun k hk a b => FE.out.symm.trans (fe_hit a b _ hk)
  generalize linC zs ls = fc at FE LC F0 FS FH
  have B0 := Lib.hid (box_one w (.cells #[.slice Ar rs.length cr, .slice Az zs.length cz, .slice Al ls.length cl] 134))
  unfold maxLen at hll hcc
  clear hb hzl
  go_enter Tryz.func75, Tryz.ntmps75
  go_wp2_with fail
  generalize w.alloc (.cells #[.slice Ar rs.length cr, .slice Az zs.length cz, .slice Al ls.length cl] 134) = w1 at B0 ⊢
  generalize w.heap.size = q at B0 ⊢
  have G1 := Lib.hid B0.out.1
  have HB := Lib.hid B0.out.2
  clear B0
  go_loopw [11] (fun i W => ∃ k : Nat, k ≤ ls.length ∧ i = .int .i64 k ∧ Hid (fe fc k = 0) ∧ Hid (Gr w1 W)) (fun i W => ls.length - (intOf i).toNat)
  case atStart => exact ⟨0, Nat.zero_le _, rfl, F0, Gr.refl _⟩
  case round =>
    obtain ⟨k, hk, rfl, hf, hg⟩ := hrel
    by_cases hlt : k < ls.length
    · obtain ⟨⟨nm, to'⟩, hx⟩ := get_lt hlt
      have RK : Hid (fc k = if (isNameB nm.toList && isNameB to'.toList) = false then 3 else if (hasZ zs nm || hasL (ls.take k) nm) = true then 7 else if (hasZ zs to' || hasL ls to') = false then 6 else 0) := LC.out k _ hx
      have FK := Lib.hid (FS.out k hf.out)
      have HK := Lib.hid (FH.out k hlt hf.out)
      have hin := HI.out _ (get_mem hx)
      have KN := Lib.hid (fun w => pname_any nm w hin.1)
      have KT := Lib.hid (fun w => pname_any to' w hin.2)
      have K1 := Lib.hid (fun w h1 h2 hc => KP.out k nm q w hlt h1 h2 hc)
      have K2 := Lib.hid (fun w h1 h2 hc => KW.out to' q w h1 h2 hc)
      have GR := Lib.hid (G1.out.trans hg.out)
      have HBox := Lib.hid (bheap_gr hg.out HB.out)
      obtain ⟨b, off, rfl, c0, c1⟩ := HL.out.two hx rfl GR.out
      have HNB := Lib.hid (box_one wr (.cells #[.string nm, .string to'] 52))
      clear hx hin LC FS FH KW KP HI
      go_wp2_with fail
      generalize wr.alloc (.cells #[.string nm, .string to'] 52) = w2 at HNB ⊢
      clear c0 c1
      generalize wr.heap.size = q2 at HNB ⊢
      have G2 := Lib.hid (GR.out.trans HNB.out.1)
      have GW := Lib.hid (hg.out.trans HNB.out.1)
      have D2 := Lib.hid HNB.out.2
      have D1 := Lib.hid (bheap_gr HNB.out.1 HBox.out)
      clear HNB HBox GR
      generalize isNameB nm.toList = bn at KN RK
      generalize isNameB to'.toList = bt at KT RK
      refine (KN.out w2).mono ?_
      rintro e w3 ⟨rfl, rfl⟩
      cases bn with
      | false =>
        have Z : Hid (fc k = 3) := by unfold Hid; rw [RK.out]; rfl
        have E : Hid (C = 3) := by unfold Hid; rw [HK.out (by rw [Z.out]; decide), Z.out]
        clear RK HK Z
        go_wp2_with fail
        go_ret
        exact ⟨ret_int E.out.symm, G2.out⟩
      | true =>
      have y1 : w2.cell? ⟨q2, 1, none⟩ = some (.string to') := bcell_row D2.out rfl
      go_wp2_with fail
      clear y1
      refine (KT.out w2).mono ?_
      rintro e w3 ⟨rfl, rfl⟩
      cases bt with
      | false =>
        have Z : Hid (fc k = 3) := by unfold Hid; rw [RK.out]; rfl
        have E : Hid (C = 3) := by unfold Hid; rw [HK.out (by rw [Z.out]; decide), Z.out]
        clear RK HK Z
        go_wp2_with fail
        go_ret
        exact ⟨ret_int E.out.symm, G2.out⟩
      | true =>
      have RK2 : Hid (fc k = if (hasZ zs nm || hasL (ls.take k) nm) = true then 7 else if (hasZ zs to' || hasL ls to') = false then 6 else 0) := by unfold Hid; rw [RK.out, if_neg (by simp)]
      clear RK KN KT
      have kn : (k : Int) ≤ (cl : Int) := by omega
      have k0 : (0 : Int) ≤ (k : Int) := by omega
      have HS : w2.cell? ⟨q2, 0, none⟩ = some (.string nm) ∧ w2.cell? ⟨q, 2, none⟩ = some (.slice (some ⟨b, off, none⟩) ls.length cl) ∧ Gr w2 w2 := ⟨bcell_row D2.out rfl, bcell_row D1.out rfl, Gr.refl _⟩
      generalize (hasZ zs nm || hasL (ls.take k) nm) = p7 at K1 RK2
      generalize (hasZ zs to' || hasL ls to') = p6 at K2 RK2
      have P1 := Lib.hid (fun W (g : Gr w2 W) => K1.out W (HZ.out.gr (G2.out.trans g)) ((HL.out.gr (G2.out.trans g)).take k) (g.holds (bcell_row D1.out rfl)))
      clear K1
      go_wp2_with fail
      go_region_held3 (fun wx => wx.cell? ⟨q2, 0, none⟩ = some (.string nm) ∧ wx.cell? ⟨q, 2, none⟩ = some (.slice (some ⟨b, off, none⟩) ls.length cl) ∧ Gr w2 wx) (first | exact ⟨HS.1, HS.2.1, HS.2.2.drew'⟩ | assumption) ((go_at_call 107; (with_reducible refine (P1.out _ ?_).mono ?_); (exact And.right (And.right (by assumption))); rintro e w3 ⟨rfl, g3⟩; have HS3 := keepL (by assumption) g3))
      have G3 := Lib.hid HS3.2.2
      have GA := Lib.hid (G2.out.trans G3.out)
      have D3 := Lib.hid (bheap_gr G3.out D2.out)
      have D4 := Lib.hid (bheap_gr G3.out D1.out)
      clear HS HS3 P1 D1 D2 kn k0
      cases p7 with
      | true =>
        have Z : Hid (fc k = 7) := by unfold Hid; rw [RK2.out]; rfl
        have E : Hid (C = 7) := by unfold Hid; rw [HK.out (by rw [Z.out]; decide), Z.out]
        clear RK2 HK Z
        go_wp2_with fail
        go_ret
        exact ⟨ret_int E.out.symm, GA.out⟩
      | false =>
      have y1 : w3.cell? ⟨q2, 1, none⟩ = some (.string to') := bcell_row D3.out rfl
      have y2 : w3.cell? ⟨q, 2, none⟩ = some (.slice (some ⟨b, off, none⟩) ls.length cl) := bcell_row D4.out rfl
      go_wp2_with fail
      clear y1 y2
      refine (K2.out w3 (HZ.out.gr GA.out) (HL.out.gr GA.out) (bcell_row D4.out rfl)).mono ?_
      rintro e w4 ⟨rfl, g4⟩
      clear K2 D3 D4
      cases p6 with
      | true =>
        have Z : Hid (fc k = 0) := by unfold Hid; rw [RK2.out]; rfl
        clear RK2 HK
        go_wp2_with fail
        go_roundw
        case rel => exact ⟨k + 1, by omega, by go_num, FK.out Z.out, (GW.out.trans G3.out).trans g4⟩
        case measure => simp [intOf]; omega
      | false =>
        have Z : Hid (fc k = 6) := by unfold Hid; rw [RK2.out]; rfl
        have E : Hid (C = 6) := by unfold Hid; rw [HK.out (by rw [Z.out]; decide), Z.out]
        clear RK2 HK Z
        go_wp2_with fail
        go_ret
        exact ⟨ret_int E.out.symm, GA.out.trans g4⟩
    · have e : k = ls.length := by omega
      have E : Hid (C = 0) := by unfold Hid; rw [← FE.out, ← e]; exact hf.out
      clear e hf
      go_wp2_with fail
      go_ret
      exact ⟨ret_int E.out.symm, G1.out.trans hg.out⟩

set_option maxRecDepth 100000 in
set_option maxHeartbeats 8000000 in
theorem pbookCheck (b : BokD) (w : World) (hb : b.At w) (ht : BkTab w) :
    Calls Tryz.prog 46 #[bookV b] w fun e' w' => e' = .returned (.int .i64 (bokC b.rs b.zs b.ls)) ∧ Gr w w' := by
  have KZ := Lib.hid (fun i w hb hi ht => pcheckZone b i w hb hi ht)
  have KL := Lib.hid (fun w hb => pcheckLinks b w hb)
  have HA := Lib.hid (fun W (g : Gr w W) => hb.gr g)
  obtain ⟨Ar, cr, rs, Az, cz, zs, Al, cl, ls⟩ := b
  have HR : Hid (Row w 11 RuD.cells Ar rs) := hb.1.2.1
  have HI : Hid (∀ r ∈ rs, r.In) := hb.1.2.2
  have hrl : rs.length ≤ maxLen := Nat.le_trans hb.1.1.1 hb.1.1.2
  have hzl : zs.length ≤ maxLen := Nat.le_trans hb.2.1.1.1 hb.2.1.1.2
  have hll : ls.length ≤ maxLen := Nat.le_trans hb.2.2.1.1 hb.2.2.1.2
  have HT := Lib.hid ht
  have C2 : Hid (40 < rs.length ∨ 20 < zs.length ∨ 20 < ls.length → bokC rs zs ls = 2) := fun h => bokC_big h
  have CR : Hid (¬ (40 < rs.length ∨ 20 < zs.length ∨ 20 < ls.length) → fe (rusC rs) rs.length ≠ 0 → bokC rs zs ls = fe (rusC rs) rs.length) := fun h g => bokC_rus h g
  have CZ : Hid (¬ (40 < rs.length ∨ 20 < zs.length ∨ 20 < ls.length) → fe (rusC rs) rs.length = 0 → fe (zonC rs zs) zs.length ≠ 0 → bokC rs zs ls = fe (zonC rs zs) zs.length) := fun h g k => bokC_zos h g k
  have CL : Hid (¬ (40 < rs.length ∨ 20 < zs.length ∨ 20 < ls.length) → fe (rusC rs) rs.length = 0 → fe (zonC rs zs) zs.length = 0 → bokC rs zs ls = fe (linC zs ls) ls.length) := fun h g k => bokC_lis h g k
  show Calls _ _ _ _ fun e' w' => e' = .returned (.int .i64 (bokC rs zs ls)) ∧ Gr w w'
  simp only at KZ KL
  generalize bokC rs zs ls = C at C2 CR CZ CL ⊢
  generalize fe (linC zs ls) ls.length = CLI at KL CL
  unfold maxLen at hrl hzl hll
  clear hb ht
  have B0 := Lib.hid (box_two w (.cells #[.slice Ar rs.length cr, .slice Az zs.length cz, .slice Al ls.length cl] 26) (.cells #[.slice Ar rs.length cr, .slice Az zs.length cz, .slice Al ls.length cl] 134))
  by_cases r40 : 40 < rs.length
  · have E := Lib.hid (C2.out (Or.inl r40))
    have t1 : decide (40 < (rs.length : Int)) = true := ltT (by omega)
    clear C2 CR CZ CL
    go_enter Tryz.func46, Tryz.ntmps46
    go_wp2_with fail
    go_ret
    exact ⟨ret_int E.out.symm, B0.out.1⟩
  have t1 : decide (40 < (rs.length : Int)) = false := ltF (by omega)
  by_cases z20 : 20 < zs.length
  · have E := Lib.hid (C2.out (Or.inr (Or.inl z20)))
    have t2 : decide (20 < (zs.length : Int)) = true := ltT (by omega)
    clear C2 CR CZ CL
    go_enter Tryz.func46, Tryz.ntmps46
    go_wp2_with fail
    go_ret
    exact ⟨ret_int E.out.symm, B0.out.1⟩
  have t2 : decide (20 < (zs.length : Int)) = false := ltF (by omega)
  by_cases l20 : 20 < ls.length
  · have E := Lib.hid (C2.out (Or.inr (Or.inr l20)))
    have t3 : decide (20 < (ls.length : Int)) = true := ltT (by omega)
    clear C2 CR CZ CL
    go_enter Tryz.func46, Tryz.ntmps46
    go_wp2_with fail
    go_ret
    exact ⟨ret_int E.out.symm, B0.out.1⟩
  have t3 : decide (20 < (ls.length : Int)) = false := ltF (by omega)
  have NB : Hid (¬ (40 < rs.length ∨ 20 < zs.length ∨ 20 < ls.length)) := fun h => by omega
  have CR2 := Lib.hid (CR.out NB.out)
  have CZ2 := Lib.hid (CZ.out NB.out)
  have CL2 := Lib.hid (CL.out NB.out)
  clear C2 CR CZ CL NB r40 z20 l20
  go_enter Tryz.func46, Tryz.ntmps46
  go_wp2_with fail
  generalize (w.alloc (.cells #[.slice Ar rs.length cr, .slice Az zs.length cz, .slice Al ls.length cl] 26)).alloc (.cells #[.slice Ar rs.length cr, .slice Az zs.length cz, .slice Al ls.length cl] 134) = w1 at B0 ⊢
  generalize w.heap.size = q at B0 ⊢
  have G1 := Lib.hid B0.out.1
  have HB := Lib.hid B0.out.2.2
  clear B0 t1 t2 t3
  have RC : Hid (∀ k r, rs[k]? = some r → rusC rs k = r.chk) := fun k r h => rusC_at h
  have F0 : Hid (fe (rusC rs) 0 = 0) := rfl
  have FS : Hid (∀ k, fe (rusC rs) k = 0 → rusC rs k = 0 → fe (rusC rs) (k + 1) = 0) := fun k a b => fe_step a b
  have FH : Hid (∀ k, k < rs.length → fe (rusC rs) k = 0 → rusC rs k ≠ 0 → C = rusC rs k) := fun k hk a b => by
    have := fe_hit a b _ hk
    rw [CR2.out (by rw [this]; exact b), this]
  clear CR2
  generalize rusC rs = fc at RC F0 FS FH CZ2 CL2
  go_loopw [34] (fun i W => ∃ k : Nat, k ≤ rs.length ∧ i = .int .i64 k ∧ Hid (fe fc k = 0) ∧ Hid (Gr w1 W)) (fun i W => rs.length - (intOf i).toNat)
  case atStart => exact ⟨0, Nat.zero_le _, rfl, F0, Gr.refl _⟩
  case round =>
    obtain ⟨k, hk, rfl, hf, hg⟩ := hrel
    have GR := Lib.hid (G1.out.trans hg.out)
    by_cases hlt : k < rs.length
    · obtain ⟨⟨nm, fr, tt, mo, zk, d, n, at', by', sv, lt⟩, hx⟩ := get_lt hlt
      have RK := Lib.hid (RC.out k _ hx)
      have FK := Lib.hid (FS.out k hf.out)
      have HK := Lib.hid (FH.out k hlt hf.out)
      have hin := HI.out _ (get_mem hx)
      have KC := Lib.hid (fun w hl => pruleCheck nm fr tt mo zk d n at' by' sv lt w hl hin.1 hin.2)
      have RK2 : Hid (fc k = ruleC nm.toList lt.toList fr tt mo zk d n at' by' sv) := RK.out
      obtain ⟨b, off, rfl, c0, c1, c2, c3, c4, c5, c6, c7, c8, c9, c10⟩ := HR.out.eleven hx rfl GR.out
      have HNB := Lib.hid (box_one wr (.cells #[.string nm, .int .i64 fr, .int .i64 tt, .int .i64 mo, .int .i64 zk, .int .i64 d, .int .i64 n, .int .i64 at', .int .i64 by', .int .i64 sv, .string lt] 118))
      clear hx hin RC FS FH RK CZ2 CL2 KZ KL HA HI HR
      generalize ruleC nm.toList lt.toList fr tt mo zk d n at' by' sv = cc at KC RK2
      go_wp2_with fail
      generalize wr.alloc (.cells #[.string nm, .int .i64 fr, .int .i64 tt, .int .i64 mo, .int .i64 zk, .int .i64 d, .int .i64 n, .int .i64 at', .int .i64 by', .int .i64 sv, .string lt] 118) = w2 at HNB ⊢
      clear c0 c1 c2 c3 c4 c5 c6 c7 c8 c9 c10
      refine (KC.out w2 ((GR.out.trans HNB.out.1).len HT.out.1)).mono ?_
      rintro e w3 ⟨rfl, g3⟩
      clear KC
      by_cases h0 : cc = 0
      · have t0 := bneF h0
        have Z : Hid (fc k = 0) := by unfold Hid; rw [RK2.out]; exact h0
        clear RK2 HK h0
        go_wp2_with fail
        go_roundw
        case rel => exact ⟨k + 1, by omega, by go_num, FK.out Z.out, (hg.out.trans HNB.out.1).trans g3⟩
        case measure => simp [intOf]; omega
      · have t0 := bneT h0
        have E : Hid (C = cc) := by unfold Hid; rw [HK.out (by rw [RK2.out]; exact h0), RK2.out]
        clear RK2 HK h0
        go_wp2_with fail
        go_ret
        exact ⟨ret_int E.out.symm, (GR.out.trans HNB.out.1).trans g3⟩
    · have e : k = rs.length := by omega
      have R0 : Hid (fe fc rs.length = 0) := by unfold Hid; rw [← e]; exact hf.out
      have CZ3 := Lib.hid (CZ2.out R0.out)
      have CL3 := Lib.hid (CL2.out R0.out)
      have HB2 := Lib.hid (bheap_gr hg.out HB.out)
      clear e hf R0 CZ2 CL2 RC F0 FS FH HB hg G1
      have y1 : wr.cell? ⟨q + 1, 1, none⟩ = some (.slice Az zs.length cz) := bcell_row HB2.out rfl
      go_wp2_with fail
      clear y1
      have F0 : Hid (fe (zonC rs zs) 0 = 0) := rfl
      have FS : Hid (∀ k, fe (zonC rs zs) k = 0 → zonC rs zs k = 0 → fe (zonC rs zs) (k + 1) = 0) := fun k a b => fe_step a b
      have FH : Hid (∀ k, k < zs.length → fe (zonC rs zs) k = 0 → zonC rs zs k ≠ 0 → C = zonC rs zs k) := fun k hk a b => by
        have := fe_hit a b _ hk
        rw [CZ3.out (by rw [this]; exact b), this]
      clear CZ3
      generalize zonC rs zs = fz at KZ F0 FS FH CL3
      go_loopw [48] (fun i W => ∃ k : Nat, k ≤ zs.length ∧ i = .int .i64 k ∧ Hid (fe fz k = 0) ∧ Hid (Gr wr W)) (fun i W => zs.length - (intOf i).toNat)
      case atStart => exact ⟨0, Nat.zero_le _, rfl, F0, Gr.refl _⟩
      case round =>
        obtain ⟨j, hj, rfl, hf, hg⟩ := hrel
        have GS := Lib.hid (GR.out.trans hg.out)
        have HB3 := Lib.hid (bheap_gr hg.out HB2.out)
        have z0 : wr.cell? ⟨q + 1, 0, none⟩ = some (.slice Ar rs.length cr) := bcell_row HB3.out rfl
        have z1 : wr.cell? ⟨q + 1, 1, none⟩ = some (.slice Az zs.length cz) := bcell_row HB3.out rfl
        have z2 : wr.cell? ⟨q + 1, 2, none⟩ = some (.slice Al ls.length cl) := bcell_row HB3.out rfl
        by_cases hlt : j < zs.length
        · have FK := Lib.hid (FS.out j hf.out)
          have HK := Lib.hid (FH.out j hlt hf.out)
          have KJ := Lib.hid (fun w hb ht => KZ.out j w hb hlt ht)
          clear FS FH KZ KL CL3
          go_wp2_with fail
          clear z0 z1 z2
          refine (KJ.out wr (HA.out wr GS.out) (GS.out.bk HT.out)).mono ?_
          rintro e w3 ⟨rfl, g3⟩
          clear KJ
          obtain ⟨cc, ec⟩ : ∃ cc, fz j = cc := ⟨_, rfl⟩
          have EC := Lib.hid ec
          rw [ec]
          clear ec
          by_cases h0 : cc = 0
          · have t0 := bneF h0
            have Z : Hid (fz j = 0) := by unfold Hid; rw [EC.out]; exact h0
            clear EC HK h0
            go_wp2_with fail
            go_roundw
            case rel => exact ⟨j + 1, by omega, by go_num, FK.out Z.out, hg.out.trans g3⟩
            case measure => simp [intOf]; omega
          · have t0 := bneT h0
            have E : Hid (C = cc) := by unfold Hid; rw [HK.out (by rw [EC.out]; exact h0), EC.out]
            clear EC HK h0
            go_wp2_with fail
            go_ret
            exact ⟨ret_int E.out.symm, GS.out.trans g3⟩
        · have e : j = zs.length := by omega
          have E : Hid (C = CLI) := CL3.out (by rw [← e]; exact hf.out)
          clear e hf FS FH KZ CL3
          go_wp2_with fail
          clear z0 z1 z2
          refine (KL.out wr (HA.out wr GS.out)).mono ?_
          rintro e w3 ⟨rfl, g3⟩
          go_wp2_with fail
          go_ret
          exact ⟨ret_int E.out.symm, GS.out.trans g3⟩
end Go.Proofs.YtkmgildnhnjepaaGreatDoor
