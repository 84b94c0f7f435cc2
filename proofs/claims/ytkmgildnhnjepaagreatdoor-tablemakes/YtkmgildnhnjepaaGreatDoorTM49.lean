/- What the reference's BookCheck returns. -/
import Derived.Deep.RegionHeld3
import Derived.Deep.DrawnRows
import Derived.Test.YtkmgildnhnjepaaGreatDoorTM48
import Derived.Test.YtkmgildnhnjepaaGreatDoorTM21
namespace Go.Proofs.YtkmgildnhnjepaaGreatDoor
set_option linter.unusedVariables false
set_option linter.unusedSimpArgs false
open Go.RowKit
/-- the index of one that is there -/
def NonNeg (w : World) (e : Ending) (w' : World) : Prop := ∃ m : Nat, e = .returned (.int .i64 (m : Int)) ∧ Gr w w'
/-- none is there -/
def Minus1 (w : World) (e : Ending) (w' : World) : Prop := e = .returned (.int .i64 (-1)) ∧ Gr w w'
theorem tells_yes {w : World} {e : Ending} {w' : World} (h : Tells01 true w e w') : NonNeg w e w' := by
  obtain ⟨n, rfl, h1, _, g⟩ := h
  exact ⟨n.toNat, by rw [Int.toNat_of_nonneg (h1 rfl)], g⟩
theorem tells_no {w : World} {e : Ending} {w' : World} (h : Tells01 false w e w') : Minus1 w e w' := by
  obtain ⟨n, rfl, _, h1, g⟩ := h
  exact ⟨by rw [h1 rfl], g⟩
theorem Gr.holdsA {w w' : World} (h : Gr w w') {p : Addr} {v : Value} (hc : w.cell? p = some v) : w'.cell? p = some v := (Below.cell h (World.block_lt_of_cell? w p hc)).trans hc
theorem keepM {w W W' : World} {a b c : Addr} {x y z : Value} (h : W.cell? a = some x ∧ W.cell? b = some y ∧ W.cell? c = some z ∧ Gr w W) (hg : Gr W W') : W'.cell? a = some x ∧ W'.cell? b = some y ∧ W'.cell? c = some z ∧ Gr w W' :=
  ⟨hg.holdsA h.1, hg.holdsA h.2.1, hg.holdsA h.2.2.1, h.2.2.2.trans hg⟩
theorem keepN {w W W' : World} {a b : Addr} {x y : Value} (h : W.cell? a = some x ∧ W.cell? b = some y ∧ Gr w W) (hg : Gr W W') : W'.cell? a = some x ∧ W'.cell? b = some y ∧ Gr w W' :=
  ⟨hg.holdsA h.1, hg.holdsA h.2.1, h.2.2.trans hg⟩

theorem rzoneTake (A : Option Addr) (c : Nat) (l : List ZonD) (k : Nat) (nm : ByteArray) (w : World) (hk : k ≤ l.length) (hl : l.length ≤ maxLen) (h : Row w 2 ZonD.cells A l) :
    Calls Tryz.prog 55 #[.slice A k c, .string nm] w (Tells01 (hasZ (l.take k) nm) w) := by
  have := rzoneAt A c (l.take k) nm w (by rw [List.length_take]; omega) (h.take k)
  rwa [List.length_take, Nat.min_eq_left hk] at this

theorem rlinkTake (A : Option Addr) (c : Nat) (l : List LinD) (k : Nat) (nm : ByteArray) (w : World) (hk : k ≤ l.length) (hl : l.length ≤ maxLen) (h : Row w 2 LinD.cells A l) :
    Calls Tryz.prog 56 #[.slice A k c, .string nm] w (Tells01 (hasL (l.take k) nm) w) := by
  have := rlinkAt A c (l.take k) nm w (by rw [List.length_take]; omega) (h.take k)
  rwa [List.length_take, Nat.min_eq_left hk] at this

set_option maxRecDepth 100000 in
set_option maxHeartbeats 40000000 in
theorem rbookCheck (b : BokD) (w : World) (hb : b.At w) (hm : HasMax w) :
    Calls Tryz.prog 54 #[bookV b] w fun e' w' => e' = .returned (.int .i64 (bokC b.rs b.zs b.ls)) ∧ Gr w w' := by
  have KE := Lib.hid (fun A n c es k w hb h40 hn hl h hk hm => reraCheck b A n c es k w hb h40 hn hl h hk hm)
  have HA := Lib.hid (fun W (g : Gr w W) => hb.gr g)
  obtain ⟨Ar, cr, rs, Az, cz, zs, Al, cl, ls⟩ := b
  have HR : Hid (Row w 11 RuD.cells Ar rs) := hb.1.2.1
  have HI : Hid (∀ r ∈ rs, r.In) := hb.1.2.2
  have HRU : Hid (RusAt w Ar cr rs) := hb.1
  have HZ : Hid (Row w 2 ZonD.cells Az zs) := hb.2.1.2.1
  have HZA : Hid (∀ z ∈ zs, z.At w) := hb.2.1.2.2
  have HL : Hid (Row w 2 LinD.cells Al ls) := hb.2.2.2.1
  have HLI : Hid (∀ x ∈ ls, x.In) := hb.2.2.2.2
  have hrl : rs.length ≤ maxLen := Nat.le_trans hb.1.1.1 hb.1.1.2
  have hzl : zs.length ≤ maxLen := Nat.le_trans hb.2.1.1.1 hb.2.1.1.2
  have hll : ls.length ≤ maxLen := Nat.le_trans hb.2.2.1.1 hb.2.2.1.2
  have hzc : zs.length ≤ cz := hb.2.1.1.1
  have hzm : cz ≤ maxLen := hb.2.1.1.2
  have hlc : ls.length ≤ cl := hb.2.2.1.1
  have hlm : cl ≤ maxLen := hb.2.2.1.2
  have KZT := Lib.hid (fun k nm w hk h => rzoneTake Az cz zs k nm w hk hzl h)
  have KZ := Lib.hid (fun nm w h => rzoneAt Az cz zs nm w hzl h)
  have KLT := Lib.hid (fun k nm w hk h => rlinkTake Al cl ls k nm w hk hll h)
  have KL := Lib.hid (fun nm w h => rlinkAt Al cl ls nm w hll h)
  have HM := Lib.hid hm
  have C2 : Hid (40 < rs.length ∨ 20 < zs.length ∨ 20 < ls.length → bokC rs zs ls = 2) := fun h => bokC_big h
  have CR : Hid (¬ (40 < rs.length ∨ 20 < zs.length ∨ 20 < ls.length) → fe (rusC rs) rs.length ≠ 0 → bokC rs zs ls = fe (rusC rs) rs.length) := fun h g => bokC_rus h g
  have CZ : Hid (¬ (40 < rs.length ∨ 20 < zs.length ∨ 20 < ls.length) → fe (rusC rs) rs.length = 0 → fe (zonC rs zs) zs.length ≠ 0 → bokC rs zs ls = fe (zonC rs zs) zs.length) := fun h g k => bokC_zos h g k
  have CL : Hid (¬ (40 < rs.length ∨ 20 < zs.length ∨ 20 < ls.length) → fe (rusC rs) rs.length = 0 → fe (zonC rs zs) zs.length = 0 → bokC rs zs ls = fe (linC zs ls) ls.length) := fun h g k => bokC_lis h g k
  have ZC : Hid (∀ k z, zs[k]? = some z → zonC rs zs k = if isNameB z.nm.toList = false then 3 else if hasZ (zs.take k) z.nm = true then 7 else if z.eras.length = 0 then 5 else if 700 < z.eras.length then 2 else fe (eraC rs z.eras) z.eras.length) := fun k x h => zonC_at h
  have LC : Hid (∀ k x, ls[k]? = some x → linC zs ls k = if (isNameB x.nm.toList && isNameB x.to'.toList) = false then 3 else if (hasZ zs x.nm || hasL (ls.take k) x.nm) = true then 7 else if (hasZ zs x.to' || hasL ls x.to') = false then 6 else 0) := fun k x h => linC_at h
  show Calls _ _ _ _ fun e' w' => e' = .returned (.int .i64 (bokC rs zs ls)) ∧ Gr w w'
  simp only at KE
  generalize bokC rs zs ls = C at C2 CR CZ CL ⊢
  unfold maxLen at hrl hzl hll hzm hlm
  clear hb hm
  have B0 := Lib.hid (box_one w (.cells #[.slice Ar rs.length cr, .slice Az zs.length cz, .slice Al ls.length cl] 26))
  by_cases r40 : 40 < rs.length
  · have E := Lib.hid (C2.out (Or.inl r40))
    have t1 : decide (40 < (rs.length : Int)) = true := ltT (by omega)
    clear C2 CR CZ CL
    go_enter Tryz.func54, Tryz.ntmps54
    go_wp2_with fail
    go_ret
    exact ⟨ret_int E.out.symm, B0.out.1⟩
  have t1 : decide (40 < (rs.length : Int)) = false := ltF (by omega)
  by_cases z20 : 20 < zs.length
  · have E := Lib.hid (C2.out (Or.inr (Or.inl z20)))
    have t2 : decide (20 < (zs.length : Int)) = true := ltT (by omega)
    clear C2 CR CZ CL
    go_enter Tryz.func54, Tryz.ntmps54
    go_wp2_with fail
    go_ret
    exact ⟨ret_int E.out.symm, B0.out.1⟩
  have t2 : decide (20 < (zs.length : Int)) = false := ltF (by omega)
  by_cases l20 : 20 < ls.length
  · have E := Lib.hid (C2.out (Or.inr (Or.inr l20)))
    have t3 : decide (20 < (ls.length : Int)) = true := ltT (by omega)
    clear C2 CR CZ CL
    go_enter Tryz.func54, Tryz.ntmps54
    go_wp2_with fail
    go_ret
    exact ⟨ret_int E.out.symm, B0.out.1⟩
  have t3 : decide (20 < (ls.length : Int)) = false := ltF (by omega)
  have H40 : Hid (rs.length ≤ 40) := by unfold Hid; omega
  have NB : Hid (¬ (40 < rs.length ∨ 20 < zs.length ∨ 20 < ls.length)) := fun h => by omega
  have CR2 := Lib.hid (CR.out NB.out)
  have CZ2 := Lib.hid (CZ.out NB.out)
  have CL2 := Lib.hid (CL.out NB.out)
  clear C2 CR CZ CL NB r40 z20 l20
  go_enter Tryz.func54, Tryz.ntmps54
  go_wp2_with fail
  generalize w.alloc (.cells #[.slice Ar rs.length cr, .slice Az zs.length cz, .slice Al ls.length cl] 26) = w1 at B0 ⊢
  generalize w.heap.size = q at B0 ⊢
  have G1 := Lib.hid B0.out.1
  have HB := Lib.hid B0.out.2
  clear B0 t1 t2 t3
  have RC : Hid (∀ k r, rs[k]? = some r → rusC rs k = r.chk) := fun k r h => rusC_at h
  have F0 : Hid (fe (rusC rs) 0 = 0) := rfl
  have FS : Hid (∀ k, fe (rusC rs) k = 0 → rusC rs k = 0 → fe (rusC rs) (k + 1) = 0) := fun k a b => fe_step a b
  have FH : Hid (∀ k, k < rs.length → fe (rusC rs) k = 0 → rusC rs k ≠ 0 → C = rusC rs k) := fun k hk a b => by
    have := fe_hit a b _ hk
    rw [CR2.out (by rw [this]; exact b), this]
  clear CR2
  generalize rusC rs = fc at RC F0 FS FH CZ2 CL2
  go_loopw [31] (fun i W => ∃ k : Nat, k ≤ rs.length ∧ i = .int .i64 k ∧ Hid (fe fc k = 0) ∧ Hid (Gr w1 W)) (fun i W => rs.length - (intOf i).toNat)
  case atStart => exact ⟨0, Nat.zero_le _, rfl, F0, Gr.refl _⟩
  case round =>
    obtain ⟨k, hk, rfl, hf, hg⟩ := hrel
    have GR := Lib.hid (G1.out.trans hg.out)
    by_cases hlt : k < rs.length
    · obtain ⟨⟨nm, fr, tt, mo, zk, d, n, at', by', sv, lt⟩, hx⟩ := get_lt hlt
      have RK := Lib.hid (RC.out k _ hx)
      have FK := Lib.hid (FS.out k hf.out)
      have HK := Lib.hid (FH.out k hlt hf.out)
      have hin := HI.out _ (get_mem hx)
      have KC := Lib.hid (fun w => rruleCheck nm fr tt mo zk d n at' by' sv lt w hin.1 hin.2)
      have RK2 : Hid (fc k = ruleC nm.toList lt.toList fr tt mo zk d n at' by' sv) := RK.out
      obtain ⟨b, off, rfl, c0, c1, c2, c3, c4, c5, c6, c7, c8, c9, c10⟩ := HR.out.eleven hx rfl GR.out
      have HNB := Lib.hid (box_one wr (.cells #[.string nm, .int .i64 fr, .int .i64 tt, .int .i64 mo, .int .i64 zk, .int .i64 d, .int .i64 n, .int .i64 at', .int .i64 by', .int .i64 sv, .string lt] 118))
      clear hx hin RC FS FH RK CZ2 CL2 KZ KL KZT KLT KE HA HI HR HRU HZ HZA HL HLI ZC LC
      generalize ruleC nm.toList lt.toList fr tt mo zk d n at' by' sv = cc at KC RK2
      go_wp2_with fail
      generalize wr.alloc (.cells #[.string nm, .int .i64 fr, .int .i64 tt, .int .i64 mo, .int .i64 zk, .int .i64 d, .int .i64 n, .int .i64 at', .int .i64 by', .int .i64 sv, .string lt] 118) = w2 at HNB ⊢
      clear c0 c1 c2 c3 c4 c5 c6 c7 c8 c9 c10
      refine (KC.out w2).mono ?_
      rintro e w3 ⟨rfl, g3⟩
      clear KC
      by_cases h0 : cc = 0
      · have t0 := bneF h0
        have Z : Hid (fc k = 0) := by unfold Hid; rw [RK2.out]; exact h0
        clear RK2 HK h0
        go_wp2_with fail
        go_roundw
        case rel => exact ⟨k + 1, by omega, by go_num, FK.out Z.out, (hg.out.trans HNB.out.1).trans g3⟩
        case measure => simp [intOf]; omega
      · have t0 := bneT h0
        have E : Hid (C = cc) := by unfold Hid; rw [HK.out (by rw [RK2.out]; exact h0), RK2.out]
        clear RK2 HK h0
        go_wp2_with fail
        go_ret
        exact ⟨ret_int E.out.symm, (GR.out.trans HNB.out.1).trans g3⟩
    · have e : k = rs.length := by omega
      have R0 : Hid (fe fc rs.length = 0) := by unfold Hid; rw [← e]; exact hf.out
      have CZ3 := Lib.hid (CZ2.out R0.out)
      have CL3 := Lib.hid (CL2.out R0.out)
      have HB2 := Lib.hid (bheap_gr hg.out HB.out)
      clear e hf R0 CZ2 CL2 RC F0 FS FH HB hg G1
      have y1 : wr.cell? ⟨q, 1, none⟩ = some (.slice Az zs.length cz) := bcell_row HB2.out rfl
      go_wp2_with fail
      clear y1 hlt hk
      have F0 : Hid (fe (zonC rs zs) 0 = 0) := rfl
      have FS : Hid (∀ k, fe (zonC rs zs) k = 0 → zonC rs zs k = 0 → fe (zonC rs zs) (k + 1) = 0) := fun k a b => fe_step a b
      have FH : Hid (∀ k, k < zs.length → fe (zonC rs zs) k = 0 → zonC rs zs k ≠ 0 → C = zonC rs zs k) := fun k hk a b => by
        have := fe_hit a b _ hk
        rw [CZ3.out (by rw [this]; exact b), this]
      clear CZ3
      generalize zonC rs zs = fc at ZC F0 FS FH CL3
      go_loopw [44] (fun i W => ∃ k : Nat, k ≤ zs.length ∧ i = .int .i64 k ∧ Hid (fe fc k = 0) ∧ Hid (Gr wr W)) (fun i W => zs.length - (intOf i).toNat)
      case atStart => exact ⟨0, Nat.zero_le _, rfl, F0, Gr.refl _⟩
      case round =>
        rename_i wr0 _ _
        obtain ⟨k, hk, rfl, hf, hg⟩ := hrel
        have GS := Lib.hid (GR.out.trans hg.out)
        have HB3 := Lib.hid (bheap_gr hg.out HB2.out)
        by_cases hlt : k < zs.length
        · obtain ⟨⟨nm, zA, zc, ze⟩, hx⟩ := get_lt hlt
          have RK : Hid (fc k = if isNameB nm.toList = false then 3 else if hasZ (zs.take k) nm = true then 7 else if ze.length = 0 then 5 else if 700 < ze.length then 2 else fe (eraC rs ze) ze.length) := ZC.out k _ hx
          have FK := Lib.hid (FS.out k hf.out)
          have HK := Lib.hid (FH.out k hlt hf.out)
          have hat := HZA.out _ (get_mem hx)
          have HER : Hid (Row w 5 EraD.cells zA ze) := hat.2.2.1
          have KN := Lib.hid (fun w => isName_any nm w hat.1)
          have hel : ze.length ≤ maxLen := Nat.le_trans hat.2.1.1 hat.2.1.2
          have KEK := Lib.hid (fun j w hb h hj hm => KE.out zA ze.length zc ze j w hb H40.out rfl hel h hj hm)
          have K1 := Lib.hid (fun w h => KZT.out k nm w hk h)
          obtain ⟨b, off, rfl, c0, c1⟩ := HZ.out.two hx rfl GS.out
          have HNB := Lib.hid (box_one wr (.cells #[.string nm, .slice zA ze.length zc] 57))
          unfold maxLen at hel
          clear hx hat ZC FS FH CL3 KZT KLT KZ KL KE HI HR HLI HL LC HA hf
          have L1 : Hid (zs.length ≤ maxLen) := by unfold Hid maxLen; omega
          go_wp2_with fail
          generalize wr.alloc (.cells #[.string nm, .slice zA ze.length zc] 57) = wo at HNB ⊢
          clear c0 c1
          generalize wr.heap.size = q2 at HNB ⊢
          have G2o := Lib.hid (GS.out.trans HNB.out.1)
          have GWo := Lib.hid (hg.out.trans HNB.out.1)
          have D2o := Lib.hid HNB.out.2
          have D1o := Lib.hid (bheap_gr HNB.out.1 HB3.out)
          clear HNB HB3 GS
          generalize isNameB nm.toList = bn at KN RK
          refine (KN.out wo).mono ?_
          rintro e w2 ⟨rfl, g2⟩
          have G2 := Lib.hid (G2o.out.trans g2)
          have GW := Lib.hid (GWo.out.trans g2)
          have D2 := Lib.hid (bheap_gr g2 D2o.out)
          have D1 := Lib.hid (bheap_gr g2 D1o.out)
          clear G2o GWo D2o D1o g2
          clear wo
          cases bn with
          | false =>
            have Z : Hid (fc k = 3) := by unfold Hid; rw [RK.out]; rfl
            have E : Hid (C = 3) := by unfold Hid; rw [HK.out (by rw [Z.out]; decide), Z.out]
            clear RK HK Z
            go_wp2_with fail
            go_ret
            exact ⟨ret_int E.out.symm, G2.out⟩
          | true =>
          have RK' : Hid (fc k = if hasZ (zs.take k) nm = true then 7 else if ze.length = 0 then 5 else if 700 < ze.length then 2 else fe (eraC rs ze) ze.length) := by unfold Hid; rw [RK.out, if_neg (by simp)]
          clear RK KN
          have RK := RK'
          clear RK'
          have kn : (k : Int) ≤ (cz : Int) := by omega
          have k0 : (0 : Int) ≤ (k : Int) := by omega
          have HS : w2.cell? ⟨q2, 0, none⟩ = some (.string nm) ∧ w2.cell? ⟨q, 1, none⟩ = some (.slice (some ⟨b, off, none⟩) zs.length cz) ∧ Gr w2 w2 := ⟨bcell_row D2.out rfl, bcell_row D1.out rfl, Gr.refl _⟩
          generalize hasZ (zs.take k) nm = p7 at K1 RK
          cases p7 with
          | true =>
            have P1 := Lib.hid (fun W (g : Gr w2 W) => (K1.out W (HZ.out.gr (G2.out.trans g))).mono (fun _ _ h => tells_yes h))
            have Z : Hid (fc k = 7) := by unfold Hid; rw [RK.out]; rfl
            have E : Hid (C = 7) := by unfold Hid; rw [HK.out (by rw [Z.out]; decide), Z.out]
            clear RK HK Z
            clear K1
            go_wp2_with fail
            go_region_held3 (fun wx => wx.cell? ⟨q2, 0, none⟩ = some (.string nm) ∧ wx.cell? ⟨q, 1, none⟩ = some (.slice (some ⟨b, off, none⟩) zs.length cz) ∧ Gr w2 wx) (first | exact ⟨HS.1, HS.2.1, HS.2.2.drew'⟩ | assumption) ((go_at_call 55; (with_reducible refine (P1.out _ ?_).mono ?_); (exact And.right (And.right (by assumption))); rintro e w3 ⟨m, rfl, g3⟩; have HS3 := keepN (by assumption) g3))
            have hd : decide ((0 : Int) ≤ (m : Int)) = true := decide_eq_true (by omega)
            have G3 := Lib.hid HS3.2.2
            clear HS HS3 P1 kn k0
            go_wp2_with fail
            go_ret
            exact ⟨ret_int E.out.symm, G2.out.trans G3.out⟩
          | false =>
          have P1 := Lib.hid (fun W (g : Gr w2 W) => (K1.out W (HZ.out.gr (G2.out.trans g))).mono (fun _ _ h => tells_no h))
          have RK' : Hid (fc k = if ze.length = 0 then 5 else if 700 < ze.length then 2 else fe (eraC rs ze) ze.length) := by unfold Hid; rw [RK.out, if_neg (by simp)]
          clear RK K1
          have RK := RK'
          clear RK'
          go_wp2_with fail
          go_region_held3 (fun wx => wx.cell? ⟨q2, 0, none⟩ = some (.string nm) ∧ wx.cell? ⟨q, 1, none⟩ = some (.slice (some ⟨b, off, none⟩) zs.length cz) ∧ Gr w2 wx) (first | exact ⟨HS.1, HS.2.1, HS.2.2.drew'⟩ | assumption) ((go_at_call 55; (with_reducible refine (P1.out _ ?_).mono ?_); (exact And.right (And.right (by assumption))); rintro e w3 ⟨rfl, g3⟩; have HS3 := keepN (by assumption) g3))
          have G3 := Lib.hid (G2.out.trans HS3.2.2)
          have GV := Lib.hid (GW.out.trans HS3.2.2)
          have D3 := Lib.hid (bheap_gr HS3.2.2 D2.out)
          have D4 := Lib.hid (bheap_gr HS3.2.2 D1.out)
          clear HS HS3 P1 D1 D2 kn k0 G2 GW
          have y1 : w3.cell? ⟨q2, 1, none⟩ = some (.slice zA ze.length zc) := bcell_row D3.out rfl
          by_cases e0 : ze.length = 0
          · have Z : Hid (fc k = 5) := by unfold Hid; rw [RK.out, if_pos e0]
            have E : Hid (C = 5) := by unfold Hid; rw [HK.out (by rw [Z.out]; decide), Z.out]
            have t0 : ((ze.length : Int) == 0) = true := beqT (by omega)
            clear RK HK Z e0
            go_wp2_with fail
            go_ret
            exact ⟨ret_int E.out.symm, G3.out⟩
          have t0 : ((ze.length : Int) == 0) = false := beqF (by omega)
          by_cases e7 : 700 < ze.length
          · have Z : Hid (fc k = 2) := by unfold Hid; rw [RK.out, if_neg e0, if_pos e7]
            have E : Hid (C = 2) := by unfold Hid; rw [HK.out (by rw [Z.out]; decide), Z.out]
            have t7 : decide (700 < (ze.length : Int)) = true := ltT (by omega)
            clear RK HK Z e0 e7
            go_wp2_with fail
            go_ret
            exact ⟨ret_int E.out.symm, G3.out⟩
          have t7 : decide (700 < (ze.length : Int)) = false := ltF (by omega)
          have RE : Hid (fc k = fe (eraC rs ze) ze.length) := by unfold Hid; rw [RK.out, if_neg e0, if_neg e7]
          clear RK e0 e7
          have E0 : Hid (fe (eraC rs ze) 0 = 0) := rfl
          have ES : Hid (∀ j, fe (eraC rs ze) j = 0 → eraC rs ze j = 0 → fe (eraC rs ze) (j + 1) = 0) := fun k a b => fe_step a b
          have EH : Hid (∀ j, j < ze.length → fe (eraC rs ze) j = 0 → eraC rs ze j ≠ 0 → C = eraC rs ze j) := fun j hj a b => by
            have := fe_hit a b _ hj
            have e2 : fc k = eraC rs ze j := by rw [RE.out, this]
            rw [HK.out (by rw [e2]; exact b), e2]
          have EE : Hid (fe (eraC rs ze) ze.length = 0 → fc k = 0) := fun h => by rw [RE.out, h]
          clear RE HK
          generalize eraC rs ze = fd at KEK E0 ES EH EE
          go_wp2_with fail
          clear y1 t0 t7
          go_loopw [72] (fun i W => ∃ j : Nat, j ≤ ze.length ∧ i = .int .i64 j ∧ Hid (fe fd j = 0) ∧ Hid (Gr w3 W)) (fun i W => ze.length - (intOf i).toNat)
          case atStart => exact ⟨0, Nat.zero_le _, rfl, E0, Gr.refl _⟩
          case round =>
            rename_i wr3 _ _
            obtain ⟨j, hj, rfl, hef, heg⟩ := hrel
            have GT := Lib.hid (G3.out.trans heg.out)
            have D5 := Lib.hid (bheap_gr heg.out D4.out)
            have D6 := Lib.hid (bheap_gr heg.out D3.out)
            by_cases hlj : j < ze.length
            · have FJ := Lib.hid (ES.out j hef.out)
              have HJ := Lib.hid (EH.out j hlj hef.out)
              have z0 : wr.cell? ⟨q, 0, none⟩ = some (.slice Ar rs.length cr) := bcell_row D5.out rfl
              have z1 : wr.cell? ⟨q, 1, none⟩ = some (.slice (some ⟨b, off, none⟩) zs.length cz) := bcell_row D5.out rfl
              have z2 : wr.cell? ⟨q, 2, none⟩ = some (.slice Al ls.length cl) := bcell_row D5.out rfl
              have z3 : wr.cell? ⟨q2, 1, none⟩ = some (.slice zA ze.length zc) := bcell_row D6.out rfl
              clear ES EH EE
              go_wp2_with fail
              clear z0 z1 z2 z3
              refine (KEK.out j wr (HRU.out.gr GT.out) (HER.out.gr GT.out) hlj (GT.out.max HM.out)).mono ?_
              rintro e w4 ⟨rfl, g4⟩
              clear KEK
              obtain ⟨cc, ec⟩ : ∃ cc, fd j = cc := ⟨_, rfl⟩
              have EC := Lib.hid ec
              rw [ec]
              clear ec
              by_cases h0 : cc = 0
              · have t0 := bneF h0
                have Z : Hid (fd j = 0) := by unfold Hid; rw [EC.out]; exact h0
                clear EC HJ h0
                go_wp2_with fail
                go_roundw
                case rel => exact ⟨j + 1, by omega, by go_num, FJ.out Z.out, heg.out.trans g4⟩
                case measure => simp [intOf]; omega
              · have t0 := bneT h0
                have E : Hid (C = cc) := by unfold Hid; rw [HJ.out (by rw [EC.out]; exact h0), EC.out]
                clear EC HJ h0
                go_wp2_with fail
                go_ret
                exact ⟨ret_int E.out.symm, GT.out.trans g4⟩
            · have e : j = ze.length := by omega
              have Z : Hid (fc k = 0) := EE.out (by rw [← e]; exact hef.out)
              clear e hef
              go_wp2_with fail
              go_roundw
              case rel => exact ⟨k + 1, by omega, by go_num, FK.out Z.out, GV.out.trans heg.out⟩
              case measure => simp [intOf]; omega
        · have e : k = zs.length := by omega
          have CL4 := Lib.hid (CL3.out (by rw [← e]; exact hf.out))
          have y2 : wr.cell? ⟨q, 2, none⟩ = some (.slice Al ls.length cl) := bcell_row HB3.out rfl
          clear e hf FS FH ZC CL3 F0 GR hg
          go_wp2_with fail
          clear y2 hlt hk KE KZT HR HRU HI HB2
          have F0 : Hid (fe (linC zs ls) 0 = 0) := rfl
          have FS : Hid (∀ k, fe (linC zs ls) k = 0 → linC zs ls k = 0 → fe (linC zs ls) (k + 1) = 0) := fun k a b => fe_step a b
          have FH : Hid (∀ k, k < ls.length → fe (linC zs ls) k = 0 → linC zs ls k ≠ 0 → C = linC zs ls k) := fun k hk a b => CL4.out.trans (fe_hit a b _ hk)
          generalize linC zs ls = fc at LC F0 FS FH CL4
          go_loopw [88] (fun i W => ∃ k : Nat, k ≤ ls.length ∧ i = .int .i64 k ∧ Hid (fe fc k = 0) ∧ Hid (Gr wr W)) (fun i W => ls.length - (intOf i).toNat)
          case atStart => exact ⟨0, Nat.zero_le _, rfl, F0, Gr.refl _⟩
          case round =>
            rename_i wr0 _ _
            obtain ⟨k, hk, rfl, hf, hg⟩ := hrel
            have GR := Lib.hid (GS.out.trans hg.out)
            have HBox := Lib.hid (bheap_gr hg.out HB3.out)
            by_cases hlt : k < ls.length
            · obtain ⟨⟨nm, to'⟩, hx⟩ := get_lt hlt
              have RK : Hid (fc k = if (isNameB nm.toList && isNameB to'.toList) = false then 3 else if (hasZ zs nm || hasL (ls.take k) nm) = true then 7 else if (hasZ zs to' || hasL ls to') = false then 6 else 0) := LC.out k _ hx
              have FK := Lib.hid (FS.out k hf.out)
              have HK := Lib.hid (FH.out k hlt hf.out)
              have hin := HLI.out _ (get_mem hx)
              have KN := Lib.hid (fun w => isName_any nm w hin.1)
              have KT := Lib.hid (fun w => isName_any to' w hin.2)
              have K1 := Lib.hid (fun w h => KZ.out nm w h)
              have K2 := Lib.hid (fun w h => KLT.out k nm w hk h)
              have K3 := Lib.hid (fun w h => KZ.out to' w h)
              have K4 := Lib.hid (fun w h => KL.out to' w h)
              obtain ⟨b, off, rfl, c0, c1⟩ := HL.out.two hx rfl GR.out
              have HNB := Lib.hid (box_one wr (.cells #[.string nm, .string to'] 52))
              clear hx hin LC FS FH KLT KZ KL HLI CL4 hf
              go_wp2_with fail
              generalize wr.alloc (.cells #[.string nm, .string to'] 52) = w2 at HNB ⊢
              clear c0 c1
              generalize wr.heap.size = q2 at HNB ⊢
              have G2 := Lib.hid (GR.out.trans HNB.out.1)
              have GW := Lib.hid (hg.out.trans HNB.out.1)
              have D2 := Lib.hid HNB.out.2
              have D1 := Lib.hid (bheap_gr HNB.out.1 HBox.out)
              clear HNB HBox GR
              generalize isNameB nm.toList = bn at KN RK
              generalize isNameB to'.toList = bt at KT RK
              refine (KN.out w2).mono ?_
              rintro e w2' ⟨rfl, g2⟩
              have G2' := Lib.hid (G2.out.trans g2)
              have GW' := Lib.hid (GW.out.trans g2)
              have D2' := Lib.hid (bheap_gr g2 D2.out)
              have D1' := Lib.hid (bheap_gr g2 D1.out)
              clear G2 GW D2 D1 g2
              clear w2
              cases bn with
              | false =>
                have Z : Hid (fc k = 3) := by unfold Hid; rw [RK.out]; rfl
                have E : Hid (C = 3) := by unfold Hid; rw [HK.out (by rw [Z.out]; decide), Z.out]
                clear RK HK Z
                go_wp2_with fail
                go_ret
                exact ⟨ret_int E.out.symm, G2'.out⟩
              | true =>
              have y1 : w2'.cell? ⟨q2, 1, none⟩ = some (.string to') := bcell_row D2'.out rfl
              go_wp2_with fail
              clear y1
              refine (KT.out w2').mono ?_
              rintro e w2 ⟨rfl, g2⟩
              have G2 := Lib.hid (G2'.out.trans g2)
              have GW := Lib.hid (GW'.out.trans g2)
              have D2 := Lib.hid (bheap_gr g2 D2'.out)
              have D1 := Lib.hid (bheap_gr g2 D1'.out)
              clear G2' GW' D2' D1' g2
              cases bt with
              | false =>
                have Z : Hid (fc k = 3) := by unfold Hid; rw [RK.out]; rfl
                have E : Hid (C = 3) := by unfold Hid; rw [HK.out (by rw [Z.out]; decide), Z.out]
                clear RK HK Z
                go_wp2_with fail
                go_ret
                exact ⟨ret_int E.out.symm, G2.out⟩
              | true =>
              have RK' : Hid (fc k = if (hasZ zs nm || hasL (ls.take k) nm) = true then 7 else if (hasZ zs to' || hasL ls to') = false then 6 else 0) := by unfold Hid; rw [RK.out, if_neg (by simp)]
              clear RK KN KT w2'
              have RK := RK'
              clear RK'
              have kn : (k : Int) ≤ (cl : Int) := by omega
              have k0 : (0 : Int) ≤ (k : Int) := by omega
              have HS : w2.cell? ⟨q2, 0, none⟩ = some (.string nm) ∧ w2.cell? ⟨q, 1, none⟩ = some (.slice Az zs.length cz) ∧ w2.cell? ⟨q, 2, none⟩ = some (.slice (some ⟨b, off, none⟩) ls.length cl) ∧ Gr w2 w2 := ⟨bcell_row D2.out rfl, bcell_row D1.out rfl, bcell_row D1.out rfl, Gr.refl _⟩
              generalize hasZ zs nm = bz at K1 RK
              generalize hasL (ls.take k) nm = bl at K2 RK
              cases bz with
              | true =>
                have P1 := Lib.hid (fun W (g : Gr w2 W) => (K1.out W (HZ.out.gr (G2.out.trans g))).mono (fun _ _ h => tells_yes h))
                have Z : Hid (fc k = 7) := by unfold Hid; rw [RK.out]; rfl
                have E : Hid (C = 7) := by unfold Hid; rw [HK.out (by rw [Z.out]; decide), Z.out]
                clear RK HK Z
                clear K1 K2 K3 K4
                go_wp2_with fail
                refine wp_region_noPanic ?_
                refine wp_region_held_drew (S := fun wx => wx.cell? ⟨q2, 0, none⟩ = some (.string nm) ∧ wx.cell? ⟨q, 1, none⟩ = some (.slice Az zs.length cz) ∧ wx.cell? ⟨q, 2, none⟩ = some (.slice (some ⟨b, off, none⟩) ls.length cl) ∧ Gr w2 wx) (by kernel_rfl) ⟨HS.1, HS.2.1, HS.2.2.1, HS.2.2.2.drew'⟩ (fun hHeld => ?_)
                clear HS
                refine wpAnyH_take (i := 0) (oi := { dst := some 103, op := _, type := _, pos := _, after := _, guard := _ }) (v := ?v0) rfl (by kernel_rfl) (by kernel_rfl) (by kernel_rfl) (fun _ _ _ h => h) (Or.inl ⟨by rfl, ?hy0⟩) (by assumption) ?rest0
                case hy0 => (intro w hSw; (try dsimp only at hSw); go_simp <;> (with_reducible rfl))
                (try simp only [Act.put, List.setIfInBounds_toArray, List.set_cons_zero, List.set_cons_succ])
                refine wpAnyH_take (i := 1) (oi := { dst := some 104, op := _, type := _, pos := _, after := _, guard := _ }) (v := ?v1) rfl (by kernel_rfl) (by kernel_rfl) (by kernel_rfl) (fun _ _ _ h => h) (Or.inl ⟨by rfl, ?hy1⟩) (by assumption) ?rest1
                case hy1 => (intro w hSw; (try dsimp only at hSw); go_simp <;> (with_reducible rfl))
                (try simp only [Act.put, List.setIfInBounds_toArray, List.set_cons_zero, List.set_cons_succ])
                refine wpAnyH_take (i := 2) (oi := { dst := some 105, op := _, type := _, pos := _, after := _, guard := _ }) (v := ?v2) rfl (by kernel_rfl) (by kernel_rfl) (by kernel_rfl) (fun _ _ _ h => h) (Or.inl ⟨by rfl, ?hy2⟩) (by assumption) ?rest2
                case hy2 => (intro w hSw; (try dsimp only at hSw); go_simp <;> (with_reducible rfl))
                (try simp only [Act.put, List.setIfInBounds_toArray, List.set_cons_zero, List.set_cons_succ])
                refine wpAnyH_take (i := 3) (oi := { dst := some 106, op := _, type := _, pos := _, after := _, guard := _ }) (v := ?v3) rfl (by kernel_rfl) (by kernel_rfl) (by kernel_rfl) (fun _ _ _ h => h) (Or.inl ⟨by rfl, ?hy3⟩) (by assumption) ?rest3
                case hy3 => (intro w hSw; (try dsimp only at hSw); go_simp <;> (with_reducible rfl))
                (try simp only [Act.put, List.setIfInBounds_toArray, List.set_cons_zero, List.set_cons_succ])
                refine wpAnyH_ready (rs := [4]) (by kernel_rfl) (by simp) ?_
                refine AllReadyH.cons (rs := []) rfl (fun K hK => ?_) AllReadyH.nil
                go_simp
                (with_reducible refine (P1.out _ hHeld.2.2.2).mono ?_)
                rintro e w3 ⟨m, rfl, g3⟩
                (go_wp2_with fail)
                refine hK.out _ _ (keepM hHeld g3) (fun hHeld2 => ?_)
                clear hK K hHeld
                have hHeld := hHeld2
                clear hHeld2
                (try simp only [Act.put, List.setIfInBounds_toArray, List.set_cons_zero, List.set_cons_succ])
                refine wpAnyH_take (i := 5) (oi := { dst := some 108, op := _, type := _, pos := _, after := _, guard := _ }) (v := .bool true) rfl (by kernel_rfl) (by kernel_rfl) (by kernel_rfl) (fun _ _ _ h => h) (Or.inl ⟨by rfl, ?hy5⟩) (by assumption) ?rest5
                case hy5 => (intro w hSw; (try dsimp only at hSw); go_simp)
                (try simp only [Act.put, List.setIfInBounds_toArray, List.set_cons_zero, List.set_cons_succ])
                refine wpAnyH_take (i := 6) (oi := { dst := some 109, op := _, type := _, pos := _, after := _, guard := _ }) (v := ?v6) rfl (by kernel_rfl) (by kernel_rfl) (by kernel_rfl) (fun _ _ _ h => h) (Or.inl ⟨by rfl, ?hy6⟩) (by assumption) ?rest6
                case hy6 => (intro w hSw; (try dsimp only at hSw); go_simp <;> (with_reducible rfl))
                (try simp only [Act.put, List.setIfInBounds_toArray, List.set_cons_zero, List.set_cons_succ])
                refine wpAnyH_take (i := 7) (oi := { dst := some 110, op := _, type := _, pos := _, after := _, guard := _ }) (v := undef) rfl (by kernel_rfl) (by kernel_rfl) (by kernel_rfl) (fun _ _ _ h => h) (Or.inr ⟨by rfl, rfl⟩) (by assumption) ?rest7
                (try simp only [Act.put, List.setIfInBounds_toArray, List.set_cons_zero, List.set_cons_succ])
                refine wpAnyH_take (i := 8) (oi := { dst := some 111, op := _, type := _, pos := _, after := _, guard := _ }) (v := undef) rfl (by kernel_rfl) (by kernel_rfl) (by kernel_rfl) (fun _ _ _ h => h) (Or.inr ⟨by rfl, rfl⟩) (by assumption) ?rest8
                (try simp only [Act.put, List.setIfInBounds_toArray, List.set_cons_zero, List.set_cons_succ])
                refine wpAnyH_take (i := 9) (oi := { dst := some 112, op := _, type := _, pos := _, after := _, guard := _ }) (v := undef) rfl (by kernel_rfl) (by kernel_rfl) (by kernel_rfl) (fun _ _ _ h => h) (Or.inr ⟨by rfl, rfl⟩) (by assumption) ?rest9
                (try simp only [Act.put, List.setIfInBounds_toArray, List.set_cons_zero, List.set_cons_succ])
                refine wpAnyH_take (i := 10) (oi := { dst := some 113, op := _, type := _, pos := _, after := _, guard := _ }) (v := undef) rfl (by kernel_rfl) (by kernel_rfl) (by kernel_rfl) (fun _ _ _ h => h) (Or.inr ⟨by rfl, rfl⟩) (by assumption) ?rest10
                (try simp only [Act.put, List.setIfInBounds_toArray, List.set_cons_zero, List.set_cons_succ])
                refine wpAnyH_take (i := 11) (oi := { dst := some 114, op := _, type := _, pos := _, after := _, guard := _ }) (v := undef) rfl (by kernel_rfl) (by kernel_rfl) (by kernel_rfl) (fun _ _ _ h => h) (Or.inr ⟨by rfl, rfl⟩) (by assumption) ?rest11
                (try simp only [Act.put, List.setIfInBounds_toArray, List.set_cons_zero, List.set_cons_succ])
                refine wpAnyH_take (i := 12) (oi := { dst := some 115, op := _, type := _, pos := _, after := _, guard := _ }) (v := undef) rfl (by kernel_rfl) (by kernel_rfl) (by kernel_rfl) (fun _ _ _ h => h) (Or.inr ⟨by rfl, rfl⟩) (by assumption) ?rest12
                (try simp only [Act.put, List.setIfInBounds_toArray, List.set_cons_zero, List.set_cons_succ])
                refine wpAnyH_take (i := 13) (oi := { dst := some 116, op := _, type := _, pos := _, after := _, guard := _ }) (v := undef) rfl (by kernel_rfl) (by kernel_rfl) (by kernel_rfl) (fun _ _ _ h => h) (Or.inr ⟨by rfl, rfl⟩) (by assumption) ?rest13
                (try simp only [Act.put, List.setIfInBounds_toArray, List.set_cons_zero, List.set_cons_succ])
                refine wpAnyH_take (i := 14) (oi := { dst := some 117, op := _, type := _, pos := _, after := _, guard := _ }) (v := undef) rfl (by kernel_rfl) (by kernel_rfl) (by kernel_rfl) (fun _ _ _ h => h) (Or.inr ⟨by rfl, rfl⟩) (by assumption) ?rest14
                (try simp only [Act.put, List.setIfInBounds_toArray, List.set_cons_zero, List.set_cons_succ])
                refine wpAnyH_take (i := 15) (oi := { dst := some 118, op := _, type := _, pos := _, after := _, guard := _ }) (v := ?v15) rfl (by kernel_rfl) (by kernel_rfl) (by kernel_rfl) (fun _ _ _ h => h) (Or.inl ⟨by rfl, ?hy15⟩) (by assumption) ?rest15
                case hy15 => (intro w hSw; (try dsimp only at hSw); go_simp <;> (with_reducible rfl))
                (try simp only [Act.put, List.setIfInBounds_toArray, List.set_cons_zero, List.set_cons_succ])
                refine wpAnyH_done (by kernel_rfl) ?_ _
                refine NoPanic.normal ?_
                have G3 := Lib.hid hHeld.2.2.2
                clear hHeld P1 kn k0
                go_wp2_with fail
                go_ret
                exact ⟨ret_int E.out.symm, G2.out.trans G3.out⟩
              | false =>
              have P1 := Lib.hid (fun W (g : Gr w2 W) => (K1.out W (HZ.out.gr (G2.out.trans g))).mono (fun _ _ h => tells_no h))
              cases bl with
              | true =>
                have P2 := Lib.hid (fun W (g : Gr w2 W) => (K2.out W (HL.out.gr (G2.out.trans g))).mono (fun _ _ h => tells_yes h))
                have Z : Hid (fc k = 7) := by unfold Hid; rw [RK.out]; rfl
                have E : Hid (C = 7) := by unfold Hid; rw [HK.out (by rw [Z.out]; decide), Z.out]
                clear RK HK Z
                clear K1 K2 K3 K4
                go_wp2_with fail
                go_region_held3 (fun wx => wx.cell? ⟨q2, 0, none⟩ = some (.string nm) ∧ wx.cell? ⟨q, 1, none⟩ = some (.slice Az zs.length cz) ∧ wx.cell? ⟨q, 2, none⟩ = some (.slice (some ⟨b, off, none⟩) ls.length cl) ∧ Gr w2 wx) (first | exact ⟨HS.1, HS.2.1, HS.2.2.1, HS.2.2.2.drew'⟩ | assumption) (first | (go_at_call 55; (with_reducible refine (P1.out _ ?_).mono ?_); (exact And.right (And.right (And.right (by assumption)))); rintro e w3 ⟨rfl, g3⟩; have HS3 := keepM (by assumption) g3) | (go_at_call 56; (with_reducible refine (P2.out _ ?_).mono ?_); (exact And.right (And.right (And.right (by assumption)))); rintro e w4 ⟨m, rfl, g4⟩; have HS4 := keepM (by assumption) g4))
                have hd : decide ((0 : Int) ≤ (m : Int)) = true := decide_eq_true (by omega)
                have G3 := Lib.hid HS4.2.2.2
                clear HS HS4 P1 P2 kn k0
                go_wp2_with fail
                go_ret
                exact ⟨ret_int E.out.symm, G2.out.trans G3.out⟩
              | false =>
              have P2 := Lib.hid (fun W (g : Gr w2 W) => (K2.out W (HL.out.gr (G2.out.trans g))).mono (fun _ _ h => tells_no h))
              have RK' : Hid (fc k = if (hasZ zs to' || hasL ls to') = false then 6 else 0) := by unfold Hid; rw [RK.out, if_neg (by simp)]
              clear K1 K2 RK
              have RK := RK'
              clear RK'
              go_wp2_with fail
              go_region_held3 (fun wx => wx.cell? ⟨q2, 0, none⟩ = some (.string nm) ∧ wx.cell? ⟨q, 1, none⟩ = some (.slice Az zs.length cz) ∧ wx.cell? ⟨q, 2, none⟩ = some (.slice (some ⟨b, off, none⟩) ls.length cl) ∧ Gr w2 wx) (first | exact ⟨HS.1, HS.2.1, HS.2.2.1, HS.2.2.2.drew'⟩ | assumption) (first | (go_at_call 55; (with_reducible refine (P1.out _ ?_).mono ?_); (exact And.right (And.right (And.right (by assumption)))); rintro e w3 ⟨rfl, g3⟩; have HS3 := keepM (by assumption) g3) | (go_at_call 56; (with_reducible refine (P2.out _ ?_).mono ?_); (exact And.right (And.right (And.right (by assumption)))); rintro e w4 ⟨rfl, g4⟩; have HS4 := keepM (by assumption) g4))
              have G3 := Lib.hid (G2.out.trans HS4.2.2.2)
              have GV := Lib.hid (GW.out.trans HS4.2.2.2)
              have D3 := Lib.hid (bheap_gr HS4.2.2.2 D2.out)
              have D4 := Lib.hid (bheap_gr HS4.2.2.2 D1.out)
              clear HS HS4 P1 P2 D1 D2 kn k0 G2 GW
              have y1 : w4.cell? ⟨q2, 1, none⟩ = some (.string to') := bcell_row D3.out rfl
              have y2 : w4.cell? ⟨q, 1, none⟩ = some (.slice Az zs.length cz) := bcell_row D4.out rfl
              go_wp2_with fail
              clear y1 y2
              generalize hasZ zs to' = bz at K3 RK
              generalize hasL ls to' = bl at K4 RK
              cases bz with
              | true =>
                have Z : Hid (fc k = 0) := by unfold Hid; rw [RK.out]; rfl
                clear RK HK
                refine ((K3.out w4 (HZ.out.gr G3.out)).mono (fun _ _ h => tells_yes h)).mono ?_
                rintro e w5 ⟨m, rfl, g5⟩
                have hd : decide ((m : Int) < 0) = false := decide_eq_false (by omega)
                clear K3 K4
                go_wp2_with fail
                go_roundw
                case rel => exact ⟨k + 1, by omega, by go_num, FK.out Z.out, GV.out.trans g5⟩
                case measure => simp [intOf]; omega
              | false =>
              refine ((K3.out w4 (HZ.out.gr G3.out)).mono (fun _ _ h => tells_no h)).mono ?_
              rintro e w5 ⟨rfl, g5⟩
              have G5 := Lib.hid (G3.out.trans g5)
              have GX := Lib.hid (GV.out.trans g5)
              have y1 : w5.cell? ⟨q2, 1, none⟩ = some (.string to') := bcell_row (bheap_gr g5 D3.out) rfl
              have y2 : w5.cell? ⟨q, 2, none⟩ = some (.slice (some ⟨b, off, none⟩) ls.length cl) := bcell_row (bheap_gr g5 D4.out) rfl
              clear K3 g5 G3 GV
              go_wp2_with fail
              clear y1 y2
              cases bl with
              | true =>
                have Z : Hid (fc k = 0) := by unfold Hid; rw [RK.out]; rfl
                clear RK HK
                refine ((K4.out w5 (HL.out.gr G5.out)).mono (fun _ _ h => tells_yes h)).mono ?_
                rintro e w6 ⟨m, rfl, g6⟩
                have hd : decide ((m : Int) < 0) = false := decide_eq_false (by omega)
                clear K4
                go_wp2_with fail
                go_roundw
                case rel => exact ⟨k + 1, by omega, by go_num, FK.out Z.out, GX.out.trans g6⟩
                case measure => simp [intOf]; omega
              | false =>
                have Z : Hid (fc k = 6) := by unfold Hid; rw [RK.out]; rfl
                have E : Hid (C = 6) := by unfold Hid; rw [HK.out (by rw [Z.out]; decide), Z.out]
                clear RK HK Z
                refine ((K4.out w5 (HL.out.gr G5.out)).mono (fun _ _ h => tells_no h)).mono ?_
                rintro e w6 ⟨rfl, g6⟩
                clear K4
                go_wp2_with fail
                go_ret
                exact ⟨ret_int E.out.symm, G5.out.trans g6⟩
            · have e : k = ls.length := by omega
              have E : Hid (C = 0) := by unfold Hid; rw [CL4.out, ← e]; exact hf.out
              clear e hf
              go_wp2_with fail
              go_ret
              exact ⟨ret_int E.out.symm, GR.out⟩
end Go.Proofs.YtkmgildnhnjepaaGreatDoor
