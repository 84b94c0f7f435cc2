/- What the reference's Turns returns, for a book that may be. -/
import Derived.Deep.QuietTactic
import Derived.BigQuiet
import Derived.Deep.Cut
import Derived.Test.YtkmgildnhnjepaaGreatDoorTM31
import Derived.Test.YtkmgildnhnjepaaGreatDoorTM17
import Derived.Test.YtkmgildnhnjepaaGreatDoorTM18
import Derived.Test.YtkmgildnhnjepaaGreatDoorTM08
namespace Go.Proofs.YtkmgildnhnjepaaGreatDoor
set_option linter.unusedVariables false
set_option linter.unusedSimpArgs false
open Go.RowKit
theorem infoRow : (Tryz.prog.info? 122).map (fun i => (i.zero, i.size, i.bytes)) = some (some (.agg #[.int .i64 0, .string .empty, .int .i64 0, .int .i64 0, .int .i64 0, .int .i64 0, .int .i64 0, .int .i64 0, .int .i64 0, .int .i64 0, .int .i64 0, .string .empty]), 12, 112) := by kernel_rfl
theorem bsn_row (w : World) (no : Int) (nm lt : ByteArray) (fr tt mo zk d n at' by' sv : Int) : (Instr.buildSlice 113 1 #[(0, Value.agg #[.int .i64 no, .string nm, .int .i64 fr, .int .i64 tt, .int .i64 mo, .int .i64 zk, .int .i64 d, .int .i64 n, .int .i64 at', .int .i64 by', .int .i64 sv, .string lt])]).run Tryz.prog w = .ok (.slice (some ⟨w.heap.size, 0, none⟩) 1 1) (w.alloc (.cells #[.int .i64 no, .string nm, .int .i64 fr, .int .i64 tt, .int .i64 mo, .int .i64 zk, .int .i64 d, .int .i64 n, .int .i64 at', .int .i64 by', .int .i64 sv, .string lt] 122)) := by kernel_rfl
theorem pr_len (p : PenD) : p.rcells.length = 12 := rfl
/-- the place of a thing among those in order -/
theorem ins_upto {L : List PenD} {x : PenD} {k : Nat} (hu : Ups PenD.no L) (hk : k ≤ L.length) (h1 : ∀ p, k ≠ 0 → L[k - 1]? = some p → p.no ≤ x.no) (h2 : ∀ i p, k ≤ i → L[i]? = some p → x.no < p.no) : ins PenD.no x L = L.take k ++ ([x] ++ L.drop k) := by
  have e := ins_split (key := PenD.no) (x := x) (L.take k) (L.drop k) (fun y hy => by
    obtain ⟨i, hi⟩ := List.getElem?_of_mem hy
    have hl := (List.getElem?_eq_some_iff.1 hi).1
    rw [List.length_take] at hl
    rw [List.getElem?_take, if_pos (by omega)] at hi
    obtain ⟨p, hp⟩ := get_lt (show k - 1 < L.length by omega)
    have hp1 := h1 p (by omega) hp
    by_cases c : i = k - 1
    · subst c; rw [hi] at hp; injection hp with hp; rw [hp]; exact hp1
    · have := List.pairwise_iff_getElem.1 hu i (k - 1) (by omega) (by omega) (by omega)
      rw [(List.getElem?_eq_some_iff.1 hi).2, (List.getElem?_eq_some_iff.1 hp).2] at this
      omega) (fun y hy => by
    rw [List.getElem?_drop] at hy
    exact h2 _ y (by omega) hy)
  rw [List.take_append_drop] at e
  exact e

set_option maxRecDepth 100000 in
set_option maxHeartbeats 40000000 in
theorem rturns (b : BokD) (nm : ByteArray) (off : Int) (w : World) (hb : b.At w) (h0 : bokC b.rs b.zs b.ls = 0) (h1 : -64800 ≤ off) (h2 : off ≤ 64800) :
    Calls Tryz.prog 25 #[bookV b, .string nm, .int .i64 off] w (OfE b.rs b.zs b.ls nm off w) := by
  have mixed : Tryz.prog.follows .mixedOrders = true := by kernel_rfl
  have KR := Lib.hid (fun W (g : Gr w W) h40 => rrulesOf b nm W (hb.1.gr g) h40)
  have KD := Lib.hid (fun y m k d n w => rdayOf y m k d n w)
  obtain ⟨Ar, cr, rs, Az, cz, zs, Al, cl, ls⟩ := b
  have HRS : Hid (RusAt w Ar cr rs) := hb.1
  simp only at KR h0
  show Calls _ _ _ _ (OfE rs zs ls nm off w)
  obtain ⟨iw, hi, hz0, hz1, hz2⟩ := info_parts infoRow
  have W1 := Lib.hid hi
  have W2 := Lib.hid hz0
  have W3 := Lib.hid hz1
  have W4 := Lib.hid hz2
  clear hi hz0 hz1 hz2
  obtain ⟨i0, hi, hz0, hz1, hz2⟩ := info_parts infoTurn
  have I1 := Lib.hid hi
  have I2 := Lib.hid hz0
  have I3 := Lib.hid hz1
  have I4 := Lib.hid hz2
  clear hi hz0 hz1 hz2
  have H0 := Lib.hid h0
  have L40 : Hid (rs.length ≤ 40) := by have := (bokC_ok.1 h0).1; unfold Hid; omega
  have OKS : Hid (∀ r ∈ selR rs nm, r.Ok) := fun r hr => RuD.ok_of (rules_ok h0 r (sel_mem hr).1)
  have SOK : Hid (∀ p ∈ sorted rs nm, p.Ok) := sorted_ok h0 HRS.out.2.2
  have F6 := Lib.hid (fun w' (g : Gr w w') (s0 : selR rs nm = []) => ofE_no (w := w) (w' := w') (off := off) (nm := nm) (rs := rs) (zs := zs) (ls := ls) (C := 6) (by unfold ofC; rw [if_neg (by simp [H0.out]), if_neg (by omega), if_pos s0]) (by decide) g)
  have F2 := Lib.hid (fun w' (g : Gr w w') (s0 : ¬ selR rs nm = []) (hy : 1500 < yrs (selR rs nm)) => ofE_no (w := w) (w' := w') (off := off) (nm := nm) (rs := rs) (zs := zs) (ls := ls) (C := 2) (by unfold ofC; rw [if_neg (by simp [H0.out]), if_neg (by omega), if_neg s0, if_pos hy]) (by decide) g)
  have F5 := Lib.hid (fun w' (g : Gr w w') (s0 : ¬ selR rs nm = []) (hy : ¬ 1500 < yrs (selR rs nm)) (hr : riseB (turL off 0 (sorted rs nm)) = false) => ofE_no (w := w) (w' := w') (off := off) (nm := nm) (rs := rs) (zs := zs) (ls := ls) (C := 5) (by unfold ofC; rw [if_neg (by simp [H0.out]), if_neg (by omega), if_neg s0, if_neg hy, if_pos hr]) (by decide) g)
  have F0 : Hid (∀ (W : World) (A : Option Addr) (c : Nat), ¬ selR rs nm = [] → ¬ 1500 < yrs (selR rs nm) → riseB (turL off 0 (sorted rs nm)) = true → TursAt W A c (turL off 0 (sorted rs nm)) → Gr w W → OfE rs zs ls nm off w (.returned (.tuple #[.slice A (sorted rs nm).length c, .int .i64 0])) W) := fun W A c s0 hy hr ta g => by
    have E0 : ofC rs zs ls nm off = 0 := ofC_zero.2 ⟨H0.out, by omega, s0, by omega, hr⟩
    have E1 : ofL rs zs ls nm off = turL off 0 (sorted rs nm) := by unfold ofL; rw [if_pos E0]
    exact ⟨A, c, by rw [E0, E1, turL_len], by rw [E1]; exact ta, g⟩
  have B0 := Lib.hid (box_one w (.cells #[.slice Ar rs.length cr, .slice Az zs.length cz, .slice Al ls.length cl] 26))
  clear hb h0
  go_enter Tryz.func25, Tryz.ntmps25
  go_wp2_with fail
  generalize w.alloc (.cells #[.slice Ar rs.length cr, .slice Az zs.length cz, .slice Al ls.length cl] 26) = w1 at B0 ⊢
  generalize w.heap.size = q at B0 ⊢
  have x0 : w1.cell? ⟨q, 0, none⟩ = some (.slice Ar rs.length cr) := bcell_row B0.out.2 rfl
  have x1 : w1.cell? ⟨q, 1, none⟩ = some (.slice Az zs.length cz) := bcell_row B0.out.2 rfl
  have x2 : w1.cell? ⟨q, 2, none⟩ = some (.slice Al ls.length cl) := bcell_row B0.out.2 rfl
  go_wp2_with fail
  clear x0 x1 x2
  refine (KR.out w1 B0.out.1 L40.out).mono ?_
  rintro e w3 ⟨v, rfl, ow, g3⟩
  have G3 := Lib.hid (B0.out.1.trans g3)
  have OW : Own w3 w1.heap.size 118 11 RuD.cells v (selR rs nm) := ow
  obtain ⟨AR, cR, rfl, hc1, hc2, _⟩ := OW.form
  have RR := Lib.hid (OW.row ru_len)
  have SL : Hid ((selR rs nm).length ≤ 40) := by have := sel_len rs nm; have := L40.out; unfold Hid; omega
  clear ow OW g3 KR B0
  by_cases s0 : selR rs nm = []
  · have z0 : (selR rs nm).length = 0 := by rw [s0]; rfl
    have S0 := Lib.hid s0
    rw [z0]
    clear s0 z0
    go_wp2_with fail
    go_ret2
    exact F6.out w3 G3.out S0.out
  have S0 := Lib.hid s0
  have SP : Hid (0 < (selR rs nm).length) := List.length_pos_iff.2 s0
  have z0 : (((selR rs nm).length : Int) == 0) = false := by rw [beq_eq_false_iff_ne]; have := SP.out; omega
  have HES : Hid (sorted rs nm = stab PenD.no (pens (selR rs nm))) := rfl
  clear s0
  generalize selR rs nm = R at RR SL SP z0 OKS S0 F2 F5 F0 HES hc1 ⊢
  have hR40 := SL.out
  go_wp2_with fail
  clear z0
  go_loopw [10, 32] (fun v i W => ∃ (k : Nat) (y : Int), k ≤ R.length ∧ i = .int .i64 k ∧ v = .int .i64 y ∧ 0 ≤ y ∧ y ≤ 201 * k ∧ Hid (y = yrs (R.take k)) ∧ Hid (Gr w W) ∧ Hid (Gr w3 W)) (fun v i W => R.length - (intOf i).toNat)
  case atStart => exact ⟨0, 0, Nat.zero_le _, rfl, rfl, by omega, by omega, rfl, G3, Gr.refl _⟩
  case round =>
    obtain ⟨k, y, hk, rfl, rfl, hy0, hy1, HY, hg, hg3⟩ := hrel
    by_cases hlt : k < R.length
    · obtain ⟨⟨znm, fr, tt, mo, zk, d, n, at', by', sv, lt⟩, hx⟩ := get_lt hlt
      have RT := Lib.hid (yrs_take hx)
      have ok : RuleNum fr tt mo := (OKS.out _ (get_mem hx)).1
      obtain ⟨o1, o2, o3, _⟩ := ok
      obtain ⟨b, of', rfl, c0, c1, c2, c3, c4, c5, c6, c7, c8, c9, c10⟩ := RR.out.eleven hx rfl hg3.out
      clear hx
      go_wp2_with fail
      go_roundw
      case rel => exact ⟨k + 1, y + (tt - fr + 1), by omega, by go_num, rfl, by omega, by omega, by unfold Hid; rw [RT.out, ← HY.out], hg.out.alloc' _, hg3.out.alloc' _⟩
      case measure => simp [intOf]; omega
    have e : k = R.length := by omega
    have HE : Hid (y = yrs R) := by have := HY.out; rw [e, List.take_length] at this; exact this
    clear e HY
    by_cases hy : 1500 < y
    · have HYY := Lib.hid hy
      go_wp2_with fail
      go_ret2
      exact F2.out wr hg.out S0.out (by rw [← HE.out]; exact HYY.out)
    have HYN : Hid (¬ 1500 < yrs R) := by rw [← HE.out]; exact hy
    clear HE F2
    go_wp2_with fail
    go_loopw [8, 49] (fun v i W => ∃ (k : Nat) (L : List PenD) (A : Option Addr) (c : Nat), k ≤ R.length ∧ i = .int .i64 k ∧ v = .slice A L.length c ∧ L.length ≤ 1500 ∧ Hid (L = stab PenD.no (pens (R.take k))) ∧ Hid (Row W 12 PenD.rcells A L) ∧ L.length ≤ c ∧ c ≤ maxLen ∧ Hid (Flat A) ∧ Hid (Gr w W) ∧ Hid (Gr w3 W)) (fun v i W => R.length - (intOf i).toNat)
    case atStart => exact ⟨0, [], none, 0, Nat.zero_le _, rfl, rfl, by simp, rfl, Row.nil _ _ _ _, Nat.le_refl _, by unfold maxLen; exact Nat.zero_le _, Or.inl rfl, hg, hg3⟩
    case round =>
      clear hg hg3 hy hy0 hy1 hk hlt
      obtain ⟨k, L, A, c, hk, rfl, rfl, hL15, HL, HR, hLc, hcm, FL, hg, hg3⟩ := hrel
      by_cases hlt : k < R.length
      · obtain ⟨⟨znm, fr, tt, mo, zk, d, n, at', by', sv, lt⟩, hx⟩ := get_lt hlt
        have RT := Lib.hid (pens_take hx)
        have OKR := Lib.hid (OKS.out _ (get_mem hx))
        have HYK : Hid (yrs (R.take k) + (tt - fr + 1) ≤ 1500 ∧ ((pens (R.take k)).length : Int) = yrs (R.take k)) := by
          have h1 := yrs_take hx
          have h2 := (yrs_take_le OKS.out (k + 1)).2
          have h3 := HYN.out
          exact ⟨by simp only at h1; omega, pens_len (fun r hr => OKS.out r (List.mem_of_mem_take hr))⟩
        obtain ⟨⟨⟨o1, o2⟩, ⟨o3, o4⟩, o5, o6, o7⟩, _, _, ⟨o8, o9⟩, _⟩ := OKR.out
        simp only at o1 o2 o3 o4 o5 o6 o7 o8 o9
        obtain ⟨b, of', rfl, c0, c1, c2, c3, c4, c5, c6, c7, c8, c9, c10⟩ := RR.out.eleven hx rfl hg3.out
        clear hx
        go_wp2_with fail
        clear c0 c1 c2 c3 c4 c5 c6 c7 c8 c9 c10
        have B0 := Lib.hid (box_one wr (.cells #[.string znm, .int .i64 fr, .int .i64 tt, .int .i64 mo, .int .i64 zk, .int .i64 d, .int .i64 n, .int .i64 at', .int .i64 by', .int .i64 sv, .string lt] 118))
        have HR0 := Lib.hid (HR.out.gr B0.out.1)
        have GW0 := Lib.hid (hg.out.trans B0.out.1)
        have GV0 := Lib.hid (hg3.out.trans B0.out.1)
        have BX0 := Lib.hid B0.out.2
        clear B0 hg hg3 HR
        generalize wr.alloc (.cells #[.string znm, .int .i64 fr, .int .i64 tt, .int .i64 mo, .int .i64 zk, .int .i64 d, .int .i64 n, .int .i64 at', .int .i64 by', .int .i64 sv, .string lt] 118) = wq at HR0 GW0 GV0 BX0 ⊢
        generalize wr.heap.size = q14 at BX0 ⊢
        generalize pens (R.take k) = PL at HL RT HYK
        have HLEN : Hid (PL.length = L.length) := by unfold Hid; rw [HL.out, stab_len]
        go_loopw [8, 15] (fun v y W => ∃ (j : Nat) (L : List PenD) (A : Option Addr) (c : Nat), (j : Int) ≤ tt - fr + 1 ∧ y = .int .i64 (fr + j) ∧ v = .slice A L.length c ∧ L.length ≤ 1500 ∧ Hid (L = stab PenD.no (PL ++ penN ⟨znm, fr, tt, mo, zk, d, n, at', by', sv, lt⟩ j)) ∧ Hid (Row W 12 PenD.rcells A L) ∧ L.length ≤ c ∧ c ≤ maxLen ∧ Hid (Flat A) ∧ Hid (Gr w W) ∧ Hid (Gr w3 W) ∧ Hid (W.heap[q14]? = some (.cells #[.string znm, .int .i64 fr, .int .i64 tt, .int .i64 mo, .int .i64 zk, .int .i64 d, .int .i64 n, .int .i64 at', .int .i64 by', .int .i64 sv, .string lt] 118 (0, 0)))) (fun v y W => (tt + 1 - intOf y).toNat)
        case atStart => exact ⟨0, L, A, c, by omega, by go_num, rfl, hL15, by unfold Hid; simpa [penN] using HL.out, HR0, hLc, hcm, FL, GW0, GV0, BX0⟩
        case round =>
          clear HL HR0 hLc hcm FL GW0 GV0 BX0 hL15
          obtain ⟨j, L, A, c, hj, rfl, rfl, hL15, HL, HR, hLc, hcm, FL, hg, hg3, hq⟩ := hrel
          have x1 := bcell_row (i := 1) hq.out rfl
          have x2 := bcell_row (i := 2) hq.out rfl
          by_cases hle : fr + (j : Int) ≤ tt
          · have x3 := bcell_row (i := 3) hq.out rfl
            have x4 := bcell_row (i := 4) hq.out rfl
            have x5 := bcell_row (i := 5) hq.out rfl
            have x6 := bcell_row (i := 6) hq.out rfl
            have DB := dayT_bd OKR.out (y := fr + (j : Int)) (by simp only; omega) hle
            have DA := Lib.hid (dayA_rule OKR.out (y := fr + (j : Int)) (by simp only; omega) hle)
            have DN := Lib.hid (show nomR ⟨znm, fr, tt, mo, zk, d, n, at', by', sv, lt⟩ (fr + (j : Int)) = 86400 * dayT (fr + (j : Int)) mo zk d n + at' from rfl)
            simp only at DB DA
            go_wp2_with fail
            clear x1 x2 x3 x4 x5 x6
            refine (KD.out (fr + (j : Int)) mo zk d n _).mono ?_
            rintro e w5 ⟨rfl, g5⟩
            rw [DA.out]
            have GG := Lib.hid (hg.out.trans g5)
            have GG3 := Lib.hid (hg3.out.trans g5)
            have HRb := Lib.hid (HR.out.gr g5)
            have HQ := Lib.hid (bheap_gr g5 hq.out)
            clear hg hg3 HR hq g5 DA
            generalize dayT (fr + (j : Int)) mo zk d n = dn at DB DN ⊢
            have x0 := bcell_row (i := 0) HQ.out rfl
            have x1 := bcell_row (i := 1) HQ.out rfl
            have x2 := bcell_row (i := 2) HQ.out rfl
            have x3 := bcell_row (i := 3) HQ.out rfl
            have x4 := bcell_row (i := 4) HQ.out rfl
            have x5 := bcell_row (i := 5) HQ.out rfl
            have x6 := bcell_row (i := 6) HQ.out rfl
            have x7 := bcell_row (i := 7) HQ.out rfl
            have x8 := bcell_row (i := 8) HQ.out rfl
            have x9 := bcell_row (i := 9) HQ.out rfl
            have x10 := bcell_row (i := 10) HQ.out rfl
            go_upto_region 21 with fail
            clear x0 x1 x2 x3 x4 x5 x6 x7 x8 x9 x10
            obtain ⟨no, hno⟩ : ∃ no, 86400 * dn + at' = no := ⟨_, rfl⟩
            rw [hno] at DN ⊢
            have PN : Hid (penN ⟨znm, fr, tt, mo, zk, d, n, at', by', sv, lt⟩ (j + 1) = penN ⟨znm, fr, tt, mo, zk, d, n, at', by', sv, lt⟩ j ++ [⟨no, ⟨znm, fr, tt, mo, zk, d, n, at', by', sv, lt⟩⟩]) := by unfold Hid; rw [penN_succ, DN.out]
            have LB : Hid (L.length = PL.length + j) := by unfold Hid; rw [HL.out, stab_len, List.length_append, penN_len]
            have LB1 : Hid (L.length + 1 ≤ 1500) := by have h1 := HYK.out; have h2 := LB.out; unfold Hid; omega
            have nb : -3000000000 ≤ no ∧ no ≤ 6000000000 := by omega
            obtain ⟨nb1, nb2⟩ := nb
            have B1 := Lib.hid (box_one w5 (.cells #[.int .i64 no, .string znm, .int .i64 fr, .int .i64 tt, .int .i64 mo, .int .i64 zk, .int .i64 d, .int .i64 n, .int .i64 at', .int .i64 by', .int .i64 sv, .string lt] 122))
            have G6 := Lib.hid (GG.out.trans B1.out.1)
            have G63 := Lib.hid (GG3.out.trans B1.out.1)
            have HR6 := Lib.hid (HRb.out.gr B1.out.1)
            have HQ6 := Lib.hid (bheap_gr B1.out.1 HQ.out)
            have HX6 := Lib.hid B1.out.2
            have HU : Hid (Ups PenD.no L) := by unfold Hid; rw [HL.out]; exact stab_ups _
            clear B1 GG GG3 HRb HQ DN hno DB
            generalize w5.alloc (.cells #[.int .i64 no, .string znm, .int .i64 fr, .int .i64 tt, .int .i64 mo, .int .i64 zk, .int .i64 d, .int .i64 n, .int .i64 at', .int .i64 by', .int .i64 sv, .string lt] 122) = w6 at G6 G63 HR6 HQ6 HX6 ⊢
            generalize w5.heap.size = q18 at HX6 ⊢
            go_wp2_with fail
            go_loopw [19] (fun i W => ∃ k : Nat, k ≤ L.length ∧ i = .int .i64 k ∧ Hid (∀ i p, k ≤ i → L[i]? = some p → no < p.no) ∧ Hid (Gr w6 W)) (fun i W => (intOf i).toNat)
            case atStart => exact ⟨L.length, Nat.le_refl _, rfl, fun i p hi hp => absurd (List.getElem?_eq_some_iff.1 hp).1 (by omega), Gr.refl _⟩
            case round =>
              obtain ⟨k, hk, rfl, H2, hg6⟩ := hrel
              have HX := Lib.hid (bheap_gr hg6.out HX6.out)
              have HR := Lib.hid (HR6.out.gr hg6.out)
              have y0 := bcell_row (i := 0) HX.out rfl
              have eE : Tryz.prog.elem 113 = 122 := by kernel_rfl
              have X1 := Lib.hid (fun w => sl_cut Tryz.underlying113 eE Tryz.sizeOf122 A k L.length c w (by omega) FL.out)
              have X2 := Lib.hid (fun w => sl_from Tryz.underlying113 eE Tryz.sizeOf122 A k L.length c w hk hLc)
              clear eE
              by_cases k0 : k = 0
              · have kz : ¬ ((k : Int) > 0) := by omega
                have H1 : Hid (∀ p, k ≠ 0 → L[k - 1]? = some p → p.no ≤ no) := fun p h => absurd k0 h
                have kn : ¬ 0 < k := by omega
                clear k0
                go_wp2_with fail
                go_quiet (fail)
                have hg6 := Lib.hid (hg6.out.drewN nq)
                have HX := Lib.hid (bheap_gr ((Gr.refl wr).drewN nq) HX.out)
                clear y0 kz kn
                go_wp2_with fail
                generalize wr.drewN nq = wr at hg6 HX ⊢
                refine wp_region_noPanic ?_
                refine till_start 11 (fun wx => wx.heap[q18]? = some (.cells #[.int .i64 no, .string znm, .int .i64 fr, .int .i64 tt, .int .i64 mo, .int .i64 zk, .int .i64 d, .int .i64 n, .int .i64 at', .int .i64 by', .int .i64 sv, .string lt] 122 (0, 0)) ∧ Gr w6 wx) (by kernel_rfl) ⟨HX.out, hg6.out.trans (Gr.drew wr)⟩ (fun hHeld => ?_)
                (try dsimp only at hHeld)
                generalize wr.drew = wd at hHeld ⊢
                refine till_take (i := 0) (oi := { dst := some 94, op := _, type := _, pos := _, after := _, guard := _ }) (v := ?v1) rfl (by kernel_rfl) (by kernel_rfl) (by kernel_rfl) (by kernel_rfl) (fun _ _ _ h => h) (Or.inl ⟨by rfl, ?hy1⟩) (by assumption) ?rest1
                case hy1 => (intro w hSw; go_simp <;> (with_reducible rfl))
                (try simp only [Act.put, List.setIfInBounds_toArray, List.set_cons_zero, List.set_cons_succ])
                refine till_take (i := 1) (oi := { dst := some 95, op := _, type := _, pos := _, after := _, guard := _ }) (v := ?v2) rfl (by kernel_rfl) (by kernel_rfl) (by kernel_rfl) (by kernel_rfl) (fun _ _ _ h => h) (Or.inl ⟨by rfl, ?hy2⟩) (by assumption) ?rest2
                case hy2 => (intro w hSw; go_simp <;> (with_reducible rfl))
                (try simp only [Act.put, List.setIfInBounds_toArray, List.set_cons_zero, List.set_cons_succ])
                refine till_take (i := 2) (oi := { dst := some 96, op := _, type := _, pos := _, after := _, guard := _ }) (v := ?v3) rfl (by kernel_rfl) (by kernel_rfl) (by kernel_rfl) (by kernel_rfl) (fun _ _ _ h => h) (Or.inl ⟨by rfl, ?hy3⟩) (by assumption) ?rest3
                case hy3 => (intro w hSw; go_simp <;> (with_reducible rfl))
                (try simp only [Act.put, List.setIfInBounds_toArray, List.set_cons_zero, List.set_cons_succ])
                refine till_take (i := 3) (oi := { dst := some 97, op := _, type := _, pos := _, after := _, guard := _ }) (v := (.slice A k k)) rfl (by kernel_rfl) (by kernel_rfl) (by kernel_rfl) (by kernel_rfl) (fun _ _ _ h => h) (Or.inl ⟨by rfl, ?hy4⟩) (by assumption) ?rest4
                case hy4 => (intro w hSw; simp [go_sem, X1.out])
                (try simp only [Act.put, List.setIfInBounds_toArray, List.set_cons_zero, List.set_cons_succ])
                refine till_take (i := 4) (oi := { dst := some 98, op := _, type := _, pos := _, after := _, guard := _ }) (v := ?v5) rfl (by kernel_rfl) (by kernel_rfl) (by kernel_rfl) (by kernel_rfl) (fun _ _ _ h => h) (Or.inl ⟨by rfl, ?hy5⟩) (by assumption) ?rest5
                case hy5 => (intro w hSw; have c0 := bcell_row (i := 0) hSw.1 rfl; have c1 := bcell_row (i := 1) hSw.1 rfl; have c2 := bcell_row (i := 2) hSw.1 rfl; have c3 := bcell_row (i := 3) hSw.1 rfl; have c4 := bcell_row (i := 4) hSw.1 rfl; have c5 := bcell_row (i := 5) hSw.1 rfl; have c6 := bcell_row (i := 6) hSw.1 rfl; have c7 := bcell_row (i := 7) hSw.1 rfl; have c8 := bcell_row (i := 8) hSw.1 rfl; have c9 := bcell_row (i := 9) hSw.1 rfl; have c10 := bcell_row (i := 10) hSw.1 rfl; have c11 := bcell_row (i := 11) hSw.1 rfl; go_simp <;> (with_reducible rfl))
                (try simp only [Act.put, List.setIfInBounds_toArray, List.set_cons_zero, List.set_cons_succ])
                refine till_take (i := 6) (oi := { dst := some 100, op := _, type := _, pos := _, after := _, guard := _ }) (v := ?v6) rfl (by kernel_rfl) (by kernel_rfl) (by kernel_rfl) (by kernel_rfl) (fun _ _ _ h => h) (Or.inl ⟨by rfl, ?hy6⟩) (by assumption) ?rest6
                case hy6 => (intro w hSw; go_simp <;> (with_reducible rfl))
                (try simp only [Act.put, List.setIfInBounds_toArray, List.set_cons_zero, List.set_cons_succ])
                refine till_take (i := 7) (oi := { dst := some 101, op := _, type := _, pos := _, after := _, guard := _ }) (v := ?v7) rfl (by kernel_rfl) (by kernel_rfl) (by kernel_rfl) (by kernel_rfl) (fun _ _ _ h => h) (Or.inl ⟨by rfl, ?hy7⟩) (by assumption) ?rest7
                case hy7 => (intro w hSw; go_simp <;> (with_reducible rfl))
                (try simp only [Act.put, List.setIfInBounds_toArray, List.set_cons_zero, List.set_cons_succ])
                refine till_take (i := 8) (oi := { dst := some 102, op := _, type := _, pos := _, after := _, guard := _ }) (v := (.slice (tailG A k 12 c) (L.length - k) (c - k))) rfl (by kernel_rfl) (by kernel_rfl) (by kernel_rfl) (by kernel_rfl) (fun _ _ _ h => h) (Or.inl ⟨by rfl, ?hy8⟩) (by assumption) ?rest8
                case hy8 => (intro w hSw; simp [go_sem, X2.out])
                (try simp only [Act.put, List.setIfInBounds_toArray, List.set_cons_zero, List.set_cons_succ])
                have B1 := Lib.hid (box_one wd (.cells #[.int .i64 no, .string znm, .int .i64 fr, .int .i64 tt, .int .i64 mo, .int .i64 zk, .int .i64 d, .int .i64 n, .int .i64 at', .int .i64 by', .int .i64 sv, .string lt] 122))
                refine till_one (i := 5) (by kernel_rfl) rfl (fun K hK => ?_)
                (refine step_one (by rfl) (by rfl) _ _ _ (by rfl) (bsn_row wd no znm lt fr tt mo zk d n at' by' sv) ?_)
                refine hK.out _ _ (Or.inr ⟨bheap_gr B1.out.1 hHeld.1, hHeld.2.trans B1.out.1⟩) ?_
                clear hK K
                (try simp only [Act.put, List.setIfInBounds_toArray, List.set_cons_zero, List.set_cons_succ])
                have hH1 := And.intro (bheap_gr B1.out.1 hHeld.1) (hHeld.2.trans B1.out.1)
                have NR := Lib.hid (row_sgl (k := 12) (enc := PenD.rcells) (x := (⟨no, ⟨znm, fr, tt, mo, zk, d, n, at', by', sv, lt⟩⟩ : PenD)) B1.out.2 rfl)
                clear B1 hHeld
                generalize wd.alloc (.cells #[.int .i64 no, .string znm, .int .i64 fr, .int .i64 tt, .int .i64 mo, .int .i64 zk, .int .i64 d, .int .i64 n, .int .i64 at', .int .i64 by', .int .i64 sv, .string lt] 122) = w9 at hH1 NR ⊢
                generalize wd.heap.size = q9 at NR ⊢
                refine till_one (i := 9) (by kernel_rfl) rfl (fun K hK => ?_)
                (refine step_app_full _ (by rfl) _ _ 113 (by rfl) 122 iw (.agg #[.int .i64 0, .string .empty, .int .i64 0, .int .i64 0, .int .i64 0, .int .i64 0, .int .i64 0, .int .i64 0, .int .i64 0, .int .i64 0, .int .i64 0, .string .empty]) 12 112 Tryz.underlying113 W1.out W2.out W3.out W4.out (by omega) PenD.rcells pr_len [⟨no, ⟨znm, fr, tt, mo, zk, d, n, at', by', sv, lt⟩⟩] (L.drop k) (some ⟨q9, 0, none⟩) (tailG A k 12 c) 1 (L.length - k) (c - k) (by rfl) (by rfl) (by rfl) (by simp) NR.out ((row_from HR6.out (by omega)).gr hH1.2) (Or.inr ⟨_, _, rfl⟩) (by simp; omega) ?_)
                intro A4 c4 w10 r4 l4 m4 g4 _ _
                refine hK.out _ _ (Or.inr ⟨bheap_gr g4 hH1.1, hH1.2.trans g4⟩) ?_
                clear hK K
                (try simp only [Act.put, List.setIfInBounds_toArray, List.set_cons_zero, List.set_cons_succ])
                have hH2 := And.intro (bheap_gr g4 hH1.1) (hH1.2.trans g4)
                have R4 := Lib.hid r4
                clear r4 g4 hH1 NR
                refine till_one (i := 10) (by kernel_rfl) rfl (fun K hK => ?_)
                (refine step_app_full _ (by rfl) _ _ 113 (by rfl) 122 iw (.agg #[.int .i64 0, .string .empty, .int .i64 0, .int .i64 0, .int .i64 0, .int .i64 0, .int .i64 0, .int .i64 0, .int .i64 0, .int .i64 0, .int .i64 0, .string .empty]) 12 112 Tryz.underlying113 W1.out W2.out W3.out W4.out (by omega) PenD.rcells pr_len (L.take k) ([⟨no, ⟨znm, fr, tt, mo, zk, d, n, at', by', sv, lt⟩⟩] ++ L.drop k) A A4 k ([(⟨no, ⟨znm, fr, tt, mo, zk, d, n, at', by', sv, lt⟩⟩ : PenD)] ++ L.drop k).length c4 (by rfl) (by rfl) (by simp; omega) (by rfl) ((HR6.out.take k).gr hH2.2) R4.out FL.out (by simp; omega) ?_)
                intro A5 c5 w11 r5 l5 m5 g5 n5 _
                refine hK.out _ _ (Or.inr ⟨bheap_gr g5 hH2.1, hH2.2.trans g5⟩) ?_
                clear hK K
                (try simp only [Act.put, List.setIfInBounds_toArray, List.set_cons_zero, List.set_cons_succ])
                have hH3 := And.intro (bheap_gr g5 hH2.1) (hH2.2.trans g5)
                obtain ⟨rfl, _⟩ := n5 (by simp)
                have R5 := Lib.hid r5
                clear r5 g5 hH2 R4 n5
                refine till_one (i := 11) (by kernel_rfl) rfl (fun K hK => ?_)
                go_simp
                refine hK.out _ _ (Or.inl (by kernel_rfl)) ?_
                clear hK K
                (try simp only [Act.put, List.setIfInBounds_toArray, List.set_cons_zero, List.set_cons_succ])
                refine till_done (by kernel_rfl) ?_ _
                refine NoPanic.normal ?_
                have EL : L.take k ++ ([(⟨no, ⟨znm, fr, tt, mo, zk, d, n, at', by', sv, lt⟩⟩ : PenD)] ++ L.drop k) = ins PenD.no ⟨no, ⟨znm, fr, tt, mo, zk, d, n, at', by', sv, lt⟩⟩ L := (ins_upto HU.out hk H1.out H2.out).symm
                rw [EL] at R5 l5
                have LI : (ins PenD.no (⟨no, ⟨znm, fr, tt, mo, zk, d, n, at', by', sv, lt⟩⟩ : PenD) L).length = L.length + 1 := by rw [(ins_perm L).length_eq]; rfl
                have HG := Lib.hid hH3.2
                clear hH3 EL
                go_wp2_with fail
                go_roundw
                case rel =>
                  refine ⟨j + 1, ins PenD.no ⟨no, ⟨znm, fr, tt, mo, zk, d, n, at', by', sv, lt⟩⟩ L, _, c5, by omega, by go_num, ?_, by rw [LI]; exact LB1.out, ?_, R5, l5, m5, Or.inr ⟨_, _, rfl⟩, G6.out.trans HG.out, G63.out.trans HG.out, bheap_gr HG.out HQ6.out⟩
                  · rw [LI]; congr 1; omega
                  · unfold Hid; rw [PN.out, ← List.append_assoc, stab_snoc, ← HL.out]
                case measure => simp [intOf]; omega
              · obtain ⟨k', hk1⟩ : ∃ k', k = k' + 1 := ⟨k - 1, by omega⟩
                obtain ⟨⟨pno, ⟨a0, a1, a2, a3, a4, a5, a6, a7, a8, a9, a10⟩⟩, hpx⟩ := get_lt (show k' < L.length by omega)
                have HPX := Lib.hid hpx
                obtain ⟨b2, off2, hA2, e0, _⟩ := HR.out.twelve hpx rfl (Gr.refl wr)
                have HA2 := Lib.hid hA2
                clear hpx hA2
                have kz : (k : Int) > 0 := by omega
                have kn : 0 < k := by omega
                have qz : ((k : Int) - 1) = (k' : Int) := by omega
                have qw : IntKind.i64.wrap ((k : Int) - 1) = (k' : Int) := by rw [IntKind.wrap_i64]; omega
                have HK1 := Lib.hid hk1
                clear hk1
                have ka : (0 : Int) ≤ (k' : Int) := by omega
                have kb : (k' : Int) < (L.length : Int) := by omega
                by_cases hgt : pno > no
                · have H3 : Hid (∀ i p, k' ≤ i → L[i]? = some p → no < p.no) := fun i p hi hp => by
                    by_cases c : i = k'
                    · subst c; rw [HPX.out] at hp; injection hp with hp; rw [← hp]; exact hgt
                    · exact H2.out i p (by have := HK1.out; omega) hp
                  have gd : decide (pno > no) = true := decide_eq_true hgt
                  rw [HA2.out]
                  go_wp2_with fail
                  go_quiet (fail)
                  clear e0 y0 kz kn qw ka kb gd
                  go_wp2_with fail
                  go_roundw
                  case rel => exact ⟨k', by omega, by first | rfl | go_num | (congr 1; omega), H3, hg6.out.drewN nq⟩
                  case measure => simp [intOf]; omega
                · have gd : decide (pno > no) = false := decide_eq_false hgt
                  have H1 : Hid (∀ p, k ≠ 0 → L[k - 1]? = some p → p.no ≤ no) := fun p _ hp => by
                    rw [show k - 1 = k' by have := HK1.out; omega, HPX.out] at hp; injection hp with hp; rw [← hp]; simp only; omega
                  rw [HA2.out]
                  go_wp2_with fail
                  go_quiet (fail)
                  have hg6 := Lib.hid (hg6.out.drewN nq)
                  have HX := Lib.hid (bheap_gr ((Gr.refl wr).drewN nq) HX.out)
                  clear e0 y0 kz kn qw ka kb gd qz
                  go_wp2_with fail
                  rw [← HA2.out]
                  generalize wr.drewN nq = wr at hg6 HX ⊢
                  clear HA2 HPX
                  refine wp_region_noPanic ?_
                  refine till_start 11 (fun wx => wx.heap[q18]? = some (.cells #[.int .i64 no, .string znm, .int .i64 fr, .int .i64 tt, .int .i64 mo, .int .i64 zk, .int .i64 d, .int .i64 n, .int .i64 at', .int .i64 by', .int .i64 sv, .string lt] 122 (0, 0)) ∧ Gr w6 wx) (by kernel_rfl) ⟨HX.out, hg6.out.trans (Gr.drew wr)⟩ (fun hHeld => ?_)
                  (try dsimp only at hHeld)
                  generalize wr.drew = wd at hHeld ⊢
                  refine till_take (i := 0) (oi := { dst := some 94, op := _, type := _, pos := _, after := _, guard := _ }) (v := ?v9) rfl (by kernel_rfl) (by kernel_rfl) (by kernel_rfl) (by kernel_rfl) (fun _ _ _ h => h) (Or.inl ⟨by rfl, ?hy9⟩) (by assumption) ?rest9
                  case hy9 => (intro w hSw; go_simp <;> (with_reducible rfl))
                  (try simp only [Act.put, List.setIfInBounds_toArray, List.set_cons_zero, List.set_cons_succ])
                  refine till_take (i := 1) (oi := { dst := some 95, op := _, type := _, pos := _, after := _, guard := _ }) (v := ?v10) rfl (by kernel_rfl) (by kernel_rfl) (by kernel_rfl) (by kernel_rfl) (fun _ _ _ h => h) (Or.inl ⟨by rfl, ?hy10⟩) (by assumption) ?rest10
                  case hy10 => (intro w hSw; go_simp <;> (with_reducible rfl))
                  (try simp only [Act.put, List.setIfInBounds_toArray, List.set_cons_zero, List.set_cons_succ])
                  refine till_take (i := 2) (oi := { dst := some 96, op := _, type := _, pos := _, after := _, guard := _ }) (v := ?v11) rfl (by kernel_rfl) (by kernel_rfl) (by kernel_rfl) (by kernel_rfl) (fun _ _ _ h => h) (Or.inl ⟨by rfl, ?hy11⟩) (by assumption) ?rest11
                  case hy11 => (intro w hSw; go_simp <;> (with_reducible rfl))
                  (try simp only [Act.put, List.setIfInBounds_toArray, List.set_cons_zero, List.set_cons_succ])
                  refine till_take (i := 3) (oi := { dst := some 97, op := _, type := _, pos := _, after := _, guard := _ }) (v := (.slice A k k)) rfl (by kernel_rfl) (by kernel_rfl) (by kernel_rfl) (by kernel_rfl) (fun _ _ _ h => h) (Or.inl ⟨by rfl, ?hy12⟩) (by assumption) ?rest12
                  case hy12 => (intro w hSw; simp [go_sem, X1.out])
                  (try simp only [Act.put, List.setIfInBounds_toArray, List.set_cons_zero, List.set_cons_succ])
                  refine till_take (i := 4) (oi := { dst := some 98, op := _, type := _, pos := _, after := _, guard := _ }) (v := ?v13) rfl (by kernel_rfl) (by kernel_rfl) (by kernel_rfl) (by kernel_rfl) (fun _ _ _ h => h) (Or.inl ⟨by rfl, ?hy13⟩) (by assumption) ?rest13
                  case hy13 => (intro w hSw; have c0 := bcell_row (i := 0) hSw.1 rfl; have c1 := bcell_row (i := 1) hSw.1 rfl; have c2 := bcell_row (i := 2) hSw.1 rfl; have c3 := bcell_row (i := 3) hSw.1 rfl; have c4 := bcell_row (i := 4) hSw.1 rfl; have c5 := bcell_row (i := 5) hSw.1 rfl; have c6 := bcell_row (i := 6) hSw.1 rfl; have c7 := bcell_row (i := 7) hSw.1 rfl; have c8 := bcell_row (i := 8) hSw.1 rfl; have c9 := bcell_row (i := 9) hSw.1 rfl; have c10 := bcell_row (i := 10) hSw.1 rfl; have c11 := bcell_row (i := 11) hSw.1 rfl; go_simp <;> (with_reducible rfl))
                  (try simp only [Act.put, List.setIfInBounds_toArray, List.set_cons_zero, List.set_cons_succ])
                  refine till_take (i := 6) (oi := { dst := some 100, op := _, type := _, pos := _, after := _, guard := _ }) (v := ?v14) rfl (by kernel_rfl) (by kernel_rfl) (by kernel_rfl) (by kernel_rfl) (fun _ _ _ h => h) (Or.inl ⟨by rfl, ?hy14⟩) (by assumption) ?rest14
                  case hy14 => (intro w hSw; go_simp <;> (with_reducible rfl))
                  (try simp only [Act.put, List.setIfInBounds_toArray, List.set_cons_zero, List.set_cons_succ])
                  refine till_take (i := 7) (oi := { dst := some 101, op := _, type := _, pos := _, after := _, guard := _ }) (v := ?v15) rfl (by kernel_rfl) (by kernel_rfl) (by kernel_rfl) (by kernel_rfl) (fun _ _ _ h => h) (Or.inl ⟨by rfl, ?hy15⟩) (by assumption) ?rest15
                  case hy15 => (intro w hSw; go_simp <;> (with_reducible rfl))
                  (try simp only [Act.put, List.setIfInBounds_toArray, List.set_cons_zero, List.set_cons_succ])
                  refine till_take (i := 8) (oi := { dst := some 102, op := _, type := _, pos := _, after := _, guard := _ }) (v := (.slice (tailG A k 12 c) (L.length - k) (c - k))) rfl (by kernel_rfl) (by kernel_rfl) (by kernel_rfl) (by kernel_rfl) (fun _ _ _ h => h) (Or.inl ⟨by rfl, ?hy16⟩) (by assumption) ?rest16
                  case hy16 => (intro w hSw; simp [go_sem, X2.out])
                  (try simp only [Act.put, List.setIfInBounds_toArray, List.set_cons_zero, List.set_cons_succ])
                  have B1 := Lib.hid (box_one wd (.cells #[.int .i64 no, .string znm, .int .i64 fr, .int .i64 tt, .int .i64 mo, .int .i64 zk, .int .i64 d, .int .i64 n, .int .i64 at', .int .i64 by', .int .i64 sv, .string lt] 122))
                  refine till_one (i := 5) (by kernel_rfl) rfl (fun K hK => ?_)
                  (refine step_one (by rfl) (by rfl) _ _ _ (by rfl) (bsn_row wd no znm lt fr tt mo zk d n at' by' sv) ?_)
                  refine hK.out _ _ (Or.inr ⟨bheap_gr B1.out.1 hHeld.1, hHeld.2.trans B1.out.1⟩) ?_
                  clear hK K
                  (try simp only [Act.put, List.setIfInBounds_toArray, List.set_cons_zero, List.set_cons_succ])
                  have hH1 := And.intro (bheap_gr B1.out.1 hHeld.1) (hHeld.2.trans B1.out.1)
                  have NR := Lib.hid (row_sgl (k := 12) (enc := PenD.rcells) (x := (⟨no, ⟨znm, fr, tt, mo, zk, d, n, at', by', sv, lt⟩⟩ : PenD)) B1.out.2 rfl)
                  clear B1 hHeld
                  generalize wd.alloc (.cells #[.int .i64 no, .string znm, .int .i64 fr, .int .i64 tt, .int .i64 mo, .int .i64 zk, .int .i64 d, .int .i64 n, .int .i64 at', .int .i64 by', .int .i64 sv, .string lt] 122) = w9 at hH1 NR ⊢
                  generalize wd.heap.size = q9 at NR ⊢
                  refine till_one (i := 9) (by kernel_rfl) rfl (fun K hK => ?_)
                  (refine step_app_full _ (by rfl) _ _ 113 (by rfl) 122 iw (.agg #[.int .i64 0, .string .empty, .int .i64 0, .int .i64 0, .int .i64 0, .int .i64 0, .int .i64 0, .int .i64 0, .int .i64 0, .int .i64 0, .int .i64 0, .string .empty]) 12 112 Tryz.underlying113 W1.out W2.out W3.out W4.out (by omega) PenD.rcells pr_len [⟨no, ⟨znm, fr, tt, mo, zk, d, n, at', by', sv, lt⟩⟩] (L.drop k) (some ⟨q9, 0, none⟩) (tailG A k 12 c) 1 (L.length - k) (c - k) (by rfl) (by rfl) (by rfl) (by simp) NR.out ((row_from HR6.out (by omega)).gr hH1.2) (Or.inr ⟨_, _, rfl⟩) (by simp; omega) ?_)
                  intro A4 c4 w10 r4 l4 m4 g4 _ _
                  refine hK.out _ _ (Or.inr ⟨bheap_gr g4 hH1.1, hH1.2.trans g4⟩) ?_
                  clear hK K
                  (try simp only [Act.put, List.setIfInBounds_toArray, List.set_cons_zero, List.set_cons_succ])
                  have hH2 := And.intro (bheap_gr g4 hH1.1) (hH1.2.trans g4)
                  have R4 := Lib.hid r4
                  clear r4 g4 hH1 NR
                  refine till_one (i := 10) (by kernel_rfl) rfl (fun K hK => ?_)
                  (refine step_app_full _ (by rfl) _ _ 113 (by rfl) 122 iw (.agg #[.int .i64 0, .string .empty, .int .i64 0, .int .i64 0, .int .i64 0, .int .i64 0, .int .i64 0, .int .i64 0, .int .i64 0, .int .i64 0, .int .i64 0, .string .empty]) 12 112 Tryz.underlying113 W1.out W2.out W3.out W4.out (by omega) PenD.rcells pr_len (L.take k) ([⟨no, ⟨znm, fr, tt, mo, zk, d, n, at', by', sv, lt⟩⟩] ++ L.drop k) A A4 k ([(⟨no, ⟨znm, fr, tt, mo, zk, d, n, at', by', sv, lt⟩⟩ : PenD)] ++ L.drop k).length c4 (by rfl) (by rfl) (by simp; omega) (by rfl) ((HR6.out.take k).gr hH2.2) R4.out FL.out (by simp; omega) ?_)
                  intro A5 c5 w11 r5 l5 m5 g5 n5 _
                  refine hK.out _ _ (Or.inr ⟨bheap_gr g5 hH2.1, hH2.2.trans g5⟩) ?_
                  clear hK K
                  (try simp only [Act.put, List.setIfInBounds_toArray, List.set_cons_zero, List.set_cons_succ])
                  have hH3 := And.intro (bheap_gr g5 hH2.1) (hH2.2.trans g5)
                  obtain ⟨rfl, _⟩ := n5 (by simp)
                  have R5 := Lib.hid r5
                  clear r5 g5 hH2 R4 n5
                  refine till_one (i := 11) (by kernel_rfl) rfl (fun K hK => ?_)
                  go_simp
                  refine hK.out _ _ (Or.inl (by kernel_rfl)) ?_
                  clear hK K
                  (try simp only [Act.put, List.setIfInBounds_toArray, List.set_cons_zero, List.set_cons_succ])
                  refine till_done (by kernel_rfl) ?_ _
                  refine NoPanic.normal ?_
                  have EL : L.take k ++ ([(⟨no, ⟨znm, fr, tt, mo, zk, d, n, at', by', sv, lt⟩⟩ : PenD)] ++ L.drop k) = ins PenD.no ⟨no, ⟨znm, fr, tt, mo, zk, d, n, at', by', sv, lt⟩⟩ L := (ins_upto HU.out hk H1.out H2.out).symm
                  rw [EL] at R5 l5
                  have LI : (ins PenD.no (⟨no, ⟨znm, fr, tt, mo, zk, d, n, at', by', sv, lt⟩⟩ : PenD) L).length = L.length + 1 := by rw [(ins_perm L).length_eq]; rfl
                  have HG := Lib.hid hH3.2
                  clear hH3 EL
                  go_wp2_with fail
                  go_roundw
                  case rel =>
                    refine ⟨j + 1, ins PenD.no ⟨no, ⟨znm, fr, tt, mo, zk, d, n, at', by', sv, lt⟩⟩ L, _, c5, by omega, by go_num, ?_, by rw [LI]; exact LB1.out, ?_, R5, l5, m5, Or.inr ⟨_, _, rfl⟩, G6.out.trans HG.out, G63.out.trans HG.out, bheap_gr HG.out HQ6.out⟩
                    · rw [LI]; congr 1; omega
                    · unfold Hid; rw [PN.out, ← List.append_assoc, stab_snoc, ← HL.out]
                  case measure => simp [intOf]; omega
          · have e : (j : Int) = tt - fr + 1 := by omega
            have HW : Hid (L = stab PenD.no (pens (R.take (k + 1)))) := by
              unfold Hid
              rw [RT.out]
              have := HL.out
              rwa [show j = (tt - fr + 1).toNat by omega] at this
            clear e
            go_wp2_with fail
            go_roundw
            case rel => exact ⟨k + 1, L, A, c, by omega, by go_num, rfl, hL15, HW, HR, hLc, hcm, FL, hg, hg3⟩
            case measure => simp [intOf]; omega
      · have e : k = R.length := by omega
        have HW : Hid (L = sorted rs nm) := by have := HL.out; rw [e, List.take_length, ← HES.out] at this; exact this
        clear e HL
        have hW := HW.out
        subst hW
        clear HW
        have SPOS : Hid (0 < (sorted rs nm).length) := by
          have h1 := pens_len OKS.out
          obtain ⟨r, hr⟩ := get_lt SP.out
          have h3 := yrs_take hr
          have h4 := (yrs_take_le OKS.out 1).2
          have h5 := (OKS.out _ (get_mem hr)).1
          unfold RuleNum at h5
          simp only [List.take_zero, yrs, Nat.zero_add] at h3
          unfold Hid
          rw [HES.out, stab_len]
          omega
        obtain ⟨TL, hTL⟩ : ∃ TL, turL off 0 (sorted rs nm) = TL := ⟨_, rfl⟩
        have HT : Hid (∀ (k : Nat) (p : PenD), (sorted rs nm)[k]? = some p → TL[k]? = some (turP off (svAt (sorted rs nm) k) p)) := fun k p hp => by rw [← hTL]; exact turL_at hp
        have HN : Hid (TL.length = (sorted rs nm).length) := by rw [← hTL]; exact turL_len off _ 0
        have SB := Lib.hid (fun i => svAt_bd SOK.out i)
        have IN := Lib.hid (fun s p (hp : PenD.Ok p) h3 h4 => (turP_in (off := off) (sv := s) hp h1 h2 h3 h4).2.1)
        rw [hTL] at F5 F0
        clear hTL HES
        generalize sorted rs nm = S at F0 HR hLc hL15 SOK HT HN SB SPOS ⊢
        obtain ⟨p0, hp0⟩ := get_lt SPOS.out
        obtain ⟨b0, of0, rfl, _⟩ := HR.out 0 p0 hp0
        obtain ⟨w7, rfl⟩ : ∃ w7, w7 = wr := ⟨_, rfl⟩
        have RW := Lib.hid HR.out
        have G7 := Lib.hid hg.out
        clear hg hg3 HR hp0 FL
        go_wp2_with fail
        go_loopw [20, 108] (fun v i W => ∃ k : Nat, k ≤ S.length ∧ i = .int .i64 k ∧ Hid (Own W w7.heap.size 75 3 TurD.cells v (TL.take k)) ∧ Hid (Rise (TL.take k)) ∧ Hid (Gr w7 W)) (fun v i W => S.length - (intOf i).toNat)
        case atStart => exact ⟨0, Nat.zero_le _, rfl, Own.nil_ _ _ _ _ _, fun i x y hx _ => by simp at hx, Gr.refl _⟩
        case round =>
          clear hk hlt
          obtain ⟨k, hk, rfl, hw, hri, hgr⟩ := hrel
          have LT : Hid ((TL.take k).length = k) := by have := HN.out; unfold Hid; rw [List.length_take]; omega
          obtain ⟨A2, c2, rfl, hc3, hc4, hA2⟩ := hw.out.form
          obtain ⟨kk, hkk⟩ : ∃ kk, (TL.take k).length = kk := ⟨_, rfl⟩
          have ekk : kk = k := by rw [← hkk, LT.out]
          rw [hkk] at hw hc3 ⊢
          subst ekk
          clear hkk
          by_cases hlt : kk < S.length
          · obtain ⟨⟨no, ⟨znm, fr, tt, mo, zk, d, n, at', by', sv, lt⟩⟩, hx⟩ := get_lt hlt
            have TX := Lib.hid (HT.out kk _ hx)
            have OKP := Lib.hid (SOK.out _ (get_mem hx))
            have nb := OKP.out.2.2
            obtain ⟨⟨_, _, _, _, ⟨hb0, hb1⟩, hv0, hv1⟩, _⟩ := OKP.out
            simp only at nb hb0 hb1 hv0 hv1
            obtain ⟨nb1, nb2⟩ := nb
            obtain ⟨b, of', hAA, c0, c1, c2', c3, c4, c5, c6, c7, c8, c9, c10, c11⟩ := RW.out.twelve hx rfl hgr.out
            injection hAA with hAA; injection hAA with e1 e2
            subst e1; subst e2
            clear hx
            go_upto_region 30 with fail
            clear c0 c1 c2' c3 c4 c5 c6 c7 c8 c9 c10 c11
            have B0 := Lib.hid (box_one wr (.cells #[.int .i64 no, .string znm, .int .i64 fr, .int .i64 tt, .int .i64 mo, .int .i64 zk, .int .i64 d, .int .i64 n, .int .i64 at', .int .i64 by', .int .i64 sv, .string lt] 122))
            have OWB := Lib.hid (hw.out.gr B0.out.1)
            have GRB := Lib.hid (hgr.out.trans B0.out.1)
            have HB := Lib.hid B0.out.2
            clear B0 hw hgr
            generalize wr.alloc (.cells #[.int .i64 no, .string znm, .int .i64 fr, .int .i64 tt, .int .i64 mo, .int .i64 zk, .int .i64 d, .int .i64 n, .int .i64 at', .int .i64 by', .int .i64 sv, .string lt] 122) = wq at OWB GRB HB ⊢
            generalize wr.heap.size = q22 at HB ⊢
            have x0 := bcell_row (i := 0) HB.out rfl
            have x9 := bcell_row (i := 9) HB.out rfl
            have x10 := bcell_row (i := 10) HB.out rfl
            have x11 := bcell_row (i := 11) HB.out rfl
            have LN : Hid ((TL.take kk).length ≤ 1500) := by have := LT.out; unfold Hid; omega
            by_cases k0 : kk = 0
            · have kz : ¬ ((kk : Int) > 0) := by omega
              have kn : ¬ 0 < kk := by omega
              have sv0 : svAt S kk = 0 := by rw [k0]; rfl
              rw [sv0] at TX
              clear sv0
              have b3 : by' = 0 ∨ by' = 1 ∨ by' = 2 := by omega
              rcases b3 with rfl | rfl | rfl
              · have TXE : TL[kk]? = some (⟨no - off, sv, lt⟩ : TurD) := by rw [TX.out]; simp [turP, momR]
                have HTX := Lib.hid TXE
                have TK := Lib.hid (take_more TXE)
                have B5 := Lib.hid (box_one wq (.cells #[.int .i64 (no - off), .int .i64 sv, .string lt] 75))
                have OW5 := Lib.hid (OWB.out.gr B5.out.1)
                have GR5 := Lib.hid (GRB.out.trans B5.out.1)
                have NB5 := Lib.hid B5.out.2
                have RS : Hid (Rise (TL.take (kk + 1))) := by unfold Hid; rw [TK.out, k0]; simpa using rise_one _
                obtain ⟨L, hL⟩ : ∃ L, TL.take kk = L := ⟨_, rfl⟩
                have LL : Hid (L.length = kk) := by rw [← hL]; exact LT.out
                rw [hL] at TK OW5 LN
                clear hL TXE hri k0
                have hkl := LL.out
                go_wp2_with (at_builtin; refine wpList_append_lies _ (by rfl) _ _ 71 (by rfl) w7.heap.size 75 i0 (.agg #[.int .i64 0, .int .i64 0, .string .empty]) 3 32 Tryz.underlying71 I1.out I2.out I3.out I4.out (by rfl) (by omega) (.slice A2 kk c2) L.length (L.flatMap TurD.cells) (by rfl) OW5.out ⟨wq.heap.size, 0, none⟩ 1 1 [.int .i64 (no - off), .int .i64 sv, .string lt] (by rfl) (by rfl) (World.news_of_block NB5.out) (tu_one ⟨no - off, sv, lt⟩) (by omega) (by have := LN.out; unfold maxLen; omega) (by have := LN.out; omega) (Below.size GR5.out) (wq.heap.size + 1) (by simp) ?_; intro g cap w4 hown hgrow hat hlt4)
                have OW4 := Lib.hid (own_more TK.out hown)
                rw [LL.out] at OW4
                go_roundw
                case rel => exact ⟨kk + 1, by omega, by go_num, OW4, RS, grown_gr GR5.out hgrow (own_base OW5.out)⟩
                case measure => simp [intOf]; omega
              · have TXE : TL[kk]? = some (⟨no - off, sv, lt⟩ : TurD) := by rw [TX.out]; simp [turP, momR]
                have HTX := Lib.hid TXE
                have TK := Lib.hid (take_more TXE)
                have B5 := Lib.hid (box_one wq (.cells #[.int .i64 (no - off), .int .i64 sv, .string lt] 75))
                have OW5 := Lib.hid (OWB.out.gr B5.out.1)
                have GR5 := Lib.hid (GRB.out.trans B5.out.1)
                have NB5 := Lib.hid B5.out.2
                have RS : Hid (Rise (TL.take (kk + 1))) := by unfold Hid; rw [TK.out, k0]; simpa using rise_one _
                obtain ⟨L, hL⟩ : ∃ L, TL.take kk = L := ⟨_, rfl⟩
                have LL : Hid (L.length = kk) := by rw [← hL]; exact LT.out
                rw [hL] at TK OW5 LN
                clear hL TXE hri k0
                have hkl := LL.out
                go_wp2_with (at_builtin; refine wpList_append_lies _ (by rfl) _ _ 71 (by rfl) w7.heap.size 75 i0 (.agg #[.int .i64 0, .int .i64 0, .string .empty]) 3 32 Tryz.underlying71 I1.out I2.out I3.out I4.out (by rfl) (by omega) (.slice A2 kk c2) L.length (L.flatMap TurD.cells) (by rfl) OW5.out ⟨wq.heap.size, 0, none⟩ 1 1 [.int .i64 (no - off), .int .i64 sv, .string lt] (by rfl) (by rfl) (World.news_of_block NB5.out) (tu_one ⟨no - off, sv, lt⟩) (by omega) (by have := LN.out; unfold maxLen; omega) (by have := LN.out; omega) (Below.size GR5.out) (wq.heap.size + 1) (by simp) ?_; intro g cap w4 hown hgrow hat hlt4)
                have OW4 := Lib.hid (own_more TK.out hown)
                rw [LL.out] at OW4
                go_roundw
                case rel => exact ⟨kk + 1, by omega, by go_num, OW4, RS, grown_gr GR5.out hgrow (own_base OW5.out)⟩
                case measure => simp [intOf]; omega
              · have TXE : TL[kk]? = some (⟨no, sv, lt⟩ : TurD) := by rw [TX.out]; simp [turP, momR]
                have HTX := Lib.hid TXE
                have TK := Lib.hid (take_more TXE)
                have B5 := Lib.hid (box_one wq (.cells #[.int .i64 (no), .int .i64 sv, .string lt] 75))
                have OW5 := Lib.hid (OWB.out.gr B5.out.1)
                have GR5 := Lib.hid (GRB.out.trans B5.out.1)
                have NB5 := Lib.hid B5.out.2
                have RS : Hid (Rise (TL.take (kk + 1))) := by unfold Hid; rw [TK.out, k0]; simpa using rise_one _
                obtain ⟨L, hL⟩ : ∃ L, TL.take kk = L := ⟨_, rfl⟩
                have LL : Hid (L.length = kk) := by rw [← hL]; exact LT.out
                rw [hL] at TK OW5 LN
                clear hL TXE hri k0
                have hkl := LL.out
                go_wp2_with (at_builtin; refine wpList_append_lies _ (by rfl) _ _ 71 (by rfl) w7.heap.size 75 i0 (.agg #[.int .i64 0, .int .i64 0, .string .empty]) 3 32 Tryz.underlying71 I1.out I2.out I3.out I4.out (by rfl) (by omega) (.slice A2 kk c2) L.length (L.flatMap TurD.cells) (by rfl) OW5.out ⟨wq.heap.size, 0, none⟩ 1 1 [.int .i64 (no), .int .i64 sv, .string lt] (by rfl) (by rfl) (World.news_of_block NB5.out) (tu_one ⟨no, sv, lt⟩) (by omega) (by have := LN.out; unfold maxLen; omega) (by have := LN.out; omega) (Below.size GR5.out) (wq.heap.size + 1) (by simp) ?_; intro g cap w4 hown hgrow hat hlt4)
                have OW4 := Lib.hid (own_more TK.out hown)
                rw [LL.out] at OW4
                go_roundw
                case rel => exact ⟨kk + 1, by omega, by go_num, OW4, RS, grown_gr GR5.out hgrow (own_base OW5.out)⟩
                case measure => simp [intOf]; omega
            · obtain ⟨k', hk1⟩ : ∃ k', kk = k' + 1 := ⟨kk - 1, by omega⟩
              have HK1 := Lib.hid hk1
              have kz : (kk : Int) > 0 := by omega
              have kn : 0 < kk := by omega
              have qz : ((kk : Int) - 1) = (k' : Int) := by omega
              have qw : IntKind.i64.wrap ((kk : Int) - 1) = (k' : Int) := by rw [IntKind.wrap_i64]; omega
              have ka : (0 : Int) ≤ (k' : Int) := by omega
              have kb : (k' : Int) < (kk : Int) := by omega
              have kc : (k' : Int) < (S.length : Int) := by omega
              obtain ⟨⟨pno, ⟨a0, a1, a2, a3, a4, a5, a6, a7, a8, psv, a10⟩⟩, hpp⟩ := get_lt (show k' < S.length by omega)
              have HPP := Lib.hid hpp
              have svk : svAt S kk = psv := by rw [hk1]; exact svAt_succ hpp
              have svb := SB.out kk
              rw [svk] at TX svb
              obtain ⟨sb1, sb2⟩ := svb
              obtain ⟨b, of', hAA, _, _, _, _, _, _, _, _, _, _, d10, _⟩ := RW.out.twelve hpp rfl GRB.out
              injection hAA with hAA; injection hAA with e1 e2
              subst e1; subst e2
              obtain ⟨⟨pat, tsv, plt⟩, hpx⟩ := get_lt (show k' < TL.length by have := HN.out; omega)
              have TP := Lib.hid hpx
              have hp : (TL.take kk)[k']? = some (⟨pat, tsv, plt⟩ : TurD) := by rw [List.getElem?_take, if_pos (by omega)]; exact hpx
              have HP := Lib.hid hp
              have PB : -4000000000 ≤ pat ∧ pat ≤ 7000000000 := by
                have e1 := HT.out k' _ HPP.out
                rw [hpx] at e1
                injection e1 with e1
                have e2 := IN.out (svAt S k') _ (SOK.out _ (get_mem HPP.out)) (SB.out k').1 (SB.out k').2
                rw [← e1] at e2
                exact e2
              obtain ⟨pb1, pb2⟩ := PB
              obtain ⟨b2, off2, rfl, d0, _, _⟩ := Row.three (OWB.out.row tu_len) hp rfl (Gr.refl wq)
              clear hpx hp hpp svk hk1 k0
              have b3 : by' = 0 ∨ by' = 1 ∨ by' = 2 := by omega
              rcases b3 with rfl | rfl | rfl
              · have TXE : TL[kk]? = some (⟨no - off - psv, sv, lt⟩ : TurD) := by rw [TX.out]; simp [turP, momR]
                have HTX := Lib.hid TXE
                have TK := Lib.hid (take_more TXE)
                have B5 := Lib.hid (box_one wq (.cells #[.int .i64 (no - off - psv), .int .i64 sv, .string lt] 75))
                have OW5 := Lib.hid (OWB.out.gr B5.out.1)
                have GR5 := Lib.hid (GRB.out.trans B5.out.1)
                have NB5 := Lib.hid B5.out.2
                by_cases hle : no - off - psv ≤ pat
                · have NR : Hid (riseB TL = false) := rise_not (i := k') TP.out (by rw [← HK1.out]; exact HTX.out) hle
                  have GQ := Lib.hid (G7.out.trans GRB.out)
                  clear TXE B5 OW5 GR5 NB5 TK
                  go_wp2_with fail
                  go_ret2
                  exact F5.out wq GQ.out S0.out HYN.out NR.out
                have RS : Hid (Rise (TL.take (kk + 1))) := by unfold Hid; rw [TK.out]; exact rise_snoc hri.out (by rw [LT.out, show kk - 1 = k' by have := HK1.out; omega]; exact HP.out) (show pat < no - off - psv by omega)
                obtain ⟨L, hL⟩ : ∃ L, TL.take kk = L := ⟨_, rfl⟩
                have LL : Hid (L.length = kk) := by rw [← hL]; exact LT.out
                rw [hL] at TK OW5 LN
                clear hL TXE hri HP TP
                have hkl := LL.out
                go_wp2_with (at_builtin; refine wpList_append_lies _ (by rfl) _ _ 71 (by rfl) w7.heap.size 75 i0 (.agg #[.int .i64 0, .int .i64 0, .string .empty]) 3 32 Tryz.underlying71 I1.out I2.out I3.out I4.out (by rfl) (by omega) (.slice (some ⟨b2, off2, none⟩) kk c2) L.length (L.flatMap TurD.cells) (by rfl) OW5.out ⟨wq.heap.size, 0, none⟩ 1 1 [.int .i64 (no - off - psv), .int .i64 sv, .string lt] (by rfl) (by rfl) (World.news_of_block NB5.out) (tu_one ⟨no - off - psv, sv, lt⟩) (by omega) (by have := LN.out; unfold maxLen; omega) (by have := LN.out; omega) (Below.size GR5.out) (wq.heap.size + 1) (by simp) ?_; intro g cap w4 hown hgrow hat hlt4)
                have OW4 := Lib.hid (own_more TK.out hown)
                rw [LL.out] at OW4
                go_roundw
                case rel => exact ⟨kk + 1, by omega, by go_num, OW4, RS, grown_gr GR5.out hgrow (own_base OW5.out)⟩
                case measure => simp [intOf]; omega
              · have TXE : TL[kk]? = some (⟨no - off, sv, lt⟩ : TurD) := by rw [TX.out]; simp [turP, momR]
                have HTX := Lib.hid TXE
                have TK := Lib.hid (take_more TXE)
                have B5 := Lib.hid (box_one wq (.cells #[.int .i64 (no - off), .int .i64 sv, .string lt] 75))
                have OW5 := Lib.hid (OWB.out.gr B5.out.1)
                have GR5 := Lib.hid (GRB.out.trans B5.out.1)
                have NB5 := Lib.hid B5.out.2
                by_cases hle : no - off ≤ pat
                · have NR : Hid (riseB TL = false) := rise_not (i := k') TP.out (by rw [← HK1.out]; exact HTX.out) hle
                  have GQ := Lib.hid (G7.out.trans GRB.out)
                  clear TXE B5 OW5 GR5 NB5 TK
                  go_wp2_with fail
                  go_ret2
                  exact F5.out wq GQ.out S0.out HYN.out NR.out
                have RS : Hid (Rise (TL.take (kk + 1))) := by unfold Hid; rw [TK.out]; exact rise_snoc hri.out (by rw [LT.out, show kk - 1 = k' by have := HK1.out; omega]; exact HP.out) (show pat < no - off by omega)
                obtain ⟨L, hL⟩ : ∃ L, TL.take kk = L := ⟨_, rfl⟩
                have LL : Hid (L.length = kk) := by rw [← hL]; exact LT.out
                rw [hL] at TK OW5 LN
                clear hL TXE hri HP TP
                have hkl := LL.out
                go_wp2_with (at_builtin; refine wpList_append_lies _ (by rfl) _ _ 71 (by rfl) w7.heap.size 75 i0 (.agg #[.int .i64 0, .int .i64 0, .string .empty]) 3 32 Tryz.underlying71 I1.out I2.out I3.out I4.out (by rfl) (by omega) (.slice (some ⟨b2, off2, none⟩) kk c2) L.length (L.flatMap TurD.cells) (by rfl) OW5.out ⟨wq.heap.size, 0, none⟩ 1 1 [.int .i64 (no - off), .int .i64 sv, .string lt] (by rfl) (by rfl) (World.news_of_block NB5.out) (tu_one ⟨no - off, sv, lt⟩) (by omega) (by have := LN.out; unfold maxLen; omega) (by have := LN.out; omega) (Below.size GR5.out) (wq.heap.size + 1) (by simp) ?_; intro g cap w4 hown hgrow hat hlt4)
                have OW4 := Lib.hid (own_more TK.out hown)
                rw [LL.out] at OW4
                go_roundw
                case rel => exact ⟨kk + 1, by omega, by go_num, OW4, RS, grown_gr GR5.out hgrow (own_base OW5.out)⟩
                case measure => simp [intOf]; omega
              · have TXE : TL[kk]? = some (⟨no, sv, lt⟩ : TurD) := by rw [TX.out]; simp [turP, momR]
                have HTX := Lib.hid TXE
                have TK := Lib.hid (take_more TXE)
                have B5 := Lib.hid (box_one wq (.cells #[.int .i64 (no), .int .i64 sv, .string lt] 75))
                have OW5 := Lib.hid (OWB.out.gr B5.out.1)
                have GR5 := Lib.hid (GRB.out.trans B5.out.1)
                have NB5 := Lib.hid B5.out.2
                by_cases hle : no ≤ pat
                · have NR : Hid (riseB TL = false) := rise_not (i := k') TP.out (by rw [← HK1.out]; exact HTX.out) hle
                  have GQ := Lib.hid (G7.out.trans GRB.out)
                  clear TXE B5 OW5 GR5 NB5 TK
                  go_wp2_with fail
                  go_ret2
                  exact F5.out wq GQ.out S0.out HYN.out NR.out
                have RS : Hid (Rise (TL.take (kk + 1))) := by unfold Hid; rw [TK.out]; exact rise_snoc hri.out (by rw [LT.out, show kk - 1 = k' by have := HK1.out; omega]; exact HP.out) (show pat < no by omega)
                obtain ⟨L, hL⟩ : ∃ L, TL.take kk = L := ⟨_, rfl⟩
                have LL : Hid (L.length = kk) := by rw [← hL]; exact LT.out
                rw [hL] at TK OW5 LN
                clear hL TXE hri HP TP
                have hkl := LL.out
                go_wp2_with (at_builtin; refine wpList_append_lies _ (by rfl) _ _ 71 (by rfl) w7.heap.size 75 i0 (.agg #[.int .i64 0, .int .i64 0, .string .empty]) 3 32 Tryz.underlying71 I1.out I2.out I3.out I4.out (by rfl) (by omega) (.slice (some ⟨b2, off2, none⟩) kk c2) L.length (L.flatMap TurD.cells) (by rfl) OW5.out ⟨wq.heap.size, 0, none⟩ 1 1 [.int .i64 (no), .int .i64 sv, .string lt] (by rfl) (by rfl) (World.news_of_block NB5.out) (tu_one ⟨no, sv, lt⟩) (by omega) (by have := LN.out; unfold maxLen; omega) (by have := LN.out; omega) (Below.size GR5.out) (wq.heap.size + 1) (by simp) ?_; intro g cap w4 hown hgrow hat hlt4)
                have OW4 := Lib.hid (own_more TK.out hown)
                rw [LL.out] at OW4
                go_roundw
                case rel => exact ⟨kk + 1, by omega, by go_num, OW4, RS, grown_gr GR5.out hgrow (own_base OW5.out)⟩
                case measure => simp [intOf]; omega
          · have e : kk = S.length := by omega
            have HW : Hid (Own wr w7.heap.size 75 3 TurD.cells (.slice A2 kk c2) TL) := by have := hw.out; rw [e, ← HN.out, List.take_length] at this; rw [e, ← HN.out]; exact this
            have HRI : Hid (riseB TL = true) := by have := hri.out; rw [e, ← HN.out, List.take_length] at this; exact (rise_iff TL).2 this
            have FIN : Hid (TursAt wr A2 c2 TL) := ⟨⟨by rw [HN.out, ← e]; exact hc3, hc4⟩, HW.out.row tu_len⟩
            have EE := Lib.hid e
            clear e hw hri HW
            go_wp2_with fail
            go_ret2
            have := F0.out wr A2 c2 S0.out HYN.out HRI.out FIN.out (G7.out.trans hgr.out)
            rw [← EE.out] at this
            exact this
end Go.Proofs.YtkmgildnhnjepaaGreatDoor
