/- The law TurnsSplit of package timeballkeep returns true for every input and leaves its arguments as they were: A rule may be parted into two. Condition: the listed variables (math/bits.deBruijn32tab, math/bits.deBruijn64tab, internal/strconv.uint64pow10, timeball/civil.lengths, unicode/utf8.acceptRanges, unicode/utf8.first) lie as their initialisers lay them; the card ties that tto the program's text. -/
import Derived.Test.YtkbegommjlmfmaaGreatDoorCards
import Derived.Test.YtkbegommjlmfmaaGreatDoorTie
import Derived.Test.YtkbegommjlmfmaaGreatDoorQM34
import Derived.Test.YtkbegommjlmfmaaGreatDoorQM46
import Derived.Test.YtkbegommjlmfmaaGreatDoorQM48
import Derived.Test.YtkbegommjlmfmaaGreatDoorQM28
import Derived.Test.YtkbegommjlmfmaaGreatDoorQM31
import Derived.Test.YtkbegommjlmfmaaGreatDoorQM27
import Derived.Test.YtkbegommjlmfmaaGreatDoorQM29
namespace Go.Proofs.YtkbegommjlmfmaaGreatDoor.turnsSplit
open Go.ChangeShapes Go.WideShapes Go.ChangeAt Go.RowKit
open Go.ChangeMaps (open_string shut_string)
set_option linter.unusedVariables false
set_option linter.unusedSimpArgs false
theorem set_far {w : World} {q j i : Nat} {v : Value} {o : Obj} (h : w.heap[j]? = some o) (hne : j ≠ q) : (w.setCell ⟨q, i, none⟩ v).heap[j]? = some o := by
  unfold World.setCell
  simp [Array.getElem?_modify, h, Ne.symm hne]
theorem bsn_rule2 (w : World) (nm lt nm2 lt2 : ByteArray) (fr tt mo zk d n at' by' sv fr2 tt2 mo2 zk2 d2 n2 at2 by2 sv2 : Int) : (Instr.buildSlice 22 2 #[(0, Value.agg #[.string nm, .int .i64 fr, .int .i64 tt, .int .i64 mo, .int .i64 zk, .int .i64 d, .int .i64 n, .int .i64 at', .int .i64 by', .int .i64 sv, .string lt]), (1, Value.agg #[.string nm2, .int .i64 fr2, .int .i64 tt2, .int .i64 mo2, .int .i64 zk2, .int .i64 d2, .int .i64 n2, .int .i64 at2, .int .i64 by2, .int .i64 sv2, .string lt2])]).run Tryz.prog w = .ok (.slice (some ⟨w.heap.size, 0, none⟩) 2 2) (w.alloc (.cells #[.string nm, .int .i64 fr, .int .i64 tt, .int .i64 mo, .int .i64 zk, .int .i64 d, .int .i64 n, .int .i64 at', .int .i64 by', .int .i64 sv, .string lt, .string nm2, .int .i64 fr2, .int .i64 tt2, .int .i64 mo2, .int .i64 zk2, .int .i64 d2, .int .i64 n2, .int .i64 at2, .int .i64 by2, .int .i64 sv2, .string lt2] 40)) := by kernel_rfl

set_option maxRecDepth 100000 in
set_option maxHeartbeats 20000000 in
theorem walk (b : BokD) (ka : Int) (hk1 : -9223372036854775808 ≤ ka) (hk2 : ka ≤ 9223372036854775807) (ya : Int) (hy1 : -9223372036854775808 ≤ ya) (hy2 : ya ≤ 9223372036854775807) (oa : Int) (ho1 : -9223372036854775808 ≤ oa) (ho2 : oa ≤ 9223372036854775807) (w : World) (hb : b.At w) (ht : BkTab w) :
    Calls Tryz.prog 7 #[bookV b, .int .i64 ka, .int .i64 ya, .int .i64 oa] w fun e w' => e = .returned (.bool true) ∧ Gr w w' := by
  have mixed : Tryz.prog.follows .mixedOrders = true := by kernel_rfl
  have KT := Lib.hid (fun W (g : Gr w W) => turned_any W (g.bk ht))
  have KC := Lib.hid (fun W (g : Gr w W) => pbookCheck b W (hb.gr g) (g.bk ht))
  have KO := Lib.hid (fun nm off W (g : Gr w W) => tOf b nm off W (hb.gr g) (g.bk ht))
  have KQ := Lib.hid (fun bb nm off W (g : Gr w W) (ha : BokD.At W bb) => tOf bb nm off W ha (g.bk ht))
  have KE := Lib.hid (fun A c A' c' l n' w hn hl h h' => reqTurn A c A' c' l n' w hn hl h h')
  have KK := Lib.hid (fun (m : Nat) (hm : 0 < m ∧ m ≤ 39) w => rest_any ka (m : Int) w hk1 hk2 (by omega) (by omega))
  have KY := Lib.hid (fun (m : Int) (hm : 0 < m ∧ m ≤ 200) w => rest_any ya m w hy1 hy2 (by omega) (by omega))
  have KF := Lib.hid (fun w => rest_any oa 129601 w ho1 ho2 (by omega) (by omega))
  have f1 := Int.emod_nonneg oa (show (129601 : Int) ≠ 0 by omega)
  have f2 := Int.emod_lt_of_pos oa (show (0 : Int) < 129601 by omega)
  generalize oa % 129601 = ro at KF f1 f2
  obtain ⟨Ar, cr, rs, Az, cz, zs, Al, cl, ls⟩ := b
  have HBA := Lib.hid hb
  have HR : Hid (Row w 11 RuD.cells Ar rs) := hb.1.2.1
  have HRS : Hid (RusAt w Ar cr rs) := hb.1
  simp only at KO KC
  obtain ⟨i0, hi, hz0, hz1, hz2⟩ := info_parts infoRule
  have I1 := Lib.hid hi
  have I2 := Lib.hid hz0
  have I3 := Lib.hid hz1
  have I4 := Lib.hid hz2
  have B0 := Lib.hid (box_one w (.cells #[.slice Ar rs.length cr, .slice Az zs.length cz, .slice Al ls.length cl] 26))
  clear hb ht hk1 hk2 hy1 hy2 ho1 ho2 hi hz0 hz1 hz2
  go_enter Tryz.func7, Tryz.ntmps7
  go_wp2_with fail
  generalize w.alloc (.cells #[.slice Ar rs.length cr, .slice Az zs.length cz, .slice Al ls.length cl] 26) = w1 at B0 ⊢
  obtain ⟨q, hq⟩ : ∃ q, w.heap.size = q := ⟨_, rfl⟩
  have HQS := Lib.hid hq
  rw [hq] at B0 ⊢
  clear hq
  refine (KT.out w1 B0.out.1).mono ?_
  rintro e w2 ⟨rfl, g2⟩
  have G2 := Lib.hid (B0.out.1.trans g2)
  have HQ2 := Lib.hid (bheap_gr g2 B0.out.2)
  clear g2 B0 KT
  have x0 : w2.cell? ⟨q, 0, none⟩ = some (.slice Ar rs.length cr) := bcell_row HQ2.out rfl
  have x1 : w2.cell? ⟨q, 1, none⟩ = some (.slice Az zs.length cz) := bcell_row HQ2.out rfl
  have x2 : w2.cell? ⟨q, 2, none⟩ = some (.slice Al ls.length cl) := bcell_row HQ2.out rfl
  go_wp2_with fail
  clear x0 x1 x2
  refine (KC.out w2 G2.out).mono ?_
  rintro e w3 ⟨rfl, g3⟩
  have G3 := Lib.hid (G2.out.trans g3)
  have HQ3 := Lib.hid (bheap_gr g3 HQ2.out)
  clear g3 G2 HQ2 KC
  by_cases h0 : bokC rs zs ls = 0
  case neg =>
    generalize bokC rs zs ls = C at h0 ⊢
    have t0 : (C != 0) = true := by rw [bne_iff_ne]; exact h0
    clear h0
    go_wp2_with fail
    go_ret
    exact ⟨rfl, G3.out⟩
  have H0 := Lib.hid h0
  rw [h0]
  clear h0
  have x0 : w3.cell? ⟨q, 0, none⟩ = some (.slice Ar rs.length cr) := bcell_row HQ3.out rfl
  by_cases hl0 : rs.length = 0
  case pos =>
    have z0 : ((rs.length : Int) == 0) = true := by rw [beq_iff_eq]; omega
    go_wp2_with fail
    go_ret
    exact ⟨rfl, G3.out⟩
  have z0 : ((rs.length : Int) == 0) = false := by rw [beq_eq_false_iff_ne]; omega
  by_cases hl39 : 39 < rs.length
  case pos =>
    have z1 : (39 : Int) < (rs.length : Int) := by omega
    go_wp2_with fail
    go_ret
    exact ⟨rfl, G3.out⟩
  have z1 : ¬ (39 : Int) < (rs.length : Int) := by omega
  have KKM := Lib.hid (KK.out rs.length ⟨by omega, by omega⟩)
  have k1 := Int.emod_nonneg ka (show (rs.length : Int) ≠ 0 by omega)
  have k2 := Int.emod_lt_of_pos ka (show (0 : Int) < (rs.length : Int) by omega)
  clear KK
  obtain ⟨k, hkk⟩ : ∃ k : Nat, ka % (rs.length : Int) = (k : Int) := ⟨(ka % (rs.length : Int)).toNat, by omega⟩
  rw [hkk] at KKM k1 k2
  clear hkk
  have hlt : k < rs.length := by omega
  obtain ⟨⟨znm, fr, tt, mo, zk, d, n, at', by', sv, lt⟩, hx⟩ := get_lt hlt
  have HX := Lib.hid hx
  have ok : RuleNum fr tt mo := (RuD.ok_of (rules_ok H0.out _ (get_mem hx))).1
  obtain ⟨o1, o2, o3, _⟩ := ok
  obtain ⟨b, off', hAr, c0, c1, c2, c3, c4, c5, c6, c7, c8, c9, c10⟩ := HR.out.eleven hx rfl G3.out
  rw [hAr] at x0
  have HAr := Lib.hid hAr
  clear hx hAr
  go_upto_region 8 with (first | (go_at_call 14; (with_reducible refine (KKM.out _).mono ?_); rintro e w9 ⟨rfl, rfl⟩) | (go_at_call 14; (with_reducible refine (KF.out _).mono ?_); rintro e w9 ⟨rfl, rfl⟩))
  clear c0 c1 c2 c3 c4 c5 c6 c7 c8 c9 c10 x0 z0 z1 k1 k2 KKM KF
  obtain ⟨off, hoff⟩ : ∃ off, ro - 64800 = off := ⟨_, rfl⟩
  rw [hoff]
  clear hoff f1 f2
  have B1 := Lib.hid (box_one w3 (.cells #[.string znm, .int .i64 fr, .int .i64 tt, .int .i64 mo, .int .i64 zk, .int .i64 d, .int .i64 n, .int .i64 at', .int .i64 by', .int .i64 sv, .string lt] 40))
  have G4 := Lib.hid (G3.out.trans B1.out.1)
  have HQ4 := Lib.hid (bheap_gr B1.out.1 HQ3.out)
  have H9 := Lib.hid B1.out.2
  have L9 : Hid (q < w3.heap.size) := (Array.getElem?_eq_some_iff.1 HQ3.out).1
  clear B1 G3 HQ3
  generalize w3.alloc (.cells #[.string znm, .int .i64 fr, .int .i64 tt, .int .i64 mo, .int .i64 zk, .int .i64 d, .int .i64 n, .int .i64 at', .int .i64 by', .int .i64 sv, .string lt] 40) = w4 at G4 HQ4 H9 ⊢
  generalize w3.heap.size = q9 at H9 L9 ⊢
  have y0 := bcell_row (i := 0) H9.out rfl
  have y1 := bcell_row (i := 1) H9.out rfl
  have y2 := bcell_row (i := 2) H9.out rfl
  have y3 := bcell_row (i := 3) H9.out rfl
  have y4 := bcell_row (i := 4) H9.out rfl
  have y5 := bcell_row (i := 5) H9.out rfl
  have y6 := bcell_row (i := 6) H9.out rfl
  have y7 := bcell_row (i := 7) H9.out rfl
  have y8 := bcell_row (i := 8) H9.out rfl
  have y9 := bcell_row (i := 9) H9.out rfl
  have y10 := bcell_row (i := 10) H9.out rfl
  by_cases hft : fr = tt
  case pos =>
    have z2 : (fr == tt) = true := by rw [beq_iff_eq]; exact hft
    go_wp2_with fail
    go_ret
    exact ⟨rfl, G4.out⟩
  have z2 : (fr == tt) = false := by rw [beq_eq_false_iff_ne]; exact hft
  have KYM := Lib.hid (KY.out (tt - fr) ⟨by omega, by omega⟩)
  have y1' := Int.emod_nonneg ya (show tt - fr ≠ 0 by omega)
  have y2' := Int.emod_lt_of_pos ya (show 0 < tt - fr by omega)
  generalize ya % (tt - fr) = yr at KYM y1' y2'
  obtain ⟨t, hT⟩ : ∃ t, fr + yr = t := ⟨_, rfl⟩
  have t1 : fr ≤ t := by omega
  have t2 : t < tt := by omega
  have WT : Hid (IntKind.i64.wrap (fr + yr) = t) := by unfold Hid; rw [IntWalk.i64_in _ (by omega), hT]
  have WS : Hid (IntKind.i64.wrap (tt - fr) = tt - fr) := IntWalk.i64_in _ (by omega)
  clear KY hT y1' y2'
  go_upto_region 11 with fail
  clear z2
  clear y0 y1 y2 y3 y4 y5 y6 y7 y8 y9 y10
  have B2 := Lib.hid (box_one w4 (.cells #[.string znm, .int .i64 fr, .int .i64 tt, .int .i64 mo, .int .i64 zk, .int .i64 d, .int .i64 n, .int .i64 at', .int .i64 by', .int .i64 sv, .string lt] 40))
  have G5 := Lib.hid (G4.out.trans B2.out.1)
  have HQ5 := Lib.hid (bheap_gr B2.out.1 HQ4.out)
  have H9b := Lib.hid (bheap_gr B2.out.1 H9.out)
  have H10 := Lib.hid B2.out.2
  have L10 : Hid (q9 < w4.heap.size) := (Array.getElem?_eq_some_iff.1 H9.out).1
  clear B2 G4 HQ4 H9
  generalize w4.alloc (.cells #[.string znm, .int .i64 fr, .int .i64 tt, .int .i64 mo, .int .i64 zk, .int .i64 d, .int .i64 n, .int .i64 at', .int .i64 by', .int .i64 sv, .string lt] 40) = w5 at G5 HQ5 H9b H10 ⊢
  generalize w4.heap.size = q10 at H10 L10 ⊢
  refine wp_region_noPanic ?_
  refine till_start 11 (fun wx => wx.heap[q9]? = some (.cells #[.string znm, .int .i64 fr, .int .i64 tt, .int .i64 mo, .int .i64 zk, .int .i64 d, .int .i64 n, .int .i64 at', .int .i64 by', .int .i64 sv, .string lt] 40 (0, 0)) ∧ wx.heap[q10]? = some (.cells #[.string znm, .int .i64 fr, .int .i64 tt, .int .i64 mo, .int .i64 zk, .int .i64 d, .int .i64 n, .int .i64 at', .int .i64 by', .int .i64 sv, .string lt] 40 (0, 0)) ∧ wx.heap[q]? = some (.cells #[.slice Ar rs.length cr, .slice Az zs.length cz, .slice Al ls.length cl] 26 (0, 0))) (by kernel_rfl) ⟨H9b.out, H10.out, HQ5.out⟩ (fun hHeld => ?_)
  (try dsimp only at hHeld)
  have G5d := Lib.hid (G5.out.trans (Gr.drew w5))
  generalize w5.drew = wd at hHeld G5d ⊢
  clear G5
  clear H9b H10 HQ5
  refine till_take (i := 0) (oi := { dst := some 53, op := _, type := _, pos := _, after := _, guard := _ }) (v := ?v1) rfl (by kernel_rfl) (by kernel_rfl) (by kernel_rfl) (by kernel_rfl) (fun _ _ _ h => h) (Or.inl ⟨by rfl, ?hy1⟩) (by assumption) ?rest1
  case hy1 => (intro w hSw; go_simp <;> (with_reducible rfl))
  (try simp only [Act.put, List.setIfInBounds_toArray, List.set_cons_zero, List.set_cons_succ])
  refine till_take (i := 1) (oi := { dst := some 54, op := _, type := _, pos := _, after := _, guard := _ }) (v := ?v2) rfl (by kernel_rfl) (by kernel_rfl) (by kernel_rfl) (by kernel_rfl) (fun _ _ _ h => h) (Or.inl ⟨by rfl, ?hy2⟩) (by assumption) ?rest2
  case hy2 => (intro w hSw; have c1 := bcell_row (i := 1) hSw.1 rfl; go_simp <;> (with_reducible rfl))
  (try simp only [Act.put, List.setIfInBounds_toArray, List.set_cons_zero, List.set_cons_succ])
  refine till_take (i := 2) (oi := { dst := some 55, op := _, type := _, pos := _, after := _, guard := _ }) (v := ?v3) rfl (by kernel_rfl) (by kernel_rfl) (by kernel_rfl) (by kernel_rfl) (fun _ _ _ h => h) (Or.inl ⟨by rfl, ?hy3⟩) (by assumption) ?rest3
  case hy3 => (intro w hSw; go_simp <;> (with_reducible rfl))
  (try simp only [Act.put, List.setIfInBounds_toArray, List.set_cons_zero, List.set_cons_succ])
  refine till_take (i := 3) (oi := { dst := some 56, op := _, type := _, pos := _, after := _, guard := _ }) (v := ?v4) rfl (by kernel_rfl) (by kernel_rfl) (by kernel_rfl) (by kernel_rfl) (fun _ _ _ h => h) (Or.inl ⟨by rfl, ?hy4⟩) (by assumption) ?rest4
  case hy4 => (intro w hSw; go_simp <;> (with_reducible rfl))
  (try simp only [Act.put, List.setIfInBounds_toArray, List.set_cons_zero, List.set_cons_succ])
  refine till_take (i := 4) (oi := { dst := some 57, op := _, type := _, pos := _, after := _, guard := _ }) (v := ?v5) rfl (by kernel_rfl) (by kernel_rfl) (by kernel_rfl) (by kernel_rfl) (fun _ _ _ h => h) (Or.inl ⟨by rfl, ?hy5⟩) (by assumption) ?rest5
  case hy5 => (intro w hSw; have c2 := bcell_row (i := 2) hSw.1 rfl; go_simp <;> (with_reducible rfl))
  (try simp only [Act.put, List.setIfInBounds_toArray, List.set_cons_zero, List.set_cons_succ])
  refine till_take (i := 5) (oi := { dst := some 58, op := _, type := _, pos := _, after := _, guard := _ }) (v := ?v6) rfl (by kernel_rfl) (by kernel_rfl) (by kernel_rfl) (by kernel_rfl) (fun _ _ _ h => h) (Or.inl ⟨by rfl, ?hy6⟩) (by assumption) ?rest6
  case hy6 => (intro w hSw; go_simp <;> (with_reducible rfl))
  (try simp only [Act.put, List.setIfInBounds_toArray, List.set_cons_zero, List.set_cons_succ])
  refine till_take (i := 6) (oi := { dst := some 59, op := _, type := _, pos := _, after := _, guard := _ }) (v := ?v7) rfl (by kernel_rfl) (by kernel_rfl) (by kernel_rfl) (by kernel_rfl) (fun _ _ _ h => h) (Or.inl ⟨by rfl, ?hy7⟩) (by assumption) ?rest7
  case hy7 => (intro w hSw; have c1 := bcell_row (i := 1) hSw.1 rfl; go_simp <;> (with_reducible rfl))
  (try simp only [Act.put, List.setIfInBounds_toArray, List.set_cons_zero, List.set_cons_succ])
  refine till_take (i := 7) (oi := { dst := some 60, op := _, type := _, pos := _, after := _, guard := _ }) (v := (.int .i64 (tt - fr))) rfl (by kernel_rfl) (by kernel_rfl) (by kernel_rfl) (by kernel_rfl) (fun _ _ _ h => h) (Or.inl ⟨by rfl, ?hy8⟩) (by assumption) ?rest8
  case hy8 => (intro w hSw; simp [go_sem, WS.out])
  (try simp only [Act.put, List.setIfInBounds_toArray, List.set_cons_zero, List.set_cons_succ])
  refine till_one (i := 8) (by kernel_rfl) rfl (fun K hK => ?_)
  go_simp
  (with_reducible refine (KYM.out _).mono ?_)
  rintro e wc ⟨rfl, rfl⟩
  (go_wp2_with fail)
  refine hK.out _ _ (Or.inr hHeld) ?_
  clear hK K
  (try simp only [Act.put, List.setIfInBounds_toArray, List.set_cons_zero, List.set_cons_succ])
  refine till_take (i := 9) (oi := { dst := some 62, op := _, type := _, pos := _, after := _, guard := _ }) (v := (.int .i64 t)) rfl (by kernel_rfl) (by kernel_rfl) (by kernel_rfl) (by kernel_rfl) (fun _ _ _ h => h) (Or.inl ⟨by rfl, ?hy9⟩) (by assumption) ?rest9
  case hy9 => (intro w hSw; simp [go_sem, WT.out])
  (try simp only [Act.put, List.setIfInBounds_toArray, List.set_cons_zero, List.set_cons_succ])
  refine till_one (i := 10) (by kernel_rfl) rfl (fun K hK => ?_)
  go_simp
  refine hK.out _ _ (Or.inr hHeld) ?_
  clear hK K
  (try simp only [Act.put, List.setIfInBounds_toArray, List.set_cons_zero, List.set_cons_succ])
  have zc := bcell_row (i := 2) hHeld.2.1 rfl
  have fz : wd.frozen? ⟨q10, 2, none⟩ = false := unfrozen hHeld.2.1
  refine till_one (i := 11) (by kernel_rfl) rfl (fun K hK => ?_)
  go_simp
  refine hK.out _ _ (Or.inl (by kernel_rfl)) ?_
  clear hK K
  (try simp only [Act.put, List.setIfInBounds_toArray, List.set_cons_zero, List.set_cons_succ])
  clear zc fz
  refine till_done (by kernel_rfl) ?_ _
  refine NoPanic.normal ?_
  have H9c : Hid ((wd.setCell ⟨q10, 2, none⟩ (.int .i64 t)).heap[q9]? = some (.cells #[.string znm, .int .i64 fr, .int .i64 tt, .int .i64 mo, .int .i64 zk, .int .i64 d, .int .i64 n, .int .i64 at', .int .i64 by', .int .i64 sv, .string lt] 40 (0, 0))) := set_far hHeld.1 (by have := L10.out; omega)
  have HQ6 : Hid ((wd.setCell ⟨q10, 2, none⟩ (.int .i64 t)).heap[q]? = some (.cells #[.slice Ar rs.length cr, .slice Az zs.length cz, .slice Al ls.length cl] 26 (0, 0))) := set_far hHeld.2.2 (by have := L10.out; have := L9.out; omega)
  have H10b : Hid ((wd.setCell ⟨q10, 2, none⟩ (.int .i64 t)).heap[q10]? = some (.cells #[.string znm, .int .i64 fr, .int .i64 t, .int .i64 mo, .int .i64 zk, .int .i64 d, .int .i64 n, .int .i64 at', .int .i64 by', .int .i64 sv, .string lt] 40 (0, 0))) := heap_setCell_same wd q10 2 #[.string znm, .int .i64 fr, .int .i64 tt, .int .i64 mo, .int .i64 zk, .int .i64 d, .int .i64 n, .int .i64 at', .int .i64 by', .int .i64 sv, .string lt] 40 _ hHeld.2.1
  have G6 : Hid (Gr w (wd.setCell ⟨q10, 2, none⟩ (.int .i64 t))) := Below.setCell G5d.out (show w.heap.size ≤ q10 by have := HQS.out; have := L9.out; have := L10.out; omega) _
  clear hHeld G5d KYM WT WS
  generalize wd.setCell ⟨q10, 2, none⟩ (.int .i64 t) = w6 at H9c HQ6 H10b G6 ⊢
  have y0 := bcell_row (i := 0) H9c.out rfl
  have y1 := bcell_row (i := 1) H9c.out rfl
  have y2 := bcell_row (i := 2) H9c.out rfl
  have y3 := bcell_row (i := 3) H9c.out rfl
  have y4 := bcell_row (i := 4) H9c.out rfl
  have y5 := bcell_row (i := 5) H9c.out rfl
  have y6 := bcell_row (i := 6) H9c.out rfl
  have y7 := bcell_row (i := 7) H9c.out rfl
  have y8 := bcell_row (i := 8) H9c.out rfl
  have y9 := bcell_row (i := 9) H9c.out rfl
  have y10 := bcell_row (i := 10) H9c.out rfl
  go_upto_region 13 with fail
  clear y0 y1 y2 y3 y4 y5 y6 y7 y8 y9 y10
  have B3 := Lib.hid (box_one w6 (.cells #[.string znm, .int .i64 fr, .int .i64 tt, .int .i64 mo, .int .i64 zk, .int .i64 d, .int .i64 n, .int .i64 at', .int .i64 by', .int .i64 sv, .string lt] 40))
  have G7 := Lib.hid (G6.out.trans B3.out.1)
  have HQ7 := Lib.hid (bheap_gr B3.out.1 HQ6.out)
  have H9d := Lib.hid (bheap_gr B3.out.1 H9c.out)
  have H10c := Lib.hid (bheap_gr B3.out.1 H10b.out)
  have H11 := Lib.hid B3.out.2
  have L11 : Hid (q10 < w6.heap.size) := (Array.getElem?_eq_some_iff.1 H10b.out).1
  clear B3 G6 HQ6 H9c H10b
  generalize w6.alloc (.cells #[.string znm, .int .i64 fr, .int .i64 tt, .int .i64 mo, .int .i64 zk, .int .i64 d, .int .i64 n, .int .i64 at', .int .i64 by', .int .i64 sv, .string lt] 40) = w7 at G7 HQ7 H9d H10c H11 ⊢
  generalize w6.heap.size = q11 at H11 L11 ⊢
  have y0 := bcell_row (i := 2) H10c.out rfl
  have y1 := bcell_row (i := 1) H11.out rfl
  have fz : w7.frozen? ⟨q11, 1, none⟩ = false := unfrozen H11.out
  go_upto_region 14 with fail
  clear y0 y1 fz
  have H9e : Hid ((w7.setCell ⟨q11, 1, none⟩ (.int .i64 (t + 1))).heap[q9]? = some (.cells #[.string znm, .int .i64 fr, .int .i64 tt, .int .i64 mo, .int .i64 zk, .int .i64 d, .int .i64 n, .int .i64 at', .int .i64 by', .int .i64 sv, .string lt] 40 (0, 0))) := set_far H9d.out (by have := L10.out; have := L11.out; omega)
  have H10d : Hid ((w7.setCell ⟨q11, 1, none⟩ (.int .i64 (t + 1))).heap[q10]? = some (.cells #[.string znm, .int .i64 fr, .int .i64 t, .int .i64 mo, .int .i64 zk, .int .i64 d, .int .i64 n, .int .i64 at', .int .i64 by', .int .i64 sv, .string lt] 40 (0, 0))) := set_far H10c.out (by have := L11.out; omega)
  have HQ8 : Hid ((w7.setCell ⟨q11, 1, none⟩ (.int .i64 (t + 1))).heap[q]? = some (.cells #[.slice Ar rs.length cr, .slice Az zs.length cz, .slice Al ls.length cl] 26 (0, 0))) := set_far HQ7.out (by have := L10.out; have := L9.out; have := L11.out; omega)
  have H11b : Hid ((w7.setCell ⟨q11, 1, none⟩ (.int .i64 (t + 1))).heap[q11]? = some (.cells #[.string znm, .int .i64 (t + 1), .int .i64 tt, .int .i64 mo, .int .i64 zk, .int .i64 d, .int .i64 n, .int .i64 at', .int .i64 by', .int .i64 sv, .string lt] 40 (0, 0))) := heap_setCell_same w7 q11 1 #[.string znm, .int .i64 fr, .int .i64 tt, .int .i64 mo, .int .i64 zk, .int .i64 d, .int .i64 n, .int .i64 at', .int .i64 by', .int .i64 sv, .string lt] 40 _ H11.out
  have G8 : Hid (Gr w (w7.setCell ⟨q11, 1, none⟩ (.int .i64 (t + 1)))) := Below.setCell G7.out (show w.heap.size ≤ q11 by have := HQS.out; have := L9.out; have := L10.out; have := L11.out; omega) _
  clear G7 HQ7 H9d H10c H11
  generalize w7.setCell ⟨q11, 1, none⟩ (.int .i64 (t + 1)) = w8 at H9e HQ8 H10d H11b G8 ⊢
  have x0 := bcell_row (i := 0) HQ8.out rfl
  have x1 := bcell_row (i := 1) HQ8.out rfl
  have x2 := bcell_row (i := 2) HQ8.out rfl
  go_upto_region 15 with fail
  clear x0 x1 x2
  have B4 := Lib.hid (box_one w8 (.cells #[.slice Ar rs.length cr, .slice Az zs.length cz, .slice Al ls.length cl] 26))
  have G9 := Lib.hid (G8.out.trans B4.out.1)
  have HQ9 := Lib.hid (bheap_gr B4.out.1 HQ8.out)
  have H9f := Lib.hid (bheap_gr B4.out.1 H9e.out)
  have H10e := Lib.hid (bheap_gr B4.out.1 H10d.out)
  have H11c := Lib.hid (bheap_gr B4.out.1 H11b.out)
  have H12 := Lib.hid B4.out.2
  have L12 : Hid (q11 < w8.heap.size) := (Array.getElem?_eq_some_iff.1 H11b.out).1
  have L13 : Hid (w8.heap.size < (w8.alloc (.cells #[.slice Ar rs.length cr, .slice Az zs.length cz, .slice Al ls.length cl] 26)).heap.size) := by unfold Hid; simp
  clear B4 G8 HQ8 H9e H10d H11b
  generalize w8.alloc (.cells #[.slice Ar rs.length cr, .slice Az zs.length cz, .slice Al ls.length cl] 26) = w9 at G9 HQ9 H9f H10e H11c H12 L13 ⊢
  generalize w8.heap.size = q12 at H12 L12 L13 ⊢
  have FA : Hid (Flat Ar) := by unfold Hid; rw [HAr.out]; exact Or.inr ⟨b, off', rfl⟩
  have HRR : Hid (Row w9 11 RuD.cells Ar rs) := HR.out.gr G9.out
  have HCR : Hid (rs.length ≤ cr) := HRS.out.1.1
  have eE : Tryz.prog.elem 22 = 40 := by kernel_rfl
  have X1 := Lib.hid (fun w => sl_upto Tryz.underlying22 eE Tryz.sizeOf40 Ar k rs.length cr w (by have := HCR.out; omega) FA.out)
  have X2 := Lib.hid (fun w => sl_from Tryz.underlying22 eE Tryz.sizeOf40 Ar (k + 1) rs.length cr w (by omega) HCR.out)
  rw [show ((k + 1 : Nat) : Int) = (k : Int) + 1 by omega] at X2
  have WK : Hid (IntKind.i64.wrap ((k : Int) + 1) = (k : Int) + 1) := IntWalk.i64_in _ (by omega)
  clear eE

  have LQ : Hid (q < w9.heap.size ∧ q9 < w9.heap.size ∧ q10 < w9.heap.size ∧ q11 < w9.heap.size ∧ q12 < w9.heap.size) := by have := L9.out; have := L10.out; have := L11.out; have := L12.out; have := L13.out; unfold Hid; omega
  have LTK : Hid ((rs.take k).length = k) := by unfold Hid; rw [List.length_take]; omega
  refine wp_region_noPanic ?_
  refine till_start 16 (fun wx => wx.heap[q]? = some (.cells #[.slice Ar rs.length cr, .slice Az zs.length cz, .slice Al ls.length cl] 26 (0, 0)) ∧ wx.heap[q10]? = some (.cells #[.string znm, .int .i64 fr, .int .i64 t, .int .i64 mo, .int .i64 zk, .int .i64 d, .int .i64 n, .int .i64 at', .int .i64 by', .int .i64 sv, .string lt] 40 (0, 0)) ∧ wx.heap[q11]? = some (.cells #[.string znm, .int .i64 (t + 1), .int .i64 tt, .int .i64 mo, .int .i64 zk, .int .i64 d, .int .i64 n, .int .i64 at', .int .i64 by', .int .i64 sv, .string lt] 40 (0, 0)) ∧ wx.heap[q12]? = some (.cells #[.slice Ar rs.length cr, .slice Az zs.length cz, .slice Al ls.length cl] 26 (0, 0)) ∧ wx.heap[q9]? = some (.cells #[.string znm, .int .i64 fr, .int .i64 tt, .int .i64 mo, .int .i64 zk, .int .i64 d, .int .i64 n, .int .i64 at', .int .i64 by', .int .i64 sv, .string lt] 40 (0, 0)) ∧ Gr w9 wx) (by kernel_rfl) ⟨HQ9.out, H10e.out, H11c.out, H12.out, H9f.out, Gr.drew w9⟩ (fun hHeld => ?_)
  (try dsimp only at hHeld)
  generalize w9.drew = wd at hHeld ⊢
  refine till_take (i := 0) (oi := { dst := some 70, op := _, type := _, pos := _, after := _, guard := _ }) (v := ?v10) rfl (by kernel_rfl) (by kernel_rfl) (by kernel_rfl) (by kernel_rfl) (fun _ _ _ h => h) (Or.inl ⟨by rfl, ?hy10⟩) (by assumption) ?rest10
  case hy10 => (intro w hSw; go_simp <;> (with_reducible rfl))
  (try simp only [Act.put, List.setIfInBounds_toArray, List.set_cons_zero, List.set_cons_succ])
  refine till_take (i := 1) (oi := { dst := some 71, op := _, type := _, pos := _, after := _, guard := _ }) (v := ?v11) rfl (by kernel_rfl) (by kernel_rfl) (by kernel_rfl) (by kernel_rfl) (fun _ _ _ h => h) (Or.inl ⟨by rfl, ?hy11⟩) (by assumption) ?rest11
  case hy11 => (intro w hSw; have c0 := bcell_row (i := 0) hSw.1 rfl; go_simp <;> (with_reducible rfl))
  (try simp only [Act.put, List.setIfInBounds_toArray, List.set_cons_zero, List.set_cons_succ])
  refine till_take (i := 2) (oi := { dst := some 72, op := _, type := _, pos := _, after := _, guard := _ }) (v := ?v12) rfl (by kernel_rfl) (by kernel_rfl) (by kernel_rfl) (by kernel_rfl) (fun _ _ _ h => h) (Or.inl ⟨by rfl, ?hy12⟩) (by assumption) ?rest12
  case hy12 => (intro w hSw; go_simp <;> (with_reducible rfl))
  (try simp only [Act.put, List.setIfInBounds_toArray, List.set_cons_zero, List.set_cons_succ])
  refine till_take (i := 3) (oi := { dst := some 73, op := _, type := _, pos := _, after := _, guard := _ }) (v := (.slice Ar k cr)) rfl (by kernel_rfl) (by kernel_rfl) (by kernel_rfl) (by kernel_rfl) (fun _ _ _ h => h) (Or.inl ⟨by rfl, ?hy13⟩) (by assumption) ?rest13
  case hy13 => (intro w hSw; simp [go_sem, X1.out])
  (try simp only [Act.put, List.setIfInBounds_toArray, List.set_cons_zero, List.set_cons_succ])
  refine till_take (i := 5) (oi := { dst := some 75, op := _, type := _, pos := _, after := _, guard := _ }) (v := ?v14) rfl (by kernel_rfl) (by kernel_rfl) (by kernel_rfl) (by kernel_rfl) (fun _ _ _ h => h) (Or.inl ⟨by rfl, ?hy14⟩) (by assumption) ?rest14
  case hy14 => (intro w hSw; have e0 := bcell_row (i := 0) hSw.2.1 rfl; have e1 := bcell_row (i := 1) hSw.2.1 rfl; have e2 := bcell_row (i := 2) hSw.2.1 rfl; have e3 := bcell_row (i := 3) hSw.2.1 rfl; have e4 := bcell_row (i := 4) hSw.2.1 rfl; have e5 := bcell_row (i := 5) hSw.2.1 rfl; have e6 := bcell_row (i := 6) hSw.2.1 rfl; have e7 := bcell_row (i := 7) hSw.2.1 rfl; have e8 := bcell_row (i := 8) hSw.2.1 rfl; have e9 := bcell_row (i := 9) hSw.2.1 rfl; have e10 := bcell_row (i := 10) hSw.2.1 rfl; go_simp <;> (with_reducible rfl))
  (try simp only [Act.put, List.setIfInBounds_toArray, List.set_cons_zero, List.set_cons_succ])
  refine till_take (i := 6) (oi := { dst := some 76, op := _, type := _, pos := _, after := _, guard := _ }) (v := ?v15) rfl (by kernel_rfl) (by kernel_rfl) (by kernel_rfl) (by kernel_rfl) (fun _ _ _ h => h) (Or.inl ⟨by rfl, ?hy15⟩) (by assumption) ?rest15
  case hy15 => (intro w hSw; have e0 := bcell_row (i := 0) hSw.2.2.1 rfl; have e1 := bcell_row (i := 1) hSw.2.2.1 rfl; have e2 := bcell_row (i := 2) hSw.2.2.1 rfl; have e3 := bcell_row (i := 3) hSw.2.2.1 rfl; have e4 := bcell_row (i := 4) hSw.2.2.1 rfl; have e5 := bcell_row (i := 5) hSw.2.2.1 rfl; have e6 := bcell_row (i := 6) hSw.2.2.1 rfl; have e7 := bcell_row (i := 7) hSw.2.2.1 rfl; have e8 := bcell_row (i := 8) hSw.2.2.1 rfl; have e9 := bcell_row (i := 9) hSw.2.2.1 rfl; have e10 := bcell_row (i := 10) hSw.2.2.1 rfl; go_simp <;> (with_reducible rfl))
  (try simp only [Act.put, List.setIfInBounds_toArray, List.set_cons_zero, List.set_cons_succ])
  refine till_take (i := 9) (oi := { dst := some 79, op := _, type := _, pos := _, after := _, guard := _ }) (v := ?v16) rfl (by kernel_rfl) (by kernel_rfl) (by kernel_rfl) (by kernel_rfl) (fun _ _ _ h => h) (Or.inl ⟨by rfl, ?hy16⟩) (by assumption) ?rest16
  case hy16 => (intro w hSw; go_simp <;> (with_reducible rfl))
  (try simp only [Act.put, List.setIfInBounds_toArray, List.set_cons_zero, List.set_cons_succ])
  refine till_take (i := 10) (oi := { dst := some 80, op := _, type := _, pos := _, after := _, guard := _ }) (v := ?v17) rfl (by kernel_rfl) (by kernel_rfl) (by kernel_rfl) (by kernel_rfl) (fun _ _ _ h => h) (Or.inl ⟨by rfl, ?hy17⟩) (by assumption) ?rest17
  case hy17 => (intro w hSw; have c0 := bcell_row (i := 0) hSw.1 rfl; go_simp <;> (with_reducible rfl))
  (try simp only [Act.put, List.setIfInBounds_toArray, List.set_cons_zero, List.set_cons_succ])
  refine till_take (i := 11) (oi := { dst := some 81, op := _, type := _, pos := _, after := _, guard := _ }) (v := ?v18) rfl (by kernel_rfl) (by kernel_rfl) (by kernel_rfl) (by kernel_rfl) (fun _ _ _ h => h) (Or.inl ⟨by rfl, ?hy18⟩) (by assumption) ?rest18
  case hy18 => (intro w hSw; go_simp <;> (with_reducible rfl))
  (try simp only [Act.put, List.setIfInBounds_toArray, List.set_cons_zero, List.set_cons_succ])
  refine till_take (i := 12) (oi := { dst := some 82, op := _, type := _, pos := _, after := _, guard := _ }) (v := (.int .i64 ((k : Int) + 1))) rfl (by kernel_rfl) (by kernel_rfl) (by kernel_rfl) (by kernel_rfl) (fun _ _ _ h => h) (Or.inl ⟨by rfl, ?hy19⟩) (by assumption) ?rest19
  case hy19 => (intro w hSw; simp [go_sem, WK.out])
  (try simp only [Act.put, List.setIfInBounds_toArray, List.set_cons_zero, List.set_cons_succ])
  refine till_take (i := 13) (oi := { dst := some 83, op := _, type := _, pos := _, after := _, guard := _ }) (v := (.slice (tailG Ar (k + 1) 11 cr) (rs.length - (k + 1)) (cr - (k + 1)))) rfl (by kernel_rfl) (by kernel_rfl) (by kernel_rfl) (by kernel_rfl) (fun _ _ _ h => h) (Or.inl ⟨by rfl, ?hy20⟩) (by assumption) ?rest20
  case hy20 => (intro w hSw; simp [go_sem, X2.out])
  (try simp only [Act.put, List.setIfInBounds_toArray, List.set_cons_zero, List.set_cons_succ])
  refine till_two (i := 4) (j := 7) (by kernel_rfl) rfl rfl (fun K hK => ?_) (fun K hK => ?_)
  · (refine step_copy _ (by rfl) _ _ 22 (by rfl) w9.heap.size 40 i0 (.agg #[.string .empty, .int .i64 0, .int .i64 0, .int .i64 0, .int .i64 0, .int .i64 0, .int .i64 0, .int .i64 0, .int .i64 0, .int .i64 0, .string .empty]) 11 104 Tryz.underlying22 I1.out I2.out I3.out I4.out (by rfl) (by omega) RuD.cells ru_len ru_one (rs.take k) Ar cr (by rfl) (by rw [LTK.out]; rfl) ((HRR.out.take k).gr hHeld.2.2.2.2.2) (by rw [LTK.out]; omega) (by omega) (Below.size hHeld.2.2.2.2.2) ?_)
    intro v1 wv hown1 hgr1
    have gr1 := gr_of_none hgr1
    refine hK.out _ _ (Or.inr ⟨bheap_gr gr1 hHeld.1, bheap_gr gr1 hHeld.2.1, bheap_gr gr1 hHeld.2.2.1, bheap_gr gr1 hHeld.2.2.2.1, bheap_gr gr1 hHeld.2.2.2.2.1, hHeld.2.2.2.2.2.trans gr1⟩) ?_
    clear hK K
    (try simp only [Act.put, List.setIfInBounds_toArray, List.set_cons_zero, List.set_cons_succ])
    have hM0 : (fun wx => wx.heap[q]? = some (.cells #[.slice Ar rs.length cr, .slice Az zs.length cz, .slice Al ls.length cl] 26 (0, 0)) ∧ wx.heap[q10]? = some (.cells #[.string znm, .int .i64 fr, .int .i64 t, .int .i64 mo, .int .i64 zk, .int .i64 d, .int .i64 n, .int .i64 at', .int .i64 by', .int .i64 sv, .string lt] 40 (0, 0)) ∧ wx.heap[q11]? = some (.cells #[.string znm, .int .i64 (t + 1), .int .i64 tt, .int .i64 mo, .int .i64 zk, .int .i64 d, .int .i64 n, .int .i64 at', .int .i64 by', .int .i64 sv, .string lt] 40 (0, 0)) ∧ wx.heap[q12]? = some (.cells #[.slice Ar rs.length cr, .slice Az zs.length cz, .slice Al ls.length cl] 26 (0, 0)) ∧ wx.heap[q9]? = some (.cells #[.string znm, .int .i64 fr, .int .i64 tt, .int .i64 mo, .int .i64 zk, .int .i64 d, .int .i64 n, .int .i64 at', .int .i64 by', .int .i64 sv, .string lt] 40 (0, 0)) ∧ Gr w9 wx) wv := ⟨bheap_gr gr1 hHeld.1, bheap_gr gr1 hHeld.2.1, bheap_gr gr1 hHeld.2.2.1, bheap_gr gr1 hHeld.2.2.2.1, bheap_gr gr1 hHeld.2.2.2.2.1, hHeld.2.2.2.2.2.trans gr1⟩
    have OW0 := Lib.hid hown1
    clear hown1 hgr1 gr1 hHeld
    have B5 := Lib.hid (box_one wv (.cells #[.string znm, .int .i64 fr, .int .i64 t, .int .i64 mo, .int .i64 zk, .int .i64 d, .int .i64 n, .int .i64 at', .int .i64 by', .int .i64 sv, .string lt, .string znm, .int .i64 (t + 1), .int .i64 tt, .int .i64 mo, .int .i64 zk, .int .i64 d, .int .i64 n, .int .i64 at', .int .i64 by', .int .i64 sv, .string lt] 40))
    refine till_one (i := 7) (by kernel_rfl) rfl (fun K hK => ?_)
    (refine step_two (by rfl) (by rfl) _ _ _ _ (by rfl) (by rfl) (bsn_rule2 wv znm lt znm lt fr t mo zk d n at' by' sv (t + 1) tt mo zk d n at' by' sv) ?_)
    refine hK.out _ _ (Or.inr ⟨bheap_gr B5.out.1 hM0.1, bheap_gr B5.out.1 hM0.2.1, bheap_gr B5.out.1 hM0.2.2.1, bheap_gr B5.out.1 hM0.2.2.2.1, bheap_gr B5.out.1 hM0.2.2.2.2.1, hM0.2.2.2.2.2.trans B5.out.1⟩) ?_
    clear hK K
    (try simp only [Act.put, List.setIfInBounds_toArray, List.set_cons_zero, List.set_cons_succ])
    have hM : (fun wx => wx.heap[q]? = some (.cells #[.slice Ar rs.length cr, .slice Az zs.length cz, .slice Al ls.length cl] 26 (0, 0)) ∧ wx.heap[q10]? = some (.cells #[.string znm, .int .i64 fr, .int .i64 t, .int .i64 mo, .int .i64 zk, .int .i64 d, .int .i64 n, .int .i64 at', .int .i64 by', .int .i64 sv, .string lt] 40 (0, 0)) ∧ wx.heap[q11]? = some (.cells #[.string znm, .int .i64 (t + 1), .int .i64 tt, .int .i64 mo, .int .i64 zk, .int .i64 d, .int .i64 n, .int .i64 at', .int .i64 by', .int .i64 sv, .string lt] 40 (0, 0)) ∧ wx.heap[q12]? = some (.cells #[.slice Ar rs.length cr, .slice Az zs.length cz, .slice Al ls.length cl] 26 (0, 0)) ∧ wx.heap[q9]? = some (.cells #[.string znm, .int .i64 fr, .int .i64 tt, .int .i64 mo, .int .i64 zk, .int .i64 d, .int .i64 n, .int .i64 at', .int .i64 by', .int .i64 sv, .string lt] 40 (0, 0)) ∧ Gr w9 wx) (wv.alloc (.cells #[.string znm, .int .i64 fr, .int .i64 t, .int .i64 mo, .int .i64 zk, .int .i64 d, .int .i64 n, .int .i64 at', .int .i64 by', .int .i64 sv, .string lt, .string znm, .int .i64 (t + 1), .int .i64 tt, .int .i64 mo, .int .i64 zk, .int .i64 d, .int .i64 n, .int .i64 at', .int .i64 by', .int .i64 sv, .string lt] 40)) := ⟨bheap_gr B5.out.1 hM0.1, bheap_gr B5.out.1 hM0.2.1, bheap_gr B5.out.1 hM0.2.2.1, bheap_gr B5.out.1 hM0.2.2.2.1, bheap_gr B5.out.1 hM0.2.2.2.2.1, hM0.2.2.2.2.2.trans B5.out.1⟩
    have OW1 := Lib.hid (OW0.out.gr B5.out.1)
    have NB := Lib.hid B5.out.2
    clear B5 hM0 OW0
    generalize wv.alloc (.cells #[.string znm, .int .i64 fr, .int .i64 t, .int .i64 mo, .int .i64 zk, .int .i64 d, .int .i64 n, .int .i64 at', .int .i64 by', .int .i64 sv, .string lt, .string znm, .int .i64 (t + 1), .int .i64 tt, .int .i64 mo, .int .i64 zk, .int .i64 d, .int .i64 n, .int .i64 at', .int .i64 by', .int .i64 sv, .string lt] 40) = wm at hM OW1 NB ⊢
    generalize wv.heap.size = q13 at NB ⊢
    refine till_one (i := 8) (by kernel_rfl) rfl (fun K hK => ?_)
    (refine step_app_own _ (by rfl) _ _ 22 (by rfl) w9.heap.size 40 i0 (.agg #[.string .empty, .int .i64 0, .int .i64 0, .int .i64 0, .int .i64 0, .int .i64 0, .int .i64 0, .int .i64 0, .int .i64 0, .int .i64 0, .string .empty]) 11 104 Tryz.underlying22 I1.out I2.out I3.out I4.out (by rfl) (by omega) RuD.cells ru_len ru_one v1 (rs.take k) [(⟨znm, fr, t, mo, zk, d, n, at', by', sv, lt⟩ : RuD), (⟨znm, t + 1, tt, mo, zk, d, n, at', by', sv, lt⟩ : RuD)] (by rfl) OW1.out (some ⟨q13, 0, none⟩) 2 2 (by rfl) rfl (row_dbl ru_len NB.out rfl) (by rw [LTK.out]; simp; omega) (by omega) (Below.size hM.2.2.2.2.2) ?_)
    intro v2 w11 hown2 hgr2
    refine hK.out _ _ (Or.inr ⟨heap_far hgr2 hM.1 (own_low OW1.out LQ.out.1), heap_far hgr2 hM.2.1 (own_low OW1.out LQ.out.2.2.1), heap_far hgr2 hM.2.2.1 (own_low OW1.out LQ.out.2.2.2.1), heap_far hgr2 hM.2.2.2.1 (own_low OW1.out LQ.out.2.2.2.2), heap_far hgr2 hM.2.2.2.2.1 (own_low OW1.out LQ.out.2.1), grown_gr hM.2.2.2.2.2 hgr2 (own_base OW1.out)⟩) ?_
    clear hK K
    (try simp only [Act.put, List.setIfInBounds_toArray, List.set_cons_zero, List.set_cons_succ])
    have hN : (fun wx => wx.heap[q]? = some (.cells #[.slice Ar rs.length cr, .slice Az zs.length cz, .slice Al ls.length cl] 26 (0, 0)) ∧ wx.heap[q10]? = some (.cells #[.string znm, .int .i64 fr, .int .i64 t, .int .i64 mo, .int .i64 zk, .int .i64 d, .int .i64 n, .int .i64 at', .int .i64 by', .int .i64 sv, .string lt] 40 (0, 0)) ∧ wx.heap[q11]? = some (.cells #[.string znm, .int .i64 (t + 1), .int .i64 tt, .int .i64 mo, .int .i64 zk, .int .i64 d, .int .i64 n, .int .i64 at', .int .i64 by', .int .i64 sv, .string lt] 40 (0, 0)) ∧ wx.heap[q12]? = some (.cells #[.slice Ar rs.length cr, .slice Az zs.length cz, .slice Al ls.length cl] 26 (0, 0)) ∧ wx.heap[q9]? = some (.cells #[.string znm, .int .i64 fr, .int .i64 tt, .int .i64 mo, .int .i64 zk, .int .i64 d, .int .i64 n, .int .i64 at', .int .i64 by', .int .i64 sv, .string lt] 40 (0, 0)) ∧ Gr w9 wx) w11 := ⟨heap_far hgr2 hM.1 (own_low OW1.out LQ.out.1), heap_far hgr2 hM.2.1 (own_low OW1.out LQ.out.2.2.1), heap_far hgr2 hM.2.2.1 (own_low OW1.out LQ.out.2.2.2.1), heap_far hgr2 hM.2.2.2.1 (own_low OW1.out LQ.out.2.2.2.2), heap_far hgr2 hM.2.2.2.2.1 (own_low OW1.out LQ.out.2.1), grown_gr hM.2.2.2.2.2 hgr2 (own_base OW1.out)⟩
    have OW2 := Lib.hid hown2
    clear hown2 hgr2 hM OW1 NB
    refine till_one (i := 14) (by kernel_rfl) rfl (fun K hK => ?_)
    (refine step_app_own _ (by rfl) _ _ 22 (by rfl) w9.heap.size 40 i0 (.agg #[.string .empty, .int .i64 0, .int .i64 0, .int .i64 0, .int .i64 0, .int .i64 0, .int .i64 0, .int .i64 0, .int .i64 0, .int .i64 0, .string .empty]) 11 104 Tryz.underlying22 I1.out I2.out I3.out I4.out (by rfl) (by omega) RuD.cells ru_len ru_one v2 (rs.take k ++ [(⟨znm, fr, t, mo, zk, d, n, at', by', sv, lt⟩ : RuD), (⟨znm, t + 1, tt, mo, zk, d, n, at', by', sv, lt⟩ : RuD)]) (rs.drop (k + 1)) (by rfl) OW2.out (tailG Ar (k + 1) 11 cr) (rs.length - (k + 1)) (cr - (k + 1)) (by rfl) (by simp) (row_from (HRR.out.gr hN.2.2.2.2.2) HCR.out) (by rw [List.length_append, LTK.out]; simp; omega) (by omega) (Below.size hN.2.2.2.2.2) ?_)
    intro v3 w12 hown3 hgr3
    refine hK.out _ _ (Or.inr ⟨heap_far hgr3 hN.1 (own_low OW2.out LQ.out.1), heap_far hgr3 hN.2.1 (own_low OW2.out LQ.out.2.2.1), heap_far hgr3 hN.2.2.1 (own_low OW2.out LQ.out.2.2.2.1), heap_far hgr3 hN.2.2.2.1 (own_low OW2.out LQ.out.2.2.2.2), heap_far hgr3 hN.2.2.2.2.1 (own_low OW2.out LQ.out.2.1), grown_gr hN.2.2.2.2.2 hgr3 (own_base OW2.out)⟩) ?_
    clear hK K
    (try simp only [Act.put, List.setIfInBounds_toArray, List.set_cons_zero, List.set_cons_succ])
    have hO : (fun wx => wx.heap[q]? = some (.cells #[.slice Ar rs.length cr, .slice Az zs.length cz, .slice Al ls.length cl] 26 (0, 0)) ∧ wx.heap[q10]? = some (.cells #[.string znm, .int .i64 fr, .int .i64 t, .int .i64 mo, .int .i64 zk, .int .i64 d, .int .i64 n, .int .i64 at', .int .i64 by', .int .i64 sv, .string lt] 40 (0, 0)) ∧ wx.heap[q11]? = some (.cells #[.string znm, .int .i64 (t + 1), .int .i64 tt, .int .i64 mo, .int .i64 zk, .int .i64 d, .int .i64 n, .int .i64 at', .int .i64 by', .int .i64 sv, .string lt] 40 (0, 0)) ∧ wx.heap[q12]? = some (.cells #[.slice Ar rs.length cr, .slice Az zs.length cz, .slice Al ls.length cl] 26 (0, 0)) ∧ wx.heap[q9]? = some (.cells #[.string znm, .int .i64 fr, .int .i64 tt, .int .i64 mo, .int .i64 zk, .int .i64 d, .int .i64 n, .int .i64 at', .int .i64 by', .int .i64 sv, .string lt] 40 (0, 0)) ∧ Gr w9 wx) w12 := ⟨heap_far hgr3 hN.1 (own_low OW2.out LQ.out.1), heap_far hgr3 hN.2.1 (own_low OW2.out LQ.out.2.2.1), heap_far hgr3 hN.2.2.1 (own_low OW2.out LQ.out.2.2.2.1), heap_far hgr3 hN.2.2.2.1 (own_low OW2.out LQ.out.2.2.2.2), heap_far hgr3 hN.2.2.2.2.1 (own_low OW2.out LQ.out.2.1), grown_gr hN.2.2.2.2.2 hgr3 (own_base OW2.out)⟩
    have OW3 := Lib.hid hown3
    clear hown3 hgr3 hN OW2
    obtain ⟨LL, hLL⟩ : ∃ LL, rs.take k ++ [(⟨znm, fr, t, mo, zk, d, n, at', by', sv, lt⟩ : RuD), (⟨znm, t + 1, tt, mo, zk, d, n, at', by', sv, lt⟩ : RuD)] ++ rs.drop (k + 1) = LL := ⟨_, rfl⟩
    rw [hLL] at OW3
    have HLL := Lib.hid hLL
    clear hLL
    obtain ⟨A3, c3, rfl, hc1, hc2, _⟩ := OW3.out.form
    refine till_one (i := 15) (by kernel_rfl) rfl (fun K hK => ?_)
    go_simp
    refine hK.out _ _ (Or.inr hO) ?_
    clear hK K
    (try simp only [Act.put, List.setIfInBounds_toArray, List.set_cons_zero, List.set_cons_succ])
    have zc := bcell_row (i := 0) hO.2.2.2.1 rfl
    have fz : w12.frozen? ⟨q12, 0, none⟩ = false := unfrozen hO.2.2.2.1
    refine till_one (i := 16) (by kernel_rfl) rfl (fun K hK => ?_)
    go_simp
    refine hK.out _ _ (Or.inl (by kernel_rfl)) ?_
    clear hK K
    (try simp only [Act.put, List.setIfInBounds_toArray, List.set_cons_zero, List.set_cons_succ])
    clear zc fz
    refine till_done (by kernel_rfl) ?_ _
    refine NoPanic.normal ?_
    have F12 := Lib.hid (heap_setCell_same w12 q12 0 #[.slice Ar rs.length cr, .slice Az zs.length cz, .slice Al ls.length cl] 26 (.slice A3 LL.length c3) hO.2.2.2.1)
    have FQ : Hid ((w12.setCell ⟨q12, 0, none⟩ (.slice A3 LL.length c3)).heap[q]? = some (.cells #[.slice Ar rs.length cr, .slice Az zs.length cz, .slice Al ls.length cl] 26 (0, 0))) := set_far hO.1 (by have := L9.out; have := L10.out; have := L11.out; have := L12.out; omega)
    have F9 : Hid ((w12.setCell ⟨q12, 0, none⟩ (.slice A3 LL.length c3)).heap[q9]? = some (.cells #[.string znm, .int .i64 fr, .int .i64 tt, .int .i64 mo, .int .i64 zk, .int .i64 d, .int .i64 n, .int .i64 at', .int .i64 by', .int .i64 sv, .string lt] 40 (0, 0))) := set_far hO.2.2.2.2.1 (by have := L10.out; have := L11.out; have := L12.out; omega)
    have RW := Lib.hid ((own_set1 OW3.out LQ.out.2.2.2.2 0 (.slice A3 LL.length c3)).row ru_len)
    have GF : Hid (Gr w (w12.setCell ⟨q12, 0, none⟩ (.slice A3 LL.length c3))) := Below.setCell (G9.out.trans hO.2.2.2.2.2) (show w.heap.size ≤ q12 by have := HQS.out; have := L9.out; have := L10.out; have := L11.out; have := L12.out; omega) _
    clear hO OW3
    generalize w12.setCell ⟨q12, 0, none⟩ (.slice A3 LL.length c3) = wF at F12 FQ F9 RW GF ⊢
    have x0 := bcell_row (i := 0) FQ.out rfl
    have x1 := bcell_row (i := 1) FQ.out rfl
    have x2 := bcell_row (i := 2) FQ.out rfl
    have y0 := bcell_row (i := 0) F9.out rfl
    go_wp2_with fail
    clear x0 x1 x2 y0
    refine (KO.out znm off wF GF.out).mono ?_
    rintro e w14 ⟨A5, c5, rfl, ta, g5⟩
    have G14 := Lib.hid (GF.out.trans g5)
    have TA := Lib.hid ta
    have F12b := Lib.hid (bheap_gr g5 F12.out)
    have F9b := Lib.hid (bheap_gr g5 F9.out)
    have RW2 := Lib.hid (RW.out.gr g5)
    clear ta g5 GF F12 FQ F9 RW
    have ers : rs = rs.take k ++ (⟨znm, fr, tt, mo, zk, d, n, at', by', sv, lt⟩ : RuD) :: rs.drop (k + 1) := by
      have h1 := (List.getElem?_eq_some_iff.1 HX.out).2
      conv => lhs; rw [← List.take_append_drop k rs]
      rw [List.drop_eq_getElem_cons hlt, h1]
    have ell : LL = rs.take k ++ partX (⟨znm, fr, tt, mo, zk, d, n, at', by', sv, lt⟩ : RuD) t :: partZ (⟨znm, fr, tt, mo, zk, d, n, at', by', sv, lt⟩ : RuD) t :: rs.drop (k + 1) := by rw [← HLL.out]; simp [partX, partZ]
    have SP : ofC LL zs ls znm off = ofC rs zs ls znm off ∧ ofL LL zs ls znm off = ofL rs zs ls znm off := by
      have := split_of (P := rs.take k) (Q := rs.drop (k + 1)) (r := (⟨znm, fr, tt, mo, zk, d, n, at', by', sv, lt⟩ : RuD)) (t := t) (off := off) (zs := zs) (ls := ls) (by rw [← ers]; exact H0.out) (by rw [← ers]; omega) t1 t2
      rw [← ers, ← ell] at this
      exact this
    have IN : ∀ r ∈ LL, r.In := fun x hm => by
      have ri : RuD.In (⟨znm, fr, tt, mo, zk, d, n, at', by', sv, lt⟩ : RuD) := HRS.out.2.2 _ (get_mem HX.out)
      rw [ell, List.mem_append, List.mem_cons, List.mem_cons] at hm
      rcases hm with hm | rfl | rfl | hm
      · exact HRS.out.2.2 x (List.mem_of_mem_take hm)
      · exact ri
      · exact ri
      · exact HRS.out.2.2 x (List.mem_of_mem_drop hm)
    have HSP := Lib.hid SP
    have HIN := Lib.hid IN
    clear SP IN ers ell
    have x0 := bcell_row (i := 0) F12b.out rfl
    have x1 := bcell_row (i := 1) F12b.out rfl
    have x2 := bcell_row (i := 2) F12b.out rfl
    have y0 := bcell_row (i := 0) F9b.out rfl
    go_wp2_with fail
    clear x0 x1 x2 y0
    refine (KQ.out ⟨A3, c3, LL, Az, cz, zs, Al, cl, ls⟩ znm off w14 G14.out ⟨⟨⟨hc1, hc2⟩, RW2.out, HIN.out⟩, (HBA.out.gr G14.out).2⟩).mono ?_
    rintro e w15 ⟨A6, c6, rfl, tb, g6⟩
    have TB := Lib.hid tb
    simp only [HSP.out.1, HSP.out.2] at TB ⊢
    have TA6 := Lib.hid (TA.out.2.gr g6)
    have G15 := Lib.hid (G14.out.trans g6)
    have LN := Lib.hid (ofL_len (rs := rs) (zs := zs) (ls := ls) (nm := znm) (off := off))
    clear tb g6 G14 TA HSP
    generalize ofL rs zs ls znm off = TL at TB TA6 LN ⊢
    generalize ofC rs zs ls znm off = C
    have e1 : (C == C) = true := by simp
    go_wp2_with fail
    refine (KE.out A5 c5 A6 c6 TL _ w15 rfl LN.out TA6.out TB.out.2).mono ?_
    rintro e w16 ⟨rfl, g7⟩
    have G16 := Lib.hid (G15.out.trans g7)
    go_wp2_with fail
    go_ret
    exact ⟨rfl, G16.out⟩
  · (refine step_two (by rfl) (by rfl) _ _ _ _ (by rfl) (by rfl) (bsn_rule2 wd znm lt znm lt fr t mo zk d n at' by' sv (t + 1) tt mo zk d n at' by' sv) ?_)
    have B5 := Lib.hid (box_one wd (.cells #[.string znm, .int .i64 fr, .int .i64 t, .int .i64 mo, .int .i64 zk, .int .i64 d, .int .i64 n, .int .i64 at', .int .i64 by', .int .i64 sv, .string lt, .string znm, .int .i64 (t + 1), .int .i64 tt, .int .i64 mo, .int .i64 zk, .int .i64 d, .int .i64 n, .int .i64 at', .int .i64 by', .int .i64 sv, .string lt] 40))
    refine hK.out _ _ (Or.inr ⟨bheap_gr B5.out.1 hHeld.1, bheap_gr B5.out.1 hHeld.2.1, bheap_gr B5.out.1 hHeld.2.2.1, bheap_gr B5.out.1 hHeld.2.2.2.1, bheap_gr B5.out.1 hHeld.2.2.2.2.1, hHeld.2.2.2.2.2.trans B5.out.1⟩) ?_
    clear hK K
    (try simp only [Act.put, List.setIfInBounds_toArray, List.set_cons_zero, List.set_cons_succ])
    have hM0 : (fun wx => wx.heap[q]? = some (.cells #[.slice Ar rs.length cr, .slice Az zs.length cz, .slice Al ls.length cl] 26 (0, 0)) ∧ wx.heap[q10]? = some (.cells #[.string znm, .int .i64 fr, .int .i64 t, .int .i64 mo, .int .i64 zk, .int .i64 d, .int .i64 n, .int .i64 at', .int .i64 by', .int .i64 sv, .string lt] 40 (0, 0)) ∧ wx.heap[q11]? = some (.cells #[.string znm, .int .i64 (t + 1), .int .i64 tt, .int .i64 mo, .int .i64 zk, .int .i64 d, .int .i64 n, .int .i64 at', .int .i64 by', .int .i64 sv, .string lt] 40 (0, 0)) ∧ wx.heap[q12]? = some (.cells #[.slice Ar rs.length cr, .slice Az zs.length cz, .slice Al ls.length cl] 26 (0, 0)) ∧ wx.heap[q9]? = some (.cells #[.string znm, .int .i64 fr, .int .i64 tt, .int .i64 mo, .int .i64 zk, .int .i64 d, .int .i64 n, .int .i64 at', .int .i64 by', .int .i64 sv, .string lt] 40 (0, 0)) ∧ Gr w9 wx) (wd.alloc (.cells #[.string znm, .int .i64 fr, .int .i64 t, .int .i64 mo, .int .i64 zk, .int .i64 d, .int .i64 n, .int .i64 at', .int .i64 by', .int .i64 sv, .string lt, .string znm, .int .i64 (t + 1), .int .i64 tt, .int .i64 mo, .int .i64 zk, .int .i64 d, .int .i64 n, .int .i64 at', .int .i64 by', .int .i64 sv, .string lt] 40)) := ⟨bheap_gr B5.out.1 hHeld.1, bheap_gr B5.out.1 hHeld.2.1, bheap_gr B5.out.1 hHeld.2.2.1, bheap_gr B5.out.1 hHeld.2.2.2.1, bheap_gr B5.out.1 hHeld.2.2.2.2.1, hHeld.2.2.2.2.2.trans B5.out.1⟩
    have NB0 := Lib.hid B5.out.2
    clear B5 hHeld
    generalize wd.alloc (.cells #[.string znm, .int .i64 fr, .int .i64 t, .int .i64 mo, .int .i64 zk, .int .i64 d, .int .i64 n, .int .i64 at', .int .i64 by', .int .i64 sv, .string lt, .string znm, .int .i64 (t + 1), .int .i64 tt, .int .i64 mo, .int .i64 zk, .int .i64 d, .int .i64 n, .int .i64 at', .int .i64 by', .int .i64 sv, .string lt] 40) = wl at hM0 NB0 ⊢
    generalize wd.heap.size = q13 at NB0 ⊢
    refine till_one (i := 4) (by kernel_rfl) rfl (fun K hK => ?_)
    (refine step_copy _ (by rfl) _ _ 22 (by rfl) w9.heap.size 40 i0 (.agg #[.string .empty, .int .i64 0, .int .i64 0, .int .i64 0, .int .i64 0, .int .i64 0, .int .i64 0, .int .i64 0, .int .i64 0, .int .i64 0, .string .empty]) 11 104 Tryz.underlying22 I1.out I2.out I3.out I4.out (by rfl) (by omega) RuD.cells ru_len ru_one (rs.take k) Ar cr (by rfl) (by rw [LTK.out]; rfl) ((HRR.out.take k).gr hM0.2.2.2.2.2) (by rw [LTK.out]; omega) (by omega) (Below.size hM0.2.2.2.2.2) ?_)
    intro v1 wv hown1 hgr1
    have gr1 := gr_of_none hgr1
    refine hK.out _ _ (Or.inr ⟨bheap_gr gr1 hM0.1, bheap_gr gr1 hM0.2.1, bheap_gr gr1 hM0.2.2.1, bheap_gr gr1 hM0.2.2.2.1, bheap_gr gr1 hM0.2.2.2.2.1, hM0.2.2.2.2.2.trans gr1⟩) ?_
    clear hK K
    (try simp only [Act.put, List.setIfInBounds_toArray, List.set_cons_zero, List.set_cons_succ])
    have hM : (fun wx => wx.heap[q]? = some (.cells #[.slice Ar rs.length cr, .slice Az zs.length cz, .slice Al ls.length cl] 26 (0, 0)) ∧ wx.heap[q10]? = some (.cells #[.string znm, .int .i64 fr, .int .i64 t, .int .i64 mo, .int .i64 zk, .int .i64 d, .int .i64 n, .int .i64 at', .int .i64 by', .int .i64 sv, .string lt] 40 (0, 0)) ∧ wx.heap[q11]? = some (.cells #[.string znm, .int .i64 (t + 1), .int .i64 tt, .int .i64 mo, .int .i64 zk, .int .i64 d, .int .i64 n, .int .i64 at', .int .i64 by', .int .i64 sv, .string lt] 40 (0, 0)) ∧ wx.heap[q12]? = some (.cells #[.slice Ar rs.length cr, .slice Az zs.length cz, .slice Al ls.length cl] 26 (0, 0)) ∧ wx.heap[q9]? = some (.cells #[.string znm, .int .i64 fr, .int .i64 tt, .int .i64 mo, .int .i64 zk, .int .i64 d, .int .i64 n, .int .i64 at', .int .i64 by', .int .i64 sv, .string lt] 40 (0, 0)) ∧ Gr w9 wx) wv := ⟨bheap_gr gr1 hM0.1, bheap_gr gr1 hM0.2.1, bheap_gr gr1 hM0.2.2.1, bheap_gr gr1 hM0.2.2.2.1, bheap_gr gr1 hM0.2.2.2.2.1, hM0.2.2.2.2.2.trans gr1⟩
    have OW1 := Lib.hid hown1
    have NB := Lib.hid (bheap_gr gr1 NB0.out)
    clear hown1 hgr1 gr1 hM0 NB0
    refine till_one (i := 8) (by kernel_rfl) rfl (fun K hK => ?_)
    (refine step_app_own _ (by rfl) _ _ 22 (by rfl) w9.heap.size 40 i0 (.agg #[.string .empty, .int .i64 0, .int .i64 0, .int .i64 0, .int .i64 0, .int .i64 0, .int .i64 0, .int .i64 0, .int .i64 0, .int .i64 0, .string .empty]) 11 104 Tryz.underlying22 I1.out I2.out I3.out I4.out (by rfl) (by omega) RuD.cells ru_len ru_one v1 (rs.take k) [(⟨znm, fr, t, mo, zk, d, n, at', by', sv, lt⟩ : RuD), (⟨znm, t + 1, tt, mo, zk, d, n, at', by', sv, lt⟩ : RuD)] (by rfl) OW1.out (some ⟨q13, 0, none⟩) 2 2 (by rfl) rfl (row_dbl ru_len NB.out rfl) (by rw [LTK.out]; simp; omega) (by omega) (Below.size hM.2.2.2.2.2) ?_)
    intro v2 w11 hown2 hgr2
    refine hK.out _ _ (Or.inr ⟨heap_far hgr2 hM.1 (own_low OW1.out LQ.out.1), heap_far hgr2 hM.2.1 (own_low OW1.out LQ.out.2.2.1), heap_far hgr2 hM.2.2.1 (own_low OW1.out LQ.out.2.2.2.1), heap_far hgr2 hM.2.2.2.1 (own_low OW1.out LQ.out.2.2.2.2), heap_far hgr2 hM.2.2.2.2.1 (own_low OW1.out LQ.out.2.1), grown_gr hM.2.2.2.2.2 hgr2 (own_base OW1.out)⟩) ?_
    clear hK K
    (try simp only [Act.put, List.setIfInBounds_toArray, List.set_cons_zero, List.set_cons_succ])
    have hN : (fun wx => wx.heap[q]? = some (.cells #[.slice Ar rs.length cr, .slice Az zs.length cz, .slice Al ls.length cl] 26 (0, 0)) ∧ wx.heap[q10]? = some (.cells #[.string znm, .int .i64 fr, .int .i64 t, .int .i64 mo, .int .i64 zk, .int .i64 d, .int .i64 n, .int .i64 at', .int .i64 by', .int .i64 sv, .string lt] 40 (0, 0)) ∧ wx.heap[q11]? = some (.cells #[.string znm, .int .i64 (t + 1), .int .i64 tt, .int .i64 mo, .int .i64 zk, .int .i64 d, .int .i64 n, .int .i64 at', .int .i64 by', .int .i64 sv, .string lt] 40 (0, 0)) ∧ wx.heap[q12]? = some (.cells #[.slice Ar rs.length cr, .slice Az zs.length cz, .slice Al ls.length cl] 26 (0, 0)) ∧ wx.heap[q9]? = some (.cells #[.string znm, .int .i64 fr, .int .i64 tt, .int .i64 mo, .int .i64 zk, .int .i64 d, .int .i64 n, .int .i64 at', .int .i64 by', .int .i64 sv, .string lt] 40 (0, 0)) ∧ Gr w9 wx) w11 := ⟨heap_far hgr2 hM.1 (own_low OW1.out LQ.out.1), heap_far hgr2 hM.2.1 (own_low OW1.out LQ.out.2.2.1), heap_far hgr2 hM.2.2.1 (own_low OW1.out LQ.out.2.2.2.1), heap_far hgr2 hM.2.2.2.1 (own_low OW1.out LQ.out.2.2.2.2), heap_far hgr2 hM.2.2.2.2.1 (own_low OW1.out LQ.out.2.1), grown_gr hM.2.2.2.2.2 hgr2 (own_base OW1.out)⟩
    have OW2 := Lib.hid hown2
    clear hown2 hgr2 hM OW1 NB
    refine till_one (i := 14) (by kernel_rfl) rfl (fun K hK => ?_)
    (refine step_app_own _ (by rfl) _ _ 22 (by rfl) w9.heap.size 40 i0 (.agg #[.string .empty, .int .i64 0, .int .i64 0, .int .i64 0, .int .i64 0, .int .i64 0, .int .i64 0, .int .i64 0, .int .i64 0, .int .i64 0, .string .empty]) 11 104 Tryz.underlying22 I1.out I2.out I3.out I4.out (by rfl) (by omega) RuD.cells ru_len ru_one v2 (rs.take k ++ [(⟨znm, fr, t, mo, zk, d, n, at', by', sv, lt⟩ : RuD), (⟨znm, t + 1, tt, mo, zk, d, n, at', by', sv, lt⟩ : RuD)]) (rs.drop (k + 1)) (by rfl) OW2.out (tailG Ar (k + 1) 11 cr) (rs.length - (k + 1)) (cr - (k + 1)) (by rfl) (by simp) (row_from (HRR.out.gr hN.2.2.2.2.2) HCR.out) (by rw [List.length_append, LTK.out]; simp; omega) (by omega) (Below.size hN.2.2.2.2.2) ?_)
    intro v3 w12 hown3 hgr3
    refine hK.out _ _ (Or.inr ⟨heap_far hgr3 hN.1 (own_low OW2.out LQ.out.1), heap_far hgr3 hN.2.1 (own_low OW2.out LQ.out.2.2.1), heap_far hgr3 hN.2.2.1 (own_low OW2.out LQ.out.2.2.2.1), heap_far hgr3 hN.2.2.2.1 (own_low OW2.out LQ.out.2.2.2.2), heap_far hgr3 hN.2.2.2.2.1 (own_low OW2.out LQ.out.2.1), grown_gr hN.2.2.2.2.2 hgr3 (own_base OW2.out)⟩) ?_
    clear hK K
    (try simp only [Act.put, List.setIfInBounds_toArray, List.set_cons_zero, List.set_cons_succ])
    have hO : (fun wx => wx.heap[q]? = some (.cells #[.slice Ar rs.length cr, .slice Az zs.length cz, .slice Al ls.length cl] 26 (0, 0)) ∧ wx.heap[q10]? = some (.cells #[.string znm, .int .i64 fr, .int .i64 t, .int .i64 mo, .int .i64 zk, .int .i64 d, .int .i64 n, .int .i64 at', .int .i64 by', .int .i64 sv, .string lt] 40 (0, 0)) ∧ wx.heap[q11]? = some (.cells #[.string znm, .int .i64 (t + 1), .int .i64 tt, .int .i64 mo, .int .i64 zk, .int .i64 d, .int .i64 n, .int .i64 at', .int .i64 by', .int .i64 sv, .string lt] 40 (0, 0)) ∧ wx.heap[q12]? = some (.cells #[.slice Ar rs.length cr, .slice Az zs.length cz, .slice Al ls.length cl] 26 (0, 0)) ∧ wx.heap[q9]? = some (.cells #[.string znm, .int .i64 fr, .int .i64 tt, .int .i64 mo, .int .i64 zk, .int .i64 d, .int .i64 n, .int .i64 at', .int .i64 by', .int .i64 sv, .string lt] 40 (0, 0)) ∧ Gr w9 wx) w12 := ⟨heap_far hgr3 hN.1 (own_low OW2.out LQ.out.1), heap_far hgr3 hN.2.1 (own_low OW2.out LQ.out.2.2.1), heap_far hgr3 hN.2.2.1 (own_low OW2.out LQ.out.2.2.2.1), heap_far hgr3 hN.2.2.2.1 (own_low OW2.out LQ.out.2.2.2.2), heap_far hgr3 hN.2.2.2.2.1 (own_low OW2.out LQ.out.2.1), grown_gr hN.2.2.2.2.2 hgr3 (own_base OW2.out)⟩
    have OW3 := Lib.hid hown3
    clear hown3 hgr3 hN OW2
    obtain ⟨LL, hLL⟩ : ∃ LL, rs.take k ++ [(⟨znm, fr, t, mo, zk, d, n, at', by', sv, lt⟩ : RuD), (⟨znm, t + 1, tt, mo, zk, d, n, at', by', sv, lt⟩ : RuD)] ++ rs.drop (k + 1) = LL := ⟨_, rfl⟩
    rw [hLL] at OW3
    have HLL := Lib.hid hLL
    clear hLL
    obtain ⟨A3, c3, rfl, hc1, hc2, _⟩ := OW3.out.form
    refine till_one (i := 15) (by kernel_rfl) rfl (fun K hK => ?_)
    go_simp
    refine hK.out _ _ (Or.inr hO) ?_
    clear hK K
    (try simp only [Act.put, List.setIfInBounds_toArray, List.set_cons_zero, List.set_cons_succ])
    have zc := bcell_row (i := 0) hO.2.2.2.1 rfl
    have fz : w12.frozen? ⟨q12, 0, none⟩ = false := unfrozen hO.2.2.2.1
    refine till_one (i := 16) (by kernel_rfl) rfl (fun K hK => ?_)
    go_simp
    refine hK.out _ _ (Or.inl (by kernel_rfl)) ?_
    clear hK K
    (try simp only [Act.put, List.setIfInBounds_toArray, List.set_cons_zero, List.set_cons_succ])
    clear zc fz
    refine till_done (by kernel_rfl) ?_ _
    refine NoPanic.normal ?_
    have F12 := Lib.hid (heap_setCell_same w12 q12 0 #[.slice Ar rs.length cr, .slice Az zs.length cz, .slice Al ls.length cl] 26 (.slice A3 LL.length c3) hO.2.2.2.1)
    have FQ : Hid ((w12.setCell ⟨q12, 0, none⟩ (.slice A3 LL.length c3)).heap[q]? = some (.cells #[.slice Ar rs.length cr, .slice Az zs.length cz, .slice Al ls.length cl] 26 (0, 0))) := set_far hO.1 (by have := L9.out; have := L10.out; have := L11.out; have := L12.out; omega)
    have F9 : Hid ((w12.setCell ⟨q12, 0, none⟩ (.slice A3 LL.length c3)).heap[q9]? = some (.cells #[.string znm, .int .i64 fr, .int .i64 tt, .int .i64 mo, .int .i64 zk, .int .i64 d, .int .i64 n, .int .i64 at', .int .i64 by', .int .i64 sv, .string lt] 40 (0, 0))) := set_far hO.2.2.2.2.1 (by have := L10.out; have := L11.out; have := L12.out; omega)
    have RW := Lib.hid ((own_set1 OW3.out LQ.out.2.2.2.2 0 (.slice A3 LL.length c3)).row ru_len)
    have GF : Hid (Gr w (w12.setCell ⟨q12, 0, none⟩ (.slice A3 LL.length c3))) := Below.setCell (G9.out.trans hO.2.2.2.2.2) (show w.heap.size ≤ q12 by have := HQS.out; have := L9.out; have := L10.out; have := L11.out; have := L12.out; omega) _
    clear hO OW3
    generalize w12.setCell ⟨q12, 0, none⟩ (.slice A3 LL.length c3) = wF at F12 FQ F9 RW GF ⊢
    have x0 := bcell_row (i := 0) FQ.out rfl
    have x1 := bcell_row (i := 1) FQ.out rfl
    have x2 := bcell_row (i := 2) FQ.out rfl
    have y0 := bcell_row (i := 0) F9.out rfl
    go_wp2_with fail
    clear x0 x1 x2 y0
    refine (KO.out znm off wF GF.out).mono ?_
    rintro e w14 ⟨A5, c5, rfl, ta, g5⟩
    have G14 := Lib.hid (GF.out.trans g5)
    have TA := Lib.hid ta
    have F12b := Lib.hid (bheap_gr g5 F12.out)
    have F9b := Lib.hid (bheap_gr g5 F9.out)
    have RW2 := Lib.hid (RW.out.gr g5)
    clear ta g5 GF F12 FQ F9 RW
    have ers : rs = rs.take k ++ (⟨znm, fr, tt, mo, zk, d, n, at', by', sv, lt⟩ : RuD) :: rs.drop (k + 1) := by
      have h1 := (List.getElem?_eq_some_iff.1 HX.out).2
      conv => lhs; rw [← List.take_append_drop k rs]
      rw [List.drop_eq_getElem_cons hlt, h1]
    have ell : LL = rs.take k ++ partX (⟨znm, fr, tt, mo, zk, d, n, at', by', sv, lt⟩ : RuD) t :: partZ (⟨znm, fr, tt, mo, zk, d, n, at', by', sv, lt⟩ : RuD) t :: rs.drop (k + 1) := by rw [← HLL.out]; simp [partX, partZ]
    have SP : ofC LL zs ls znm off = ofC rs zs ls znm off ∧ ofL LL zs ls znm off = ofL rs zs ls znm off := by
      have := split_of (P := rs.take k) (Q := rs.drop (k + 1)) (r := (⟨znm, fr, tt, mo, zk, d, n, at', by', sv, lt⟩ : RuD)) (t := t) (off := off) (zs := zs) (ls := ls) (by rw [← ers]; exact H0.out) (by rw [← ers]; omega) t1 t2
      rw [← ers, ← ell] at this
      exact this
    have IN : ∀ r ∈ LL, r.In := fun x hm => by
      have ri : RuD.In (⟨znm, fr, tt, mo, zk, d, n, at', by', sv, lt⟩ : RuD) := HRS.out.2.2 _ (get_mem HX.out)
      rw [ell, List.mem_append, List.mem_cons, List.mem_cons] at hm
      rcases hm with hm | rfl | rfl | hm
      · exact HRS.out.2.2 x (List.mem_of_mem_take hm)
      · exact ri
      · exact ri
      · exact HRS.out.2.2 x (List.mem_of_mem_drop hm)
    have HSP := Lib.hid SP
    have HIN := Lib.hid IN
    clear SP IN ers ell
    have x0 := bcell_row (i := 0) F12b.out rfl
    have x1 := bcell_row (i := 1) F12b.out rfl
    have x2 := bcell_row (i := 2) F12b.out rfl
    have y0 := bcell_row (i := 0) F9b.out rfl
    go_wp2_with fail
    clear x0 x1 x2 y0
    refine (KQ.out ⟨A3, c3, LL, Az, cz, zs, Al, cl, ls⟩ znm off w14 G14.out ⟨⟨⟨hc1, hc2⟩, RW2.out, HIN.out⟩, (HBA.out.gr G14.out).2⟩).mono ?_
    rintro e w15 ⟨A6, c6, rfl, tb, g6⟩
    have TB := Lib.hid tb
    simp only [HSP.out.1, HSP.out.2] at TB ⊢
    have TA6 := Lib.hid (TA.out.2.gr g6)
    have G15 := Lib.hid (G14.out.trans g6)
    have LN := Lib.hid (ofL_len (rs := rs) (zs := zs) (ls := ls) (nm := znm) (off := off))
    clear tb g6 G14 TA HSP
    generalize ofL rs zs ls znm off = TL at TB TA6 LN ⊢
    generalize ofC rs zs ls znm off = C
    have e1 : (C == C) = true := by simp
    go_wp2_with fail
    refine (KE.out A5 c5 A6 c6 TL _ w15 rfl LN.out TA6.out TB.out.2).mono ?_
    rintro e w16 ⟨rfl, g7⟩
    have G16 := Lib.hid (G15.out.trans g7)
    go_wp2_with fail
    go_ret
    exact ⟨rfl, G16.out⟩

set_option maxRecDepth 100000 in
theorem contract (H : Type) (enc : TypeId × Value → H) (W : World) (base : Nat) (args : Array Value) (ds gs : List (DataW H)) (before : List MemPlace)
    (hval : ∀ (j : Nat) t v, Tryz.f7.params[j]? = some t → args[j]? = some v → Value.okWide Tryz.prog W .any base t v)
    (hW : DataW.Whole enc Tryz.prog Tryz.f7.params.toList Rows.turnsSplitSpec.vars false W args.toList ds gs before) (hL : laidMet Tryz.prog Rows.turnsSplitRow.laid W) (hsh : W.ShapedOpen Tryz.prog) :
    Calls Tryz.prog 7 args W fun e W' => ∃ v, e = .returned v ∧ Rows.turnsSplitSpec.post enc Tryz.prog Tryz.f7 false true false false W args v W' := by
  have hW' := hW
  obtain ⟨p, q, hA0, hV, rfl, hfz, hnd⟩ := hW
  have hA : DataW.TrodAll enc Tryz.prog W 0 (fun _ => true) true Tryz.f7.params.toList args.toList ds p := hA0
  rw [Tryz.params7] at hA hval
  obtain ⟨v0, vs0, d0, ds0, p0, q0, hargs, rfl, rfl, h0, r0⟩ := trodAll_cons hA
  obtain ⟨v1, vs1, d1, ds1, p1, q1, rfl, rfl, rfl, h1, r1⟩ := trodAll_cons r0
  obtain ⟨v2, vs2, d2, ds2, p2, q2, rfl, rfl, rfl, h2, r2⟩ := trodAll_cons r1
  obtain ⟨v3, vs3, d3, ds3, p3, q3, rfl, rfl, rfl, h3, r3⟩ := trodAll_cons r2
  obtain ⟨rfl, rfl, rfl⟩ := trodAll_nil r3
  obtain rfl : args = #[v0, v1, v2, v3] := by cases args; simp_all
  obtain ⟨rfl, rfl⟩ := trodVars_none hV
  obtain ⟨bk0, rfl, bi0⟩ := open_book (hval 0 26 v0 rfl rfl) h0
  obtain ⟨a1, rfl, rfl, rfl, w1⟩ := open_int Tryz.underlying3 (hval 1 3 v1 rfl rfl) h1
  obtain ⟨a2, rfl, rfl, rfl, w2⟩ := open_int Tryz.underlying3 (hval 2 3 v2 rfl rfl) h2
  obtain ⟨a3, rfl, rfl, rfl, w3⟩ := open_int Tryz.underlying3 (hval 3 3 v3 rfl rfl) h3
  clear hA0
  simp only [List.append_nil] at hW'
  refine (walk bk0 a1 (bounds_i64 w1).1 (bounds_i64 w1).2 a2 (bounds_i64 w2).1 (bounds_i64 w2).2 a3 (bounds_i64 w3).1 (bounds_i64 w3).2 W bi0 ⟨lens_of hL (List.mem_of_getElem? (i := 3) rfl), pow_of hL (List.mem_of_getElem? (i := 2) rfl), max_of hsh⟩).mono fun e W' ⟨he, hg⟩ => ?_
  subst he
  exact ⟨_, rfl, post_of_below (pa := (p0 ++ ([] ++ ([] ++ ([] ++ []))))) (pv := []) hW' (fun _ _ _ => trodAll_cons_mk (shut_bool Tryz.underlying4 _) trodAll_mk0) (fun _ hsp => (trodAll_cons_mk (stays book_reads h0 hg (fun p hp => by simp [hp]) (fun p hp => hW'.lt p hp) hsp) (trodAll_cons_mk (shut_int Tryz.underlying3 w1) (trodAll_cons_mk (shut_int Tryz.underlying3 w2) (trodAll_cons_mk (shut_int Tryz.underlying3 w3) trodAll_mk0))))) (fun _ _ => rfl) (by simp)
    hg (ok_one (by kernel_rfl) rfl (okWide_bool_mk Tryz.underlying4 _))⟩

/-- A world for the witness: the settled one, the listed variables holding what their initialisers lay. -/
noncomputable def laidWorld (os : Os) : World := put (put (put (put (put (put (bare os) 5 (flat1 Rows.laid_math_bits_deBruijn32tab)) 6 (flat1 Rows.laid_math_bits_deBruijn64tab)) 4 (flat1 Rows.laid_internal_strconv_uint64pow10)) 0 (flat1 Rows.laid_timeball_civil_lengths)) 3 (flat2 Rows.laid_unicode_utf8_acceptRanges)) 2 (flat1 Rows.laid_unicode_utf8_first)
set_option maxRecDepth 100000 in
theorem laid_met (os : Os) : laidMet Tryz.prog Rows.turnsSplitRow.laid ((laidWorld os).forCall (fun _ _ => 0) ⟨#[], #[.agg #[.slice none 0 0, .slice none 0 0, .slice none 0 0], .int .i64 0, .int .i64 0, .int .i64 0], []⟩).memory :=
  laidMet_of_run3 8 (by kernel_rfl) (by kernel_rfl) (by kernel_rfl)
theorem reads (os : Os) {H : Type} (enc : TypeId × Value → H) : ∃ places, DataW.whole enc Tryz.prog ((laidWorld os).forCall (fun _ _ => 0) ⟨#[], #[.agg #[.slice none 0 0, .slice none 0 0, .slice none 0 0], .int .i64 0, .int .i64 0, .int .i64 0], []⟩).memory Tryz.f7.params.toList Rows.turnsSplitSpec.vars false #[Value.agg #[.slice none 0 0, .slice none 0 0, .slice none 0 0], Value.int .i64 0, Value.int .i64 0, Value.int .i64 0].toList 8 = some ([.agg [.nil, .nil, .nil], .lit (.int .i64 0), .lit (.int .i64 0), .lit (.int .i64 0)], [], places) :=
  ⟨[], by kernel_rfl⟩

set_option maxRecDepth 100000 in
theorem lifted (os : Os) (started : os.Started) (H : Type) (enc : TypeId × Value → H) (F : Stop.Interp) :
    ReturnsInHanded {} Tryz.checked os 7 .any ((OpenSpec.ofChange Rows.turnsSplitSpec).preRow enc Tryz.prog Tryz.f7 Rows.turnsSplitRow.domain false Rows.turnsSplitRow.laid) (((OpenSpec.ofChange Rows.turnsSplitSpec).at F).post enc Tryz.prog Tryz.f7 false true false false) := by
  obtain ⟨places, hx⟩ := reads os enc
  refine returnsInHanded_of_row (C := Tryz.checked) (s := OpenSpec.ofChange Rows.turnsSplitSpec) own started (by kernel_rfl) Tryz.func7
    (witness_row_at (enc := enc) (C := Tryz.checked) false (laidWorld os) #[.agg #[.slice none 0 0, .slice none 0 0, .slice none 0 0], .int .i64 0, .int .i64 0, .int .i64 0] rfl (by kernel_rfl) (by kernel_rfl) (by kernel_rfl)
      (OpenSpec.preRow_of_cond 8 hx (by kernel_rfl) (fun k hk => by cases hk) (by kernel_rfl) (laid_met os))) ?_
  intro W base args ds gs before hval hW _ _ _ hL hsh _
  exact contract H enc W base args ds gs before hval hW hL hsh

theorem said : Rows.TurnsSplitSaid :=
  OpenClaim.holds_of_cond 7 Tryz.f7 rfl rfl rfl rfl rfl rfl rfl ⟨rfl, rfl, rfl, rfl, rfl⟩ rfl rfl rfl rfl rfl (by kernel_rfl) Tryz.func7 (by kernel_rfl)
    (of_decide_eq_true (by kernel_rfl)) (by unfold Func.isWrapper; first | (rw [if_pos (by decide +kernel)]; kernel_rfl) | (rw [if_neg (by decide +kernel)]; exact ⟨rfl, rfl⟩))
    (fun os started H enc _ F => by rw [OpenClaim.pre_eq_preRow]; exact lifted os started H enc F)

set_option maxRecDepth 100000 in
/-- No parameter wants a stand-in; whether the program has looks of its own. -/
theorem plain (f : FuncId) (fn : Func) (hf : Tryz.pinned.checked.prog.funcNamed "timeball/timeballkeep.TurnsSplit" = some f) (hfn : Tryz.pinned.checked.prog.funcs[f]? = some fn) :
    false = Tryz.pinned.checked.prog.looks [] ∧ ∀ (j : Nat) t, fn.params[j]? = some t → Tryz.pinned.checked.prog.wantsStandIn t = false := by
  obtain rfl : f = 7 := Option.some.inj ((show Tryz.prog.funcNamed "timeball/timeballkeep.TurnsSplit" = some 7 by kernel_rfl).symm.trans hf) |>.symm
  obtain rfl : fn = Tryz.f7 := (Option.some.inj (Tryz.func7.symm.trans hfn)).symm
  refine ⟨by kernel_rfl, fun j t ht => ?_⟩
  rw [Tryz.params7] at ht
  have hm : t = 3 ∨ t = 26 := by have := Array.mem_of_getElem? ht; simp at this; first | exact this | exact this.symm | (rcases this with h | h | h <;> simp [h]) | omega
  rcases hm with rfl | rfl
  · exact (show Tryz.prog.wantsStandIn 3 = false by kernel_rfl)
  · exact (show Tryz.prog.wantsStandIn 26 = false by kernel_rfl)

end Go.Proofs.YtkbegommjlmfmaaGreatDoor.turnsSplit
namespace Go.Proofs.YtkbegommjlmfmaaGreatDoor
/-- The card. -/
theorem turnsSplit_holds : Rows.TurnsSplitCardSaid :=
  Claim7.holds_tied_plain_at .later [] _ _ _ _ turnsSplit.said (fun _ h => by cases h) (by kernel_rfl) (fun _ h => by cases h) turnsSplit_row_tie rfl ⟨rfl, rfl⟩ (by kernel_rfl) rfl turnsSplit.plain (by kernel_rfl)
end Go.Proofs.YtkbegommjlmfmaaGreatDoor
