/- The law TurnsEast of package timeballkeep returns true for every input and leaves its arguments as they were: Farther east clocks are set earlier, by just as much, unless all rules go by universal time. Condition: the listed variables (math/bits.deBruijn32tab, math/bits.deBruijn64tab, internal/strconv.uint64pow10, timeball/civil.lengths, unicode/utf8.acceptRanges, unicode/utf8.first) lie as their initialisers lay them; the card ties that tto the program's text. -/
import Derived.Test.YtkbegommjlmfmaaGreatDoorCards
import Derived.Test.YtkbegommjlmfmaaGreatDoorTie
import Derived.Test.YtkbegommjlmfmaaGreatDoorQM34
import Derived.Test.YtkbegommjlmfmaaGreatDoorQM46
import Derived.Test.YtkbegommjlmfmaaGreatDoorQM47
import Derived.Test.YtkbegommjlmfmaaGreatDoorQM29
namespace Go.Proofs.YtkbegommjlmfmaaGreatDoor.turnsEast
open Go.ChangeShapes Go.WideShapes Go.ChangeAt Go.RowKit
open Go.ChangeMaps (open_string shut_string)
set_option linter.unusedVariables false
set_option linter.unusedSimpArgs false
set_option maxRecDepth 100000 in
set_option maxHeartbeats 20000000 in
theorem walk (b : BokD) (nm : ByteArray) (hn : nm.size ≤ maxLen) (xa : Int) (hx1 : -9223372036854775808 ≤ xa) (hx2 : xa ≤ 9223372036854775807) (ya : Int) (hy1 : -9223372036854775808 ≤ ya) (hy2 : ya ≤ 9223372036854775807) (w : World) (hb : b.At w) (ht : BkTab w) :
    Calls Tryz.prog 5 #[bookV b, .string nm, .int .i64 xa, .int .i64 ya] w fun e w' => e = .returned (.bool true) ∧ Gr w w' := by
  have mixed : Tryz.prog.follows .mixedOrders = true := by kernel_rfl
  have KT := Lib.hid (fun W (g : Gr w W) => turned_any W (g.bk ht))
  have KO := Lib.hid (fun o W (g : Gr w W) => tOf b nm o W (hb.gr g) (g.bk ht))
  have KX := Lib.hid (fun w => rest_any xa 129601 w hx1 hx2 (by omega) (by omega))
  have KY := Lib.hid (fun w => rest_any ya 129601 w hy1 hy2 (by omega) (by omega))
  have r1 := Int.emod_nonneg xa (show (129601 : Int) ≠ 0 by omega)
  have r2 := Int.emod_lt_of_pos xa (show (0 : Int) < 129601 by omega)
  have r3 := Int.emod_nonneg ya (show (129601 : Int) ≠ 0 by omega)
  have r4 := Int.emod_lt_of_pos ya (show (0 : Int) < 129601 by omega)
  generalize xa % 129601 = rx at KX r1 r2
  generalize ya % 129601 = ry at KY r3 r4
  obtain ⟨Ar, cr, rs, Az, cz, zs, Al, cl, ls⟩ := b
  have HRS : Hid (RusAt w Ar cr rs) := hb.1
  have HR : Hid (Row w 11 RuD.cells Ar rs) := hb.1.2.1
  have hrl : rs.length ≤ maxLen := Nat.le_trans hb.1.1.1 hb.1.1.2
  unfold maxLen at hrl
  simp only at KO
  have B0 := Lib.hid (box_one w (.cells #[.slice Ar rs.length cr, .slice Az zs.length cz, .slice Al ls.length cl] 26))
  clear hb ht hn hx1 hx2 hy1 hy2
  go_enter Tryz.func5, Tryz.ntmps5
  go_wp2_with fail
  generalize w.alloc (.cells #[.slice Ar rs.length cr, .slice Az zs.length cz, .slice Al ls.length cl] 26) = w1 at B0 ⊢
  generalize w.heap.size = q at B0 ⊢
  refine (KT.out w1 B0.out.1).mono ?_
  rintro e w2 ⟨rfl, g2⟩
  have G2 := Lib.hid (B0.out.1.trans g2)
  have HQ2 := Lib.hid (bheap_gr g2 B0.out.2)
  clear g2 B0 KT
  have x0 : w2.cell? ⟨q, 0, none⟩ = some (.slice Ar rs.length cr) := bcell_row HQ2.out rfl
  go_wp2_with (first | (go_at_call 14; (with_reducible refine (KX.out _).mono ?_); rintro e w9 ⟨rfl, rfl⟩) | (go_at_call 14; (with_reducible refine (KY.out _).mono ?_); rintro e w9 ⟨rfl, rfl⟩))
  clear x0
  obtain ⟨x, hx⟩ : ∃ x, rx - 64800 = x := ⟨_, rfl⟩
  obtain ⟨y, hy⟩ : ∃ y, ry - 64800 = y := ⟨_, rfl⟩
  rw [hx, hy]
  have bx : -64800 ≤ x ∧ x ≤ 64800 := ⟨by omega, by omega⟩
  have bY : -64800 ≤ y ∧ y ≤ 64800 := ⟨by omega, by omega⟩
  have BX := Lib.hid bx
  have BY := Lib.hid bY
  obtain ⟨bx1, bx2⟩ := bx
  obtain ⟨by1, by2⟩ := bY
  clear hx hy r1 r2 r3 r4 KX KY
  go_loopw [9, 10, 30] (fun s9 s10 i W => ∃ (k : Nat) (a u : Bool), k ≤ rs.length ∧ i = .int .i64 k ∧ s9 = .bool a ∧ s10 = .bool u ∧ Hid (wallB (selR (rs.take k) nm) = a) ∧ Hid (univB (selR (rs.take k) nm) = u) ∧ Hid (Gr w2 W)) (fun s9 s10 i W => rs.length - (intOf i).toNat)
  case atStart => exact ⟨0, true, true, Nat.zero_le _, rfl, rfl, rfl, rfl, rfl, Gr.refl _⟩
  case round =>
    obtain ⟨k, a, u, hk, rfl, rfl, rfl, HA, HU, hg⟩ := hrel
    by_cases hlt : k < rs.length
    · obtain ⟨⟨znm, fr, tt, mo, zk, d, n, at', by', sv, lt⟩, hx⟩ := get_lt hlt
      have RT := Lib.hid (sel_take (nm := nm) hx)
      obtain ⟨b, off', rfl, c0, c1, c2, c3, c4, c5, c6, c7, c8, c9, c10⟩ := HR.out.eleven hx rfl (G2.out.trans hg.out)
      clear hx
      obtain ⟨p, ep⟩ : ∃ p, (znm.toList == nm.toList) = p := ⟨_, rfl⟩
      simp only [ep] at RT
      cases p with
      | false =>
        go_wp2_with fail
        go_roundw
        case rel => exact ⟨k + 1, a, u, by omega, by go_num, rfl, rfl, by unfold Hid; rw [RT.out, if_neg (by simp), List.append_nil]; exact HA.out, by unfold Hid; rw [RT.out, if_neg (by simp), List.append_nil]; exact HU.out, hg.out.alloc' _⟩
        case measure => simp [intOf]; omega
      | true =>
        obtain ⟨z, ez⟩ : ∃ z, (by' == 2) = z := ⟨_, rfl⟩
        have ez2 : (by' != 2) = !z := by rw [← ez]; rfl
        have HAN : Hid (wallB (selR (rs.take (k + 1)) nm) = (a && !z)) := by
          unfold Hid
          have h := HA.out
          unfold wallB at h ⊢
          rw [RT.out, if_pos rfl, List.all_append, h]
          simp [ez2]
        have HUN : Hid (univB (selR (rs.take (k + 1)) nm) = (u && z)) := by
          unfold Hid
          have h := HU.out
          unfold univB at h ⊢
          rw [RT.out, if_pos rfl, List.all_append, h]
          simp [ez]
        have B1 := Lib.hid (box_one wr (.cells #[.string znm, .int .i64 fr, .int .i64 tt, .int .i64 mo, .int .i64 zk, .int .i64 d, .int .i64 n, .int .i64 at', .int .i64 by', .int .i64 sv, .string lt] 40))
        clear RT HA HU
        go_upto_region 9 with fail
        have G3 := Lib.hid (hg.out.trans B1.out.1)
        have HB := Lib.hid B1.out.2
        clear B1 c0 c1 c2 c3 c4 c5 c6 c7 c8 c9 c10
        generalize wr.alloc (.cells #[.string znm, .int .i64 fr, .int .i64 tt, .int .i64 mo, .int .i64 zk, .int .i64 d, .int .i64 n, .int .i64 at', .int .i64 by', .int .i64 sv, .string lt] 40) = w3 at G3 HB ⊢
        generalize wr.heap.size = q3 at HB ⊢
        have x8 := bcell_row (i := 8) HB.out rfl
        cases a <;> cases u <;> cases z
        all_goals (go_quiet (fail); clear x8; go_wp2_with fail; go_roundw)
        all_goals first
          | (case rel => exact ⟨k + 1, _, _, by omega, by go_num, rfl, rfl, HAN, HUN, G3.out.drewN _⟩)
          | skip
        all_goals first
          | (case measure => simp [intOf]; omega)
          | skip
        all_goals first
          | exact ⟨k + 1, _, _, by omega, by go_num, rfl, rfl, HAN, HUN, G3.out.drewN _⟩
          | (simp [intOf]; omega)
    · have e : k = rs.length := by omega
      have HW : Hid (wallB (selR rs nm) = a) := by have := HA.out; rw [e, List.take_length] at this; exact this
      have HV : Hid (univB (selR rs nm) = u) := by have := HU.out; rw [e, List.take_length] at this; exact this
      have GR := Lib.hid (G2.out.trans hg.out)
      have HQ4 := Lib.hid (bheap_gr hg.out HQ2.out)
      clear e HA HU hg HQ2 G2
      have x0 : wr.cell? ⟨q, 0, none⟩ = some (.slice Ar rs.length cr) := bcell_row HQ4.out rfl
      have x1 : wr.cell? ⟨q, 1, none⟩ = some (.slice Az zs.length cz) := bcell_row HQ4.out rfl
      have x2 : wr.cell? ⟨q, 2, none⟩ = some (.slice Al ls.length cl) := bcell_row HQ4.out rfl
      go_wp2_with fail
      clear x0 x1 x2
      refine (KO.out x wr GR.out).mono ?_
      rintro e w5 ⟨A5, c5, rfl, ta, g5⟩
      have G5 := Lib.hid (GR.out.trans g5)
      have TA := Lib.hid ta
      have HQ5 := Lib.hid (bheap_gr g5 HQ4.out)
      clear ta g5 GR HQ4
      have x0 : w5.cell? ⟨q, 0, none⟩ = some (.slice Ar rs.length cr) := bcell_row HQ5.out rfl
      have x1 : w5.cell? ⟨q, 1, none⟩ = some (.slice Az zs.length cz) := bcell_row HQ5.out rfl
      have x2 : w5.cell? ⟨q, 2, none⟩ = some (.slice Al ls.length cl) := bcell_row HQ5.out rfl
      go_wp2_with fail
      clear x0 x1 x2
      refine (KO.out y w5 G5.out).mono ?_
      rintro e w6 ⟨A6, c6, rfl, tb, g6⟩
      have G6 := Lib.hid (G5.out.trans g6)
      have TA6 := Lib.hid (TA.out.2.gr g6)
      have TB := Lib.hid tb
      clear tb g6 G5 HQ5 KO TA
      have EA := Lib.hid (fun h => east_of (rs := rs) (zs := zs) (ls := ls) (nm := nm) BX.out BY.out h)
      have IN := Lib.hid (ofL_in (zs := zs) (ls := ls) (nm := nm) (off := x) HRS.out.2.2)
      have LN := ofL_len (rs := rs) (zs := zs) (ls := ls) (nm := nm) (off := x)
      rw [HW.out, HV.out] at EA
      clear HW HV hrl hk hlt
      cases a <;> cases u
      · go_wp2_with fail
        go_ret
        exact ⟨rfl, G6.out⟩
      · have EB := Lib.hid (EA.out (Or.inr rfl))
        have EB1 : Hid (ofC rs zs ls nm y = ofC rs zs ls nm x) := EB.out.1
        have EB2 : Hid (ofL rs zs ls nm y = (ofL rs zs ls nm x).map (shiftT 0)) := by unfold Hid; have := EB.out.2; simpa using this
        rw [EB2.out] at TB ⊢
        rw [EB1.out]
        clear EA EB EB1 EB2
        generalize ofL rs zs ls nm x = TX at TA6 TB IN LN ⊢
        generalize ofC rs zs ls nm x = C
        rw [List.length_map]
        obtain ⟨N, hN⟩ : ∃ N, TX.length = N := ⟨_, rfl⟩
        have NN := Lib.hid hN
        rw [hN] at LN ⊢
        clear hN
        have t1 : (C != C) = false := by simp
        have t2 : (C == C) = true := by simp
        have t3 : ((N : Int) != (N : Int)) = false := by simp
        go_wp2_with fail
        clear t1 t2 t3
        go_loopw [83] (fun i W => ∃ k : Nat, k ≤ N ∧ i = .int .i64 k ∧ Hid (Gr w W) ∧ Hid (Gr w6 W)) (fun i W => N - (intOf i).toNat)
        case atStart => exact ⟨0, Nat.zero_le _, rfl, G6.out, Gr.refl _⟩
        case round =>
          obtain ⟨k, hk, rfl, hg, hg6⟩ := hrel
          by_cases hlt : k < N
          · obtain ⟨⟨a1, s1, l1⟩, hx1⟩ := get_lt (show k < TX.length by have := NN.out; omega)
            have hx2 : (TX.map (shiftT 0))[k]? = some (⟨a1 + 0, s1, l1⟩ : TurD) := by rw [List.getElem?_map, hx1]; rfl
            obtain ⟨_, ⟨i1, i2⟩, _⟩ := IN.out _ (get_mem hx1)
            simp only at i1 i2
            obtain ⟨b, of', rfl, c0, c1, c2⟩ := TA6.out.three hx1 rfl hg6.out
            obtain ⟨b', of2, rfl, d0, d1, d2⟩ := TB.out.2.three hx2 rfl hg6.out
            clear hx1 hx2
            have ka : (0 : Int) ≤ (k : Int) := by omega
            have kb : (k : Int) < (N : Int) := by omega
            have kc : ((k : Int)).toNat = k := by omega
            have n1 : (a1 + 0 != a1 + 0) = false := by simp
            have n2 : (s1 != s1) = false := by simp
            have n4 : (l1.toList != l1.toList) = false := by simp
            have n5 : (l1.toList == l1.toList) = true := by simp
            go_upto_region 23 with fail
            go_quiet (fail)
            clear c0 c1 c2 d0 d1 d2 ka kb kc n1 n2 n4 n5
            go_wp2_with fail
            go_roundw
            case rel => exact ⟨k + 1, by omega, by go_num, hg.out.drewN _, hg6.out.drewN _⟩
            case measure => first | (simp [intOf]; omega) | omega
          · go_wp2_with fail
            go_ret
            exact ⟨rfl, hg.out⟩
      · have EB := Lib.hid (EA.out (Or.inl rfl))
        have EB1 : Hid (ofC rs zs ls nm y = ofC rs zs ls nm x) := EB.out.1
        have EB2 : Hid (ofL rs zs ls nm y = (ofL rs zs ls nm x).map (shiftT (x - y))) := by unfold Hid; have := EB.out.2; simpa using this
        rw [EB2.out] at TB ⊢
        rw [EB1.out]
        clear EA EB EB1 EB2
        generalize ofL rs zs ls nm x = TX at TA6 TB IN LN ⊢
        generalize ofC rs zs ls nm x = C
        rw [List.length_map]
        obtain ⟨N, hN⟩ : ∃ N, TX.length = N := ⟨_, rfl⟩
        have NN := Lib.hid hN
        rw [hN] at LN ⊢
        clear hN
        have t1 : (C != C) = false := by simp
        have t2 : (C == C) = true := by simp
        have t3 : ((N : Int) != (N : Int)) = false := by simp
        go_wp2_with fail
        clear t1 t2 t3
        go_loopw [83] (fun i W => ∃ k : Nat, k ≤ N ∧ i = .int .i64 k ∧ Hid (Gr w W) ∧ Hid (Gr w6 W)) (fun i W => N - (intOf i).toNat)
        case atStart => exact ⟨0, Nat.zero_le _, rfl, G6.out, Gr.refl _⟩
        case round =>
          obtain ⟨k, hk, rfl, hg, hg6⟩ := hrel
          by_cases hlt : k < N
          · obtain ⟨⟨a1, s1, l1⟩, hx1⟩ := get_lt (show k < TX.length by have := NN.out; omega)
            have hx2 : (TX.map (shiftT (x - y)))[k]? = some (⟨a1 + (x - y), s1, l1⟩ : TurD) := by rw [List.getElem?_map, hx1]; rfl
            obtain ⟨_, ⟨i1, i2⟩, _⟩ := IN.out _ (get_mem hx1)
            simp only at i1 i2
            obtain ⟨b, of', rfl, c0, c1, c2⟩ := TA6.out.three hx1 rfl hg6.out
            obtain ⟨b', of2, rfl, d0, d1, d2⟩ := TB.out.2.three hx2 rfl hg6.out
            clear hx1 hx2
            have ka : (0 : Int) ≤ (k : Int) := by omega
            have kb : (k : Int) < (N : Int) := by omega
            have kc : ((k : Int)).toNat = k := by omega
            have n1 : (a1 + (x - y) != a1 + (x - y)) = false := by simp
            have n2 : (s1 != s1) = false := by simp
            have n4 : (l1.toList != l1.toList) = false := by simp
            have n5 : (l1.toList == l1.toList) = true := by simp
            go_upto_region 23 with fail
            go_quiet (fail)
            clear c0 c1 c2 d0 d1 d2 ka kb kc n1 n2 n4 n5
            go_wp2_with fail
            go_roundw
            case rel => exact ⟨k + 1, by omega, by go_num, hg.out.drewN _, hg6.out.drewN _⟩
            case measure => first | (simp [intOf]; omega) | omega
          · go_wp2_with fail
            go_ret
            exact ⟨rfl, hg.out⟩
      · have EB := Lib.hid (EA.out (Or.inl rfl))
        have EB1 : Hid (ofC rs zs ls nm y = ofC rs zs ls nm x) := EB.out.1
        have EB2 : Hid (ofL rs zs ls nm y = (ofL rs zs ls nm x).map (shiftT 0)) := by unfold Hid; have := EB.out.2; simpa using this
        rw [EB2.out] at TB ⊢
        rw [EB1.out]
        clear EA EB EB1 EB2
        generalize ofL rs zs ls nm x = TX at TA6 TB IN LN ⊢
        generalize ofC rs zs ls nm x = C
        rw [List.length_map]
        obtain ⟨N, hN⟩ : ∃ N, TX.length = N := ⟨_, rfl⟩
        have NN := Lib.hid hN
        rw [hN] at LN ⊢
        clear hN
        have t1 : (C != C) = false := by simp
        have t2 : (C == C) = true := by simp
        have t3 : ((N : Int) != (N : Int)) = false := by simp
        go_wp2_with fail
        clear t1 t2 t3
        go_loopw [83] (fun i W => ∃ k : Nat, k ≤ N ∧ i = .int .i64 k ∧ Hid (Gr w W) ∧ Hid (Gr w6 W)) (fun i W => N - (intOf i).toNat)
        case atStart => exact ⟨0, Nat.zero_le _, rfl, G6.out, Gr.refl _⟩
        case round =>
          obtain ⟨k, hk, rfl, hg, hg6⟩ := hrel
          by_cases hlt : k < N
          · obtain ⟨⟨a1, s1, l1⟩, hx1⟩ := get_lt (show k < TX.length by have := NN.out; omega)
            have hx2 : (TX.map (shiftT 0))[k]? = some (⟨a1 + 0, s1, l1⟩ : TurD) := by rw [List.getElem?_map, hx1]; rfl
            obtain ⟨_, ⟨i1, i2⟩, _⟩ := IN.out _ (get_mem hx1)
            simp only at i1 i2
            obtain ⟨b, of', rfl, c0, c1, c2⟩ := TA6.out.three hx1 rfl hg6.out
            obtain ⟨b', of2, rfl, d0, d1, d2⟩ := TB.out.2.three hx2 rfl hg6.out
            clear hx1 hx2
            have ka : (0 : Int) ≤ (k : Int) := by omega
            have kb : (k : Int) < (N : Int) := by omega
            have kc : ((k : Int)).toNat = k := by omega
            have n1 : (a1 + 0 != a1 + 0) = false := by simp
            have n2 : (s1 != s1) = false := by simp
            have n4 : (l1.toList != l1.toList) = false := by simp
            have n5 : (l1.toList == l1.toList) = true := by simp
            go_upto_region 23 with fail
            go_quiet (fail)
            clear c0 c1 c2 d0 d1 d2 ka kb kc n1 n2 n4 n5
            go_wp2_with fail
            go_roundw
            case rel => exact ⟨k + 1, by omega, by go_num, hg.out.drewN _, hg6.out.drewN _⟩
            case measure => first | (simp [intOf]; omega) | omega
          · go_wp2_with fail
            go_ret
            exact ⟨rfl, hg.out⟩

set_option maxRecDepth 100000 in
theorem contract (H : Type) (enc : TypeId × Value → H) (W : World) (base : Nat) (args : Array Value) (ds gs : List (DataW H)) (before : List MemPlace)
    (hval : ∀ (j : Nat) t v, Tryz.f5.params[j]? = some t → args[j]? = some v → Value.okWide Tryz.prog W .any base t v)
    (hW : DataW.Whole enc Tryz.prog Tryz.f5.params.toList Rows.turnsEastSpec.vars false W args.toList ds gs before) (hL : laidMet Tryz.prog Rows.turnsEastRow.laid W) (hsh : W.ShapedOpen Tryz.prog) :
    Calls Tryz.prog 5 args W fun e W' => ∃ v, e = .returned v ∧ Rows.turnsEastSpec.post enc Tryz.prog Tryz.f5 false true false false W args v W' := by
  have hW' := hW
  obtain ⟨p, q, hA0, hV, rfl, hfz, hnd⟩ := hW
  have hA : DataW.TrodAll enc Tryz.prog W 0 (fun _ => true) true Tryz.f5.params.toList args.toList ds p := hA0
  rw [Tryz.params5] at hA hval
  obtain ⟨v0, vs0, d0, ds0, p0, q0, hargs, rfl, rfl, h0, r0⟩ := trodAll_cons hA
  obtain ⟨v1, vs1, d1, ds1, p1, q1, rfl, rfl, rfl, h1, r1⟩ := trodAll_cons r0
  obtain ⟨v2, vs2, d2, ds2, p2, q2, rfl, rfl, rfl, h2, r2⟩ := trodAll_cons r1
  obtain ⟨v3, vs3, d3, ds3, p3, q3, rfl, rfl, rfl, h3, r3⟩ := trodAll_cons r2
  obtain ⟨rfl, rfl, rfl⟩ := trodAll_nil r3
  obtain rfl : args = #[v0, v1, v2, v3] := by cases args; simp_all
  obtain ⟨rfl, rfl⟩ := trodVars_none hV
  obtain ⟨bk0, rfl, bi0⟩ := open_book (hval 0 26 v0 rfl rfl) h0
  obtain ⟨a1, rfl, rfl, rfl, w1⟩ := open_string Tryz.underlying9 (hval 1 9 v1 rfl rfl) h1
  obtain ⟨a2, rfl, rfl, rfl, w2⟩ := open_int Tryz.underlying3 (hval 2 3 v2 rfl rfl) h2
  obtain ⟨a3, rfl, rfl, rfl, w3⟩ := open_int Tryz.underlying3 (hval 3 3 v3 rfl rfl) h3
  clear hA0
  simp only [List.append_nil] at hW'
  refine (walk bk0 a1 w1 a2 (bounds_i64 w2).1 (bounds_i64 w2).2 a3 (bounds_i64 w3).1 (bounds_i64 w3).2 W bi0 ⟨lens_of hL (List.mem_of_getElem? (i := 3) rfl), pow_of hL (List.mem_of_getElem? (i := 2) rfl), max_of hsh⟩).mono fun e W' ⟨he, hg⟩ => ?_
  subst he
  exact ⟨_, rfl, post_of_below (pa := (p0 ++ ([] ++ ([] ++ ([] ++ []))))) (pv := []) hW' (fun _ _ _ => trodAll_cons_mk (shut_bool Tryz.underlying4 _) trodAll_mk0) (fun _ hsp => (trodAll_cons_mk (stays book_reads h0 hg (fun p hp => by simp [hp]) (fun p hp => hW'.lt p hp) hsp) (trodAll_cons_mk (shut_string Tryz.underlying9 w1) (trodAll_cons_mk (shut_int Tryz.underlying3 w2) (trodAll_cons_mk (shut_int Tryz.underlying3 w3) trodAll_mk0))))) (fun _ _ => rfl) (by simp)
    hg (ok_one (by kernel_rfl) rfl (okWide_bool_mk Tryz.underlying4 _))⟩

/-- A world for the witness: the settled one, the listed variables holding what their initialisers lay. -/
noncomputable def laidWorld (os : Os) : World := put (put (put (put (put (put (bare os) 5 (flat1 Rows.laid_math_bits_deBruijn32tab)) 6 (flat1 Rows.laid_math_bits_deBruijn64tab)) 4 (flat1 Rows.laid_internal_strconv_uint64pow10)) 0 (flat1 Rows.laid_timeball_civil_lengths)) 3 (flat2 Rows.laid_unicode_utf8_acceptRanges)) 2 (flat1 Rows.laid_unicode_utf8_first)
set_option maxRecDepth 100000 in
theorem laid_met (os : Os) : laidMet Tryz.prog Rows.turnsEastRow.laid ((laidWorld os).forCall (fun _ _ => 0) ⟨#[], #[.agg #[.slice none 0 0, .slice none 0 0, .slice none 0 0], .string .empty, .int .i64 0, .int .i64 0], []⟩).memory :=
  laidMet_of_run3 8 (by kernel_rfl) (by kernel_rfl) (by kernel_rfl)
theorem reads (os : Os) {H : Type} (enc : TypeId × Value → H) : ∃ places, DataW.whole enc Tryz.prog ((laidWorld os).forCall (fun _ _ => 0) ⟨#[], #[.agg #[.slice none 0 0, .slice none 0 0, .slice none 0 0], .string .empty, .int .i64 0, .int .i64 0], []⟩).memory Tryz.f5.params.toList Rows.turnsEastSpec.vars false #[Value.agg #[.slice none 0 0, .slice none 0 0, .slice none 0 0], Value.string .empty, Value.int .i64 0, Value.int .i64 0].toList 8 = some ([.agg [.nil, .nil, .nil], .lit (.string []), .lit (.int .i64 0), .lit (.int .i64 0)], [], places) :=
  ⟨[], by kernel_rfl⟩

set_option maxRecDepth 100000 in
theorem lifted (os : Os) (started : os.Started) (H : Type) (enc : TypeId × Value → H) (F : Stop.Interp) :
    ReturnsInHanded {} Tryz.checked os 5 .any ((OpenSpec.ofChange Rows.turnsEastSpec).preRow enc Tryz.prog Tryz.f5 Rows.turnsEastRow.domain false Rows.turnsEastRow.laid) (((OpenSpec.ofChange Rows.turnsEastSpec).at F).post enc Tryz.prog Tryz.f5 false true false false) := by
  obtain ⟨places, hx⟩ := reads os enc
  refine returnsInHanded_of_row (C := Tryz.checked) (s := OpenSpec.ofChange Rows.turnsEastSpec) own started (by kernel_rfl) Tryz.func5
    (witness_row_at (enc := enc) (C := Tryz.checked) false (laidWorld os) #[.agg #[.slice none 0 0, .slice none 0 0, .slice none 0 0], .string .empty, .int .i64 0, .int .i64 0] rfl (by kernel_rfl) (by kernel_rfl) (by kernel_rfl)
      (OpenSpec.preRow_of_cond 8 hx (by kernel_rfl) (fun k hk => by cases hk) (by kernel_rfl) (laid_met os))) ?_
  intro W base args ds gs before hval hW _ _ _ hL hsh _
  exact contract H enc W base args ds gs before hval hW hL hsh

theorem said : Rows.TurnsEastSaid :=
  OpenClaim.holds_of_cond 5 Tryz.f5 rfl rfl rfl rfl rfl rfl rfl ⟨rfl, rfl, rfl, rfl, rfl⟩ rfl rfl rfl rfl rfl (by kernel_rfl) Tryz.func5 (by kernel_rfl)
    (of_decide_eq_true (by kernel_rfl)) (by unfold Func.isWrapper; first | (rw [if_pos (by decide +kernel)]; kernel_rfl) | (rw [if_neg (by decide +kernel)]; exact ⟨rfl, rfl⟩))
    (fun os started H enc _ F => by rw [OpenClaim.pre_eq_preRow]; exact lifted os started H enc F)

set_option maxRecDepth 100000 in
/-- No parameter wants a stand-in; whether the program has looks of its own. -/
theorem plain (f : FuncId) (fn : Func) (hf : Tryz.pinned.checked.prog.funcNamed "timeball/timeballkeep.TurnsEast" = some f) (hfn : Tryz.pinned.checked.prog.funcs[f]? = some fn) :
    false = Tryz.pinned.checked.prog.looks [] ∧ ∀ (j : Nat) t, fn.params[j]? = some t → Tryz.pinned.checked.prog.wantsStandIn t = false := by
  obtain rfl : f = 5 := Option.some.inj ((show Tryz.prog.funcNamed "timeball/timeballkeep.TurnsEast" = some 5 by kernel_rfl).symm.trans hf) |>.symm
  obtain rfl : fn = Tryz.f5 := (Option.some.inj (Tryz.func5.symm.trans hfn)).symm
  refine ⟨by kernel_rfl, fun j t ht => ?_⟩
  rw [Tryz.params5] at ht
  have hm : t = 3 ∨ t = 9 ∨ t = 26 := by have := Array.mem_of_getElem? ht; simp at this; first | exact this | exact this.symm | (rcases this with h | h | h <;> simp [h]) | omega
  rcases hm with rfl | rfl | rfl
  · exact (show Tryz.prog.wantsStandIn 3 = false by kernel_rfl)
  · exact (show Tryz.prog.wantsStandIn 9 = false by kernel_rfl)
  · exact (show Tryz.prog.wantsStandIn 26 = false by kernel_rfl)

end Go.Proofs.YtkbegommjlmfmaaGreatDoor.turnsEast
namespace Go.Proofs.YtkbegommjlmfmaaGreatDoor
/-- The card. -/
theorem turnsEast_holds : Rows.TurnsEastCardSaid :=
  Claim7.holds_tied_plain_at .later [] _ _ _ _ turnsEast.said (fun _ h => by cases h) (by kernel_rfl) (fun _ h => by cases h) turnsEast_row_tie rfl ⟨rfl, rfl⟩ (by kernel_rfl) rfl turnsEast.plain (by kernel_rfl)
end Go.Proofs.YtkbegommjlmfmaaGreatDoor
