/- The law BookTwice of package timeballkeep returns true for every input and leaves its arguments as they were: A book with a repeated zone or link is rejected. Condition: the listed variables (math/bits.deBruijn32tab, math/bits.deBruijn64tab, internal/strconv.uint64pow10, timeball/civil.lengths, unicode/utf8.acceptRanges, strconv.ErrRange, strconv.ErrSyntax, timeball/day.weekdays, timeball/rule.clockLetters, unicode/utf8.first) lie as their initialisers lay them; the card ties that tto the program's text. -/
import Derived.Test.YtmemgpmijphkmaaGreatDoorCards
import Derived.Test.YtmemgpmijphkmaaGreatDoorTie
import Derived.Test.YtmemgpmijphkmaaGreatDoorVM04
import Derived.Test.YtmemgpmijphkmaaGreatDoorVM51
import Derived.Test.YtmemgpmijphkmaaGreatDoorVM48
import Derived.Test.YtmemgpmijphkmaaGreatDoorVM52
import Derived.Test.YtmemgpmijphkmaaGreatDoorVM53
namespace Go.Proofs.YtmemgpmijphkmaaGreatDoor.bookTwice
open Go.ChangeShapes Go.WideShapes Go.ChangeAt Go.RowKit
open Go.ChangeMaps (open_string shut_string)
set_option linter.unusedVariables false
set_option linter.unusedSimpArgs false
set_option maxRecDepth 100000 in
set_option maxHeartbeats 20000000 in
theorem walk (b : BokD) (k : Int) (k1 : -9223372036854775808 ≤ k) (k2 : k ≤ 9223372036854775807) (w : World) (hb : b.At w) (ht : RpTab w) (hk : BkTab w) :
    Calls Tryz.prog 9 #[bookV b, .int .i64 k] w fun e w' => e = .returned (.bool true) ∧ Gr w w' := by
  have KB := Lib.hid (fun W (g : Gr w W) => booked_any W (g.rpT ht) (g.bk hk))
  have KC := Lib.hid (fun (bb : BokD) W (g : Gr w W) (ha : bb.At W) => pbookCheck bb W ha (g.bk hk))
  have HB := Lib.hid hb
  obtain ⟨Ar, cr, rs, Az, cz, zs, Al, cl, ls⟩ := b
  have HC := Lib.hid (fun W (g : Gr w W) => KC.out ⟨Ar, cr, rs, Az, cz, zs, Al, cl, ls⟩ W g (hb.gr g))
  simp only at HC
  have hzl : zs.length ≤ maxLen := Nat.le_trans hb.2.1.1.1 hb.2.1.1.2
  have hll : ls.length ≤ maxLen := Nat.le_trans hb.2.2.1.1 hb.2.2.1.2
  unfold maxLen at hzl hll
  have B0 := Lib.hid (box_one w (.cells #[.slice Ar rs.length cr, .slice Az zs.length cz, .slice Al ls.length cl] 26))
  have TZ : Hid (bokC rs zs ls = 0 → ∀ (j : Nat) (z : ZonD), zs[j]? = some z → zs.length ≤ 19 → bokC rs (zs ++ [z]) ls = 7) := fun h j z hz h19 => twice_zone h hz h19
  have TL : Hid (bokC rs zs ls = 0 → ∀ (j : Nat) (z : ZonD), zs[j]? = some z → ls.length ≤ 19 → bokC rs zs (ls ++ [⟨z.nm, z.nm⟩]) = 7) := fun h j z hz h19 => twice_link h hz h19
  generalize hcc : bokC rs zs ls = C at HC TZ TL
  clear hcc hb ht hk
  go_enter Tryz.func9, Tryz.ntmps9
  go_wp2_with fail
  generalize w.alloc (.cells #[.slice Ar rs.length cr, .slice Az zs.length cz, .slice Al ls.length cl] 26) = w0 at B0 ⊢
  generalize hq : w.heap.size = q at B0 ⊢
  have HQS := Lib.hid hq
  clear hq
  refine (KB.out w0 B0.out.1).mono ?_
  rintro e w1 ⟨rfl, g1⟩
  have G1 := Lib.hid (B0.out.1.trans g1)
  have HQ1 := Lib.hid (bheap_gr g1 B0.out.2)
  clear g1 B0 KB
  have y0 : w1.cell? ⟨q, 0, none⟩ = some (.slice Ar rs.length cr) := bcell_row HQ1.out rfl
  have y1 : w1.cell? ⟨q, 1, none⟩ = some (.slice Az zs.length cz) := bcell_row HQ1.out rfl
  have y2 : w1.cell? ⟨q, 2, none⟩ = some (.slice Al ls.length cl) := bcell_row HQ1.out rfl
  go_wp2_with fail
  clear y0 y1 y2
  refine (HC.out w1 G1.out).mono ?_
  rintro e w2 ⟨rfl, g2⟩
  have G2 := Lib.hid (G1.out.trans g2)
  have HQ := Lib.hid (bheap_gr g2 HQ1.out)
  clear g2 G1 HQ1 HC
  have y1 : w2.cell? ⟨q, 1, none⟩ = some (.slice Az zs.length cz) := bcell_row HQ.out rfl
  have y2 : w2.cell? ⟨q, 2, none⟩ = some (.slice Al ls.length cl) := bcell_row HQ.out rfl
  by_cases h0 : C = 0
  case neg =>
    have t0 := bneT h0
    go_wp2_with fail
    go_ret
    exact ⟨rfl, G2.out⟩
  have t0 := bneF h0
  have TZ1 := Lib.hid (TZ.out h0)
  have TL1 := Lib.hid (TL.out h0)
  subst h0
  clear TZ TL
  by_cases hz0 : zs.length = 0
  · have t1 : ((zs.length : Int) == 0) = true := beqT (by omega)
    go_wp2_with fail
    go_ret
    exact ⟨rfl, G2.out⟩
  have t1 : ((zs.length : Int) == 0) = false := beqF (by omega)
  by_cases hz19 : 19 < zs.length
  · have t2 : decide (19 < (zs.length : Int)) = true := ltT (by omega)
    go_wp2_with fail
    go_ret
    exact ⟨rfl, G2.out⟩
  have t2 : decide (19 < (zs.length : Int)) = false := ltF (by omega)
  by_cases hl19 : 19 < ls.length
  · have t3 : decide (19 < (ls.length : Int)) = true := ltT (by omega)
    go_wp2_with fail
    go_ret
    exact ⟨rfl, G2.out⟩
  have t3 : decide (19 < (ls.length : Int)) = false := ltF (by omega)
  have KR := Lib.hid (fun W => rest_any k (zs.length : Int) W k1 k2 (by omega) (by omega))
  have n1 : 0 ≤ k % (zs.length : Int) := Int.emod_nonneg _ (by omega)
  have n2 : k % (zs.length : Int) < (zs.length : Int) := Int.emod_lt_of_pos _ (by omega)
  obtain ⟨j, hj⟩ : ∃ j : Nat, k % (zs.length : Int) = (j : Int) := ⟨(k % (zs.length : Int)).toNat, by omega⟩
  rw [hj] at KR n1 n2
  clear hj
  go_wp2_with fail
  clear t0 t1 t2 t3 y2
  refine (KR.out w2).mono ?_
  rintro e w' ⟨rfl, rfl⟩
  clear KR y1
  -- the zone that is named
  obtain ⟨z, hz⟩ := get_lt (show j < zs.length by omega)
  have TZ2 := Lib.hid (TZ1.out j z hz (by omega))
  have TL2 := Lib.hid (TL1.out j z hz (by omega))
  obtain ⟨znm, zA, zc, ze⟩ := z
  have HZ := Lib.hid hz
  obtain ⟨bz, oz, rfl, c0, c1⟩ := HB.out.2.1.2.1.two hz rfl (Gr.refl w)
  have CZ : Hid (∀ W, Gr w W → W.cell? ⟨bz, oz + j * 2, none⟩ = some (.string znm) ∧ W.cell? ⟨bz, oz + j * 2 + 1, none⟩ = some (.slice zA ze.length zc)) := fun W g => ⟨g.holds c0, g.holds c1⟩
  clear hz c0 c1 TZ1 TL1
  go_upto_region 6 with fail
  go_cut [5, 6] (fun s5 s6 wx => ∃ b5 b6 : Nat, s5 = .pointer (some ⟨b5, 0, none⟩) ∧ s6 = .pointer (some ⟨b6, 0, none⟩) ∧ b5 ≠ b6 ∧ q < b5 ∧ q < b6 ∧ w.heap.size ≤ b5 ∧ w.heap.size ≤ b6 ∧ Hid (Gr w wx) ∧ Hid (wx.heap[q]? = some (.cells #[.slice Ar rs.length cr, .slice (some ⟨bz, oz, none⟩) zs.length cz, .slice Al ls.length cl] 26 (0, 0))) ∧ Hid (wx.heap[b5]? = some (.cells #[.slice Ar rs.length cr, .slice (some ⟨bz, oz, none⟩) zs.length cz, .slice Al ls.length cl] 26 (0, 0))) ∧ Hid (wx.heap[b6]? = some (.cells #[.slice Ar rs.length cr, .slice (some ⟨bz, oz, none⟩) zs.length cz, .slice Al ls.length cl] 26 (0, 0))))
  case first =>
    have hqs := HQS.out
    refine wp_region_noPanic ?_
    refine till_start 5 (fun wx => wx.heap[q]? = some (.cells #[.slice Ar rs.length cr, .slice (some ⟨bz, oz, none⟩) zs.length cz, .slice Al ls.length cl] 26 (0, 0))) (by kernel_rfl) HQ.out (fun hHeld => ?_)
    (try dsimp only at hHeld)
    have G3 := Lib.hid (G2.out.trans (Gr.drew w2))
    generalize w2.drew = w3 at hHeld G3 ⊢
    refine till_take (i := 0) (oi := { dst := some 35, op := _, type := _, pos := _, after := _, guard := _ }) (v := ?v1) rfl (by kernel_rfl) (by kernel_rfl) (by kernel_rfl) (by kernel_rfl) (fun _ _ _ h => h) (Or.inl ⟨by rfl, ?hy1⟩) (by assumption) ?rest1
    case hy1 => (intro w hSw; have d0 := bcell_row (i := 0) hSw rfl; have d1 := bcell_row (i := 1) hSw rfl; have d2 := bcell_row (i := 2) hSw rfl; go_simp <;> (with_reducible rfl))
    (try simp only [Act.put, List.setIfInBounds_toArray, List.set_cons_zero, List.set_cons_succ])
    refine till_take (i := 1) (oi := { dst := some 36, op := _, type := _, pos := _, after := _, guard := _ }) (v := ?v2) rfl (by kernel_rfl) (by kernel_rfl) (by kernel_rfl) (by kernel_rfl) (fun _ _ _ h => h) (Or.inl ⟨by rfl, ?hy2⟩) (by assumption) ?rest2
    case hy2 => (intro w hSw; have d0 := bcell_row (i := 0) hSw rfl; have d1 := bcell_row (i := 1) hSw rfl; have d2 := bcell_row (i := 2) hSw rfl; go_simp <;> (with_reducible rfl))
    (try simp only [Act.put, List.setIfInBounds_toArray, List.set_cons_zero, List.set_cons_succ])
    refine till_two (i := 2) (j := 3) (by kernel_rfl) rfl rfl (fun K hK => ?_) (fun K hK => ?_)
    · have N1 := Lib.hid (box_one w3 (.cells #[.slice none 0 0, .slice none 0 0, .slice none 0 0] 26))
      go_simp
      refine hK.out _ _ (Or.inr (bheap_gr N1.out.1 hHeld)) ?_
      clear hK K
      (try simp only [Act.put, List.setIfInBounds_toArray, List.set_cons_zero, List.set_cons_succ])
      generalize w3.alloc (.cells #[.slice none 0 0, .slice none 0 0, .slice none 0 0] 26) = w4 at N1 ⊢
      have ln1 : Hid (w.heap.size ≤ w3.heap.size ∧ q < w3.heap.size) := ⟨Below.size G3.out, (Array.getElem?_eq_some_iff.1 hHeld).1⟩
      generalize w3.heap.size = b5 at N1 ln1 ⊢
      have H4 := Lib.hid (bheap_gr N1.out.1 hHeld)
      have G4 := Lib.hid (G3.out.trans N1.out.1)
      have E1 := Lib.hid N1.out.2
      clear N1 hHeld
      have N2 := Lib.hid (box_one w4 (.cells #[.slice none 0 0, .slice none 0 0, .slice none 0 0] 26))
      refine till_one (i := 3) (by kernel_rfl) rfl (fun K hK => ?_)
      go_simp
      refine hK.out _ _ (Or.inr (bheap_gr N2.out.1 H4.out)) ?_
      clear hK K
      (try simp only [Act.put, List.setIfInBounds_toArray, List.set_cons_zero, List.set_cons_succ])
      generalize w4.alloc (.cells #[.slice none 0 0, .slice none 0 0, .slice none 0 0] 26) = w5 at N2 ⊢
      have ln2 : Hid (b5 < w4.heap.size ∧ w.heap.size ≤ w4.heap.size ∧ q < w4.heap.size) := ⟨(Array.getElem?_eq_some_iff.1 E1.out).1, Below.size G4.out, (Array.getElem?_eq_some_iff.1 H4.out).1⟩
      generalize w4.heap.size = b6 at N2 ln2 ⊢
      have H5 := Lib.hid (bheap_gr N2.out.1 H4.out)
      have G5 := Lib.hid (G4.out.trans N2.out.1)
      have E1' := Lib.hid (bheap_gr N2.out.1 E1.out)
      have E2 := Lib.hid N2.out.2
      clear N2 H4 E1
      have l1 := ln1.out
      have l2 := ln2.out
      clear ln1 ln2
      have z0 : w5.cell? ⟨b5, 0, none⟩ = some (.slice none 0 0) := bcell_row E1'.out rfl
      have z1 : w5.cell? ⟨b5, 1, none⟩ = some (.slice none 0 0) := bcell_row E1'.out rfl
      have z2 : w5.cell? ⟨b5, 2, none⟩ = some (.slice none 0 0) := bcell_row E1'.out rfl
      have fz : ∀ i, w5.frozen? ⟨b5, i, none⟩ = false := fun i => by simp [World.frozen?, E1'.out]
      have S5 := Lib.hid (store3 E1'.out (.slice Ar rs.length cr) (.slice (some ⟨bz, oz, none⟩) zs.length cz) (.slice Al ls.length cl))
      have S5g := Lib.hid (store3_gr (b := b5) G5.out (by omega) (.slice Ar rs.length cr) (.slice (some ⟨bz, oz, none⟩) zs.length cz) (.slice Al ls.length cl))
      have S5q := Lib.hid ((store3_ne (W := w5) (b := b5) (c := q) (by omega) (.slice Ar rs.length cr) (.slice (some ⟨bz, oz, none⟩) zs.length cz) (.slice Al ls.length cl)).trans H5.out)
      have S56 := Lib.hid ((store3_ne (W := w5) (b := b5) (c := b6) (by omega) (.slice Ar rs.length cr) (.slice (some ⟨bz, oz, none⟩) zs.length cz) (.slice Al ls.length cl)).trans E2.out)
      refine till_one (i := 4) (by kernel_rfl) rfl (fun K hK => ?_)
      go_simp
      clear z0 z1 z2 fz
      generalize (((w5.setCell ⟨b5, 0, none⟩ (.slice Ar rs.length cr)).setCell ⟨b5, 1, none⟩ (.slice (some ⟨bz, oz, none⟩) zs.length cz)).setCell ⟨b5, 2, none⟩ (.slice Al ls.length cl)) = w6 at S5 S5g S5q S56 hK ⊢
      refine hK.out _ _ (Or.inr S5q.out) ?_
      clear hK K
      (try simp only [Act.put, List.setIfInBounds_toArray, List.set_cons_zero, List.set_cons_succ])
      have z0 : w6.cell? ⟨b6, 0, none⟩ = some (.slice none 0 0) := bcell_row S56.out rfl
      have z1 : w6.cell? ⟨b6, 1, none⟩ = some (.slice none 0 0) := bcell_row S56.out rfl
      have z2 : w6.cell? ⟨b6, 2, none⟩ = some (.slice none 0 0) := bcell_row S56.out rfl
      have fz : ∀ i, w6.frozen? ⟨b6, i, none⟩ = false := fun i => by simp [World.frozen?, S56.out]
      have S6 := Lib.hid (store3 S56.out (.slice Ar rs.length cr) (.slice (some ⟨bz, oz, none⟩) zs.length cz) (.slice Al ls.length cl))
      have S6g := Lib.hid (store3_gr (b := b6) S5g.out (by omega) (.slice Ar rs.length cr) (.slice (some ⟨bz, oz, none⟩) zs.length cz) (.slice Al ls.length cl))
      have S6q := Lib.hid ((store3_ne (W := w6) (b := b6) (c := q) (by omega) (.slice Ar rs.length cr) (.slice (some ⟨bz, oz, none⟩) zs.length cz) (.slice Al ls.length cl)).trans S5q.out)
      have S65 := Lib.hid ((store3_ne (W := w6) (b := b6) (c := b5) (by omega) (.slice Ar rs.length cr) (.slice (some ⟨bz, oz, none⟩) zs.length cz) (.slice Al ls.length cl)).trans S5.out)
      refine till_one (i := 5) (by kernel_rfl) rfl (fun K hK => ?_)
      go_simp
      clear z0 z1 z2 fz
      generalize (((w6.setCell ⟨b6, 0, none⟩ (.slice Ar rs.length cr)).setCell ⟨b6, 1, none⟩ (.slice (some ⟨bz, oz, none⟩) zs.length cz)).setCell ⟨b6, 2, none⟩ (.slice Al ls.length cl)) = w7 at S6 S6g S6q S65 hK ⊢
      refine hK.out _ _ (Or.inl (by kernel_rfl)) ?_
      clear hK K
      (try simp only [Act.put, List.setIfInBounds_toArray, List.set_cons_zero, List.set_cons_succ])
      refine till_done (by kernel_rfl) ?_ _
      refine NoPanic.normal ?_
      go_wp2_with fail
      go_meet
      exact ⟨b5, b6, rfl, rfl, by omega, by omega, by omega, by omega, by omega, S6g, S6q, S65, S6⟩
    · have N1 := Lib.hid (box_one w3 (.cells #[.slice none 0 0, .slice none 0 0, .slice none 0 0] 26))
      go_simp
      refine hK.out _ _ (Or.inr (bheap_gr N1.out.1 hHeld)) ?_
      clear hK K
      (try simp only [Act.put, List.setIfInBounds_toArray, List.set_cons_zero, List.set_cons_succ])
      generalize w3.alloc (.cells #[.slice none 0 0, .slice none 0 0, .slice none 0 0] 26) = w4 at N1 ⊢
      have ln1 : Hid (w.heap.size ≤ w3.heap.size ∧ q < w3.heap.size) := ⟨Below.size G3.out, (Array.getElem?_eq_some_iff.1 hHeld).1⟩
      generalize w3.heap.size = b6 at N1 ln1 ⊢
      have H4 := Lib.hid (bheap_gr N1.out.1 hHeld)
      have G4 := Lib.hid (G3.out.trans N1.out.1)
      have E1 := Lib.hid N1.out.2
      clear N1 hHeld
      have N2 := Lib.hid (box_one w4 (.cells #[.slice none 0 0, .slice none 0 0, .slice none 0 0] 26))
      refine till_one (i := 2) (by kernel_rfl) rfl (fun K hK => ?_)
      go_simp
      refine hK.out _ _ (Or.inr (bheap_gr N2.out.1 H4.out)) ?_
      clear hK K
      (try simp only [Act.put, List.setIfInBounds_toArray, List.set_cons_zero, List.set_cons_succ])
      generalize w4.alloc (.cells #[.slice none 0 0, .slice none 0 0, .slice none 0 0] 26) = w5 at N2 ⊢
      have ln2 : Hid (b6 < w4.heap.size ∧ w.heap.size ≤ w4.heap.size ∧ q < w4.heap.size) := ⟨(Array.getElem?_eq_some_iff.1 E1.out).1, Below.size G4.out, (Array.getElem?_eq_some_iff.1 H4.out).1⟩
      generalize w4.heap.size = b5 at N2 ln2 ⊢
      have H5 := Lib.hid (bheap_gr N2.out.1 H4.out)
      have G5 := Lib.hid (G4.out.trans N2.out.1)
      have E1' := Lib.hid (bheap_gr N2.out.1 E1.out)
      have E2 := Lib.hid N2.out.2
      clear N2 H4 E1
      have l1 := ln1.out
      have l2 := ln2.out
      clear ln1 ln2
      have z0 : w5.cell? ⟨b5, 0, none⟩ = some (.slice none 0 0) := bcell_row E2.out rfl
      have z1 : w5.cell? ⟨b5, 1, none⟩ = some (.slice none 0 0) := bcell_row E2.out rfl
      have z2 : w5.cell? ⟨b5, 2, none⟩ = some (.slice none 0 0) := bcell_row E2.out rfl
      have fz : ∀ i, w5.frozen? ⟨b5, i, none⟩ = false := fun i => by simp [World.frozen?, E2.out]
      have S5 := Lib.hid (store3 E2.out (.slice Ar rs.length cr) (.slice (some ⟨bz, oz, none⟩) zs.length cz) (.slice Al ls.length cl))
      have S5g := Lib.hid (store3_gr (b := b5) G5.out (by omega) (.slice Ar rs.length cr) (.slice (some ⟨bz, oz, none⟩) zs.length cz) (.slice Al ls.length cl))
      have S5q := Lib.hid ((store3_ne (W := w5) (b := b5) (c := q) (by omega) (.slice Ar rs.length cr) (.slice (some ⟨bz, oz, none⟩) zs.length cz) (.slice Al ls.length cl)).trans H5.out)
      have S56 := Lib.hid ((store3_ne (W := w5) (b := b5) (c := b6) (by omega) (.slice Ar rs.length cr) (.slice (some ⟨bz, oz, none⟩) zs.length cz) (.slice Al ls.length cl)).trans E1'.out)
      refine till_one (i := 4) (by kernel_rfl) rfl (fun K hK => ?_)
      go_simp
      clear z0 z1 z2 fz
      generalize (((w5.setCell ⟨b5, 0, none⟩ (.slice Ar rs.length cr)).setCell ⟨b5, 1, none⟩ (.slice (some ⟨bz, oz, none⟩) zs.length cz)).setCell ⟨b5, 2, none⟩ (.slice Al ls.length cl)) = w6 at S5 S5g S5q S56 hK ⊢
      refine hK.out _ _ (Or.inr S5q.out) ?_
      clear hK K
      (try simp only [Act.put, List.setIfInBounds_toArray, List.set_cons_zero, List.set_cons_succ])
      have z0 : w6.cell? ⟨b6, 0, none⟩ = some (.slice none 0 0) := bcell_row S56.out rfl
      have z1 : w6.cell? ⟨b6, 1, none⟩ = some (.slice none 0 0) := bcell_row S56.out rfl
      have z2 : w6.cell? ⟨b6, 2, none⟩ = some (.slice none 0 0) := bcell_row S56.out rfl
      have fz : ∀ i, w6.frozen? ⟨b6, i, none⟩ = false := fun i => by simp [World.frozen?, S56.out]
      have S6 := Lib.hid (store3 S56.out (.slice Ar rs.length cr) (.slice (some ⟨bz, oz, none⟩) zs.length cz) (.slice Al ls.length cl))
      have S6g := Lib.hid (store3_gr (b := b6) S5g.out (by omega) (.slice Ar rs.length cr) (.slice (some ⟨bz, oz, none⟩) zs.length cz) (.slice Al ls.length cl))
      have S6q := Lib.hid ((store3_ne (W := w6) (b := b6) (c := q) (by omega) (.slice Ar rs.length cr) (.slice (some ⟨bz, oz, none⟩) zs.length cz) (.slice Al ls.length cl)).trans S5q.out)
      have S65 := Lib.hid ((store3_ne (W := w6) (b := b6) (c := b5) (by omega) (.slice Ar rs.length cr) (.slice (some ⟨bz, oz, none⟩) zs.length cz) (.slice Al ls.length cl)).trans S5.out)
      refine till_one (i := 5) (by kernel_rfl) rfl (fun K hK => ?_)
      go_simp
      clear z0 z1 z2 fz
      generalize (((w6.setCell ⟨b6, 0, none⟩ (.slice Ar rs.length cr)).setCell ⟨b6, 1, none⟩ (.slice (some ⟨bz, oz, none⟩) zs.length cz)).setCell ⟨b6, 2, none⟩ (.slice Al ls.length cl)) = w7 at S6 S6g S6q S65 hK ⊢
      refine hK.out _ _ (Or.inl (by kernel_rfl)) ?_
      clear hK K
      (try simp only [Act.put, List.setIfInBounds_toArray, List.set_cons_zero, List.set_cons_succ])
      refine till_done (by kernel_rfl) ?_ _
      refine NoPanic.normal ?_
      go_wp2_with fail
      go_meet
      exact ⟨b5, b6, rfl, rfl, by omega, by omega, by omega, by omega, by omega, S6g, S6q, S65, S6⟩

  case rest =>
    obtain ⟨b5, b6, rfl, rfl, h56, hq5, hq6, hw5, hw6, GC, QC, B5, B6⟩ := hcut
    have HBS0 : ∃ B, wc.heap.size = B := ⟨_, rfl⟩
    obtain ⟨B, hB⟩ := HBS0
    have HBS : Hid (B ≤ wc.heap.size) := by unfold Hid; omega
    have l5 : b5 < B := by rw [← hB]; exact (Array.getElem?_eq_some_iff.1 B5.out).1
    have l6 : b6 < B := by rw [← hB]; exact (Array.getElem?_eq_some_iff.1 B6.out).1
    have hBw : Hid (w.heap.size ≤ B) := by unfold Hid; rw [← hB]; exact Below.size GC.out
    clear hB
    obtain ⟨iZ, hi, hz0', hz1, hz2⟩ := info_parts infoZone
    have Z1 := Lib.hid hi
    have Z2 := Lib.hid hz0'
    have Z3 := Lib.hid hz1
    have Z4 := Lib.hid hz2
    clear hi hz0' hz1 hz2
    obtain ⟨iL, hi, hz0', hz1, hz2⟩ := info_parts infoLink
    have L1 := Lib.hid hi
    have L2 := Lib.hid hz0'
    have L3 := Lib.hid hz1
    have L4 := Lib.hid hz2
    clear hi hz0' hz1 hz2
    go_upto_region 7 with fail
    go_cut [5] (fun s5 wx => ∃ g5 c5 : Nat, s5 = .pointer (some ⟨b5, 0, none⟩) ∧ Hid (Gr w wx) ∧ Hid (wx.heap[q]? = some (.cells #[.slice Ar rs.length cr, .slice (some ⟨bz, oz, none⟩) zs.length cz, .slice Al ls.length cl] 26 (0, 0))) ∧ Hid (wx.heap[b5]? = some (.cells #[.slice Ar rs.length cr, .slice (some ⟨g5, 0, none⟩) (zs.length + 1) c5, .slice Al ls.length cl] 26 (0, 0))) ∧ Hid (wx.heap[b6]? = some (.cells #[.slice Ar rs.length cr, .slice (some ⟨bz, oz, none⟩) zs.length cz, .slice Al ls.length cl] 26 (0, 0))) ∧ Hid (Own wx B 47 2 ZonD.cells (.slice (some ⟨g5, 0, none⟩) (zs.length + 1) c5) (zs ++ [⟨znm, zA, zc, ze⟩])))
    case first =>
      have czz := CZ.out wc GC.out
      refine wp_region_noPanic ?_
      refine till_start 11 (fun wx => wx.heap[q]? = some (.cells #[.slice Ar rs.length cr, .slice (some ⟨bz, oz, none⟩) zs.length cz, .slice Al ls.length cl] 26 (0, 0)) ∧ wx.cell? ⟨bz, oz + j * 2, none⟩ = some (.string znm) ∧ wx.cell? ⟨bz, oz + j * 2 + 1, none⟩ = some (.slice zA ze.length zc)) (by kernel_rfl) ⟨QC.out, czz.1, czz.2⟩ (fun hHeld => ?_)
      (try dsimp only at hHeld)
      have G8 := Lib.hid (GC.out.trans (Gr.drew wc))
      have D5 := Lib.hid (bheap_gr (Gr.drew wc) B5.out)
      have D6 := Lib.hid (bheap_gr (Gr.drew wc) B6.out)
      have hBl : Hid (B ≤ wc.drew.heap.size) := HBS
      generalize wc.drew = w8 at hHeld G8 D5 D6 hBl ⊢
      refine till_take (i := 0) (oi := { dst := some 37, op := _, type := _, pos := _, after := _, guard := _ }) (v := ?v3) rfl (by kernel_rfl) (by kernel_rfl) (by kernel_rfl) (by kernel_rfl) (fun _ _ _ h => h) (Or.inl ⟨by rfl, ?hy3⟩) (by assumption) ?rest3
      case hy3 => (intro w hSw; go_simp <;> (with_reducible rfl))
      (try simp only [Act.put, List.setIfInBounds_toArray, List.set_cons_zero, List.set_cons_succ])
      refine till_take (i := 1) (oi := { dst := some 38, op := _, type := _, pos := _, after := _, guard := _ }) (v := ?v4) rfl (by kernel_rfl) (by kernel_rfl) (by kernel_rfl) (by kernel_rfl) (fun _ _ _ h => h) (Or.inl ⟨by rfl, ?hy4⟩) (by assumption) ?rest4
      case hy4 => (intro w hSw; have d1 := bcell_row (i := 1) hSw.1 rfl; go_simp <;> (with_reducible rfl))
      (try simp only [Act.put, List.setIfInBounds_toArray, List.set_cons_zero, List.set_cons_succ])
      refine till_take (i := 3) (oi := { dst := some 40, op := _, type := _, pos := _, after := _, guard := _ }) (v := ?v5) rfl (by kernel_rfl) (by kernel_rfl) (by kernel_rfl) (by kernel_rfl) (fun _ _ _ h => h) (Or.inl ⟨by rfl, ?hy5⟩) (by assumption) ?rest5
      case hy5 => (intro w hSw; go_simp <;> (with_reducible rfl))
      (try simp only [Act.put, List.setIfInBounds_toArray, List.set_cons_zero, List.set_cons_succ])
      refine till_take (i := 4) (oi := { dst := some 41, op := _, type := _, pos := _, after := _, guard := _ }) (v := ?v6) rfl (by kernel_rfl) (by kernel_rfl) (by kernel_rfl) (by kernel_rfl) (fun _ _ _ h => h) (Or.inl ⟨by rfl, ?hy6⟩) (by assumption) ?rest6
      case hy6 => (intro w hSw; have d1 := bcell_row (i := 1) hSw.1 rfl; go_simp <;> (with_reducible rfl))
      (try simp only [Act.put, List.setIfInBounds_toArray, List.set_cons_zero, List.set_cons_succ])
      refine till_take (i := 5) (oi := { dst := some 42, op := _, type := _, pos := _, after := _, guard := _ }) (v := ?v7) rfl (by kernel_rfl) (by kernel_rfl) (by kernel_rfl) (by kernel_rfl) (fun _ _ _ h => h) (Or.inl ⟨by rfl, ?hy7⟩) (by assumption) ?rest7
      case hy7 => (intro w hSw; go_simp <;> (with_reducible rfl))
      (try simp only [Act.put, List.setIfInBounds_toArray, List.set_cons_zero, List.set_cons_succ])
      refine till_take (i := 6) (oi := { dst := some 43, op := _, type := _, pos := _, after := _, guard := _ }) (v := ?v8) rfl (by kernel_rfl) (by kernel_rfl) (by kernel_rfl) (by kernel_rfl) (fun _ _ _ h => h) (Or.inl ⟨by rfl, ?hy8⟩) (by assumption) ?rest8
      case hy8 => (intro w hSw; go_simp <;> (with_reducible rfl))
      (try simp only [Act.put, List.setIfInBounds_toArray, List.set_cons_zero, List.set_cons_succ])
      refine till_take (i := 7) (oi := { dst := some 44, op := _, type := _, pos := _, after := _, guard := _ }) (v := ?v9) rfl (by kernel_rfl) (by kernel_rfl) (by kernel_rfl) (by kernel_rfl) (fun _ _ _ h => h) (Or.inl ⟨by rfl, ?hy9⟩) (by assumption) ?rest9
      case hy9 => (intro w hSw; have e1 := hSw.2.1; have e2 := hSw.2.2; go_simp <;> (with_reducible rfl))
      (try simp only [Act.put, List.setIfInBounds_toArray, List.set_cons_zero, List.set_cons_succ])
      refine till_two (i := 2) (j := 8) (by kernel_rfl) rfl rfl (fun K hK => ?_) (fun K hK => ?_)
      · (refine step_copy _ (by rfl) _ _ 23 (by rfl) B 47 iZ (.agg #[.string .empty, .slice none 0 0]) 2 40 Tryz.underlying23 Z1.out Z2.out Z3.out Z4.out (by rfl) (by omega) ZonD.cells zo_len zo_one zs (some ⟨bz, oz, none⟩) cz (by rfl) (by rfl) (HB.out.2.1.2.1.gr G8.out) (by omega) (by omega) hBl.out ?_)
        intro v' wn10 hown10 hgr10
        have gn10 := gr_of_none hgr10
        refine hK.out _ _ (Or.inr ⟨bheap_gr gn10 hHeld.1, gn10.holds hHeld.2.1, gn10.holds hHeld.2.2⟩) ?_
        clear hK K
        (try simp only [Act.put, List.setIfInBounds_toArray, List.set_cons_zero, List.set_cons_succ])
        have hH10 := And.intro (bheap_gr gn10 hHeld.1) (And.intro (gn10.holds hHeld.2.1) (gn10.holds hHeld.2.2))
        have GN10 := Lib.hid (G8.out.trans gn10)
        have OW := Lib.hid hown10
        have M5 := Lib.hid (bheap_gr gn10 D5.out)
        have M6 := Lib.hid (bheap_gr gn10 D6.out)
        refine till_one (i := 8) (by kernel_rfl) rfl (fun K hK => ?_)
        have NB11 := Lib.hid (box_one wn10 (.cells #[.string znm, .slice zA ze.length zc] 47))
        go_simp
        refine hK.out _ _ (Or.inr ⟨bheap_gr NB11.out.1 hH10.1, NB11.out.1.holds hH10.2.1, NB11.out.1.holds hH10.2.2⟩) ?_
        clear hK K
        (try simp only [Act.put, List.setIfInBounds_toArray, List.set_cons_zero, List.set_cons_succ])
        generalize wn10.alloc (.cells #[.string znm, .slice zA ze.length zc] 47) = wn11 at NB11 ⊢
        generalize wn10.heap.size = q11 at NB11 ⊢
        have hH11 := And.intro (bheap_gr NB11.out.1 hH10.1) (And.intro (NB11.out.1.holds hH10.2.1) (NB11.out.1.holds hH10.2.2))
        have GN11 := Lib.hid (GN10.out.trans NB11.out.1)
        have NB := Lib.hid NB11.out.2
        have OW2 := Lib.hid (OW.out.gr NB11.out.1)
        have P5 := Lib.hid (bheap_gr NB11.out.1 M5.out)
        have P6 := Lib.hid (bheap_gr NB11.out.1 M6.out)
        have hBm : Hid (B ≤ wn11.heap.size) := by have a := (Array.getElem?_eq_some_iff.1 P5.out).1; exact Nat.le_trans hBl.out (by first | exact Below.size (gn10.trans NB11.out.1) | exact Nat.le_refl _)
        refine till_one (i := 9) (by kernel_rfl) rfl (fun K hK => ?_)
        (refine step_append_lies _ (by rfl) _ _ 23 (by rfl) B 47 iZ (.agg #[.string .empty, .slice none 0 0]) 2 40 Tryz.underlying23 Z1.out Z2.out Z3.out Z4.out (by rfl) (by omega) v' zs.length (zs.flatMap ZonD.cells) (by rfl) OW2.out ⟨q11, 0, none⟩ 1 1 [.string znm, .slice zA ze.length zc] (by rfl) (by rfl) (World.news_of_block NB.out) (zo_one ⟨znm, zA, zc, ze⟩) (by omega) (by unfold maxLen; omega) (by omega) hBm.out wn11.heap.size rfl ?_)
        intro g cap wA hown hgrow hat hlt
        have AB := Lib.hid (own_block_lt OW2.out)
        have KQ := Lib.hid ((hgrow.block q (by have := hBm.out; omega) (fun e => by have := (AB.out q e.symm).1; omega)).trans hH11.1)
        have K5 := Lib.hid ((hgrow.block b5 (by have := hBm.out; omega) (fun e => by have := (AB.out b5 e.symm).1; omega)).trans P5.out)
        have K6 := Lib.hid ((hgrow.block b6 (by have := hBm.out; omega) (fun e => by have := (AB.out b6 e.symm).1; omega)).trans P6.out)
        have GA := Lib.hid (grown_gr GN11.out hgrow (fun j hj => Nat.le_trans hBw.out (AB.out j hj).1))
        have cA := CZ.out wA GA.out
        refine hK.out _ _ (Or.inr ⟨KQ.out, cA.1, cA.2⟩) ?_
        clear hK K
        (try simp only [Act.put, List.setIfInBounds_toArray, List.set_cons_zero, List.set_cons_succ])
        have OA : Hid (Own wA B 47 2 ZonD.cells (.slice (some ⟨g, 0, none⟩) (zs.length + 1) cap) (zs ++ [⟨znm, zA, zc, ze⟩])) := own_more rfl hown
        refine till_one (i := 10) (by kernel_rfl) rfl (fun K hK => ?_)
        go_simp
        refine hK.out _ _ (Or.inr ⟨KQ.out, cA.1, cA.2⟩) ?_
        clear hK K
        (try simp only [Act.put, List.setIfInBounds_toArray, List.set_cons_zero, List.set_cons_succ])
        have zc1 : wA.cell? ⟨b5, 1, none⟩ = some (.slice (some ⟨bz, oz, none⟩) zs.length cz) := bcell_row K5.out rfl
        have fz1 : wA.frozen? ⟨b5, 1, none⟩ = false := by simp [World.frozen?, K5.out]
        have Z1 := Lib.hid (blk_set (j := 1) (u := .slice (some ⟨g, 0, none⟩) (zs.length + 1) cap) K5.out)
        have Z2 := Lib.hid ((heap_set_ne wA ⟨b5, 1, none⟩ (.slice (some ⟨g, 0, none⟩) (zs.length + 1) cap) (i := b6) (by show b6 ≠ b5; omega)).trans K6.out)
        have Z3 := Lib.hid ((heap_set_ne wA ⟨b5, 1, none⟩ (.slice (some ⟨g, 0, none⟩) (zs.length + 1) cap) (i := q) (by show q ≠ b5; omega)).trans KQ.out)
        have Z4 := Lib.hid (OA.out.far (q := ⟨b5, 1, none⟩) (.slice (some ⟨g, 0, none⟩) (zs.length + 1) cap) (far_pb OA.out (by omega)))
        have Z5 : Hid (Gr w (wA.setCell ⟨b5, 1, none⟩ (.slice (some ⟨g, 0, none⟩) (zs.length + 1) cap))) := Below.setCell GA.out (by show w.heap.size ≤ b5; omega) _
        refine till_one (i := 11) (by kernel_rfl) rfl (fun K hK => ?_)
        go_simp
        clear zc1 fz1
        generalize wA.setCell ⟨b5, 1, none⟩ (.slice (some ⟨g, 0, none⟩) (zs.length + 1) cap) = wB at Z1 Z2 Z3 Z4 Z5 hK ⊢
        refine hK.out _ _ (Or.inl (by kernel_rfl)) ?_
        clear hK K
        (try simp only [Act.put, List.setIfInBounds_toArray, List.set_cons_zero, List.set_cons_succ])
        refine till_done (by kernel_rfl) ?_ _
        refine NoPanic.normal ?_
        go_wp2_with fail
        go_meet
        exact ⟨g, cap, rfl, Z5, Z3, Z1, Z2, Z4⟩
      · have NB12 := Lib.hid (box_one w8 (.cells #[.string znm, .slice zA ze.length zc] 47))
        go_simp
        refine hK.out _ _ (Or.inr ⟨bheap_gr NB12.out.1 hHeld.1, NB12.out.1.holds hHeld.2.1, NB12.out.1.holds hHeld.2.2⟩) ?_
        clear hK K
        (try simp only [Act.put, List.setIfInBounds_toArray, List.set_cons_zero, List.set_cons_succ])
        generalize w8.alloc (.cells #[.string znm, .slice zA ze.length zc] 47) = wn12 at NB12 ⊢
        generalize w8.heap.size = q12 at NB12 ⊢
        have hH12 := And.intro (bheap_gr NB12.out.1 hHeld.1) (And.intro (NB12.out.1.holds hHeld.2.1) (NB12.out.1.holds hHeld.2.2))
        have GN12 := Lib.hid (G8.out.trans NB12.out.1)
        have NB := Lib.hid NB12.out.2
        have M5 := Lib.hid (bheap_gr NB12.out.1 D5.out)
        have M6 := Lib.hid (bheap_gr NB12.out.1 D6.out)
        have hBn := Lib.hid (Nat.le_trans hBl.out (Below.size NB12.out.1))
        refine till_one (i := 2) (by kernel_rfl) rfl (fun K hK => ?_)
        (refine step_copy _ (by rfl) _ _ 23 (by rfl) B 47 iZ (.agg #[.string .empty, .slice none 0 0]) 2 40 Tryz.underlying23 Z1.out Z2.out Z3.out Z4.out (by rfl) (by omega) ZonD.cells zo_len zo_one zs (some ⟨bz, oz, none⟩) cz (by rfl) (by rfl) (HB.out.2.1.2.1.gr GN12.out) (by omega) (by omega) hBn.out ?_)
        intro v' wn13 hown13 hgr13
        have gn13 := gr_of_none hgr13
        refine hK.out _ _ (Or.inr ⟨bheap_gr gn13 hH12.1, gn13.holds hH12.2.1, gn13.holds hH12.2.2⟩) ?_
        clear hK K
        (try simp only [Act.put, List.setIfInBounds_toArray, List.set_cons_zero, List.set_cons_succ])
        have hH13 := And.intro (bheap_gr gn13 hH12.1) (And.intro (gn13.holds hH12.2.1) (gn13.holds hH12.2.2))
        have GN13 := Lib.hid (GN12.out.trans gn13)
        have OW := Lib.hid hown13
        have OW2 := OW
        have NBo := NB
        clear NB
        have NB := Lib.hid (bheap_gr gn13 NBo.out)
        have P5 := Lib.hid (bheap_gr gn13 M5.out)
        have P6 := Lib.hid (bheap_gr gn13 M6.out)
        have hBm : Hid (B ≤ wn13.heap.size) := by have a := (Array.getElem?_eq_some_iff.1 P5.out).1; exact Nat.le_trans hBl.out (by first | exact Below.size (NB12.out.1.trans gn13) | exact Nat.le_refl _)
        refine till_one (i := 9) (by kernel_rfl) rfl (fun K hK => ?_)
        (refine step_append_lies _ (by rfl) _ _ 23 (by rfl) B 47 iZ (.agg #[.string .empty, .slice none 0 0]) 2 40 Tryz.underlying23 Z1.out Z2.out Z3.out Z4.out (by rfl) (by omega) v' zs.length (zs.flatMap ZonD.cells) (by rfl) OW2.out ⟨q12, 0, none⟩ 1 1 [.string znm, .slice zA ze.length zc] (by rfl) (by rfl) (World.news_of_block NB.out) (zo_one ⟨znm, zA, zc, ze⟩) (by omega) (by unfold maxLen; omega) (by omega) hBm.out wn13.heap.size rfl ?_)
        intro g cap wA hown hgrow hat hlt
        have AB := Lib.hid (own_block_lt OW2.out)
        have KQ := Lib.hid ((hgrow.block q (by have := hBm.out; omega) (fun e => by have := (AB.out q e.symm).1; omega)).trans hH13.1)
        have K5 := Lib.hid ((hgrow.block b5 (by have := hBm.out; omega) (fun e => by have := (AB.out b5 e.symm).1; omega)).trans P5.out)
        have K6 := Lib.hid ((hgrow.block b6 (by have := hBm.out; omega) (fun e => by have := (AB.out b6 e.symm).1; omega)).trans P6.out)
        have GA := Lib.hid (grown_gr GN13.out hgrow (fun j hj => Nat.le_trans hBw.out (AB.out j hj).1))
        have cA := CZ.out wA GA.out
        refine hK.out _ _ (Or.inr ⟨KQ.out, cA.1, cA.2⟩) ?_
        clear hK K
        (try simp only [Act.put, List.setIfInBounds_toArray, List.set_cons_zero, List.set_cons_succ])
        have OA : Hid (Own wA B 47 2 ZonD.cells (.slice (some ⟨g, 0, none⟩) (zs.length + 1) cap) (zs ++ [⟨znm, zA, zc, ze⟩])) := own_more rfl hown
        refine till_one (i := 10) (by kernel_rfl) rfl (fun K hK => ?_)
        go_simp
        refine hK.out _ _ (Or.inr ⟨KQ.out, cA.1, cA.2⟩) ?_
        clear hK K
        (try simp only [Act.put, List.setIfInBounds_toArray, List.set_cons_zero, List.set_cons_succ])
        have zc1 : wA.cell? ⟨b5, 1, none⟩ = some (.slice (some ⟨bz, oz, none⟩) zs.length cz) := bcell_row K5.out rfl
        have fz1 : wA.frozen? ⟨b5, 1, none⟩ = false := by simp [World.frozen?, K5.out]
        have Z1 := Lib.hid (blk_set (j := 1) (u := .slice (some ⟨g, 0, none⟩) (zs.length + 1) cap) K5.out)
        have Z2 := Lib.hid ((heap_set_ne wA ⟨b5, 1, none⟩ (.slice (some ⟨g, 0, none⟩) (zs.length + 1) cap) (i := b6) (by show b6 ≠ b5; omega)).trans K6.out)
        have Z3 := Lib.hid ((heap_set_ne wA ⟨b5, 1, none⟩ (.slice (some ⟨g, 0, none⟩) (zs.length + 1) cap) (i := q) (by show q ≠ b5; omega)).trans KQ.out)
        have Z4 := Lib.hid (OA.out.far (q := ⟨b5, 1, none⟩) (.slice (some ⟨g, 0, none⟩) (zs.length + 1) cap) (far_pb OA.out (by omega)))
        have Z5 : Hid (Gr w (wA.setCell ⟨b5, 1, none⟩ (.slice (some ⟨g, 0, none⟩) (zs.length + 1) cap))) := Below.setCell GA.out (by show w.heap.size ≤ b5; omega) _
        refine till_one (i := 11) (by kernel_rfl) rfl (fun K hK => ?_)
        go_simp
        clear zc1 fz1
        generalize wA.setCell ⟨b5, 1, none⟩ (.slice (some ⟨g, 0, none⟩) (zs.length + 1) cap) = wB at Z1 Z2 Z3 Z4 Z5 hK ⊢
        refine hK.out _ _ (Or.inl (by kernel_rfl)) ?_
        clear hK K
        (try simp only [Act.put, List.setIfInBounds_toArray, List.set_cons_zero, List.set_cons_succ])
        refine till_done (by kernel_rfl) ?_ _
        refine NoPanic.normal ?_
        go_wp2_with fail
        go_meet
        exact ⟨g, cap, rfl, Z5, Z3, Z1, Z2, Z4⟩

    case rest =>
      obtain ⟨g5, c5, rfl, GC, QC, B5, B6, OZ⟩ := hcut
      have HBS : Hid (B ≤ wc.heap.size) := by
        obtain ⟨_, hlt⟩ := own_block_lt OZ.out g5 rfl
        have := (own_block_lt OZ.out g5 rfl).1
        unfold Hid; omega
      go_upto_region 8 with fail
      go_cut [6] (fun s6 wx => ∃ g6 c6 : Nat, s6 = .pointer (some ⟨b6, 0, none⟩) ∧ Hid (Gr w wx) ∧ Hid (wx.heap[b5]? = some (.cells #[.slice Ar rs.length cr, .slice (some ⟨g5, 0, none⟩) (zs.length + 1) c5, .slice Al ls.length cl] 26 (0, 0))) ∧ Hid (wx.heap[b6]? = some (.cells #[.slice Ar rs.length cr, .slice (some ⟨bz, oz, none⟩) zs.length cz, .slice (some ⟨g6, 0, none⟩) (ls.length + 1) c6] 26 (0, 0))) ∧ Hid (Own wx B 47 2 ZonD.cells (.slice (some ⟨g5, 0, none⟩) (zs.length + 1) c5) (zs ++ [⟨znm, zA, zc, ze⟩])) ∧ Hid (Own wx B 49 2 LinD.cells (.slice (some ⟨g6, 0, none⟩) (ls.length + 1) c6) (ls ++ [⟨znm, znm⟩])))
      case first =>
        have czz := CZ.out wc GC.out
        refine wp_region_noPanic ?_
        refine till_start 19 (fun wx => wx.heap[q]? = some (.cells #[.slice Ar rs.length cr, .slice (some ⟨bz, oz, none⟩) zs.length cz, .slice Al ls.length cl] 26 (0, 0)) ∧ wx.cell? ⟨bz, oz + j * 2, none⟩ = some (.string znm) ∧ wx.cell? ⟨bz, oz + j * 2 + 1, none⟩ = some (.slice zA ze.length zc)) (by kernel_rfl) ⟨QC.out, czz.1, czz.2⟩ (fun hHeld => ?_)
        (try dsimp only at hHeld)
        have G8 := Lib.hid (GC.out.trans (Gr.drew wc))
        have D5 := Lib.hid (bheap_gr (Gr.drew wc) B5.out)
        have D6 := Lib.hid (bheap_gr (Gr.drew wc) B6.out)
        have OZ8 := Lib.hid (OZ.out.gr (Gr.drew wc))
        have hBl : Hid (B ≤ wc.drew.heap.size) := HBS
        generalize wc.drew = w8 at hHeld G8 D5 D6 hBl OZ8 ⊢
        refine till_take (i := 0) (oi := { dst := some 48, op := _, type := _, pos := _, after := _, guard := _ }) (v := ?v14) rfl (by kernel_rfl) (by kernel_rfl) (by kernel_rfl) (by kernel_rfl) (fun _ _ _ h => h) (Or.inl ⟨by rfl, ?hy14⟩) (by assumption) ?rest14
        case hy14 => (intro w hSw; go_simp <;> (with_reducible rfl))
        (try simp only [Act.put, List.setIfInBounds_toArray, List.set_cons_zero, List.set_cons_succ])
        refine till_take (i := 1) (oi := { dst := some 49, op := _, type := _, pos := _, after := _, guard := _ }) (v := ?v15) rfl (by kernel_rfl) (by kernel_rfl) (by kernel_rfl) (by kernel_rfl) (fun _ _ _ h => h) (Or.inl ⟨by rfl, ?hy15⟩) (by assumption) ?rest15
        case hy15 => (intro w hSw; have d2 := bcell_row (i := 2) hSw.1 rfl; go_simp <;> (with_reducible rfl))
        (try simp only [Act.put, List.setIfInBounds_toArray, List.set_cons_zero, List.set_cons_succ])
        refine till_take (i := 3) (oi := { dst := some 51, op := _, type := _, pos := _, after := _, guard := _ }) (v := ?v16) rfl (by kernel_rfl) (by kernel_rfl) (by kernel_rfl) (by kernel_rfl) (fun _ _ _ h => h) (Or.inl ⟨by rfl, ?hy16⟩) (by assumption) ?rest16
        case hy16 => (intro w hSw; go_simp <;> (with_reducible rfl))
        (try simp only [Act.put, List.setIfInBounds_toArray, List.set_cons_zero, List.set_cons_succ])
        refine till_take (i := 4) (oi := { dst := some 52, op := _, type := _, pos := _, after := _, guard := _ }) (v := ?v17) rfl (by kernel_rfl) (by kernel_rfl) (by kernel_rfl) (by kernel_rfl) (fun _ _ _ h => h) (Or.inl ⟨by rfl, ?hy17⟩) (by assumption) ?rest17
        case hy17 => (intro w hSw; have d1 := bcell_row (i := 1) hSw.1 rfl; go_simp <;> (with_reducible rfl))
        (try simp only [Act.put, List.setIfInBounds_toArray, List.set_cons_zero, List.set_cons_succ])
        refine till_take (i := 5) (oi := { dst := some 53, op := _, type := _, pos := _, after := _, guard := _ }) (v := ?v18) rfl (by kernel_rfl) (by kernel_rfl) (by kernel_rfl) (by kernel_rfl) (fun _ _ _ h => h) (Or.inl ⟨by rfl, ?hy18⟩) (by assumption) ?rest18
        case hy18 => (intro w hSw; go_simp <;> (with_reducible rfl))
        (try simp only [Act.put, List.setIfInBounds_toArray, List.set_cons_zero, List.set_cons_succ])
        refine till_take (i := 6) (oi := { dst := some 54, op := _, type := _, pos := _, after := _, guard := _ }) (v := ?v19) rfl (by kernel_rfl) (by kernel_rfl) (by kernel_rfl) (by kernel_rfl) (fun _ _ _ h => h) (Or.inl ⟨by rfl, ?hy19⟩) (by assumption) ?rest19
        case hy19 => (intro w hSw; go_simp <;> (with_reducible rfl))
        (try simp only [Act.put, List.setIfInBounds_toArray, List.set_cons_zero, List.set_cons_succ])
        refine till_take (i := 7) (oi := { dst := some 55, op := _, type := _, pos := _, after := _, guard := _ }) (v := ?v20) rfl (by kernel_rfl) (by kernel_rfl) (by kernel_rfl) (by kernel_rfl) (fun _ _ _ h => h) (Or.inl ⟨by rfl, ?hy20⟩) (by assumption) ?rest20
        case hy20 => (intro w hSw; go_simp <;> (with_reducible rfl))
        (try simp only [Act.put, List.setIfInBounds_toArray, List.set_cons_zero, List.set_cons_succ])
        refine till_take (i := 8) (oi := { dst := some 56, op := _, type := _, pos := _, after := _, guard := _ }) (v := ?v21) rfl (by kernel_rfl) (by kernel_rfl) (by kernel_rfl) (by kernel_rfl) (fun _ _ _ h => h) (Or.inl ⟨by rfl, ?hy21⟩) (by assumption) ?rest21
        case hy21 => (intro w hSw; have e1 := hSw.2.1; go_simp <;> (with_reducible rfl))
        (try simp only [Act.put, List.setIfInBounds_toArray, List.set_cons_zero, List.set_cons_succ])
        refine till_take (i := 9) (oi := { dst := some 57, op := _, type := _, pos := _, after := _, guard := _ }) (v := ?v22) rfl (by kernel_rfl) (by kernel_rfl) (by kernel_rfl) (by kernel_rfl) (fun _ _ _ h => h) (Or.inl ⟨by rfl, ?hy22⟩) (by assumption) ?rest22
        case hy22 => (intro w hSw; go_simp <;> (with_reducible rfl))
        (try simp only [Act.put, List.setIfInBounds_toArray, List.set_cons_zero, List.set_cons_succ])
        refine till_take (i := 10) (oi := { dst := some 58, op := _, type := _, pos := _, after := _, guard := _ }) (v := ?v23) rfl (by kernel_rfl) (by kernel_rfl) (by kernel_rfl) (by kernel_rfl) (fun _ _ _ h => h) (Or.inl ⟨by rfl, ?hy23⟩) (by assumption) ?rest23
        case hy23 => (intro w hSw; have d1 := bcell_row (i := 1) hSw.1 rfl; go_simp <;> (with_reducible rfl))
        (try simp only [Act.put, List.setIfInBounds_toArray, List.set_cons_zero, List.set_cons_succ])
        refine till_take (i := 11) (oi := { dst := some 59, op := _, type := _, pos := _, after := _, guard := _ }) (v := ?v24) rfl (by kernel_rfl) (by kernel_rfl) (by kernel_rfl) (by kernel_rfl) (fun _ _ _ h => h) (Or.inl ⟨by rfl, ?hy24⟩) (by assumption) ?rest24
        case hy24 => (intro w hSw; go_simp <;> (with_reducible rfl))
        (try simp only [Act.put, List.setIfInBounds_toArray, List.set_cons_zero, List.set_cons_succ])
        refine till_take (i := 12) (oi := { dst := some 60, op := _, type := _, pos := _, after := _, guard := _ }) (v := ?v25) rfl (by kernel_rfl) (by kernel_rfl) (by kernel_rfl) (by kernel_rfl) (fun _ _ _ h => h) (Or.inl ⟨by rfl, ?hy25⟩) (by assumption) ?rest25
        case hy25 => (intro w hSw; go_simp <;> (with_reducible rfl))
        (try simp only [Act.put, List.setIfInBounds_toArray, List.set_cons_zero, List.set_cons_succ])
        refine till_take (i := 13) (oi := { dst := some 61, op := _, type := _, pos := _, after := _, guard := _ }) (v := ?v26) rfl (by kernel_rfl) (by kernel_rfl) (by kernel_rfl) (by kernel_rfl) (fun _ _ _ h => h) (Or.inl ⟨by rfl, ?hy26⟩) (by assumption) ?rest26
        case hy26 => (intro w hSw; go_simp <;> (with_reducible rfl))
        (try simp only [Act.put, List.setIfInBounds_toArray, List.set_cons_zero, List.set_cons_succ])
        refine till_take (i := 14) (oi := { dst := some 62, op := _, type := _, pos := _, after := _, guard := _ }) (v := ?v27) rfl (by kernel_rfl) (by kernel_rfl) (by kernel_rfl) (by kernel_rfl) (fun _ _ _ h => h) (Or.inl ⟨by rfl, ?hy27⟩) (by assumption) ?rest27
        case hy27 => (intro w hSw; have e1 := hSw.2.1; go_simp <;> (with_reducible rfl))
        (try simp only [Act.put, List.setIfInBounds_toArray, List.set_cons_zero, List.set_cons_succ])
        refine till_take (i := 15) (oi := { dst := some 63, op := _, type := _, pos := _, after := _, guard := _ }) (v := ?v28) rfl (by kernel_rfl) (by kernel_rfl) (by kernel_rfl) (by kernel_rfl) (fun _ _ _ h => h) (Or.inl ⟨by rfl, ?hy28⟩) (by assumption) ?rest28
        case hy28 => (intro w hSw; go_simp <;> (with_reducible rfl))
        (try simp only [Act.put, List.setIfInBounds_toArray, List.set_cons_zero, List.set_cons_succ])
        refine till_two (i := 2) (j := 16) (by kernel_rfl) rfl rfl (fun K hK => ?_) (fun K hK => ?_)
        · (refine step_copy _ (by rfl) _ _ 24 (by rfl) B 49 iL (.agg #[.string .empty, .string .empty]) 2 32 Tryz.underlying24 L1.out L2.out L3.out L4.out (by rfl) (by omega) LinD.cells li_len li_one ls Al cl (by rfl) (by rfl) (HB.out.2.2.2.1.gr G8.out) (by omega) (by omega) hBl.out ?_)
          intro v' wn29 hown29 hgr29
          have gn29 := gr_of_none hgr29
          refine hK.out _ _ (Or.inr ⟨bheap_gr gn29 hHeld.1, gn29.holds hHeld.2.1, gn29.holds hHeld.2.2⟩) ?_
          clear hK K
          (try simp only [Act.put, List.setIfInBounds_toArray, List.set_cons_zero, List.set_cons_succ])
          have hH29 := And.intro (bheap_gr gn29 hHeld.1) (And.intro (gn29.holds hHeld.2.1) (gn29.holds hHeld.2.2))
          have GN29 := Lib.hid (G8.out.trans gn29)
          have OW := Lib.hid hown29
          have M5 := Lib.hid (bheap_gr gn29 D5.out)
          have M6 := Lib.hid (bheap_gr gn29 D6.out)
          have OZ9 := Lib.hid (OZ8.out.gr gn29)
          refine till_one (i := 16) (by kernel_rfl) rfl (fun K hK => ?_)
          have NB30 := Lib.hid (box_one wn29 (.cells #[.string znm, .string znm] 49))
          go_simp
          refine hK.out _ _ (Or.inr ⟨bheap_gr NB30.out.1 hH29.1, NB30.out.1.holds hH29.2.1, NB30.out.1.holds hH29.2.2⟩) ?_
          clear hK K
          (try simp only [Act.put, List.setIfInBounds_toArray, List.set_cons_zero, List.set_cons_succ])
          generalize wn29.alloc (.cells #[.string znm, .string znm] 49) = wn30 at NB30 ⊢
          generalize wn29.heap.size = q30 at NB30 ⊢
          have hH30 := And.intro (bheap_gr NB30.out.1 hH29.1) (And.intro (NB30.out.1.holds hH29.2.1) (NB30.out.1.holds hH29.2.2))
          have GN30 := Lib.hid (GN29.out.trans NB30.out.1)
          have NB := Lib.hid NB30.out.2
          have OW2 := Lib.hid (OW.out.gr NB30.out.1)
          have P5 := Lib.hid (bheap_gr NB30.out.1 M5.out)
          have P6 := Lib.hid (bheap_gr NB30.out.1 M6.out)
          have OZA := Lib.hid (OZ9.out.gr NB30.out.1)
          have hBm : Hid (B ≤ wn30.heap.size) := by have a := (Array.getElem?_eq_some_iff.1 P5.out).1; exact Nat.le_trans hBl.out (by first | exact Below.size (gn29.trans NB30.out.1) | exact Nat.le_refl _)
          refine till_one (i := 17) (by kernel_rfl) rfl (fun K hK => ?_)
          (refine step_append_lies _ (by rfl) _ _ 24 (by rfl) B 49 iL (.agg #[.string .empty, .string .empty]) 2 32 Tryz.underlying24 L1.out L2.out L3.out L4.out (by rfl) (by omega) v' ls.length (ls.flatMap LinD.cells) (by rfl) OW2.out ⟨q30, 0, none⟩ 1 1 [.string znm, .string znm] (by rfl) (by rfl) (World.news_of_block NB.out) (li_one ⟨znm, znm⟩) (by omega) (by unfold maxLen; omega) (by omega) hBm.out wn30.heap.size rfl ?_)
          intro g cap wA hown hgrow hat hlt
          have AB := Lib.hid (own_block_lt OW2.out)
          have KQ := Lib.hid ((hgrow.block q (by have := hBm.out; omega) (fun e => by have := (AB.out q e.symm).1; omega)).trans hH30.1)
          have K5 := Lib.hid ((hgrow.block b5 (by have := hBm.out; omega) (fun e => by have := (AB.out b5 e.symm).1; omega)).trans P5.out)
          have K6 := Lib.hid ((hgrow.block b6 (by have := hBm.out; omega) (fun e => by have := (AB.out b6 e.symm).1; omega)).trans P6.out)
          have GA := Lib.hid (grown_gr GN30.out hgrow (fun j hj => Nat.le_trans hBw.out (AB.out j hj).1))
          have cA := CZ.out wA GA.out
          refine hK.out _ _ (Or.inr ⟨KQ.out, cA.1, cA.2⟩) ?_
          clear hK K
          (try simp only [Act.put, List.setIfInBounds_toArray, List.set_cons_zero, List.set_cons_succ])
          have OZB := Lib.hid (OZA.out.kept hgrow (own_ne OZA.out OW2.out (by decide)))
          have OA : Hid (Own wA B 49 2 LinD.cells (.slice (some ⟨g, 0, none⟩) (ls.length + 1) cap) (ls ++ [⟨znm, znm⟩])) := own_more rfl hown
          refine till_one (i := 18) (by kernel_rfl) rfl (fun K hK => ?_)
          go_simp
          refine hK.out _ _ (Or.inr ⟨KQ.out, cA.1, cA.2⟩) ?_
          clear hK K
          (try simp only [Act.put, List.setIfInBounds_toArray, List.set_cons_zero, List.set_cons_succ])
          have zc1 : wA.cell? ⟨b6, 2, none⟩ = some (.slice Al ls.length cl) := bcell_row K6.out rfl
          have fz1 : wA.frozen? ⟨b6, 2, none⟩ = false := by simp [World.frozen?, K6.out]
          have Z1 := Lib.hid (blk_set (j := 2) (u := .slice (some ⟨g, 0, none⟩) (ls.length + 1) cap) K6.out)
          have Z2 := Lib.hid ((heap_set_ne wA ⟨b6, 2, none⟩ (.slice (some ⟨g, 0, none⟩) (ls.length + 1) cap) (i := b5) (by show b5 ≠ b6; omega)).trans K5.out)
          have Z3 := Lib.hid ((heap_set_ne wA ⟨b6, 2, none⟩ (.slice (some ⟨g, 0, none⟩) (ls.length + 1) cap) (i := q) (by show q ≠ b6; omega)).trans KQ.out)
          have Z4 := Lib.hid (OA.out.far (q := ⟨b6, 2, none⟩) (.slice (some ⟨g, 0, none⟩) (ls.length + 1) cap) (far_pb OA.out (by omega)))
          have Z5 : Hid (Gr w (wA.setCell ⟨b6, 2, none⟩ (.slice (some ⟨g, 0, none⟩) (ls.length + 1) cap))) := Below.setCell GA.out (by show w.heap.size ≤ b6; omega) _
          have Z6 := Lib.hid (OZB.out.far (q := ⟨b6, 2, none⟩) (.slice (some ⟨g, 0, none⟩) (ls.length + 1) cap) (far_pb OZB.out (by omega)))
          refine till_one (i := 19) (by kernel_rfl) rfl (fun K hK => ?_)
          go_simp
          clear zc1 fz1
          generalize wA.setCell ⟨b6, 2, none⟩ (.slice (some ⟨g, 0, none⟩) (ls.length + 1) cap) = wB at Z1 Z2 Z3 Z4 Z5 Z6 hK ⊢
          refine hK.out _ _ (Or.inl (by kernel_rfl)) ?_
          clear hK K
          (try simp only [Act.put, List.setIfInBounds_toArray, List.set_cons_zero, List.set_cons_succ])
          refine till_done (by kernel_rfl) ?_ _
          refine NoPanic.normal ?_
          go_wp2_with fail
          go_meet
          exact ⟨g, cap, rfl, Z5, Z2, Z1, Z6, Z4⟩
        · have NB31 := Lib.hid (box_one w8 (.cells #[.string znm, .string znm] 49))
          go_simp
          refine hK.out _ _ (Or.inr ⟨bheap_gr NB31.out.1 hHeld.1, NB31.out.1.holds hHeld.2.1, NB31.out.1.holds hHeld.2.2⟩) ?_
          clear hK K
          (try simp only [Act.put, List.setIfInBounds_toArray, List.set_cons_zero, List.set_cons_succ])
          generalize w8.alloc (.cells #[.string znm, .string znm] 49) = wn31 at NB31 ⊢
          generalize w8.heap.size = q31 at NB31 ⊢
          have hH31 := And.intro (bheap_gr NB31.out.1 hHeld.1) (And.intro (NB31.out.1.holds hHeld.2.1) (NB31.out.1.holds hHeld.2.2))
          have GN31 := Lib.hid (G8.out.trans NB31.out.1)
          have NB := Lib.hid NB31.out.2
          have M5 := Lib.hid (bheap_gr NB31.out.1 D5.out)
          have M6 := Lib.hid (bheap_gr NB31.out.1 D6.out)
          have hBn := Lib.hid (Nat.le_trans hBl.out (Below.size NB31.out.1))
          have OZ9 := Lib.hid (OZ8.out.gr NB31.out.1)
          refine till_one (i := 2) (by kernel_rfl) rfl (fun K hK => ?_)
          (refine step_copy _ (by rfl) _ _ 24 (by rfl) B 49 iL (.agg #[.string .empty, .string .empty]) 2 32 Tryz.underlying24 L1.out L2.out L3.out L4.out (by rfl) (by omega) LinD.cells li_len li_one ls Al cl (by rfl) (by rfl) (HB.out.2.2.2.1.gr GN31.out) (by omega) (by omega) hBn.out ?_)
          intro v' wn32 hown32 hgr32
          have gn32 := gr_of_none hgr32
          refine hK.out _ _ (Or.inr ⟨bheap_gr gn32 hH31.1, gn32.holds hH31.2.1, gn32.holds hH31.2.2⟩) ?_
          clear hK K
          (try simp only [Act.put, List.setIfInBounds_toArray, List.set_cons_zero, List.set_cons_succ])
          have hH32 := And.intro (bheap_gr gn32 hH31.1) (And.intro (gn32.holds hH31.2.1) (gn32.holds hH31.2.2))
          have GN32 := Lib.hid (GN31.out.trans gn32)
          have OW := Lib.hid hown32
          have OW2 := OW
          have NBo := NB
          clear NB
          have NB := Lib.hid (bheap_gr gn32 NBo.out)
          have P5 := Lib.hid (bheap_gr gn32 M5.out)
          have P6 := Lib.hid (bheap_gr gn32 M6.out)
          have OZA := Lib.hid (OZ9.out.gr gn32)
          have hBm : Hid (B ≤ wn32.heap.size) := by have a := (Array.getElem?_eq_some_iff.1 P5.out).1; exact Nat.le_trans hBl.out (by first | exact Below.size (NB31.out.1.trans gn32) | exact Nat.le_refl _)
          refine till_one (i := 17) (by kernel_rfl) rfl (fun K hK => ?_)
          (refine step_append_lies _ (by rfl) _ _ 24 (by rfl) B 49 iL (.agg #[.string .empty, .string .empty]) 2 32 Tryz.underlying24 L1.out L2.out L3.out L4.out (by rfl) (by omega) v' ls.length (ls.flatMap LinD.cells) (by rfl) OW2.out ⟨q31, 0, none⟩ 1 1 [.string znm, .string znm] (by rfl) (by rfl) (World.news_of_block NB.out) (li_one ⟨znm, znm⟩) (by omega) (by unfold maxLen; omega) (by omega) hBm.out wn32.heap.size rfl ?_)
          intro g cap wA hown hgrow hat hlt
          have AB := Lib.hid (own_block_lt OW2.out)
          have KQ := Lib.hid ((hgrow.block q (by have := hBm.out; omega) (fun e => by have := (AB.out q e.symm).1; omega)).trans hH32.1)
          have K5 := Lib.hid ((hgrow.block b5 (by have := hBm.out; omega) (fun e => by have := (AB.out b5 e.symm).1; omega)).trans P5.out)
          have K6 := Lib.hid ((hgrow.block b6 (by have := hBm.out; omega) (fun e => by have := (AB.out b6 e.symm).1; omega)).trans P6.out)
          have GA := Lib.hid (grown_gr GN32.out hgrow (fun j hj => Nat.le_trans hBw.out (AB.out j hj).1))
          have cA := CZ.out wA GA.out
          refine hK.out _ _ (Or.inr ⟨KQ.out, cA.1, cA.2⟩) ?_
          clear hK K
          (try simp only [Act.put, List.setIfInBounds_toArray, List.set_cons_zero, List.set_cons_succ])
          have OZB := Lib.hid (OZA.out.kept hgrow (own_ne OZA.out OW2.out (by decide)))
          have OA : Hid (Own wA B 49 2 LinD.cells (.slice (some ⟨g, 0, none⟩) (ls.length + 1) cap) (ls ++ [⟨znm, znm⟩])) := own_more rfl hown
          refine till_one (i := 18) (by kernel_rfl) rfl (fun K hK => ?_)
          go_simp
          refine hK.out _ _ (Or.inr ⟨KQ.out, cA.1, cA.2⟩) ?_
          clear hK K
          (try simp only [Act.put, List.setIfInBounds_toArray, List.set_cons_zero, List.set_cons_succ])
          have zc1 : wA.cell? ⟨b6, 2, none⟩ = some (.slice Al ls.length cl) := bcell_row K6.out rfl
          have fz1 : wA.frozen? ⟨b6, 2, none⟩ = false := by simp [World.frozen?, K6.out]
          have Z1 := Lib.hid (blk_set (j := 2) (u := .slice (some ⟨g, 0, none⟩) (ls.length + 1) cap) K6.out)
          have Z2 := Lib.hid ((heap_set_ne wA ⟨b6, 2, none⟩ (.slice (some ⟨g, 0, none⟩) (ls.length + 1) cap) (i := b5) (by show b5 ≠ b6; omega)).trans K5.out)
          have Z3 := Lib.hid ((heap_set_ne wA ⟨b6, 2, none⟩ (.slice (some ⟨g, 0, none⟩) (ls.length + 1) cap) (i := q) (by show q ≠ b6; omega)).trans KQ.out)
          have Z4 := Lib.hid (OA.out.far (q := ⟨b6, 2, none⟩) (.slice (some ⟨g, 0, none⟩) (ls.length + 1) cap) (far_pb OA.out (by omega)))
          have Z5 : Hid (Gr w (wA.setCell ⟨b6, 2, none⟩ (.slice (some ⟨g, 0, none⟩) (ls.length + 1) cap))) := Below.setCell GA.out (by show w.heap.size ≤ b6; omega) _
          have Z6 := Lib.hid (OZB.out.far (q := ⟨b6, 2, none⟩) (.slice (some ⟨g, 0, none⟩) (ls.length + 1) cap) (far_pb OZB.out (by omega)))
          refine till_one (i := 19) (by kernel_rfl) rfl (fun K hK => ?_)
          go_simp
          clear zc1 fz1
          generalize wA.setCell ⟨b6, 2, none⟩ (.slice (some ⟨g, 0, none⟩) (ls.length + 1) cap) = wB at Z1 Z2 Z3 Z4 Z5 Z6 hK ⊢
          refine hK.out _ _ (Or.inl (by kernel_rfl)) ?_
          clear hK K
          (try simp only [Act.put, List.setIfInBounds_toArray, List.set_cons_zero, List.set_cons_succ])
          refine till_done (by kernel_rfl) ?_ _
          refine NoPanic.normal ?_
          go_wp2_with fail
          go_meet
          exact ⟨g, cap, rfl, Z5, Z2, Z1, Z6, Z4⟩

      case rest =>
        obtain ⟨g6, c6, rfl, GC, B5, B6, OZ, OL⟩ := hcut
        have K1 : Hid (∀ W, Gr wc W → Calls Tryz.prog 17 #[.agg #[.slice Ar rs.length cr, .slice (some ⟨g5, 0, none⟩) (zs.length + 1) c5, .slice Al ls.length cl]] W fun e w' => e = .returned (.int .i64 7) ∧ Gr W w') := fun W g => by
          have hz := OZ.out.gr g
          have ha : BokD.At W ⟨Ar, cr, rs, some ⟨g5, 0, none⟩, c5, zs ++ [⟨znm, zA, zc, ze⟩], Al, cl, ls⟩ := by
            refine ⟨(HB.out.gr (GC.out.trans g)).1, ⟨?_, hz.row zo_len, fun y hy => ?_⟩, (HB.out.gr (GC.out.trans g)).2.2⟩
            · obtain ⟨A', c', e', d1, d2, _⟩ := hz.form
              injection e' with _ _ ec
              subst ec
              exact ⟨d1, d2⟩
            · rcases List.mem_append.1 hy with hy | hy
              · exact (HB.out.gr (GC.out.trans g)).2.1.2.2 y hy
              · have : y = ⟨znm, zA, zc, ze⟩ := by simpa using hy
                subst this
                exact (HB.out.gr (GC.out.trans g)).2.1.2.2 _ (get_mem HZ.out)
          have := KC.out _ W (GC.out.trans g) ha
          simp only [TZ2.out] at this
          have hv : bookV ⟨Ar, cr, rs, some ⟨g5, 0, none⟩, c5, zs ++ [⟨znm, zA, zc, ze⟩], Al, cl, ls⟩ = .agg #[.slice Ar rs.length cr, .slice (some ⟨g5, 0, none⟩) (zs.length + 1) c5, .slice Al ls.length cl] := by simp [bookV]
          rw [hv] at this
          exact this
        have K2 : Hid (∀ W, Gr wc W → Calls Tryz.prog 17 #[.agg #[.slice Ar rs.length cr, .slice (some ⟨bz, oz, none⟩) zs.length cz, .slice (some ⟨g6, 0, none⟩) (ls.length + 1) c6]] W fun e w' => e = .returned (.int .i64 7) ∧ Gr W w') := fun W g => by
          have hz := OL.out.gr g
          have ha : BokD.At W ⟨Ar, cr, rs, some ⟨bz, oz, none⟩, cz, zs, some ⟨g6, 0, none⟩, c6, ls ++ [⟨znm, znm⟩]⟩ := by
            refine ⟨(HB.out.gr (GC.out.trans g)).1, (HB.out.gr (GC.out.trans g)).2.1, ⟨?_, hz.row li_len, fun y hy => ?_⟩⟩
            · obtain ⟨A', c', e', d1, d2, _⟩ := hz.form
              injection e' with _ _ ec
              subst ec
              exact ⟨d1, d2⟩
            · rcases List.mem_append.1 hy with hy | hy
              · exact HB.out.2.2.2.2 y hy
              · have : y = ⟨znm, znm⟩ := by simpa using hy
                subst this
                have := (HB.out.2.1.2.2 _ (get_mem HZ.out)).1
                exact ⟨this, this⟩
          have := KC.out _ W (GC.out.trans g) ha
          simp only [TL2.out] at this
          have hv : bookV ⟨Ar, cr, rs, some ⟨bz, oz, none⟩, cz, zs, some ⟨g6, 0, none⟩, c6, ls ++ [⟨znm, znm⟩]⟩ = .agg #[.slice Ar rs.length cr, .slice (some ⟨bz, oz, none⟩) zs.length cz, .slice (some ⟨g6, 0, none⟩) (ls.length + 1) c6] := by simp [bookV]
          rw [hv] at this
          exact this
        have y0 : wc.cell? ⟨b5, 0, none⟩ = some (.slice Ar rs.length cr) := bcell_row B5.out rfl
        have y1 : wc.cell? ⟨b5, 1, none⟩ = some (.slice (some ⟨g5, 0, none⟩) (zs.length + 1) c5) := bcell_row B5.out rfl
        have y2 : wc.cell? ⟨b5, 2, none⟩ = some (.slice Al ls.length cl) := bcell_row B5.out rfl
        go_wp2_with fail
        clear y0 y1 y2
        refine (K1.out wc (Gr.refl _)).mono ?_
        rintro e wd ⟨rfl, gd⟩
        have y0 : wd.cell? ⟨b6, 0, none⟩ = some (.slice Ar rs.length cr) := bcell_row (bheap_gr gd B6.out) rfl
        have y1 : wd.cell? ⟨b6, 1, none⟩ = some (.slice (some ⟨bz, oz, none⟩) zs.length cz) := bcell_row (bheap_gr gd B6.out) rfl
        have y2 : wd.cell? ⟨b6, 2, none⟩ = some (.slice (some ⟨g6, 0, none⟩) (ls.length + 1) c6) := bcell_row (bheap_gr gd B6.out) rfl
        have GD := Lib.hid gd
        clear gd
        go_wp2_with fail
        clear y0 y1 y2
        refine (K2.out wd GD.out).mono ?_
        rintro e we ⟨rfl, ge⟩
        go_wp2_with fail
        go_ret
        exact ⟨rfl, (GC.out.trans GD.out).trans ge⟩

set_option maxRecDepth 100000 in
theorem contract (H : Type) (enc : TypeId × Value → H) (W : World) (base : Nat) (args : Array Value) (ds gs : List (DataW H)) (before : List MemPlace)
    (hval : ∀ (j : Nat) t v, Tryz.f9.params[j]? = some t → args[j]? = some v → Value.okWide Tryz.prog W .any base t v)
    (hW : DataW.Whole enc Tryz.prog Tryz.f9.params.toList Rows.bookTwiceSpec.vars false W args.toList ds gs before) (hL : laidMet Tryz.prog Rows.bookTwiceRow.laid W) (hsh : W.ShapedOpen Tryz.prog) :
    Calls Tryz.prog 9 args W fun e W' => ∃ v, e = .returned v ∧ Rows.bookTwiceSpec.post enc Tryz.prog Tryz.f9 false true false false W args v W' := by
  have hW' := hW
  obtain ⟨p, q, hA0, hV, rfl, hfz, hnd⟩ := hW
  have hA : DataW.TrodAll enc Tryz.prog W 0 (fun _ => true) true Tryz.f9.params.toList args.toList ds p := hA0
  rw [Tryz.params9] at hA hval
  obtain ⟨v0, vs0, d0, ds0, p0, q0, hargs, rfl, rfl, h0, r0⟩ := trodAll_cons hA
  obtain ⟨v1, vs1, d1, ds1, p1, q1, rfl, rfl, rfl, h1, r1⟩ := trodAll_cons r0
  obtain ⟨rfl, rfl, rfl⟩ := trodAll_nil r1
  obtain rfl : args = #[v0, v1] := by cases args; simp_all
  obtain ⟨rfl, rfl⟩ := trodVars_none hV
  obtain ⟨bk0, rfl, bi0⟩ := open_book (hval 0 26 v0 rfl rfl) h0
  obtain ⟨a1, rfl, rfl, rfl, w1⟩ := open_int Tryz.underlying3 (hval 1 3 v1 rfl rfl) h1
  clear hA0
  simp only [List.append_nil] at hW'
  refine (walk bk0 a1 (bounds_i64 w1).1 (bounds_i64 w1).2 W bi0 ⟨⟨⟨pow_of hL (List.mem_of_getElem? (i := 2) rfl), wk_of hL (List.mem_of_getElem? (i := 7) rfl)⟩, syn_of hL (List.mem_of_getElem? (i := 6) rfl), rng_of hL (List.mem_of_getElem? (i := 5) rfl), max_of hsh⟩, ⟨lens_of hL (List.mem_of_getElem? (i := 3) rfl), ⟨pow_of hL (List.mem_of_getElem? (i := 2) rfl), wk_of hL (List.mem_of_getElem? (i := 7) rfl)⟩, cl_of hL (List.mem_of_getElem? (i := 8) rfl)⟩⟩ ⟨lens_of hL (List.mem_of_getElem? (i := 3) rfl), pow_of hL (List.mem_of_getElem? (i := 2) rfl), max_of hsh⟩).mono fun e W' ⟨he, hg⟩ => ?_
  subst he
  exact ⟨_, rfl, post_of_below (pa := (p0 ++ ([] ++ []))) (pv := []) hW' (fun _ _ _ => trodAll_cons_mk (shut_bool Tryz.underlying4 _) trodAll_mk0) (fun _ hsp => (trodAll_cons_mk (stays book_reads h0 hg (fun p hp => by simp [hp]) (fun p hp => hW'.lt p hp) hsp) (trodAll_cons_mk (shut_int Tryz.underlying3 w1) trodAll_mk0))) (fun _ _ => rfl) (by simp)
    hg (ok_one (by kernel_rfl) rfl (okWide_bool_mk Tryz.underlying4 _))⟩

/-- A world for the witness: the settled one, the listed variables holding what their initialisers lay. -/
noncomputable def laidWorld (os : Os) : World := put (put (put (putErr (putErr (put (put (put (put (put (bare os) 7 (flat1 Rows.laid_math_bits_deBruijn32tab)) 8 (flat1 Rows.laid_math_bits_deBruijn64tab)) 6 (flat1 Rows.laid_internal_strconv_uint64pow10)) 3 (flat1 Rows.laid_timeball_civil_lengths)) 5 (flat2 Rows.laid_unicode_utf8_acceptRanges)) 10 (textOf Rows.laid_strconv_ErrRange)) 9 (textOf Rows.laid_strconv_ErrSyntax)) 2 (flat1 Rows.laid_timeball_day_weekdays)) 0 (flat1 Rows.laid_timeball_rule_clockLetters)) 4 (flat1 Rows.laid_unicode_utf8_first)
set_option maxRecDepth 100000 in
theorem laid_met (os : Os) : laidMet Tryz.prog Rows.bookTwiceRow.laid ((laidWorld os).forCall (fun _ _ => 0) ⟨#[], #[.agg #[.slice none 0 0, .slice none 0 0, .slice none 0 0], .int .i64 0], []⟩).memory :=
  laidMet_of_run3 8 (by kernel_rfl) (by kernel_rfl) (by kernel_rfl)
theorem reads (os : Os) {H : Type} (enc : TypeId × Value → H) : ∃ places, DataW.whole enc Tryz.prog ((laidWorld os).forCall (fun _ _ => 0) ⟨#[], #[.agg #[.slice none 0 0, .slice none 0 0, .slice none 0 0], .int .i64 0], []⟩).memory Tryz.f9.params.toList Rows.bookTwiceSpec.vars false #[Value.agg #[.slice none 0 0, .slice none 0 0, .slice none 0 0], Value.int .i64 0].toList 8 = some ([.agg [.nil, .nil, .nil], .lit (.int .i64 0)], [], places) :=
  ⟨[], by kernel_rfl⟩

set_option maxRecDepth 100000 in
theorem lifted (os : Os) (started : os.Started) (H : Type) (enc : TypeId × Value → H) (F : Stop.Interp) :
    ReturnsInHanded {} Tryz.checked os 9 .any ((OpenSpec.ofChange Rows.bookTwiceSpec).preRow enc Tryz.prog Tryz.f9 Rows.bookTwiceRow.domain false Rows.bookTwiceRow.laid) (((OpenSpec.ofChange Rows.bookTwiceSpec).at F).post enc Tryz.prog Tryz.f9 false true false false) := by
  obtain ⟨places, hx⟩ := reads os enc
  refine returnsInHanded_of_row (C := Tryz.checked) (s := OpenSpec.ofChange Rows.bookTwiceSpec) own started (by kernel_rfl) Tryz.func9
    (witness_row_at (enc := enc) (C := Tryz.checked) false (laidWorld os) #[.agg #[.slice none 0 0, .slice none 0 0, .slice none 0 0], .int .i64 0] rfl (by kernel_rfl) (by kernel_rfl) (by kernel_rfl)
      (OpenSpec.preRow_of_cond 8 hx (by kernel_rfl) (fun k hk => by cases hk) (by kernel_rfl) (laid_met os))) ?_
  intro W base args ds gs before hval hW _ _ _ hL hsh _
  exact contract H enc W base args ds gs before hval hW hL hsh

theorem said : Rows.BookTwiceSaid :=
  OpenClaim.holds_of_cond 9 Tryz.f9 rfl rfl rfl rfl rfl rfl rfl ⟨rfl, rfl, rfl, rfl, rfl⟩ rfl rfl rfl rfl rfl (by kernel_rfl) Tryz.func9 (by kernel_rfl)
    (of_decide_eq_true (by kernel_rfl)) (by unfold Func.isWrapper; first | (rw [if_pos (by decide +kernel)]; kernel_rfl) | (rw [if_neg (by decide +kernel)]; exact ⟨rfl, rfl⟩))
    (fun os started H enc _ F => by rw [OpenClaim.pre_eq_preRow]; exact lifted os started H enc F)

set_option maxRecDepth 100000 in
/-- No parameter wants a stand-in; whether the program has looks of its own. -/
theorem plain (f : FuncId) (fn : Func) (hf : Tryz.pinned.checked.prog.funcNamed "timeball/timeballkeep.BookTwice" = some f) (hfn : Tryz.pinned.checked.prog.funcs[f]? = some fn) :
    true = Tryz.pinned.checked.prog.looks [] ∧ ∀ (j : Nat) t, fn.params[j]? = some t → Tryz.pinned.checked.prog.wantsStandIn t = false := by
  obtain rfl : f = 9 := Option.some.inj ((show Tryz.prog.funcNamed "timeball/timeballkeep.BookTwice" = some 9 by kernel_rfl).symm.trans hf) |>.symm
  obtain rfl : fn = Tryz.f9 := (Option.some.inj (Tryz.func9.symm.trans hfn)).symm
  refine ⟨by kernel_rfl, fun j t ht => ?_⟩
  rw [Tryz.params9] at ht
  have hm : t = 3 ∨ t = 26 := by have := Array.mem_of_getElem? ht; simp at this; first | exact this | exact this.symm | (rcases this with h | h | h <;> simp [h]) | omega
  rcases hm with rfl | rfl
  · exact (show Tryz.prog.wantsStandIn 3 = false by kernel_rfl)
  · exact (show Tryz.prog.wantsStandIn 26 = false by kernel_rfl)

end Go.Proofs.YtmemgpmijphkmaaGreatDoor.bookTwice
namespace Go.Proofs.YtmemgpmijphkmaaGreatDoor
/-- The card. -/
theorem bookTwice_holds : Rows.BookTwiceCardSaid :=
  Claim7.holds_tied_plain_at .later [] _ _ _ _ bookTwice.said (fun _ h => by cases h) (by kernel_rfl) (fun _ h => by cases h) bookTwice_row_tie rfl ⟨rfl, rfl⟩ (by kernel_rfl) rfl bookTwice.plain (by kernel_rfl)
end Go.Proofs.YtmemgpmijphkmaaGreatDoor
