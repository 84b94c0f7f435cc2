/- The law StateUntil of package timeballkeep returns true for every input and leaves its arguments as they were: Just ahead of the end of an era it applies, at its end the next one does. Condition: the listed variables (math/bits.deBruijn32tab, math/bits.deBruijn64tab, internal/strconv.uint64pow10, timeball/civil.lengths, unicode/utf8.acceptRanges, unicode/utf8.first) lie as their initialisers lay them; the card ties that tto the program's text. -/
import Derived.Test.YtbagdlafpahgdaaGreatDoorCards
import Derived.Test.YtbagdlafpahgdaaGreatDoorTie
import Derived.Test.YtbagdlafpahgdaaGreatDoorRM32
import Derived.Test.YtbagdlafpahgdaaGreatDoorRM51
import Derived.Test.YtbagdlafpahgdaaGreatDoorRM45
import Derived.Test.YtbagdlafpahgdaaGreatDoorRM30
namespace Go.Proofs.YtbagdlafpahgdaaGreatDoor.stateUntil
open Go.ChangeShapes Go.WideShapes Go.ChangeAt Go.RowKit
open Go.ChangeMaps (open_string shut_string)
set_option linter.unusedVariables false
set_option linter.unusedSimpArgs false
set_option maxRecDepth 100000 in
set_option maxHeartbeats 16000000 in
theorem walk (b : BokD) (nm : ByteArray) (hn : nm.size ≤ maxLen) (k0 : Int) (hf1 : -9223372036854775808 ≤ k0) (hf2 : k0 ≤ 9223372036854775807) (w : World) (hb : b.At w) (ht : BkTab w) :
    Calls Tryz.prog 6 #[bookV b, .string nm, .int .i64 k0] w fun e w' => e = .returned (.bool true) ∧ Gr w w' := by
  have KS := Lib.hid (fun W (g : Gr w W) => pstated W (g.bk ht))
  have KR := Lib.hid (fun W (g : Gr w W) => presolve b nm W (hb.gr g) hn (g.bk ht))
  have KQ := Lib.hid (fun m W h1 h2 => rest_q k0 m W hf1 hf2 h1 h2)
  have KP := Lib.hid (fun t W (g : Gr w W) t1 t2 => pAt b nm t W (hb.gr g) hn t1 t2 (g.bk ht))
  have KA := Lib.hid (fun bb t W (g : Gr w W) (ha : BokD.At W bb) t1 t2 => pAt bb (S [90]) t W ha (by rw [S_size]; unfold maxLen; decide) t1 t2 (g.bk ht))
  obtain ⟨Ar, cr, rs, Az, cz, zs, Al, cl, ls⟩ := b
  simp only at KR KP
  have HRS : Hid (RusAt w Ar cr rs) := hb.1
  have B0 := Lib.hid (box_one w (.cells #[.slice Ar rs.length cr, .slice Az zs.length cz, .slice Al ls.length cl] 26))
  clear hb ht hn hf1 hf2
  go_enter Tryz.func6, Tryz.ntmps6
  go_wp2_with fail
  generalize w.alloc (.cells #[.slice Ar rs.length cr, .slice Az zs.length cz, .slice Al ls.length cl] 26) = w1 at B0 ⊢
  generalize w.heap.size = q at B0 ⊢
  refine (KS.out w1 B0.out.1).mono ?_
  rintro e w2 ⟨rfl, g2⟩
  have G2 := Lib.hid (B0.out.1.trans g2)
  have HQ2 := Lib.hid (bheap_gr g2 B0.out.2)
  clear g2 B0 KS
  have x0 : w2.cell? ⟨q, 0, none⟩ = some (.slice Ar rs.length cr) := bcell_row HQ2.out rfl
  have x1 : w2.cell? ⟨q, 1, none⟩ = some (.slice Az zs.length cz) := bcell_row HQ2.out rfl
  have x2 : w2.cell? ⟨q, 2, none⟩ = some (.slice Al ls.length cl) := bcell_row HQ2.out rfl
  go_wp2_with fail
  clear x0 x1 x2
  refine (KR.out w2 G2.out).mono ?_
  rintro e w2b ⟨⟨znm, zA, zc, es⟩, rfl, zat, g3, hok, hno⟩
  have G3a := Lib.hid (G2.out.trans g3)
  have HQ3a := Lib.hid (bheap_gr g3 HQ2.out)
  have ZAT := Lib.hid zat
  have OK := Lib.hid hok
  clear g3 G2 HQ2 zat hok hno KR
  have NZ := Lib.hid (box_one w2b (.cells #[.string znm, .slice zA es.length zc] 36))
  have G3 := Lib.hid (G3a.out.trans NZ.out.1)
  have HQ := Lib.hid (bheap_gr NZ.out.1 HQ3a.out)
  have ZR := Lib.hid (ZAT.out.2.2.1.gr NZ.out.1)
  have EI : Hid (∀ e ∈ es, e.In) := ZAT.out.2.2.2
  have ZL : Hid (es.length ≤ 100000 ∨ resC rs zs ls nm ≠ 0) := by
    by_cases h : resC rs zs ls nm = 0
    · obtain ⟨y, hy, e1, e2⟩ := OK.out h
      have := (good_eras (resC_zero.1 h).1 hy).2.2.1
      exact Or.inl (by rw [show es = y.eras from e2]; omega)
    · exact Or.inr h
  by_cases h0 : resC rs zs ls nm = 0
  case neg =>
    generalize resC rs zs ls nm = C at h0 ⊢
    have t0 : (C != 0) = true := bneT h0
    clear h0 OK ZAT ZL
    go_wp2_with fail
    go_ret
    exact ⟨rfl, G3.out⟩
  case pos =>
    obtain ⟨y, hy, e1, e2⟩ := OK.out h0
    have EE : erasN zs ls nm = es := (erasN_at hy).trans e2.symm
    obtain ⟨l1, l2, hg⟩ := good_erasN h0
    rw [EE] at l1 l2 hg
    have H0 := Lib.hid h0
    have EEH := Lib.hid EE
    have HG := Lib.hid hg
    rw [h0]
    clear h0 OK ZAT ZL hy e1 e2 EE hg
    by_cases h2 : es.length < 2
    · go_wp2_with fail
      go_ret
      exact ⟨rfl, G3.out⟩
    · have r1 : 0 ≤ k0 % ((es.length : Int) - 1) := Int.emod_nonneg _ (by omega)
      have r2 : k0 % ((es.length : Int) - 1) < (es.length : Int) - 1 := Int.emod_lt_of_pos _ (by omega)
      have KQ2 := Lib.hid (fun W => KQ.out ((es.length : Int) - 1) W (by omega) (by omega))
      obtain ⟨kn, hkn⟩ : ∃ kn : Nat, k0 % ((es.length : Int) - 1) = (kn : Int) := ⟨(k0 % ((es.length : Int) - 1)).toNat, by omega⟩
      rw [hkn] at r1 r2 KQ2
      have k1 : kn + 1 < es.length := by omega
      obtain ⟨⟨eo, ru, sv, fm, un⟩, hx⟩ := get_lt (show kn < es.length by omega)
      obtain ⟨⟨eo2, ru2, sv2, fm2, un2⟩, hx2⟩ := get_lt k1
      have HX := Lib.hid hx
      have HX2 := Lib.hid hx2
      have UT := (un_step (fun j e he => (HG.out j e he).2) k1 hx).1
      obtain ⟨u1, u2⟩ := tmB_yes.1 UT
      have hz90 : isNameB (S [90]).toList = true := by rw [S_toList]; decide
      have UBA := fun q1 => until_before H0.out (by rw [EEH.out]; exact k1) (by rw [EEH.out]; exact hx) (z := ⟨S [90], some ⟨q1, 0, none⟩, 1, [EraD.open_ ⟨eo, ru, sv, fm, un⟩]⟩) hz90 rfl
      have UAA := fun q1 => until_after H0.out (by rw [EEH.out]; exact k1) (by rw [EEH.out]; exact hx) (by rw [EEH.out]; exact hx2) (z := ⟨S [90], some ⟨q1, 0, none⟩, 1, [EraD.open_ ⟨eo2, ru2, sv2, fm2, un2⟩]⟩) hz90 rfl
      have UB : Hid (∀ q1, atC (aloneB Ar cr rs q1 (q1 + 1) (S [90]) (EraD.open_ ⟨eo, ru, sv, fm, un⟩)).rs (aloneB Ar cr rs q1 (q1 + 1) (S [90]) (EraD.open_ ⟨eo, ru, sv, fm, un⟩)).zs (aloneB Ar cr rs q1 (q1 + 1) (S [90]) (EraD.open_ ⟨eo, ru, sv, fm, un⟩)).ls (S [90]) (un - 1) = atC rs zs ls nm (un - 1)) := fun q1 => (UBA q1).1
      have UB2 : Hid (∀ q1, atT (aloneB Ar cr rs q1 (q1 + 1) (S [90]) (EraD.open_ ⟨eo, ru, sv, fm, un⟩)).rs (aloneB Ar cr rs q1 (q1 + 1) (S [90]) (EraD.open_ ⟨eo, ru, sv, fm, un⟩)).zs (aloneB Ar cr rs q1 (q1 + 1) (S [90]) (EraD.open_ ⟨eo, ru, sv, fm, un⟩)).ls (S [90]) (un - 1) = atT rs zs ls nm (un - 1)) := fun q1 => (UBA q1).2
      have UA : Hid (∀ q1, atC (aloneB Ar cr rs q1 (q1 + 1) (S [90]) (EraD.open_ ⟨eo2, ru2, sv2, fm2, un2⟩)).rs (aloneB Ar cr rs q1 (q1 + 1) (S [90]) (EraD.open_ ⟨eo2, ru2, sv2, fm2, un2⟩)).zs (aloneB Ar cr rs q1 (q1 + 1) (S [90]) (EraD.open_ ⟨eo2, ru2, sv2, fm2, un2⟩)).ls (S [90]) un = atC rs zs ls nm un) := fun q1 => (UAA q1).1
      have UA2 : Hid (∀ q1, atT (aloneB Ar cr rs q1 (q1 + 1) (S [90]) (EraD.open_ ⟨eo2, ru2, sv2, fm2, un2⟩)).rs (aloneB Ar cr rs q1 (q1 + 1) (S [90]) (EraD.open_ ⟨eo2, ru2, sv2, fm2, un2⟩)).zs (aloneB Ar cr rs q1 (q1 + 1) (S [90]) (EraD.open_ ⟨eo2, ru2, sv2, fm2, un2⟩)).ls (S [90]) un = atT rs zs ls nm un) := fun q1 => (UAA q1).2
      clear hx2 UBA UAA hz90 UT HG EEH H0 hkn
      obtain ⟨bz, oz, rfl, c0, c1, c2, c3, c4⟩ := Row.five ZR.out hx rfl (Gr.refl _)
      clear hx c0 c1 c2 c3
      go_wp2_with fail
      refine (KQ2.out _).mono ?_
      rintro e w3 ⟨rfl, hw3⟩
      have NZ2 : Hid ((w2b.alloc (.cells #[.string znm, .slice (some ⟨bz, oz, none⟩) es.length zc] 36)).heap[w2b.heap.size]? = some (.cells #[.string znm, .slice (some ⟨bz, oz, none⟩) es.length zc] 36 (0, 0))) := NZ.out.2
      have l0 : (0 : Int) ≤ (kn : Int) := by omega
      have l1 : (kn : Int) < (es.length : Int) := by omega
      clear NZ G3a HQ3a KQ KQ2
      subst hw3
      obtain ⟨w3, hw3⟩ : ∃ x, x = w2b.alloc (.cells #[.string znm, .slice (some ⟨bz, oz, none⟩) es.length zc] 36) := ⟨_, rfl⟩
      rw [← hw3] at G3 HQ ZR c4 NZ2 ⊢
      clear hw3
      generalize w2b.heap.size = qz at NZ2 ⊢
      have HZ := Lib.hid NZ2.out
      clear NZ2
      have z1 : w3.cell? ⟨qz, 1, none⟩ = some (.slice (some ⟨bz, oz, none⟩) es.length zc) := bcell_row HZ.out rfl
      have x0 : w3.cell? ⟨q, 0, none⟩ = some (.slice Ar rs.length cr) := bcell_row HQ.out rfl
      have x1 : w3.cell? ⟨q, 1, none⟩ = some (.slice Az zs.length cz) := bcell_row HQ.out rfl
      have x2 : w3.cell? ⟨q, 2, none⟩ = some (.slice Al ls.length cl) := bcell_row HQ.out rfl
      go_wp2_with fail
      clear x0 x1 x2 c4
      refine (KP.out (un - 1) w3 G3.out (by omega) (by omega)).mono ?_
      rintro e v1 ⟨rfl, g1⟩
      have G11 := Lib.hid (G3.out.trans g1)
      have HQ_11 := Lib.hid (bheap_gr g1 HQ.out)
      have HZ_11 := Lib.hid (bheap_gr g1 HZ.out)
      have ZR11 := Lib.hid (ZR.out.gr g1)
      clear G3 HQ HZ ZR
      clear g1
      generalize atT rs zs ls nm (un - 1) = T1 at UB2 ⊢
      generalize atC rs zs ls nm (un - 1) = C1 at UB ⊢
      obtain ⟨o1, s1, n1⟩ := T1
      simp only
      have NB := Lib.hid (box_one v1 (.cells #[.int .i64 o1, .bool s1, .string n1] 28))
      go_wp2_with fail
      generalize v1.alloc (.cells #[.int .i64 o1, .bool s1, .string n1] 28) = v2 at NB ⊢
      generalize v1.heap.size = qa at NB ⊢
      have G12 := Lib.hid (G11.out.trans NB.out.1)
      have HQ_12 := Lib.hid (bheap_gr NB.out.1 HQ_11.out)
      have HZ_12 := Lib.hid (bheap_gr NB.out.1 HZ_11.out)
      have ZR12 := Lib.hid (ZR11.out.gr NB.out.1)
      clear G11 HQ_11 HZ_11 ZR11
      have HA_1 := Lib.hid NB.out.2
      clear NB
      refine (alone_any kn qz q (some ⟨bz, oz, none⟩) zc es Ar cr rs ⟨eo, ru, sv, fm, un⟩ v2 (bcell_row HZ_12.out rfl) (bcell_row HQ_12.out rfl) ZR12.out HX.out (EI.out _ (get_mem HX.out)) (HRS.out.gr G12.out)).mono ?_
      rintro e v3 ⟨q1, rfl, ab, ga⟩
      have AB := Lib.hid ab
      have G13 := Lib.hid (G12.out.trans ga)
      have HQ_13 := Lib.hid (bheap_gr ga HQ_12.out)
      have HZ_13 := Lib.hid (bheap_gr ga HZ_12.out)
      have HA_13 := Lib.hid (bheap_gr ga HA_1.out)
      have ZR13 := Lib.hid (ZR12.out.gr ga)
      clear G12 HQ_12 HZ_12 HA_1 ZR12
      clear ga ab
      go_wp2_with fail
      refine (KA.out (aloneB Ar cr rs q1 (q1 + 1) (S [90]) (EraD.open_ ⟨eo, ru, sv, fm, un⟩)) (un - 1) v3 G13.out AB.out (by omega) (by omega)).mono ?_
      rintro e v4 ⟨he, g4⟩
      have G14 := Lib.hid (G13.out.trans g4)
      have HQ_14 := Lib.hid (bheap_gr g4 HQ_13.out)
      have HZ_14 := Lib.hid (bheap_gr g4 HZ_13.out)
      have HA_14 := Lib.hid (bheap_gr g4 HA_13.out)
      have ZR14 := Lib.hid (ZR13.out.gr g4)
      clear G13 HQ_13 HZ_13 HA_13 ZR13
      clear g4
      rw [UB.out q1] at he
      rw [UB2.out q1] at he
      simp only at he
      subst he
      clear AB
      have NB := Lib.hid (box_one v4 (.cells #[.int .i64 o1, .bool s1, .string n1] 28))
      have HQn := Lib.hid (bheap_gr NB.out.1 HQ_14.out)
      have x0 : (v4.alloc (.cells #[.int .i64 o1, .bool s1, .string n1] 28)).cell? ⟨q, 0, none⟩ = some (.slice Ar rs.length cr) := bcell_row HQn.out rfl
      have x1 : (v4.alloc (.cells #[.int .i64 o1, .bool s1, .string n1] 28)).cell? ⟨q, 1, none⟩ = some (.slice Az zs.length cz) := bcell_row HQn.out rfl
      have x2 : (v4.alloc (.cells #[.int .i64 o1, .bool s1, .string n1] 28)).cell? ⟨q, 2, none⟩ = some (.slice Al ls.length cl) := bcell_row HQn.out rfl
      go_wp2_with fail
      clear x0 x1 x2 HQn
      generalize v4.alloc (.cells #[.int .i64 o1, .bool s1, .string n1] 28) = v5 at NB ⊢
      generalize v4.heap.size = qb at NB ⊢
      have G15 := Lib.hid (G14.out.trans NB.out.1)
      have HQ_15 := Lib.hid (bheap_gr NB.out.1 HQ_14.out)
      have HZ_15 := Lib.hid (bheap_gr NB.out.1 HZ_14.out)
      have HA_15 := Lib.hid (bheap_gr NB.out.1 HA_14.out)
      have ZR15 := Lib.hid (ZR14.out.gr NB.out.1)
      clear G14 HQ_14 HZ_14 HA_14 ZR14
      have HB_1 := Lib.hid NB.out.2
      clear NB
      refine (KP.out un v5 G15.out (by omega) (by omega)).mono ?_
      rintro e v6 ⟨rfl, g6⟩
      have G16 := Lib.hid (G15.out.trans g6)
      have HQ_16 := Lib.hid (bheap_gr g6 HQ_15.out)
      have HZ_16 := Lib.hid (bheap_gr g6 HZ_15.out)
      have HA_16 := Lib.hid (bheap_gr g6 HA_15.out)
      have HB_16 := Lib.hid (bheap_gr g6 HB_1.out)
      have ZR16 := Lib.hid (ZR15.out.gr g6)
      clear G15 HQ_15 HZ_15 HA_15 HB_1 ZR15
      clear g6
      generalize atT rs zs ls nm un = T2 at UA2 ⊢
      generalize atC rs zs ls nm un = C2 at UA ⊢
      obtain ⟨o2, s2, n2⟩ := T2
      simp only
      have NB := Lib.hid (box_one v6 (.cells #[.int .i64 o2, .bool s2, .string n2] 28))
      go_wp2_with fail
      generalize v6.alloc (.cells #[.int .i64 o2, .bool s2, .string n2] 28) = v7 at NB ⊢
      generalize v6.heap.size = qc at NB ⊢
      have G17 := Lib.hid (G16.out.trans NB.out.1)
      have HQ_17 := Lib.hid (bheap_gr NB.out.1 HQ_16.out)
      have HZ_17 := Lib.hid (bheap_gr NB.out.1 HZ_16.out)
      have HA_17 := Lib.hid (bheap_gr NB.out.1 HA_16.out)
      have HB_17 := Lib.hid (bheap_gr NB.out.1 HB_16.out)
      have ZR17 := Lib.hid (ZR16.out.gr NB.out.1)
      clear G16 HQ_16 HZ_16 HA_16 HB_16 ZR16
      have HC_1 := Lib.hid NB.out.2
      clear NB
      refine (alone_any (kn + 1) qz q (some ⟨bz, oz, none⟩) zc es Ar cr rs ⟨eo2, ru2, sv2, fm2, un2⟩ v7 (bcell_row HZ_17.out rfl) (bcell_row HQ_17.out rfl) ZR17.out HX2.out (EI.out _ (get_mem HX2.out)) (HRS.out.gr G17.out)).mono ?_
      rintro e v8 ⟨q1, rfl, ab, ga⟩
      have AB := Lib.hid ab
      have G18 := Lib.hid (G17.out.trans ga)
      have HQ_18 := Lib.hid (bheap_gr ga HQ_17.out)
      have HZ_18 := Lib.hid (bheap_gr ga HZ_17.out)
      have HA_18 := Lib.hid (bheap_gr ga HA_17.out)
      have HB_18 := Lib.hid (bheap_gr ga HB_17.out)
      have HC_18 := Lib.hid (bheap_gr ga HC_1.out)
      have ZR18 := Lib.hid (ZR17.out.gr ga)
      clear G17 HQ_17 HZ_17 HA_17 HB_17 HC_1 ZR17
      clear ga ab
      go_wp2_with fail
      refine (KA.out (aloneB Ar cr rs q1 (q1 + 1) (S [90]) (EraD.open_ ⟨eo2, ru2, sv2, fm2, un2⟩)) un v8 G18.out AB.out (by omega) (by omega)).mono ?_
      rintro e v9 ⟨he, g9⟩
      have G19 := Lib.hid (G18.out.trans g9)
      have HQ_19 := Lib.hid (bheap_gr g9 HQ_18.out)
      have HZ_19 := Lib.hid (bheap_gr g9 HZ_18.out)
      have HA_19 := Lib.hid (bheap_gr g9 HA_18.out)
      have HB_19 := Lib.hid (bheap_gr g9 HB_18.out)
      have HC_19 := Lib.hid (bheap_gr g9 HC_18.out)
      have ZR19 := Lib.hid (ZR18.out.gr g9)
      clear G18 HQ_18 HZ_18 HA_18 HB_18 HC_18 ZR18
      clear g9
      rw [UA.out q1] at he
      rw [UA2.out q1] at he
      simp only at he
      subst he
      clear AB
      have NB := Lib.hid (box_one v9 (.cells #[.int .i64 o2, .bool s2, .string n2] 28))
      have HA_19n := Lib.hid (bheap_gr NB.out.1 HA_19.out)
      have x0 : (v9.alloc (.cells #[.int .i64 o2, .bool s2, .string n2] 28)).cell? ⟨qa, 0, none⟩ = some (.int .i64 o1) := bcell_row HA_19n.out rfl
      have x1 : (v9.alloc (.cells #[.int .i64 o2, .bool s2, .string n2] 28)).cell? ⟨qa, 1, none⟩ = some (.bool s1) := bcell_row HA_19n.out rfl
      have x2 : (v9.alloc (.cells #[.int .i64 o2, .bool s2, .string n2] 28)).cell? ⟨qa, 2, none⟩ = some (.string n1) := bcell_row HA_19n.out rfl
      have HB_19n := Lib.hid (bheap_gr NB.out.1 HB_19.out)
      have y0 : (v9.alloc (.cells #[.int .i64 o2, .bool s2, .string n2] 28)).cell? ⟨qb, 0, none⟩ = some (.int .i64 o1) := bcell_row HB_19n.out rfl
      have y1 : (v9.alloc (.cells #[.int .i64 o2, .bool s2, .string n2] 28)).cell? ⟨qb, 1, none⟩ = some (.bool s1) := bcell_row HB_19n.out rfl
      have y2 : (v9.alloc (.cells #[.int .i64 o2, .bool s2, .string n2] 28)).cell? ⟨qb, 2, none⟩ = some (.string n1) := bcell_row HB_19n.out rfl
      have HC_19n := Lib.hid (bheap_gr NB.out.1 HC_19.out)
      have z0 : (v9.alloc (.cells #[.int .i64 o2, .bool s2, .string n2] 28)).cell? ⟨qc, 0, none⟩ = some (.int .i64 o2) := bcell_row HC_19n.out rfl
      have z1 : (v9.alloc (.cells #[.int .i64 o2, .bool s2, .string n2] 28)).cell? ⟨qc, 1, none⟩ = some (.bool s2) := bcell_row HC_19n.out rfl
      have z2 : (v9.alloc (.cells #[.int .i64 o2, .bool s2, .string n2] 28)).cell? ⟨qc, 2, none⟩ = some (.string n2) := bcell_row HC_19n.out rfl
      have EQ1 := fun w => eqType o1 s1 n1 w
      have EQ2 := fun w => eqType o2 s2 n2 w
      have t1 : (C1 == C1) = true := by simp
      have t2 : (C2 == C2) = true := by simp
      go_wp2_with fail
      go_ret
      exact ⟨rfl, G19.out.trans NB.out.1⟩

set_option maxRecDepth 100000 in
theorem contract (H : Type) (enc : TypeId × Value → H) (W : World) (base : Nat) (args : Array Value) (ds gs : List (DataW H)) (before : List MemPlace)
    (hval : ∀ (j : Nat) t v, Tryz.f6.params[j]? = some t → args[j]? = some v → Value.okWide Tryz.prog W .any base t v)
    (hW : DataW.Whole enc Tryz.prog Tryz.f6.params.toList Rows.stateUntilSpec.vars false W args.toList ds gs before) (hL : laidMet Tryz.prog Rows.stateUntilRow.laid W) (hsh : W.ShapedOpen Tryz.prog) :
    Calls Tryz.prog 6 args W fun e W' => ∃ v, e = .returned v ∧ Rows.stateUntilSpec.post enc Tryz.prog Tryz.f6 false true false false W args v W' := by
  have hW' := hW
  obtain ⟨p, q, hA0, hV, rfl, hfz, hnd⟩ := hW
  have hA : DataW.TrodAll enc Tryz.prog W 0 (fun _ => true) true Tryz.f6.params.toList args.toList ds p := hA0
  rw [Tryz.params6] at hA hval
  obtain ⟨v0, vs0, d0, ds0, p0, q0, hargs, rfl, rfl, h0, r0⟩ := trodAll_cons hA
  obtain ⟨v1, vs1, d1, ds1, p1, q1, rfl, rfl, rfl, h1, r1⟩ := trodAll_cons r0
  obtain ⟨v2, vs2, d2, ds2, p2, q2, rfl, rfl, rfl, h2, r2⟩ := trodAll_cons r1
  obtain ⟨rfl, rfl, rfl⟩ := trodAll_nil r2
  obtain rfl : args = #[v0, v1, v2] := by cases args; simp_all
  obtain ⟨rfl, rfl⟩ := trodVars_none hV
  obtain ⟨bk0, rfl, bi0⟩ := open_book (hval 0 26 v0 rfl rfl) h0
  obtain ⟨a1, rfl, rfl, rfl, w1⟩ := open_string Tryz.underlying9 (hval 1 9 v1 rfl rfl) h1
  obtain ⟨a2, rfl, rfl, rfl, w2⟩ := open_int Tryz.underlying3 (hval 2 3 v2 rfl rfl) h2
  clear hA0
  simp only [List.append_nil] at hW'
  refine (walk bk0 a1 w1 a2 (bounds_i64 w2).1 (bounds_i64 w2).2 W bi0 ⟨lens_of hL (List.mem_of_getElem? (i := 3) rfl), pow_of hL (List.mem_of_getElem? (i := 2) rfl), max_of hsh⟩).mono fun e W' ⟨he, hg⟩ => ?_
  subst he
  exact ⟨_, rfl, post_of_below (pa := (p0 ++ ([] ++ ([] ++ [])))) (pv := []) hW' (fun _ _ _ => trodAll_cons_mk (shut_bool Tryz.underlying4 _) trodAll_mk0) (fun _ hsp => (trodAll_cons_mk (stays book_reads h0 hg (fun p hp => by simp [hp]) (fun p hp => hW'.lt p hp) hsp) (trodAll_cons_mk (shut_string Tryz.underlying9 w1) (trodAll_cons_mk (shut_int Tryz.underlying3 w2) trodAll_mk0)))) (fun _ _ => rfl) (by simp)
    hg (ok_one (by kernel_rfl) rfl (okWide_bool_mk Tryz.underlying4 _))⟩

/-- A world for the witness: the settled one, the listed variables holding what their initialisers lay. -/
noncomputable def laidWorld (os : Os) : World := put (put (put (put (put (put (bare os) 5 (flat1 Rows.laid_math_bits_deBruijn32tab)) 6 (flat1 Rows.laid_math_bits_deBruijn64tab)) 2 (flat1 Rows.laid_internal_strconv_uint64pow10)) 0 (flat1 Rows.laid_timeball_civil_lengths)) 4 (flat2 Rows.laid_unicode_utf8_acceptRanges)) 3 (flat1 Rows.laid_unicode_utf8_first)
set_option maxRecDepth 100000 in
theorem laid_met (os : Os) : laidMet Tryz.prog Rows.stateUntilRow.laid ((laidWorld os).forCall (fun _ _ => 0) ⟨#[], #[.agg #[.slice none 0 0, .slice none 0 0, .slice none 0 0], .string .empty, .int .i64 0], []⟩).memory :=
  laidMet_of_run3 8 (by kernel_rfl) (by kernel_rfl) (by kernel_rfl)
theorem reads (os : Os) {H : Type} (enc : TypeId × Value → H) : ∃ places, DataW.whole enc Tryz.prog ((laidWorld os).forCall (fun _ _ => 0) ⟨#[], #[.agg #[.slice none 0 0, .slice none 0 0, .slice none 0 0], .string .empty, .int .i64 0], []⟩).memory Tryz.f6.params.toList Rows.stateUntilSpec.vars false #[Value.agg #[.slice none 0 0, .slice none 0 0, .slice none 0 0], Value.string .empty, Value.int .i64 0].toList 8 = some ([.agg [.nil, .nil, .nil], .lit (.string []), .lit (.int .i64 0)], [], places) :=
  ⟨[], by kernel_rfl⟩

set_option maxRecDepth 100000 in
theorem lifted (os : Os) (started : os.Started) (H : Type) (enc : TypeId × Value → H) (F : Stop.Interp) :
    ReturnsInHanded {} Tryz.checked os 6 .any ((OpenSpec.ofChange Rows.stateUntilSpec).preRow enc Tryz.prog Tryz.f6 Rows.stateUntilRow.domain false Rows.stateUntilRow.laid) (((OpenSpec.ofChange Rows.stateUntilSpec).at F).post enc Tryz.prog Tryz.f6 false true false false) := by
  obtain ⟨places, hx⟩ := reads os enc
  refine returnsInHanded_of_row (C := Tryz.checked) (s := OpenSpec.ofChange Rows.stateUntilSpec) own started (by kernel_rfl) Tryz.func6
    (witness_row_at (enc := enc) (C := Tryz.checked) false (laidWorld os) #[.agg #[.slice none 0 0, .slice none 0 0, .slice none 0 0], .string .empty, .int .i64 0] rfl (by kernel_rfl) (by kernel_rfl) (by kernel_rfl)
      (OpenSpec.preRow_of_cond 8 hx (by kernel_rfl) (fun k hk => by cases hk) (by kernel_rfl) (laid_met os))) ?_
  intro W base args ds gs before hval hW _ _ _ hL hsh _
  exact contract H enc W base args ds gs before hval hW hL hsh

theorem said : Rows.StateUntilSaid :=
  OpenClaim.holds_of_cond 6 Tryz.f6 rfl rfl rfl rfl rfl rfl rfl ⟨rfl, rfl, rfl, rfl, rfl⟩ rfl rfl rfl rfl rfl (by kernel_rfl) Tryz.func6 (by kernel_rfl)
    (of_decide_eq_true (by kernel_rfl)) (by unfold Func.isWrapper; first | (rw [if_pos (by decide +kernel)]; kernel_rfl) | (rw [if_neg (by decide +kernel)]; exact ⟨rfl, rfl⟩))
    (fun os started H enc _ F => by rw [OpenClaim.pre_eq_preRow]; exact lifted os started H enc F)

set_option maxRecDepth 100000 in
/-- No parameter wants a stand-in; whether the program has looks of its own. -/
theorem plain (f : FuncId) (fn : Func) (hf : Tryz.pinned.checked.prog.funcNamed "timeball/timeballkeep.StateUntil" = some f) (hfn : Tryz.pinned.checked.prog.funcs[f]? = some fn) :
    false = Tryz.pinned.checked.prog.looks [] ∧ ∀ (j : Nat) t, fn.params[j]? = some t → Tryz.pinned.checked.prog.wantsStandIn t = false := by
  obtain rfl : f = 6 := Option.some.inj ((show Tryz.prog.funcNamed "timeball/timeballkeep.StateUntil" = some 6 by kernel_rfl).symm.trans hf) |>.symm
  obtain rfl : fn = Tryz.f6 := (Option.some.inj (Tryz.func6.symm.trans hfn)).symm
  refine ⟨by kernel_rfl, fun j t ht => ?_⟩
  rw [Tryz.params6] at ht
  have hm : t = 3 ∨ t = 9 ∨ t = 26 := by have := Array.mem_of_getElem? ht; simp at this; first | exact this | exact this.symm | (rcases this with h | h | h <;> simp [h]) | omega
  rcases hm with rfl | rfl | rfl
  · exact (show Tryz.prog.wantsStandIn 3 = false by kernel_rfl)
  · exact (show Tryz.prog.wantsStandIn 9 = false by kernel_rfl)
  · exact (show Tryz.prog.wantsStandIn 26 = false by kernel_rfl)

end Go.Proofs.YtbagdlafpahgdaaGreatDoor.stateUntil
namespace Go.Proofs.YtbagdlafpahgdaaGreatDoor
/-- The card. -/
theorem stateUntil_holds : Rows.StateUntilCardSaid :=
  Claim7.holds_tied_plain_at .later [] _ _ _ _ stateUntil.said (fun _ h => by cases h) (by kernel_rfl) (fun _ h => by cases h) stateUntil_row_tie rfl ⟨rfl, rfl⟩ (by kernel_rfl) rfl stateUntil.plain (by kernel_rfl)
end Go.Proofs.YtbagdlafpahgdaaGreatDoor
