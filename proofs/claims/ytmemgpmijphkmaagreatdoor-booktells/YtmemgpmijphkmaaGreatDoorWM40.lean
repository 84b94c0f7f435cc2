/- What the project's Text of package book returns. -/
import Derived.Test.YtmemgpmijphkmaaGreatDoorWM39
import Derived.Test.YtmemgpmijphkmaaGreatDoorWM38
namespace Go.Proofs.YtmemgpmijphkmaaGreatDoor
set_option linter.unusedVariables false
set_option linter.unusedSimpArgs false
open Go.RowKit
/-- a block of another type is left alone where a row grows -/
theorem own_far_cells {α : Type} {w w' : World} {base k b : Nat} {e T : TypeId} {enc : α → List Value} {v : Value} {l : List α} {cs : Array Value} {m : Nat × Nat} (h : Own w base e k enc v l) (hb : w.heap[b]? = some (.cells cs T m)) (hne : T ≠ e) (hg : w.grownBy w' v.ownBlock) : w'.heap[b]? = some (.cells cs T m) := by
  refine (hg.block b (Array.getElem?_eq_some_iff.1 hb).1 (fun q => ?_)).trans hb
  rcases h.2 with ⟨rfl, _⟩ | ⟨g, cap, cur, rfl, _, hh, _⟩
  · cases q
  · injection q with q
    subst q
    rw [hb] at hh
    injection hh with hh
    injection hh with _ ht
    exact hne ht
theorem pjoin_blk (l : List ByteArray) (L : List (List UInt8)) (W : World) (b : Nat) (hL : l.map (·.toList) = L) (hs : ∀ x ∈ L, x.length ≤ 1000) (hl : l.length ≤ 10) (h : W.heap[b]? = some (.cells (l.map Value.string).toArray 9 (0, 0))) :
    Calls Tryz.prog 23 #[.slice (some ⟨b, 0, none⟩) l.length l.length] W fun e w' => e = .returned (.string (S (jn 32 L))) ∧ Gr W w' := by
  have := pjoinWords (some ⟨b, 0, none⟩) l.length l W (str_row h) (Nat.le_refl _) (by omega) (by
    rw [hL]
    have h1 := jn_len 32 L
    have h2 := sum_bound L hs
    have h3 : L.length = l.length := by rw [← hL]; simp
    have : L.length * 1000 ≤ 10 * 1000 := Nat.mul_le_mul_right _ (by omega)
    omega)
  rw [hL] at this
  exact this
theorem take_flat_len {α : Type} (f : α → List (List UInt8)) (l : List α) (k : Nat) : ((l.take k).flatMap f).length ≤ (l.flatMap f).length := by
  have : l.flatMap f = (l.take k).flatMap f ++ (l.drop k).flatMap f := by rw [← List.flatMap_append, List.take_append_drop]
  rw [this, List.length_append]; omega
theorem eraLs_take {l : List EraD} {m : Nat} {e : EraD} (hm : l.length = m + 1) (h : l[m]? = some e) : eraLs l = (l.take m).map eraLn ++ [eraL e] := by
  unfold eraLs
  rw [List.dropLast_eq_take, List.getLast?_eq_getElem?, hm]
  simp only [Nat.add_sub_cancel]
  rw [h]

set_option maxRecDepth 100000 in
set_option maxHeartbeats 20000000 in
theorem pbookText (b : BokD) (w : World) (hb : b.At w) (ht : RtTab w) (hk : BkTab w) :
    Calls Tryz.prog 10 #[bookV b] w fun e w' => e = bokTA b.rs b.zs b.ls ∧ Gr w w' := by
  have KC0 := fun W (g : Gr w W) => pbookCheck b W (hb.gr g) (g.bk hk)
  obtain ⟨Ar, cr, rs, Az, cz, zs, Al, cl, ls⟩ := b
  have HR : Hid (Row w 11 RuD.cells Ar rs) := hb.1.2.1
  have HI : Hid (∀ r ∈ rs, r.In) := hb.1.2.2
  have HZ : Hid (Row w 2 ZonD.cells Az zs) := hb.2.1.2.1
  have HZA : Hid (∀ z ∈ zs, z.At w) := hb.2.1.2.2
  have HL : Hid (Row w 2 LinD.cells Al ls) := hb.2.2.2.1
  have HT := Lib.hid ht
  have HK := Lib.hid hk
  have B0 := Lib.hid (box_one w (.cells #[.slice Ar rs.length cr, .slice Az zs.length cz, .slice Al ls.length cl] 26))
  simp only at KC0
  show Calls _ _ _ _ fun e w' => e = bokTA rs zs ls ∧ Gr w w'
  clear hb ht hk
  by_cases hC : bokC rs zs ls = 0
  case neg =>
    have E := Lib.hid (bokTA_no hC)
    have t0 := bneT hC
    generalize bokC rs zs ls = C at KC0 E t0
    have KC := Lib.hid KC0
    clear KC0 hC
    go_enter Tryz.func10, Tryz.ntmps10
    go_wp2_with fail
    generalize w.alloc (.cells #[.slice Ar rs.length cr, .slice Az zs.length cz, .slice Al ls.length cl] 26) = w1 at B0 ⊢
    refine (KC.out w1 B0.out.1).mono ?_
    rintro e w2 ⟨rfl, g2⟩
    go_wp2_with fail
    go_ret2
    exact ⟨E.out.symm, B0.out.1.trans g2⟩
  rw [hC] at KC0
  have KC := Lib.hid KC0
  clear KC0
  have HC := Lib.hid hC
  have E := Lib.hid (bokTA_yes hC)
  have LB : Hid (rs.length ≤ 40 ∧ zs.length ≤ 20 ∧ ls.length ≤ 20) := bokC_le hC
  have LZ : Hid ((zs.flatMap zonL).length ≤ 14020) := zos_len hC
  have OR := Lib.hid (ok_rule hC)
  have OZ := Lib.hid (ok_zone hC)
  have OL := Lib.hid (ok_link hC)
  have OK := Lib.hid (bokL_ok hC)
  have OLN := Lib.hid (bokL_len hC)
  have lb := bokC_le hC
  obtain ⟨lb1, lb2, lb3⟩ := lb
  obtain ⟨i0, hi, hz0, hz1, hz2⟩ := info_parts infoStr
  have I1 := Lib.hid hi
  have I2 := Lib.hid hz0
  have I3 := Lib.hid hz1
  have I4 := Lib.hid hz2
  clear hC hi hz0 hz1 hz2
  go_enter Tryz.func10, Tryz.ntmps10
  go_wp2_with fail
  generalize w.alloc (.cells #[.slice Ar rs.length cr, .slice Az zs.length cz, .slice Al ls.length cl] 26) = w1 at B0 ⊢
  generalize w.heap.size = q at B0 ⊢
  refine (KC.out w1 B0.out.1).mono ?_
  rintro e w2 ⟨rfl, g2⟩
  have G2 := Lib.hid (B0.out.1.trans g2)
  have HB := Lib.hid (bheap_gr g2 B0.out.2)
  clear B0 g2 KC
  have x0 : w2.cell? ⟨q, 0, none⟩ = some (.slice Ar rs.length cr) := bcell_row HB.out rfl
  go_wp2_with fail
  clear x0
  go_loopw [5, 27] (fun v i W => ∃ k : Nat, k ≤ rs.length ∧ i = .int .i64 k ∧ Hid (Own W w2.heap.size 9 1 strC v (txts ((rs.take k).map RuD.text))) ∧ Hid (Gr w2 W)) (fun v i W => rs.length - (intOf i).toNat)
  case atStart => exact ⟨0, Nat.zero_le _, rfl, Own.nil_ _ _ _ _ _, Gr.refl _⟩
  case round =>
    obtain ⟨k, hk, rfl, ho, hg⟩ := hrel
    have GR := Lib.hid (G2.out.trans hg.out)
    by_cases hlt : k < rs.length
    · obtain ⟨r, hx⟩ := get_lt hlt
      have RT := Lib.hid (map_take RuD.text hx)
      have hin := HI.out _ (get_mem hx)
      have hr0 := OR.out _ (get_mem hx)
      have LN : Hid ((txts ((rs.take k).map RuD.text)).length ≤ 20000) := by unfold Hid; rw [txts_len, List.length_map, List.length_take]; omega
      obtain ⟨nm, fr, tt, mo, zk, d, n, at', by', sv, lt⟩ := r
      have KT0 := fun W h => pruleText nm fr tt mo zk d n at' by' sv lt W h hin.1 hin.2
      rw [show ruleTextA nm.toList lt.toList fr tt mo zk d n at' by' sv = strInt (S (RuD.text ⟨nm, fr, tt, mo, zk, d, n, at', by', sv, lt⟩)) 0 from if_pos (show ruleC nm.toList lt.toList fr tt mo zk d n at' by' sv = 0 from hr0)] at KT0
      have KT := Lib.hid KT0
      obtain ⟨b, off, rfl, c0, c1, c2, c3, c4, c5, c6, c7, c8, c9, c10⟩ := HR.out.eleven hx rfl GR.out
      have HNB := Lib.hid (box_one wr (.cells #[.string nm, .int .i64 fr, .int .i64 tt, .int .i64 mo, .int .i64 zk, .int .i64 d, .int .i64 n, .int .i64 at', .int .i64 by', .int .i64 sv, .string lt] 56))
      generalize RuD.text ⟨nm, fr, tt, mo, zk, d, n, at', by', sv, lt⟩ = x at RT KT
      generalize (rs.take k).map RuD.text = L at ho RT LN
      clear hx hin hr0 KT0 HI OR OZ OL OK
      go_wp2_with fail
      generalize wr.alloc (.cells #[.string nm, .int .i64 fr, .int .i64 tt, .int .i64 mo, .int .i64 zk, .int .i64 d, .int .i64 n, .int .i64 at', .int .i64 by', .int .i64 sv, .string lt] 56) = w3 at HNB ⊢
      clear c0 c1 c2 c3 c4 c5 c6 c7 c8 c9 c10
      refine (KT.out w3 ((GR.out.trans HNB.out.1).rtT HT.out)).mono ?_
      rintro e w4 ⟨rfl, g4⟩
      have G4 := Lib.hid ((hg.out.trans HNB.out.1).trans g4)
      have O4 : Hid (Own w4 w2.heap.size 9 1 strC u5 (txts L)) := (ho.out.gr HNB.out.1).gr g4
      clear KT HNB g4 ho hg
      have NB := Lib.hid (box_one w4 (.cells #[.string (S x)] 9))
      have OW : Hid (Own (w4.alloc (.cells #[.string (S x)] 9)) w2.heap.size 9 1 strC u5 (txts L)) := O4.out.gr NB.out.1
      have GB : Hid (Gr w2 (w4.alloc (.cells #[.string (S x)] 9))) := G4.out.trans NB.out.1
      go_wp2_with (at_builtin; refine wpList_append_lies _ (by rfl) _ _ 52 (by rfl) w2.heap.size 9 i0 (.string .empty) 1 16 Tryz.underlying52 I1.out I2.out I3.out I4.out (by rfl) (by omega) u5 (txts L).length ((txts L).flatMap strC) (by rfl) OW.out ⟨w4.heap.size, 0, none⟩ 1 1 [.string (S x)] (by rfl) (by rfl) (World.news_of_block NB.out.2) (st_one (S x)) (by omega) (by have := LN.out; unfold maxLen; omega) (by have := LN.out; omega) (Below.size GB.out) (w4.heap.size + 1) (by simp) ?_; intro g cap w6 hown hgrow hat hltw6)
      have O6 : Hid (Own w6 w2.heap.size 9 1 strC (.slice (some ⟨g, 0, none⟩) ((txts L).length + 1) cap) (txts (L ++ [x]))) := own_more (txts_snoc L x) hown
      have G6 := Lib.hid (grown_gr GB.out hgrow (own_base OW.out))
      clear hown hgrow hat hltw6
      go_roundw
      case rel => exact ⟨k + 1, by omega, by go_num, by unfold Hid; rw [RT.out]; exact O6.out, G6⟩
      case measure => simp [intOf]; omega
    · have e : k = rs.length := by omega
      have O1 : Hid (Own wr w2.heap.size 9 1 strC u5 (txts (rs.map RuD.text))) := by have := ho.out; rw [e, List.take_length] at this; exact this
      have HB1 := Lib.hid (bheap_gr hg.out HB.out)
      clear e ho HI OR
      generalize hRR : rs.map RuD.text = R at O1
      have HRR := Lib.hid hRR
      have LR : Hid (R.length ≤ 40) := by unfold Hid; rw [← hRR, List.length_map]; omega
      clear hRR
      have GW := Lib.hid hg.out
      clear hg GR
      generalize wr = wa at O1 HB1 GW ⊢
      have x1 : wa.cell? ⟨q, 1, none⟩ = some (.slice Az zs.length cz) := bcell_row HB1.out rfl
      go_wp2_with fail
      clear x1 hlt hk
      go_loopw [5, 44] (fun v i W => ∃ k : Nat, k ≤ zs.length ∧ i = .int .i64 k ∧ Hid (Own W w2.heap.size 9 1 strC v (txts (R ++ (zs.take k).flatMap zonL))) ∧ Hid (Gr w2 W)) (fun v i W => zs.length - (intOf i).toNat)
      case atStart => exact ⟨0, Nat.zero_le _, rfl, by simpa using O1, GW⟩
      case round =>
        obtain ⟨k, hk, rfl, ho, hg⟩ := hrel
        have GR := Lib.hid (G2.out.trans hg.out)
        by_cases hlt : k < zs.length
        · obtain ⟨z, hx⟩ := get_lt hlt
          have RT := Lib.hid (flatMap_take zonL hx)
          have hza := HZA.out _ (get_mem hx)
          obtain ⟨z1, z2, z3, z4, z5⟩ := OZ.out _ (get_mem hx)
          have LP : Hid ((R ++ (zs.take k).flatMap zonL).length ≤ 14060) := by
            have a := take_flat_len zonL zs k
            have b := LZ.out
            have c := LR.out
            unfold Hid; rw [List.length_append]; omega
          obtain ⟨nm, zA, zc, ze⟩ := z
          have HER : Hid (Row w 5 EraD.cells zA ze) := hza.2.2.1
          have HEI : Hid (∀ e ∈ ze, e.In) := hza.2.2.2
          have hcap : ze.length ≤ zc := hza.2.1.1
          have hcmx : zc ≤ maxLen := hza.2.1.2
          simp only at z1 z2 z3 z4 z5
          have Z4 := Lib.hid z4
          have Z5 := Lib.hid z5
          obtain ⟨m, hm⟩ : ∃ m, ze.length = m + 1 := ⟨ze.length - 1, by omega⟩
          obtain ⟨el, hel⟩ := get_lt (show m < ze.length by omega)
          have HEL := Lib.hid hel
          have m1 : m < ze.length := by omega
          have m2 : ze.length ≤ m + 1 := by omega
          have HM := Lib.hid hm
          have ZT : Hid (zonL ⟨nm, zA, zc, ze⟩ = jn 32 [wZone, nm.toList] :: ((ze.take m).map eraLn ++ [eraL el])) := by unfold Hid zonL; rw [eraLs_take hm hel]
          have KJ : Hid (∀ (W : World) (b : Nat), W.heap[b]? = some (.cells #[.string ⟨#[122, 111, 110, 101]⟩, .string nm] 9 (0, 0)) → Calls Tryz.prog 23 #[.slice (some ⟨b, 0, none⟩) 2 2] W fun e w' => e = .returned (.string (S (jn 32 [wZone, nm.toList]))) ∧ Gr W w') := fun W b h =>
            pjoin_blk [⟨#[122, 111, 110, 101]⟩, nm] [wZone, nm.toList] W b (by
              simp only [List.map_cons, List.map_nil]
              rw [show (ByteArray.mk #[122, 111, 110, 101]).toList = wZone from ByteArray.toList_mk [122, 111, 110, 101]]) (fun x hx => by
                simp only [List.mem_cons, List.not_mem_nil, or_false] at hx
                rcases hx with rfl | rfl
                · decide
                · rw [← size_toList]; omega) (by simp) h
          obtain ⟨b, off, rfl, c0, c1⟩ := HZ.out.two hx rfl GR.out
          have HN2 := Lib.hid (box_two wr (.cells #[.string nm, .slice zA ze.length zc] 47) (.cells #[.string ⟨#[122, 111, 110, 101]⟩, .string nm] 9))
          unfold maxLen at hcmx
          generalize (zs.take k).flatMap zonL = Q at ho RT LP
          generalize hP : R ++ Q = P at ho LP
          have HP := Lib.hid hP
          clear hP
          have LN : Hid ((txts P).length ≤ 20000) := by have := LP.out; unfold Hid; rw [txts_len]; omega
          clear hx hza z1 z4 z5 hel hm OZ OL OK HZA LB
          go_wp2_with fail
          generalize (wr.alloc (.cells #[.string nm, .slice zA ze.length zc] 47)).alloc (.cells #[.string ⟨#[122, 111, 110, 101]⟩, .string nm] 9) = w3b at HN2 ⊢
          generalize wr.heap.size = q3 at HN2 ⊢
          clear c0 c1
          refine (KJ.out w3b _ HN2.out.2.2).mono ?_
          rintro e w4 ⟨rfl, g4⟩
          have G4 := Lib.hid ((hg.out.trans HN2.out.1).trans g4)
          have O4 : Hid (Own w4 w2.heap.size 9 1 strC u5 (txts P)) := (ho.out.gr HN2.out.1).gr g4
          have HZ4 := Lib.hid (bheap_gr g4 HN2.out.2.1)
          clear KJ HN2 g4 ho hg
          generalize jn 32 [wZone, nm.toList] = x at ZT
          have em : (ze.length : Int) - 1 = (m : Int) := by omega
          have em0 : (0 : Int) ≤ (m : Int) := by omega
          have em1 : (m : Int) ≤ (zc : Int) := by omega
          have NB := Lib.hid (box_one w4 (.cells #[.string (S x)] 9))
          have OW : Hid (Own (w4.alloc (.cells #[.string (S x)] 9)) w2.heap.size 9 1 strC u5 (txts P)) := O4.out.gr NB.out.1
          have GB : Hid (Gr w2 (w4.alloc (.cells #[.string (S x)] 9))) := G4.out.trans NB.out.1
          go_upto_region 15 with (at_builtin; refine wpList_append_lies _ (by rfl) _ _ 52 (by rfl) w2.heap.size 9 i0 (.string .empty) 1 16 Tryz.underlying52 I1.out I2.out I3.out I4.out (by rfl) (by omega) u5 (txts P).length ((txts P).flatMap strC) (by rfl) OW.out ⟨w4.heap.size, 0, none⟩ 1 1 [.string (S x)] (by rfl) (by rfl) (World.news_of_block NB.out.2) (st_one (S x)) (by omega) (by have := LN.out; unfold maxLen; omega) (by have := LN.out; omega) (Below.size GB.out) (w4.heap.size + 1) (by simp) ?_; intro g cap w6 hown hgrow hat hltw6)
          have HZ6 := Lib.hid (own_far_cells OW.out (bheap_gr NB.out.1 HZ4.out) (by decide) hgrow)
          have y1 : w6.cell? ⟨q3, 1, none⟩ = some (.slice zA ze.length zc) := bcell_row HZ6.out rfl
          have O6 : Hid (Own w6 w2.heap.size 9 1 strC (.slice (some ⟨g, 0, none⟩) ((txts P).length + 1) cap) (txts (P ++ [x]))) := own_more (txts_snoc P x) hown
          have G6 := Lib.hid (grown_gr GB.out hgrow (own_base OW.out))
          clear hown hgrow hat hltw6 O4 G4 HZ4 NB OW GB LN
          go_wp2_with fail
          clear y1 em0 em1
          go_loopw [5, 64] (fun v i W => ∃ j : Nat, j ≤ m ∧ i = .int .i64 j ∧ Hid (Own W w2.heap.size 9 1 strC v (txts (P ++ [x] ++ (ze.take j).map eraLn))) ∧ Hid (W.heap[q3]? = some (.cells #[.string nm, .slice zA ze.length zc] 47 (0, 0))) ∧ Hid (Gr w2 W)) (fun v i W => m - (intOf i).toNat)
          case atStart => exact ⟨0, Nat.zero_le _, rfl, by simpa using O6, HZ6, G6⟩
          case round =>
            obtain ⟨j, hj, rfl, ho, hz, hg⟩ := hrel
            have GT := Lib.hid (G2.out.trans hg.out)
            by_cases hlj : j < m
            · obtain ⟨e, hx⟩ := get_lt (show j < ze.length by omega)
              have RTE := Lib.hid (map_take eraLn hx)
              have hei := HEI.out _ (get_mem hx)
              have heo := Z4.out _ (get_mem hx)
              have htm := Z5.out j _ hx (by omega)
              have LN : Hid ((txts (P ++ [x] ++ (ze.take j).map eraLn)).length ≤ 20000) := by have := LP.out; unfold Hid; rw [txts_len, List.length_append, List.length_append, List.length_map, List.length_take]; simp; omega
              obtain ⟨off0, ru, sv, fm, un⟩ := e
              have KS0 := fun W h => pstamp un W h hei.2.2.1 hei.2.2.2
              rw [show tmC un = 0 by unfold tmC; rw [if_pos htm]] at KS0
              have KS := Lib.hid KS0
              have KE := Lib.hid (fun W hp => peraText ⟨off0, ru, sv, fm, un⟩ W hp heo.o1 heo.o2 heo.s1 heo.s2 (Nat.le_trans heo.ru (by decide)) (Nat.le_trans heo.fm (by decide)))
              have KJ : Hid (∀ (W : World) (b : Nat), W.heap[b]? = some (.cells #[.string (S (eraL ⟨off0, ru, sv, fm, un⟩)), .string (S (stampT un))] 9 (0, 0)) → Calls Tryz.prog 23 #[.slice (some ⟨b, 0, none⟩) 2 2] W fun e w' => e = .returned (.string (S (eraLn ⟨off0, ru, sv, fm, un⟩))) ∧ Gr W w') := fun W b h =>
                pjoin_blk [S (eraL ⟨off0, ru, sv, fm, un⟩), S (stampT un)] [eraL ⟨off0, ru, sv, fm, un⟩, stampT un] W b (by simp [S_toList]) (fun x hx => by
                  simp only [List.mem_cons, List.not_mem_nil, or_false] at hx
                  rcases hx with rfl | rfl
                  · exact Nat.le_trans (eraL_len heo) (by decide)
                  · exact Nat.le_trans (stampT_len _) (by decide)) (by simp) h
              obtain ⟨ab, ao, eA, c0, c1, c2, c3, c4⟩ := HER.out.five hx rfl GT.out
              subst eA
              have HNB := Lib.hid (box_one wr (.cells #[.int .i64 off0, .string ru, .int .i64 sv, .string fm, .int .i64 un] 44))
              try simp only at KE
              generalize eraL ⟨off0, ru, sv, fm, un⟩ = el0 at KE KJ
              generalize eraLn ⟨off0, ru, sv, fm, un⟩ = y at RTE KJ
              generalize stampT un = st at KS KJ
              generalize hLL : P ++ [x] ++ (ze.take j).map eraLn = LL at ho LN
              have HLL := Lib.hid hLL
              clear hLL hx hei heo htm KS0 Z5 Z4 HEI
              have jc : (j : Int) < (zc : Int) := by omega
              go_wp2_with fail
              generalize wr.alloc (.cells #[.int .i64 off0, .string ru, .int .i64 sv, .string fm, .int .i64 un] 44) = w7 at HNB ⊢
              generalize wr.heap.size = q7 at HNB ⊢
              clear c0 c1 c2 c3 c4 jc
              have x4 : w7.cell? ⟨q7, 4, none⟩ = some (.int .i64 un) := bcell_row HNB.out.2 rfl
              go_wp2_with fail
              clear x4
              refine (KS.out w7 ((GT.out.trans HNB.out.1).bk HK.out)).mono ?_
              rintro e w8 ⟨rfl, g8⟩
              have G8 := Lib.hid ((GT.out.trans HNB.out.1).trans g8)
              have D8 := Lib.hid (bheap_gr g8 HNB.out.2)
              have x0 : w8.cell? ⟨q7, 0, none⟩ = some (.int .i64 off0) := bcell_row D8.out rfl
              have x1 : w8.cell? ⟨q7, 1, none⟩ = some (.string ru) := bcell_row D8.out rfl
              have x2 : w8.cell? ⟨q7, 2, none⟩ = some (.int .i64 sv) := bcell_row D8.out rfl
              have x3 : w8.cell? ⟨q7, 3, none⟩ = some (.string fm) := bcell_row D8.out rfl
              have x4 : w8.cell? ⟨q7, 4, none⟩ = some (.int .i64 un) := bcell_row D8.out rfl
              go_wp2_with fail
              clear x0 x1 x2 x3 x4
              refine (KE.out w8 (G8.out.pow HK.out.2.1)).mono ?_
              rintro e w9 ⟨rfl, g9⟩
              have ND := Lib.hid (box_one w9 (.cells #[.string (S el0), .string (S st)] 9))
              go_wp2_with fail
              generalize w9.alloc (.cells #[.string (S el0), .string (S st)] 9) = w9b at ND ⊢
              refine (KJ.out w9b _ ND.out.2).mono ?_
              rintro e w4 ⟨rfl, g4⟩
              have GA := Lib.hid ((((HNB.out.1.trans g8).trans g9).trans ND.out.1).trans g4)
              have G4 := Lib.hid (hg.out.trans GA.out)
              have O4 : Hid (Own w4 w2.heap.size 9 1 strC u5 (txts LL)) := ho.out.gr GA.out
              have HZ4 := Lib.hid (bheap_gr GA.out hz.out)
              clear KS KE KJ HNB ND g8 g9 g4 ho hg hz D8 G8
              have NB := Lib.hid (box_one w4 (.cells #[.string (S y)] 9))
              have OW : Hid (Own (w4.alloc (.cells #[.string (S y)] 9)) w2.heap.size 9 1 strC u5 (txts LL)) := O4.out.gr NB.out.1
              have GB : Hid (Gr w2 (w4.alloc (.cells #[.string (S y)] 9))) := G4.out.trans NB.out.1
              go_wp2_with (at_builtin; refine wpList_append_lies _ (by rfl) _ _ 52 (by rfl) w2.heap.size 9 i0 (.string .empty) 1 16 Tryz.underlying52 I1.out I2.out I3.out I4.out (by rfl) (by omega) u5 (txts LL).length ((txts LL).flatMap strC) (by rfl) OW.out ⟨w4.heap.size, 0, none⟩ 1 1 [.string (S y)] (by rfl) (by rfl) (World.news_of_block NB.out.2) (st_one (S y)) (by omega) (by have := LN.out; unfold maxLen; omega) (by have := LN.out; omega) (Below.size GB.out) (w4.heap.size + 1) (by simp) ?_; intro g cap w6 hown hgrow hat hltw6)
              have O7 : Hid (Own w6 w2.heap.size 9 1 strC (.slice (some ⟨g, 0, none⟩) ((txts LL).length + 1) cap) (txts (LL ++ [y]))) := own_more (txts_snoc LL y) hown
              have G7 := Lib.hid (grown_gr GB.out hgrow (own_base OW.out))
              have HZ7 := Lib.hid (own_far_cells OW.out (bheap_gr NB.out.1 HZ4.out) (by decide) hgrow)
              clear hown hgrow hat hltw6
              go_roundw
              case rel => exact ⟨j + 1, by omega, by go_num, by unfold Hid; rw [RTE.out, ← List.append_assoc, HLL.out]; exact O7.out, HZ7, G7⟩
              case measure => simp [intOf]; omega
            · have e : j = m := by omega
              subst e
              have OP := Lib.hid ho.out
              have HZ8 := Lib.hid hz.out
              have GW8 := Lib.hid hg.out
              have heo := Z4.out _ (get_mem HEL.out)
              obtain ⟨off0, ru, sv, fm, un⟩ := el
              have KE := Lib.hid (fun W hp => peraText ⟨off0, ru, sv, fm, un⟩ W hp heo.o1 heo.o2 heo.s1 heo.s2 (Nat.le_trans heo.ru (by decide)) (Nat.le_trans heo.fm (by decide)))
              obtain ⟨ab, ao, eA, c0, c1, c2, c3, c4⟩ := HER.out.five HEL.out rfl GT.out
              subst eA
              have LN : Hid ((txts (P ++ [x] ++ (ze.take j).map eraLn)).length ≤ 20000) := by have := LP.out; unfold Hid; rw [txts_len, List.length_append, List.length_append, List.length_map, List.length_take]; simp; omega
              have RT2 : Hid (R ++ (zs.take (k + 1)).flatMap zonL = P ++ [x] ++ (ze.take j).map eraLn ++ [eraL ⟨off0, ru, sv, fm, un⟩]) := by unfold Hid; rw [RT.out, ZT.out, ← HP.out]; simp
              try simp only at KE
              generalize eraL ⟨off0, ru, sv, fm, un⟩ = y at KE RT2
              generalize P ++ [x] ++ (ze.take j).map eraLn = LL at OP LN RT2
              have y1 : wr.cell? ⟨q3, 1, none⟩ = some (.slice (some ⟨ab, ao, none⟩) ze.length zc) := bcell_row HZ8.out rfl
              have i0' : (0 : Int) ≤ (j : Int) := by omega
              have i1' : (j : Int) < (ze.length : Int) := by omega
              clear heo ho hz hg hlj hj
              go_wp2_with fail
              clear c0 c1 c2 c3 c4 y1
              refine (KE.out wr (GT.out.pow HK.out.2.1)).mono ?_
              rintro e w4 ⟨rfl, g4⟩
              have G4 := Lib.hid (GW8.out.trans g4)
              have O4 : Hid (Own w4 w2.heap.size 9 1 strC u5 (txts LL)) := OP.out.gr g4
              have NB := Lib.hid (box_one w4 (.cells #[.string (S y)] 9))
              have OW : Hid (Own (w4.alloc (.cells #[.string (S y)] 9)) w2.heap.size 9 1 strC u5 (txts LL)) := O4.out.gr NB.out.1
              have GB : Hid (Gr w2 (w4.alloc (.cells #[.string (S y)] 9))) := G4.out.trans NB.out.1
              go_wp2_with (at_builtin; refine wpList_append_lies _ (by rfl) _ _ 52 (by rfl) w2.heap.size 9 i0 (.string .empty) 1 16 Tryz.underlying52 I1.out I2.out I3.out I4.out (by rfl) (by omega) u5 (txts LL).length ((txts LL).flatMap strC) (by rfl) OW.out ⟨w4.heap.size, 0, none⟩ 1 1 [.string (S y)] (by rfl) (by rfl) (World.news_of_block NB.out.2) (st_one (S y)) (by omega) (by have := LN.out; unfold maxLen; omega) (by have := LN.out; omega) (Below.size GB.out) (w4.heap.size + 1) (by simp) ?_; intro g cap w6 hown hgrow hat hltw6)
              have O7 : Hid (Own w6 w2.heap.size 9 1 strC (.slice (some ⟨g, 0, none⟩) ((txts LL).length + 1) cap) (txts (LL ++ [y]))) := own_more (txts_snoc LL y) hown
              have G7 := Lib.hid (grown_gr GB.out hgrow (own_base OW.out))
              clear hown hgrow hat hltw6
              go_roundw
              case rel => exact ⟨k + 1, by omega, by go_num, by unfold Hid; rw [RT2.out]; exact O7.out, G7⟩
              case measure => simp [intOf]; omega
        · have e : k = zs.length := by omega
          have O1 : Hid (Own wr w2.heap.size 9 1 strC u5 (txts (R ++ zs.flatMap zonL))) := by have := ho.out; rw [e, List.take_length] at this; exact this
          have HB3 := Lib.hid (bheap_gr hg.out HB.out)
          have GV := Lib.hid hg.out
          have EB : Hid (bokL rs zs ls = R ++ zs.flatMap zonL ++ ls.map linL) := by unfold Hid bokL; rw [HRR.out]
          have LQ : Hid ((R ++ zs.flatMap zonL).length ≤ 14060) := by have a := LZ.out; have b := LR.out; unfold Hid; rw [List.length_append]; omega
          generalize R ++ zs.flatMap zonL = RQ at O1 EB LQ
          clear e ho hg GR OZ HZA
          generalize wr = wb at O1 HB3 GV ⊢
          have x2 : wb.cell? ⟨q, 2, none⟩ = some (.slice Al ls.length cl) := bcell_row HB3.out rfl
          go_wp2_with fail
          clear x2 hlt hk
          go_loopw [5, 96] (fun v i W => ∃ k : Nat, k ≤ ls.length ∧ i = .int .i64 k ∧ Hid (Own W w2.heap.size 9 1 strC v (txts (RQ ++ (ls.take k).map linL))) ∧ Hid (Gr w2 W)) (fun v i W => ls.length - (intOf i).toNat)
          case atStart => exact ⟨0, Nat.zero_le _, rfl, by simpa using O1, GV⟩
          case round =>
            obtain ⟨k, hk, rfl, ho, hg⟩ := hrel
            have GR := Lib.hid (G2.out.trans hg.out)
            by_cases hlt : k < ls.length
            · obtain ⟨xl, hx⟩ := get_lt hlt
              have RT := Lib.hid (map_take linL hx)
              obtain ⟨z1, z2⟩ := OL.out _ (get_mem hx)
              obtain ⟨nm, to'⟩ := xl
              simp only at z1 z2
              have LN : Hid ((txts (RQ ++ (ls.take k).map linL)).length ≤ 20000) := by have := LQ.out; unfold Hid; rw [txts_len, List.length_append, List.length_map, List.length_take]; omega
              have KJ : Hid (∀ (W : World) (b : Nat), W.heap[b]? = some (.cells #[.string ⟨#[108, 105, 110, 107]⟩, .string nm, .string to'] 9 (0, 0)) → Calls Tryz.prog 23 #[.slice (some ⟨b, 0, none⟩) 3 3] W fun e w' => e = .returned (.string (S (linL ⟨nm, to'⟩))) ∧ Gr W w') := fun W b h =>
                pjoin_blk [⟨#[108, 105, 110, 107]⟩, nm, to'] [wLink, nm.toList, to'.toList] W b (by
                  simp only [List.map_cons, List.map_nil]
                  rw [show (ByteArray.mk #[108, 105, 110, 107]).toList = wLink from ByteArray.toList_mk [108, 105, 110, 107]]) (fun x hx => by
                    simp only [List.mem_cons, List.not_mem_nil, or_false] at hx
                    rcases hx with rfl | rfl | rfl
                    · decide
                    · rw [← size_toList]; omega
                    · rw [← size_toList]; omega) (by simp) h
              obtain ⟨b, off, rfl, c0, c1⟩ := HL.out.two hx rfl GR.out
              have HN2 := Lib.hid (box_two wr (.cells #[.string nm, .string to'] 49) (.cells #[.string ⟨#[108, 105, 110, 107]⟩, .string nm, .string to'] 9))
              generalize linL ⟨nm, to'⟩ = y at RT KJ
              generalize hLL : RQ ++ (ls.take k).map linL = LL at ho LN
              have HLL := Lib.hid hLL
              clear hLL hx z1 z2 OL OK
              go_wp2_with fail
              generalize (wr.alloc (.cells #[.string nm, .string to'] 49)).alloc (.cells #[.string ⟨#[108, 105, 110, 107]⟩, .string nm, .string to'] 9) = w3b at HN2 ⊢
              generalize wr.heap.size = q3 at HN2 ⊢
              clear c0 c1
              refine (KJ.out w3b _ HN2.out.2.2).mono ?_
              rintro e w4 ⟨rfl, g4⟩
              have GA := Lib.hid (HN2.out.1.trans g4)
              have G4 := Lib.hid (hg.out.trans GA.out)
              have O4 : Hid (Own w4 w2.heap.size 9 1 strC u5 (txts LL)) := ho.out.gr GA.out
              clear KJ HN2 g4 ho hg
              have NB := Lib.hid (box_one w4 (.cells #[.string (S y)] 9))
              have OW : Hid (Own (w4.alloc (.cells #[.string (S y)] 9)) w2.heap.size 9 1 strC u5 (txts LL)) := O4.out.gr NB.out.1
              have GB : Hid (Gr w2 (w4.alloc (.cells #[.string (S y)] 9))) := G4.out.trans NB.out.1
              go_wp2_with (at_builtin; refine wpList_append_lies _ (by rfl) _ _ 52 (by rfl) w2.heap.size 9 i0 (.string .empty) 1 16 Tryz.underlying52 I1.out I2.out I3.out I4.out (by rfl) (by omega) u5 (txts LL).length ((txts LL).flatMap strC) (by rfl) OW.out ⟨w4.heap.size, 0, none⟩ 1 1 [.string (S y)] (by rfl) (by rfl) (World.news_of_block NB.out.2) (st_one (S y)) (by omega) (by have := LN.out; unfold maxLen; omega) (by have := LN.out; omega) (Below.size GB.out) (w4.heap.size + 1) (by simp) ?_; intro g cap w6 hown hgrow hat hltw6)
              have O7 : Hid (Own w6 w2.heap.size 9 1 strC (.slice (some ⟨g, 0, none⟩) ((txts LL).length + 1) cap) (txts (LL ++ [y]))) := own_more (txts_snoc LL y) hown
              have G7 := Lib.hid (grown_gr GB.out hgrow (own_base OW.out))
              clear hown hgrow hat hltw6
              go_roundw
              case rel => exact ⟨k + 1, by omega, by go_num, by unfold Hid; rw [RT.out, ← List.append_assoc, HLL.out]; exact O7.out, G7⟩
              case measure => simp [intOf]; omega
            · have e : k = ls.length := by omega
              have OF : Hid (Own wr w2.heap.size 9 1 strC u5 (txts (bokL rs zs ls))) := by have := ho.out; rw [e, List.take_length, ← EB.out] at this; exact this
              obtain ⟨A, c, rfl, hc, _, _⟩ := OF.out.form
              have KJ0 := join_row 10 A c (txts (bokL rs zs ls)) wr (OF.out.row st_len) hc (by rw [txts_len]; have := OLN.out; omega) (by rw [txts_lists]; exact Nat.le_trans (OK.out.jlen 10 (Nat.le_trans OLN.out (by decide))) (by decide))
              rw [txts_lists] at KJ0
              have KJ := Lib.hid KJ0
              generalize (txts (bokL rs zs ls)).length = nn at KJ ⊢
              clear e ho OF KJ0 hc
              go_wp2_with fail
              refine KJ.out.mono ?_
              rintro e w4 ⟨rfl, g4⟩
              go_wp2_with fail
              go_ret2
              exact ⟨E.out.symm, GR.out.trans g4⟩
end Go.Proofs.YtmemgpmijphkmaaGreatDoor
