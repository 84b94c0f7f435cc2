/- The law TableFixed of package timeballkeep returns true for every input and leaves its arguments as they were: The changes of a zone without rules lie at the ends of its eras. Condition: the listed variables (math/bits.deBruijn32tab, math/bits.deBruijn64tab, internal/strconv.uint64pow10, timeball/civil.lengths, unicode/utf8.acceptRanges, unicode/utf8.first) lie as their initialisers lay them; the card ties that tto the program's text. -/
import Derived.Test.YtkmgildnhnjepaaGreatDoorCards
import Derived.Test.YtkmgildnhnjepaaGreatDoorTie
import Derived.Test.YtkmgildnhnjepaaGreatDoorRM21
import Derived.Test.YtkmgildnhnjepaaGreatDoorRM47
import Derived.Test.YtkmgildnhnjepaaGreatDoorRM20
namespace Go.Proofs.YtkmgildnhnjepaaGreatDoor.tableFixed
open Go.ChangeShapes Go.WideShapes Go.ChangeAt Go.RowKit
open Go.ChangeMaps (open_string shut_string)
set_option linter.unusedVariables false
set_option linter.unusedSimpArgs false
set_option maxRecDepth 100000 in
set_option maxHeartbeats 16000000 in
theorem walk (b : BokD) (f : Int) (f1 : -9223372036854775808 ≤ f) (f2 : f ≤ 9223372036854775807) (l : Int) (l1 : -9223372036854775808 ≤ l) (l2 : l ≤ 9223372036854775807) (w : World) (hb : b.At w) (ht : BkTab w) :
    Calls Tryz.prog 7 #[bookV b, .int .i64 f, .int .i64 l] w fun e w' => e = .returned (.bool true) ∧ Gr w w' := by
  have KT := Lib.hid (fun W (g : Gr w W) => ptabled W (g.bk ht))
  have KSp := Lib.hid (fun W => pspan f l W f1 f2 l1 l2)
  have KM := Lib.hid (fun nm F T W (g : Gr w W) hn fb tb => mk_any b nm F T W (hb.gr g) hn fb tb (g.bk ht))
  have HZ : Hid (ZosAt w b.Az b.cz b.zs) := hb.2.1
  have mixed : Tryz.prog.follows .mixedOrders = true := by kernel_rfl
  have SB : Hid ((-11676096000 ≤ tV f ∧ tV f ≤ 13569465599) ∧ tV f ≤ spT f l ∧ spT f l ≤ 13569465599) := ⟨tV_bd f, spT_ge f l, (spT_bd f l).2⟩
  obtain ⟨Ar, cr, rs, Az, cz, zs, Al, cl, ls⟩ := b
  simp only at KM
  generalize tV f = F at KSp SB
  generalize spT f l = T at KSp SB
  have B0 := Lib.hid (box_one w (.cells #[.slice Ar rs.length cr, .slice Az zs.length cz, .slice Al ls.length cl] 26))
  clear hb ht f1 f2 l1 l2
  go_enter Tryz.func7, Tryz.ntmps7
  go_wp2_with fail
  generalize w.alloc (.cells #[.slice Ar rs.length cr, .slice Az zs.length cz, .slice Al ls.length cl] 26) = w1 at B0 ⊢
  generalize w.heap.size = q at B0 ⊢
  refine (KT.out w1 B0.out.1).mono ?_
  rintro e w2 ⟨rfl, g2⟩
  have G2 := Lib.hid (B0.out.1.trans g2)
  have HQ2 := Lib.hid (bheap_gr g2 B0.out.2)
  clear g2 B0 KT
  go_wp2_with fail
  refine (KSp.out w2).mono ?_
  rintro e w3 ⟨rfl, g3⟩
  have NS := Lib.hid (box_one w3 (.cells #[.int .i64 F, .int .i64 T] 28))
  have G4 := Lib.hid ((G2.out.trans g3).trans NS.out.1)
  have HQ4 := Lib.hid (bheap_gr (g3.trans NS.out.1) HQ2.out)
  clear g3 G2 HQ2 KSp
  have x0 : (w3.alloc (.cells #[.int .i64 F, .int .i64 T] 28)).cell? ⟨q, 0, none⟩ = some (.slice Ar rs.length cr) := bcell_row HQ4.out rfl
  have x1 : (w3.alloc (.cells #[.int .i64 F, .int .i64 T] 28)).cell? ⟨q, 1, none⟩ = some (.slice Az zs.length cz) := bcell_row HQ4.out rfl
  have x2 : (w3.alloc (.cells #[.int .i64 F, .int .i64 T] 28)).cell? ⟨q, 2, none⟩ = some (.slice Al ls.length cl) := bcell_row HQ4.out rfl
  have LM : Hid (zs.length ≤ maxLen) := Nat.le_trans HZ.out.1.1 HZ.out.1.2
  have lm := LM.out
  unfold maxLen at lm
  obtain ⟨i0, hi, hz0, hz1, hz2⟩ := info_parts infoI
  have I1 := Lib.hid hi
  have I2 := Lib.hid hz0
  have I3 := Lib.hid hz1
  have I4 := Lib.hid hz2
  clear hi hz0 hz1 hz2
  go_wp2_with fail
  clear x0 x1 x2
  generalize (w3.alloc (.cells #[.int .i64 F, .int .i64 T] 28)) = w4 at NS G4 HQ4 ⊢
  generalize w3.heap.size = qs at NS ⊢
  have HS4 := Lib.hid NS.out.2
  clear NS
  go_loopw [26] (fun i W => ∃ k : Nat, k ≤ zs.length ∧ i = .int .i64 k ∧ Hid (Gr w4 W)) (fun i W => zs.length - (intOf i).toNat)
  case atStart => exact ⟨0, Nat.zero_le _, rfl, Gr.refl _⟩
  case round =>
    obtain ⟨k, hk, rfl, hg⟩ := hrel
    by_cases hlt : k < zs.length
    · obtain ⟨⟨znm, zA, zc, es⟩, hx⟩ := get_lt hlt
      obtain ⟨bl, off, hA, c0, c1⟩ := HZ.out.2.1.two hx rfl (G4.out.trans hg.out)
      have ZI := Lib.hid (HZ.out.2.2 _ (get_mem hx))
      have MF := Lib.hid (fun h hn => mk_fixed (rs := rs) (ls := ls) hx (F := F) (T := T) h hn)
      have GE := Lib.hid (fun (h : mkC rs zs ls znm F T = 0) => (good_eras (resC_zero.1 (mkC_zero.1 h).1).1 hx).2.2.1)
      have ML := Lib.hid (mk_lens rs zs ls znm F T)
      have K1 := Lib.hid (fun W g => KM.out znm F T W g ZI.out.1 SB.out.1 (by have := SB.out; omega))
      have SM := Lib.hid (fun (h : mkC rs zs ls znm F T = 0) => (mk_some h).2)
      simp only at MF GE
      clear hx
      have NZ := Lib.hid (box_one wr (.cells #[.string znm, .slice zA es.length zc] 57))
      have G5 := Lib.hid ((G4.out.trans hg.out).trans NZ.out.1)
      have GV := Lib.hid (hg.out.trans NZ.out.1)
      have HQ5 := Lib.hid (bheap_gr (hg.out.trans NZ.out.1) HQ4.out)
      have HS5 := Lib.hid (bheap_gr (hg.out.trans NZ.out.1) HS4.out)
      have RZ := Lib.hid (ZI.out.2.2.1.gr G5.out)
      subst hA
      have x0 : (wr.alloc (.cells #[.string znm, .slice zA es.length zc] 57)).cell? ⟨q, 0, none⟩ = some (.slice Ar rs.length cr) := bcell_row HQ5.out rfl
      have x1 : (wr.alloc (.cells #[.string znm, .slice zA es.length zc] 57)).cell? ⟨q, 1, none⟩ = some (.slice (some ⟨bl, off, none⟩) zs.length cz) := bcell_row HQ5.out rfl
      have x2 : (wr.alloc (.cells #[.string znm, .slice zA es.length zc] 57)).cell? ⟨q, 2, none⟩ = some (.slice Al ls.length cl) := bcell_row HQ5.out rfl
      have y0 : (wr.alloc (.cells #[.string znm, .slice zA es.length zc] 57)).cell? ⟨qs, 0, none⟩ = some (.int .i64 F) := bcell_row HS5.out rfl
      have y1 : (wr.alloc (.cells #[.string znm, .slice zA es.length zc] 57)).cell? ⟨qs, 1, none⟩ = some (.int .i64 T) := bcell_row HS5.out rfl
      go_wp2_with fail
      clear x0 x1 x2 y0 y1 c0 c1
      generalize (wr.alloc (.cells #[.string znm, .slice zA es.length zc] 57)) = w5 at NZ G5 GV HQ5 HS5 RZ ⊢
      generalize wr.heap.size = qz at NZ ⊢
      refine (K1.out w5 G5.out).mono ?_
      rintro e w6 ⟨A1, a1, B1, b1, rfl, ta1, ca1, g6⟩
      have N1 := Lib.hid (box_one w6 (.cells #[.slice A1 (mkTy rs zs ls znm F T).length a1, .int .i64 0, .slice B1 (mkCh rs zs ls znm F T).length b1] 32))
      have g7 := g6.trans N1.out.1
      have G7 := Lib.hid (G5.out.trans g7)
      have GV7 := Lib.hid (GV.out.trans g7)
      have HZ7 := Lib.hid (bheap_gr g7 NZ.out.2)
      have CA := Lib.hid (ChsAt.gr ca1 N1.out.1)
      have RZ7 := Lib.hid (RZ.out.gr g7)
      clear g7 g6 ta1 ca1 G5 GV HQ5 HS5 NZ K1 RZ
      generalize mkTy rs zs ls znm F T = ty at N1 G7 GV7 HZ7 CA RZ7 ML ⊢
      generalize mkCh rs zs ls znm F T = ch at N1 G7 GV7 HZ7 CA RZ7 ML SM ⊢
      by_cases hC : mkC rs zs ls znm F T = 0
      case neg =>
        have tc := bneT hC
        generalize mkC rs zs ls znm F T = C at tc ⊢
        clear hC MF GE SM
        go_wp2_with fail
        go_roundw
        case rel => exact ⟨k + 1, by omega, by go_num, GV7.out⟩
        case measure => simp [intOf]; omega
      case pos =>
      have E7 := GE.out hC
      have MF1 := Lib.hid (MF.out hC)
      rw [← SM.out hC] at MF1
      rw [hC]
      clear hC MF GE SM
      have z0 : (w6.alloc (.cells #[.slice A1 ty.length a1, .int .i64 0, .slice B1 ch.length b1] 32)).cell? ⟨qz, 0, none⟩ = some (.string znm) := bcell_row HZ7.out rfl
      have z1 : (w6.alloc (.cells #[.slice A1 ty.length a1, .int .i64 0, .slice B1 ch.length b1] 32)).cell? ⟨qz, 1, none⟩ = some (.slice zA es.length zc) := bcell_row HZ7.out rfl
      go_wp2_with fail
      clear z0 z1
      generalize (w6.alloc (.cells #[.slice A1 ty.length a1, .int .i64 0, .slice B1 ch.length b1] 32)) = w7 at N1 G7 GV7 HZ7 CA RZ7 ⊢
      generalize w6.heap.size = qa at N1 ⊢
      have HA7 := Lib.hid N1.out.2
      clear N1
      obtain ⟨ruB, hru⟩ : ∃ ruB : Nat → Bool, (fun j => (es.take j).any fun e => e.ru.toList != []) = ruB := ⟨_, rfl⟩
      have RB := Lib.hid (fun j => congrFun hru j)
      have RB0 : Hid (ruB 0 = false) := by rw [← hru]; rfl
      clear hru
      go_loopw [12, 13, 43] (fun v r i W => ∃ (j : Nat) (l : List Int), j ≤ es.length ∧ i = .int .i64 j ∧ Hid (r = .bool (ruB j)) ∧ Hid (Own W w7.heap.size 3 1 inC v l) ∧ Hid (l = (es.take j).map EraD.un) ∧ Hid (Gr w7 W)) (fun v r i W => es.length - (intOf i).toNat)
      case atStart => exact ⟨0, [], Nat.zero_le _, rfl, by rw [RB0.out]; rfl, Own.nil_ _ _ _ _ _, rfl, Gr.refl _⟩
      case round =>
        obtain ⟨j, l, hj, rfl, hr, how, hl, hgr⟩ := hrel
        obtain rfl := hr.out
        clear hr
        by_cases hjl : j < es.length
        · obtain ⟨⟨eo, ru, sv, fm, un⟩, he⟩ := get_lt hjl
          obtain ⟨b2, off2, hA2, c0, c1, c2, c3, c4⟩ := RZ7.out.five he rfl hgr.out
          have LN : Hid (l ++ [un] = (es.take (j + 1)).map EraD.un) := by unfold Hid; rw [take_more he, List.map_append, ← hl.out]; rfl
          have LL : Hid (l.length ≤ 700) := by unfold Hid; rw [hl.out, List.length_map, List.length_take]; omega
          have RS : Hid (ruB (j + 1) = (ruB j || (ru.toList != []))) := by unfold Hid; rw [← RB.out (j + 1), ← RB.out j]; exact any_take he
          clear he hl
          generalize ruB j = rb at RS ⊢
          obtain ⟨A3, m3, rfl, q1, q2, _⟩ := how.out.form
          subst hA2
          cases rb with
          | true =>
            have NE := Lib.hid (box_one wr (.cells #[.int .i64 eo, .string ru, .int .i64 sv, .string fm, .int .i64 un] 59))
            have OW2 := Lib.hid (how.out.gr NE.out.1)
            have GU := Lib.hid (hgr.out.trans NE.out.1)
            have RN : Hid (ruB (j + 1) = true) := by unfold Hid; rw [RS.out]; rfl
            clear RS how
            go_wp2_with fail
            clear c0 c1 c2 c3 c4
            generalize wr.alloc (.cells #[.int .i64 eo, .string ru, .int .i64 sv, .string fm, .int .i64 un] 59) = v1 at NE OW2 GU ⊢
            generalize wr.heap.size = qe at NE ⊢
            refine wp_region_noPanic ?_
            refine till_start 12 (fun wx => wx.heap[qe]? = some (.cells #[.int .i64 eo, .string ru, .int .i64 sv, .string fm, .int .i64 un] 59 (0, 0))) (by kernel_rfl) NE.out.2 (fun hHeld => ?_)
            (try dsimp only at hHeld)
            have GD := Lib.hid (Gr.drew v1)
            have OW3 := Lib.hid (OW2.out.gr GD.out)
            have GU3 := Lib.hid (GU.out.trans GD.out)
            generalize v1.drew = vd at hHeld GD OW3 GU3 ⊢
            clear GD OW2 GU NE
            refine till_take (i := 0) (oi := { dst := some 47, op := _, type := _, pos := _, after := _, guard := _ }) (v := ?v1) rfl (by kernel_rfl) (by kernel_rfl) (by kernel_rfl) (by kernel_rfl) (fun _ _ _ h => h) (Or.inl ⟨by rfl, ?hy1⟩) (by assumption) ?rest1
            case hy1 => (intro w hSw; go_simp <;> (with_reducible rfl))
            (try simp only [Act.put, List.setIfInBounds_toArray, List.set_cons_zero, List.set_cons_succ])
            refine till_take (i := 1) (oi := { dst := some 48, op := _, type := _, pos := _, after := _, guard := _ }) (v := ?v2) rfl (by kernel_rfl) (by kernel_rfl) (by kernel_rfl) (by kernel_rfl) (fun _ _ _ h => h) (Or.inl ⟨by rfl, ?hy2⟩) (by assumption) ?rest2
            case hy2 => (intro w hSw; go_simp <;> (with_reducible rfl))
            (try simp only [Act.put, List.setIfInBounds_toArray, List.set_cons_zero, List.set_cons_succ])
            refine till_take (i := 2) (oi := { dst := some 49, op := _, type := _, pos := _, after := _, guard := _ }) (v := ?v3) rfl (by kernel_rfl) (by kernel_rfl) (by kernel_rfl) (by kernel_rfl) (fun _ _ _ h => h) (Or.inl ⟨by rfl, ?hy3⟩) (by assumption) ?rest3
            case hy3 => (intro w hSw; have d4 := bcell_row (i := 4) hSw rfl; go_simp <;> (with_reducible rfl))
            (try simp only [Act.put, List.setIfInBounds_toArray, List.set_cons_zero, List.set_cons_succ])
            refine till_take (i := 5) (oi := { dst := some 52, op := _, type := _, pos := _, after := _, guard := _ }) (v := ?v4) rfl (by kernel_rfl) (by kernel_rfl) (by kernel_rfl) (by kernel_rfl) (fun _ _ _ h => h) (Or.inl ⟨by rfl, ?hy4⟩) (by assumption) ?rest4
            case hy4 => (intro w hSw; go_simp <;> (with_reducible rfl))
            (try simp only [Act.put, List.setIfInBounds_toArray, List.set_cons_zero, List.set_cons_succ])
            have NB := Lib.hid (box_one vd (.cells #[.int .i64 un] 3))
            refine till_one (i := 3) (by kernel_rfl) rfl (fun K hK => ?_)
            go_simp
            refine hK.out _ _ (Or.inr (bheap_gr NB.out.1 hHeld)) ?_
            clear hK K
            (try simp only [Act.put, List.setIfInBounds_toArray, List.set_cons_zero, List.set_cons_succ])
            have OW4 := Lib.hid (OW3.out.gr NB.out.1)
            have GU4 := Lib.hid (GU3.out.trans NB.out.1)
            have hH2 := bheap_gr NB.out.1 hHeld
            clear hHeld
            have hHeld := hH2
            clear hH2
            generalize vd.alloc (.cells #[.int .i64 un] 3) = v2 at NB OW4 GU4 hHeld ⊢
            generalize vd.heap.size = qb at NB ⊢
            clear OW3 GU3
            refine till_one (i := 4) (by kernel_rfl) rfl (fun K hK => ?_)
            (refine step_append_lies _ (by rfl) _ _ 42 (by rfl) w7.heap.size 3 i0 (.int .i64 0) 1 8 Tryz.underlying42 I1.out I2.out I3.out I4.out (by rfl) (by omega) (.slice A3 l.length m3) l.length (l.flatMap inC) (by rfl) OW4.out ⟨qb, 0, none⟩ 1 1 [.int .i64 un] (by rfl) (by rfl) (World.news_of_block NB.out.2) (in_one un) (by omega) (by have := LL.out; unfold maxLen; omega) (by have := LL.out; omega) (Below.size GU4.out) _ rfl ?_)
            intro g2 cap2 v3 hown hgrow hat hlt3
            refine hK.out _ _ (Or.inr (blk_far hgrow hHeld (row_apart OW4.out hHeld (by decide)))) ?_
            clear hK K
            (try simp only [Act.put, List.setIfInBounds_toArray, List.set_cons_zero, List.set_cons_succ])
            have hH2 := blk_far hgrow hHeld (row_apart OW4.out hHeld (by decide))
            clear hHeld
            have hHeld := hH2
            clear hH2
            have OW5 := Lib.hid (own_more (x := un) rfl hown)
            have GU5 := Lib.hid (grown_gr GU4.out hgrow (own_base OW4.out))
            clear hown hgrow hat hlt3 OW4 GU4 NB
            refine till_take (i := 6) (oi := { dst := some 53, op := _, type := _, pos := _, after := _, guard := _ }) (v := ?v5) rfl (by kernel_rfl) (by kernel_rfl) (by kernel_rfl) (by kernel_rfl) (fun _ _ _ h => h) (Or.inl ⟨by rfl, ?hy5⟩) (by assumption) ?rest5
            case hy5 => (intro w hSw; go_simp <;> (with_reducible rfl))
            (try simp only [Act.put, List.setIfInBounds_toArray, List.set_cons_zero, List.set_cons_succ])
            refine till_take (i := 7) (oi := { dst := some 54, op := _, type := _, pos := _, after := _, guard := _ }) (v := undef) rfl (by kernel_rfl) (by kernel_rfl) (by kernel_rfl) (by kernel_rfl) (fun _ _ _ h => h) (Or.inr ⟨by rfl, rfl⟩) (by assumption) ?rest6
            (try simp only [Act.put, List.setIfInBounds_toArray, List.set_cons_zero, List.set_cons_succ])
            refine till_take (i := 8) (oi := { dst := some 55, op := _, type := _, pos := _, after := _, guard := _ }) (v := undef) rfl (by kernel_rfl) (by kernel_rfl) (by kernel_rfl) (by kernel_rfl) (fun _ _ _ h => h) (Or.inr ⟨by rfl, rfl⟩) (by assumption) ?rest7
            (try simp only [Act.put, List.setIfInBounds_toArray, List.set_cons_zero, List.set_cons_succ])
            refine till_take (i := 9) (oi := { dst := some 56, op := _, type := _, pos := _, after := _, guard := _ }) (v := undef) rfl (by kernel_rfl) (by kernel_rfl) (by kernel_rfl) (by kernel_rfl) (fun _ _ _ h => h) (Or.inr ⟨by rfl, rfl⟩) (by assumption) ?rest8
            (try simp only [Act.put, List.setIfInBounds_toArray, List.set_cons_zero, List.set_cons_succ])
            refine till_take (i := 10) (oi := { dst := some 57, op := _, type := _, pos := _, after := _, guard := _ }) (v := ?v9) rfl (by kernel_rfl) (by kernel_rfl) (by kernel_rfl) (by kernel_rfl) (fun _ _ _ h => h) (Or.inl ⟨by rfl, ?hy9⟩) (by assumption) ?rest9
            case hy9 => (intro w hSw; go_simp <;> (with_reducible rfl))
            (try simp only [Act.put, List.setIfInBounds_toArray, List.set_cons_zero, List.set_cons_succ])
            refine till_one (i := 11) (by kernel_rfl) rfl (fun K hK => ?_)
            go_simp
            refine hK.out _ _ (Or.inr hHeld) ?_
            clear hK K
            (try simp only [Act.put, List.setIfInBounds_toArray, List.set_cons_zero, List.set_cons_succ])
            refine till_one (i := 12) (by kernel_rfl) rfl (fun K hK => ?_)
            go_simp
            refine hK.out _ _ (Or.inl (by kernel_rfl)) ?_
            clear hK K
            (try simp only [Act.put, List.setIfInBounds_toArray, List.set_cons_zero, List.set_cons_succ])
            clear hHeld
            refine till_done (by kernel_rfl) ?_ _
            refine NoPanic.normal ?_
            go_wp2_with fail
            go_roundw
            case rel => exact ⟨j + 1, l ++ [un], by omega, by go_num, by rw [RN.out]; rfl, by unfold Hid; simpa using OW5.out, LN.out, GU5.out⟩
            case measure => simp [intOf]; omega
          | false =>
            by_cases hru : ru.toList = []
            · obtain rfl := str_nil hru
              clear hru
              have NE := Lib.hid (box_one wr (.cells #[.int .i64 eo, .string ⟨#[]⟩, .int .i64 sv, .string fm, .int .i64 un] 59))
              have OW2 := Lib.hid (how.out.gr NE.out.1)
              have GU := Lib.hid (hgr.out.trans NE.out.1)
              have RN : Hid (ruB (j + 1) = false) := by unfold Hid; rw [RS.out, lit0]; rfl
              clear RS how
              go_wp2_with fail
              clear c0 c1 c2 c3 c4
              generalize wr.alloc (.cells #[.int .i64 eo, .string ⟨#[]⟩, .int .i64 sv, .string fm, .int .i64 un] 59) = v1 at NE OW2 GU ⊢
              generalize wr.heap.size = qe at NE ⊢
              refine wp_region_noPanic ?_
              refine till_start 12 (fun wx => wx.heap[qe]? = some (.cells #[.int .i64 eo, .string ⟨#[]⟩, .int .i64 sv, .string fm, .int .i64 un] 59 (0, 0))) (by kernel_rfl) NE.out.2 (fun hHeld => ?_)
              (try dsimp only at hHeld)
              have GD := Lib.hid (Gr.drew v1)
              have OW3 := Lib.hid (OW2.out.gr GD.out)
              have GU3 := Lib.hid (GU.out.trans GD.out)
              generalize v1.drew = vd at hHeld GD OW3 GU3 ⊢
              clear GD OW2 GU NE
              refine till_take (i := 0) (oi := { dst := some 47, op := _, type := _, pos := _, after := _, guard := _ }) (v := ?v10) rfl (by kernel_rfl) (by kernel_rfl) (by kernel_rfl) (by kernel_rfl) (fun _ _ _ h => h) (Or.inl ⟨by rfl, ?hy10⟩) (by assumption) ?rest10
              case hy10 => (intro w hSw; go_simp <;> (with_reducible rfl))
              (try simp only [Act.put, List.setIfInBounds_toArray, List.set_cons_zero, List.set_cons_succ])
              refine till_take (i := 1) (oi := { dst := some 48, op := _, type := _, pos := _, after := _, guard := _ }) (v := ?v11) rfl (by kernel_rfl) (by kernel_rfl) (by kernel_rfl) (by kernel_rfl) (fun _ _ _ h => h) (Or.inl ⟨by rfl, ?hy11⟩) (by assumption) ?rest11
              case hy11 => (intro w hSw; go_simp <;> (with_reducible rfl))
              (try simp only [Act.put, List.setIfInBounds_toArray, List.set_cons_zero, List.set_cons_succ])
              refine till_take (i := 2) (oi := { dst := some 49, op := _, type := _, pos := _, after := _, guard := _ }) (v := ?v12) rfl (by kernel_rfl) (by kernel_rfl) (by kernel_rfl) (by kernel_rfl) (fun _ _ _ h => h) (Or.inl ⟨by rfl, ?hy12⟩) (by assumption) ?rest12
              case hy12 => (intro w hSw; have d4 := bcell_row (i := 4) hSw rfl; go_simp <;> (with_reducible rfl))
              (try simp only [Act.put, List.setIfInBounds_toArray, List.set_cons_zero, List.set_cons_succ])
              refine till_take (i := 5) (oi := { dst := some 52, op := _, type := _, pos := _, after := _, guard := _ }) (v := ?v13) rfl (by kernel_rfl) (by kernel_rfl) (by kernel_rfl) (by kernel_rfl) (fun _ _ _ h => h) (Or.inl ⟨by rfl, ?hy13⟩) (by assumption) ?rest13
              case hy13 => (intro w hSw; go_simp <;> (with_reducible rfl))
              (try simp only [Act.put, List.setIfInBounds_toArray, List.set_cons_zero, List.set_cons_succ])
              have NB := Lib.hid (box_one vd (.cells #[.int .i64 un] 3))
              refine till_one (i := 3) (by kernel_rfl) rfl (fun K hK => ?_)
              go_simp
              refine hK.out _ _ (Or.inr (bheap_gr NB.out.1 hHeld)) ?_
              clear hK K
              (try simp only [Act.put, List.setIfInBounds_toArray, List.set_cons_zero, List.set_cons_succ])
              have OW4 := Lib.hid (OW3.out.gr NB.out.1)
              have GU4 := Lib.hid (GU3.out.trans NB.out.1)
              have hH2 := bheap_gr NB.out.1 hHeld
              clear hHeld
              have hHeld := hH2
              clear hH2
              generalize vd.alloc (.cells #[.int .i64 un] 3) = v2 at NB OW4 GU4 hHeld ⊢
              generalize vd.heap.size = qb at NB ⊢
              clear OW3 GU3
              refine till_one (i := 4) (by kernel_rfl) rfl (fun K hK => ?_)
              (refine step_append_lies _ (by rfl) _ _ 42 (by rfl) w7.heap.size 3 i0 (.int .i64 0) 1 8 Tryz.underlying42 I1.out I2.out I3.out I4.out (by rfl) (by omega) (.slice A3 l.length m3) l.length (l.flatMap inC) (by rfl) OW4.out ⟨qb, 0, none⟩ 1 1 [.int .i64 un] (by rfl) (by rfl) (World.news_of_block NB.out.2) (in_one un) (by omega) (by have := LL.out; unfold maxLen; omega) (by have := LL.out; omega) (Below.size GU4.out) _ rfl ?_)
              intro g2 cap2 v3 hown hgrow hat hlt3
              refine hK.out _ _ (Or.inr (blk_far hgrow hHeld (row_apart OW4.out hHeld (by decide)))) ?_
              clear hK K
              (try simp only [Act.put, List.setIfInBounds_toArray, List.set_cons_zero, List.set_cons_succ])
              have hH2 := blk_far hgrow hHeld (row_apart OW4.out hHeld (by decide))
              clear hHeld
              have hHeld := hH2
              clear hH2
              have OW5 := Lib.hid (own_more (x := un) rfl hown)
              have GU5 := Lib.hid (grown_gr GU4.out hgrow (own_base OW4.out))
              clear hown hgrow hat hlt3 OW4 GU4 NB
              refine till_take (i := 6) (oi := { dst := some 53, op := _, type := _, pos := _, after := _, guard := _ }) (v := ?v14) rfl (by kernel_rfl) (by kernel_rfl) (by kernel_rfl) (by kernel_rfl) (fun _ _ _ h => h) (Or.inl ⟨by rfl, ?hy14⟩) (by assumption) ?rest14
              case hy14 => (intro w hSw; go_simp <;> (with_reducible rfl))
              (try simp only [Act.put, List.setIfInBounds_toArray, List.set_cons_zero, List.set_cons_succ])
              refine till_take (i := 7) (oi := { dst := some 54, op := _, type := _, pos := _, after := _, guard := _ }) (v := ?v15) rfl (by kernel_rfl) (by kernel_rfl) (by kernel_rfl) (by kernel_rfl) (fun _ _ _ h => h) (Or.inl ⟨by rfl, ?hy15⟩) (by assumption) ?rest15
              case hy15 => (intro w hSw; go_simp <;> (with_reducible rfl))
              (try simp only [Act.put, List.setIfInBounds_toArray, List.set_cons_zero, List.set_cons_succ])
              refine till_take (i := 8) (oi := { dst := some 55, op := _, type := _, pos := _, after := _, guard := _ }) (v := ?v16) rfl (by kernel_rfl) (by kernel_rfl) (by kernel_rfl) (by kernel_rfl) (fun _ _ _ h => h) (Or.inl ⟨by rfl, ?hy16⟩) (by assumption) ?rest16
              case hy16 => (intro w hSw; have d1 := bcell_row (i := 1) hSw rfl; go_simp <;> (with_reducible rfl))
              (try simp only [Act.put, List.setIfInBounds_toArray, List.set_cons_zero, List.set_cons_succ])
              refine till_take (i := 9) (oi := { dst := some 56, op := _, type := _, pos := _, after := _, guard := _ }) (v := ?v17) rfl (by kernel_rfl) (by kernel_rfl) (by kernel_rfl) (by kernel_rfl) (fun _ _ _ h => h) (Or.inl ⟨by rfl, ?hy17⟩) (by assumption) ?rest17
              case hy17 => (intro w hSw; go_simp <;> (with_reducible rfl))
              (try simp only [Act.put, List.setIfInBounds_toArray, List.set_cons_zero, List.set_cons_succ])
              refine till_take (i := 10) (oi := { dst := some 57, op := _, type := _, pos := _, after := _, guard := _ }) (v := ?v18) rfl (by kernel_rfl) (by kernel_rfl) (by kernel_rfl) (by kernel_rfl) (fun _ _ _ h => h) (Or.inl ⟨by rfl, ?hy18⟩) (by assumption) ?rest18
              case hy18 => (intro w hSw; go_simp <;> (with_reducible rfl))
              (try simp only [Act.put, List.setIfInBounds_toArray, List.set_cons_zero, List.set_cons_succ])
              refine till_one (i := 11) (by kernel_rfl) rfl (fun K hK => ?_)
              go_simp
              refine hK.out _ _ (Or.inr hHeld) ?_
              clear hK K
              (try simp only [Act.put, List.setIfInBounds_toArray, List.set_cons_zero, List.set_cons_succ])
              refine till_one (i := 12) (by kernel_rfl) rfl (fun K hK => ?_)
              go_simp
              refine hK.out _ _ (Or.inl (by kernel_rfl)) ?_
              clear hK K
              (try simp only [Act.put, List.setIfInBounds_toArray, List.set_cons_zero, List.set_cons_succ])
              clear hHeld
              refine till_done (by kernel_rfl) ?_ _
              refine NoPanic.normal ?_
              go_wp2_with fail
              go_roundw
              case rel => exact ⟨j + 1, l ++ [un], by omega, by go_num, by rw [RN.out]; rfl, by unfold Hid; simpa using OW5.out, LN.out, GU5.out⟩
              case measure => simp [intOf]; omega
            · obtain ⟨n1, n2, n3⟩ := str_nonnil hru
              clear hru
              have NE := Lib.hid (box_one wr (.cells #[.int .i64 eo, .string ru, .int .i64 sv, .string fm, .int .i64 un] 59))
              have OW2 := Lib.hid (how.out.gr NE.out.1)
              have GU := Lib.hid (hgr.out.trans NE.out.1)
              have RN : Hid (ruB (j + 1) = true) := by unfold Hid; rw [RS.out, n3]; rfl
              clear RS how
              go_wp2_with fail
              clear c0 c1 c2 c3 c4
              generalize wr.alloc (.cells #[.int .i64 eo, .string ru, .int .i64 sv, .string fm, .int .i64 un] 59) = v1 at NE OW2 GU ⊢
              generalize wr.heap.size = qe at NE ⊢
              refine wp_region_noPanic ?_
              refine till_start 12 (fun wx => wx.heap[qe]? = some (.cells #[.int .i64 eo, .string ru, .int .i64 sv, .string fm, .int .i64 un] 59 (0, 0))) (by kernel_rfl) NE.out.2 (fun hHeld => ?_)
              (try dsimp only at hHeld)
              have GD := Lib.hid (Gr.drew v1)
              have OW3 := Lib.hid (OW2.out.gr GD.out)
              have GU3 := Lib.hid (GU.out.trans GD.out)
              generalize v1.drew = vd at hHeld GD OW3 GU3 ⊢
              clear GD OW2 GU NE
              refine till_take (i := 0) (oi := { dst := some 47, op := _, type := _, pos := _, after := _, guard := _ }) (v := ?v19) rfl (by kernel_rfl) (by kernel_rfl) (by kernel_rfl) (by kernel_rfl) (fun _ _ _ h => h) (Or.inl ⟨by rfl, ?hy19⟩) (by assumption) ?rest19
              case hy19 => (intro w hSw; go_simp <;> (with_reducible rfl))
              (try simp only [Act.put, List.setIfInBounds_toArray, List.set_cons_zero, List.set_cons_succ])
              refine till_take (i := 1) (oi := { dst := some 48, op := _, type := _, pos := _, after := _, guard := _ }) (v := ?v20) rfl (by kernel_rfl) (by kernel_rfl) (by kernel_rfl) (by kernel_rfl) (fun _ _ _ h => h) (Or.inl ⟨by rfl, ?hy20⟩) (by assumption) ?rest20
              case hy20 => (intro w hSw; go_simp <;> (with_reducible rfl))
              (try simp only [Act.put, List.setIfInBounds_toArray, List.set_cons_zero, List.set_cons_succ])
              refine till_take (i := 2) (oi := { dst := some 49, op := _, type := _, pos := _, after := _, guard := _ }) (v := ?v21) rfl (by kernel_rfl) (by kernel_rfl) (by kernel_rfl) (by kernel_rfl) (fun _ _ _ h => h) (Or.inl ⟨by rfl, ?hy21⟩) (by assumption) ?rest21
              case hy21 => (intro w hSw; have d4 := bcell_row (i := 4) hSw rfl; go_simp <;> (with_reducible rfl))
              (try simp only [Act.put, List.setIfInBounds_toArray, List.set_cons_zero, List.set_cons_succ])
              refine till_take (i := 5) (oi := { dst := some 52, op := _, type := _, pos := _, after := _, guard := _ }) (v := ?v22) rfl (by kernel_rfl) (by kernel_rfl) (by kernel_rfl) (by kernel_rfl) (fun _ _ _ h => h) (Or.inl ⟨by rfl, ?hy22⟩) (by assumption) ?rest22
              case hy22 => (intro w hSw; go_simp <;> (with_reducible rfl))
              (try simp only [Act.put, List.setIfInBounds_toArray, List.set_cons_zero, List.set_cons_succ])
              have NB := Lib.hid (box_one vd (.cells #[.int .i64 un] 3))
              refine till_one (i := 3) (by kernel_rfl) rfl (fun K hK => ?_)
              go_simp
              refine hK.out _ _ (Or.inr (bheap_gr NB.out.1 hHeld)) ?_
              clear hK K
              (try simp only [Act.put, List.setIfInBounds_toArray, List.set_cons_zero, List.set_cons_succ])
              have OW4 := Lib.hid (OW3.out.gr NB.out.1)
              have GU4 := Lib.hid (GU3.out.trans NB.out.1)
              have hH2 := bheap_gr NB.out.1 hHeld
              clear hHeld
              have hHeld := hH2
              clear hH2
              generalize vd.alloc (.cells #[.int .i64 un] 3) = v2 at NB OW4 GU4 hHeld ⊢
              generalize vd.heap.size = qb at NB ⊢
              clear OW3 GU3
              refine till_one (i := 4) (by kernel_rfl) rfl (fun K hK => ?_)
              (refine step_append_lies _ (by rfl) _ _ 42 (by rfl) w7.heap.size 3 i0 (.int .i64 0) 1 8 Tryz.underlying42 I1.out I2.out I3.out I4.out (by rfl) (by omega) (.slice A3 l.length m3) l.length (l.flatMap inC) (by rfl) OW4.out ⟨qb, 0, none⟩ 1 1 [.int .i64 un] (by rfl) (by rfl) (World.news_of_block NB.out.2) (in_one un) (by omega) (by have := LL.out; unfold maxLen; omega) (by have := LL.out; omega) (Below.size GU4.out) _ rfl ?_)
              intro g2 cap2 v3 hown hgrow hat hlt3
              refine hK.out _ _ (Or.inr (blk_far hgrow hHeld (row_apart OW4.out hHeld (by decide)))) ?_
              clear hK K
              (try simp only [Act.put, List.setIfInBounds_toArray, List.set_cons_zero, List.set_cons_succ])
              have hH2 := blk_far hgrow hHeld (row_apart OW4.out hHeld (by decide))
              clear hHeld
              have hHeld := hH2
              clear hH2
              have OW5 := Lib.hid (own_more (x := un) rfl hown)
              have GU5 := Lib.hid (grown_gr GU4.out hgrow (own_base OW4.out))
              clear hown hgrow hat hlt3 OW4 GU4 NB
              refine till_take (i := 6) (oi := { dst := some 53, op := _, type := _, pos := _, after := _, guard := _ }) (v := ?v23) rfl (by kernel_rfl) (by kernel_rfl) (by kernel_rfl) (by kernel_rfl) (fun _ _ _ h => h) (Or.inl ⟨by rfl, ?hy23⟩) (by assumption) ?rest23
              case hy23 => (intro w hSw; go_simp <;> (with_reducible rfl))
              (try simp only [Act.put, List.setIfInBounds_toArray, List.set_cons_zero, List.set_cons_succ])
              refine till_take (i := 7) (oi := { dst := some 54, op := _, type := _, pos := _, after := _, guard := _ }) (v := ?v24) rfl (by kernel_rfl) (by kernel_rfl) (by kernel_rfl) (by kernel_rfl) (fun _ _ _ h => h) (Or.inl ⟨by rfl, ?hy24⟩) (by assumption) ?rest24
              case hy24 => (intro w hSw; go_simp <;> (with_reducible rfl))
              (try simp only [Act.put, List.setIfInBounds_toArray, List.set_cons_zero, List.set_cons_succ])
              refine till_take (i := 8) (oi := { dst := some 55, op := _, type := _, pos := _, after := _, guard := _ }) (v := ?v25) rfl (by kernel_rfl) (by kernel_rfl) (by kernel_rfl) (by kernel_rfl) (fun _ _ _ h => h) (Or.inl ⟨by rfl, ?hy25⟩) (by assumption) ?rest25
              case hy25 => (intro w hSw; have d1 := bcell_row (i := 1) hSw rfl; go_simp <;> (with_reducible rfl))
              (try simp only [Act.put, List.setIfInBounds_toArray, List.set_cons_zero, List.set_cons_succ])
              refine till_take (i := 9) (oi := { dst := some 56, op := _, type := _, pos := _, after := _, guard := _ }) (v := ?v26) rfl (by kernel_rfl) (by kernel_rfl) (by kernel_rfl) (by kernel_rfl) (fun _ _ _ h => h) (Or.inl ⟨by rfl, ?hy26⟩) (by assumption) ?rest26
              case hy26 => (intro w hSw; go_simp <;> (with_reducible rfl))
              (try simp only [Act.put, List.setIfInBounds_toArray, List.set_cons_zero, List.set_cons_succ])
              refine till_take (i := 10) (oi := { dst := some 57, op := _, type := _, pos := _, after := _, guard := _ }) (v := ?v27) rfl (by kernel_rfl) (by kernel_rfl) (by kernel_rfl) (by kernel_rfl) (fun _ _ _ h => h) (Or.inl ⟨by rfl, ?hy27⟩) (by assumption) ?rest27
              case hy27 => (intro w hSw; go_simp <;> (with_reducible rfl))
              (try simp only [Act.put, List.setIfInBounds_toArray, List.set_cons_zero, List.set_cons_succ])
              refine till_one (i := 11) (by kernel_rfl) rfl (fun K hK => ?_)
              go_simp
              refine hK.out _ _ (Or.inr hHeld) ?_
              clear hK K
              (try simp only [Act.put, List.setIfInBounds_toArray, List.set_cons_zero, List.set_cons_succ])
              refine till_one (i := 12) (by kernel_rfl) rfl (fun K hK => ?_)
              go_simp
              refine hK.out _ _ (Or.inl (by kernel_rfl)) ?_
              clear hK K
              (try simp only [Act.put, List.setIfInBounds_toArray, List.set_cons_zero, List.set_cons_succ])
              clear hHeld
              refine till_done (by kernel_rfl) ?_ _
              refine NoPanic.normal ?_
              go_wp2_with fail
              go_roundw
              case rel => exact ⟨j + 1, l ++ [un], by omega, by go_num, by rw [RN.out]; rfl, by unfold Hid; simpa using OW5.out, LN.out, GU5.out⟩
              case measure => simp [intOf]; omega
        · obtain rfl : j = es.length := by omega
          have LE : Hid (l = es.map EraD.un) := by have := hl.out; rwa [List.take_length] at this
          have RE : Hid (ruB es.length = es.any fun e => e.ru.toList != []) := by unfold Hid; rw [← RB.out]; simp only [List.take_length]
          have LL : Hid (l.length ≤ 700) := by unfold Hid; rw [LE.out, List.length_map]; exact E7
          obtain ⟨A3, m3, rfl, q1, q2, _⟩ := how.out.form
          have RL := Lib.hid (how.out.row in_len)
          have HA8 := Lib.hid (bheap_gr hgr.out HA7.out)
          have CA8 := Lib.hid (ChsAt.gr CA.out hgr.out)
          have GV8 := Lib.hid (GV7.out.trans hgr.out)
          have CON : Hid (ruB es.length = false → ∀ c ∈ ch, l.contains c.at' = true) := fun h c hc => by
            rw [RE.out] at h
            obtain ⟨e, he, eu⟩ := MF1.out (fun e he => by
              have := List.any_eq_false.1 h e he
              simpa using this) c hc
            rw [List.contains_iff_mem, LE.out]
            exact List.mem_map.2 ⟨e, he, eu⟩
          clear how hl hgr LE RE hj hjl MF1 RB RB0
          generalize ruB es.length = rb at CON ⊢
          generalize wr = w8 at HA8 CA8 GV8 RL ⊢
          have z0 : w8.cell? ⟨qa, 0, none⟩ = some (.slice A1 ty.length a1) := bcell_row HA8.out rfl
          have z1 : w8.cell? ⟨qa, 1, none⟩ = some (.int .i64 0) := bcell_row HA8.out rfl
          have z2 : w8.cell? ⟨qa, 2, none⟩ = some (.slice B1 ch.length b1) := bcell_row HA8.out rfl
          have LC := ML.out.2
          go_wp2_with fail
          clear z0 z1 z2
          go_loopw [62] (fun i W => ∃ m : Nat, m ≤ ch.length ∧ i = .int .i64 m ∧ Hid (Gr w8 W)) (fun i W => ch.length - (intOf i).toNat)
          case atStart => exact ⟨0, Nat.zero_le _, rfl, Gr.refl _⟩
          case round =>
            obtain ⟨m, hm, rfl, hgm⟩ := hrel
            by_cases hml : m < ch.length
            · obtain ⟨⟨ca, ck⟩, hc⟩ := get_lt hml
              obtain ⟨b4, off4, hA4, c0, c1⟩ := CA8.out.2.1.two hc rfl hgm.out
              have CC : Hid (rb = false → l.contains ca = true) := fun h => CON.out h _ (get_mem hc)
              have NC := Lib.hid (box_one wr (.cells #[.int .i64 ca, .int .i64 ck] 44))
              have GN := Lib.hid (hgm.out.trans NC.out.1)
              clear hc
              subst hA4
              cases rb with
              | true =>
                clear CC
                go_wp2_with fail
                go_roundw
                case rel => exact ⟨m + 1, by omega, by go_num, GN.out⟩
                case measure => simp [intOf]; omega
              | false =>
                have KH := Lib.hid (rhasInt A3 m3 l ca l.length (wr.alloc (.cells #[.int .i64 ca, .int .i64 ck] 44)) rfl (RL.out.gr GN.out) (by have := LL.out; omega))
                have CT := CC.out rfl
                rw [CT] at KH
                clear CC CT
                go_wp2_with ((with_reducible refine KH.out.mono ?_); rintro e w9 ⟨rfl, rfl⟩)
                go_roundw
                case rel => exact ⟨m + 1, by omega, by go_num, GN.out⟩
                case measure => simp [intOf]; omega
            · obtain rfl : m = ch.length := by omega
              go_wp2_with fail
              go_roundw
              case rel => exact ⟨k + 1, by omega, by go_num, GV8.out.trans hgm.out⟩
              case measure => simp [intOf]; omega
    · obtain rfl : k = zs.length := by omega
      go_wp2_with fail
      go_ret
      exact ⟨rfl, G4.out.trans hg.out⟩

set_option maxRecDepth 100000 in
theorem contract (H : Type) (enc : TypeId × Value → H) (W : World) (base : Nat) (args : Array Value) (ds gs : List (DataW H)) (before : List MemPlace)
    (hval : ∀ (j : Nat) t v, Tryz.f7.params[j]? = some t → args[j]? = some v → Value.okWide Tryz.prog W .any base t v)
    (hW : DataW.Whole enc Tryz.prog Tryz.f7.params.toList Rows.tableFixedSpec.vars false W args.toList ds gs before) (hL : laidMet Tryz.prog Rows.tableFixedRow.laid W) (hsh : W.ShapedOpen Tryz.prog) :
    Calls Tryz.prog 7 args W fun e W' => ∃ v, e = .returned v ∧ Rows.tableFixedSpec.post enc Tryz.prog Tryz.f7 false true false false W args v W' := by
  have hW' := hW
  obtain ⟨p, q, hA0, hV, rfl, hfz, hnd⟩ := hW
  have hA : DataW.TrodAll enc Tryz.prog W 0 (fun _ => true) true Tryz.f7.params.toList args.toList ds p := hA0
  rw [Tryz.params7] at hA hval
  obtain ⟨v0, vs0, d0, ds0, p0, q0, hargs, rfl, rfl, h0, r0⟩ := trodAll_cons hA
  obtain ⟨v1, vs1, d1, ds1, p1, q1, rfl, rfl, rfl, h1, r1⟩ := trodAll_cons r0
  obtain ⟨v2, vs2, d2, ds2, p2, q2, rfl, rfl, rfl, h2, r2⟩ := trodAll_cons r1
  obtain ⟨rfl, rfl, rfl⟩ := trodAll_nil r2
  obtain rfl : args = #[v0, v1, v2] := by cases args; simp_all
  obtain ⟨rfl, rfl⟩ := trodVars_none hV
  obtain ⟨bk0, rfl, bi0⟩ := open_book (hval 0 26 v0 rfl rfl) h0
  obtain ⟨a1, rfl, rfl, rfl, w1⟩ := open_int Tryz.underlying3 (hval 1 3 v1 rfl rfl) h1
  obtain ⟨a2, rfl, rfl, rfl, w2⟩ := open_int Tryz.underlying3 (hval 2 3 v2 rfl rfl) h2
  clear hA0
  simp only [List.append_nil] at hW'
  refine (walk bk0 a1 (bounds_i64 w1).1 (bounds_i64 w1).2 a2 (bounds_i64 w2).1 (bounds_i64 w2).2 W bi0 ⟨lens_of hL (List.mem_of_getElem? (i := 3) rfl), pow_of hL (List.mem_of_getElem? (i := 2) rfl), max_of hsh⟩).mono fun e W' ⟨he, hg⟩ => ?_
  subst he
  exact ⟨_, rfl, post_of_below (pa := (p0 ++ ([] ++ ([] ++ [])))) (pv := []) hW' (fun _ _ _ => trodAll_cons_mk (shut_bool Tryz.underlying4 _) trodAll_mk0) (fun _ hsp => (trodAll_cons_mk (stays book_reads h0 hg (fun p hp => by simp [hp]) (fun p hp => hW'.lt p hp) hsp) (trodAll_cons_mk (shut_int Tryz.underlying3 w1) (trodAll_cons_mk (shut_int Tryz.underlying3 w2) trodAll_mk0)))) (fun _ _ => rfl) (by simp)
    hg (ok_one (by kernel_rfl) rfl (okWide_bool_mk Tryz.underlying4 _))⟩

/-- A world for the witness: the settled one, the listed variables holding what their initialisers lay. -/
noncomputable def laidWorld (os : Os) : World := put (put (put (put (put (put (bare os) 5 (flat1 Rows.laid_math_bits_deBruijn32tab)) 6 (flat1 Rows.laid_math_bits_deBruijn64tab)) 2 (flat1 Rows.laid_internal_strconv_uint64pow10)) 0 (flat1 Rows.laid_timeball_civil_lengths)) 4 (flat2 Rows.laid_unicode_utf8_acceptRanges)) 3 (flat1 Rows.laid_unicode_utf8_first)
set_option maxRecDepth 100000 in
theorem laid_met (os : Os) : laidMet Tryz.prog Rows.tableFixedRow.laid ((laidWorld os).forCall (fun _ _ => 0) ⟨#[], #[.agg #[.slice none 0 0, .slice none 0 0, .slice none 0 0], .int .i64 0, .int .i64 0], []⟩).memory :=
  laidMet_of_run3 8 (by kernel_rfl) (by kernel_rfl) (by kernel_rfl)
theorem reads (os : Os) {H : Type} (enc : TypeId × Value → H) : ∃ places, DataW.whole enc Tryz.prog ((laidWorld os).forCall (fun _ _ => 0) ⟨#[], #[.agg #[.slice none 0 0, .slice none 0 0, .slice none 0 0], .int .i64 0, .int .i64 0], []⟩).memory Tryz.f7.params.toList Rows.tableFixedSpec.vars false #[Value.agg #[.slice none 0 0, .slice none 0 0, .slice none 0 0], Value.int .i64 0, Value.int .i64 0].toList 8 = some ([.agg [.nil, .nil, .nil], .lit (.int .i64 0), .lit (.int .i64 0)], [], places) :=
  ⟨[], by kernel_rfl⟩

set_option maxRecDepth 100000 in
theorem lifted (os : Os) (started : os.Started) (H : Type) (enc : TypeId × Value → H) (F : Stop.Interp) :
    ReturnsInHanded {} Tryz.checked os 7 .any ((OpenSpec.ofChange Rows.tableFixedSpec).preRow enc Tryz.prog Tryz.f7 Rows.tableFixedRow.domain false Rows.tableFixedRow.laid) (((OpenSpec.ofChange Rows.tableFixedSpec).at F).post enc Tryz.prog Tryz.f7 false true false false) := by
  obtain ⟨places, hx⟩ := reads os enc
  refine returnsInHanded_of_row (C := Tryz.checked) (s := OpenSpec.ofChange Rows.tableFixedSpec) own started (by kernel_rfl) Tryz.func7
    (witness_row_at (enc := enc) (C := Tryz.checked) false (laidWorld os) #[.agg #[.slice none 0 0, .slice none 0 0, .slice none 0 0], .int .i64 0, .int .i64 0] rfl (by kernel_rfl) (by kernel_rfl) (by kernel_rfl)
      (OpenSpec.preRow_of_cond 8 hx (by kernel_rfl) (fun k hk => by cases hk) (by kernel_rfl) (laid_met os))) ?_
  intro W base args ds gs before hval hW _ _ _ hL hsh _
  exact contract H enc W base args ds gs before hval hW hL hsh

theorem said : Rows.TableFixedSaid :=
  OpenClaim.holds_of_cond 7 Tryz.f7 rfl rfl rfl rfl rfl rfl rfl ⟨rfl, rfl, rfl, rfl, rfl⟩ rfl rfl rfl rfl rfl (by kernel_rfl) Tryz.func7 (by kernel_rfl)
    (of_decide_eq_true (by kernel_rfl)) (by unfold Func.isWrapper; first | (rw [if_pos (by decide +kernel)]; kernel_rfl) | (rw [if_neg (by decide +kernel)]; exact ⟨rfl, rfl⟩))
    (fun os started H enc _ F => by rw [OpenClaim.pre_eq_preRow]; exact lifted os started H enc F)

set_option maxRecDepth 100000 in
/-- No parameter wants a stand-in; whether the program has looks of its own. -/
theorem plain (f : FuncId) (fn : Func) (hf : Tryz.pinned.checked.prog.funcNamed "timeball/timeballkeep.TableFixed" = some f) (hfn : Tryz.pinned.checked.prog.funcs[f]? = some fn) :
    false = Tryz.pinned.checked.prog.looks [] ∧ ∀ (j : Nat) t, fn.params[j]? = some t → Tryz.pinned.checked.prog.wantsStandIn t = false := by
  obtain rfl : f = 7 := Option.some.inj ((show Tryz.prog.funcNamed "timeball/timeballkeep.TableFixed" = some 7 by kernel_rfl).symm.trans hf) |>.symm
  obtain rfl : fn = Tryz.f7 := (Option.some.inj (Tryz.func7.symm.trans hfn)).symm
  refine ⟨by kernel_rfl, fun j t ht => ?_⟩
  rw [Tryz.params7] at ht
  have hm : t = 3 ∨ t = 26 := by have := Array.mem_of_getElem? ht; simp at this; first | exact this | exact this.symm | (rcases this with h | h | h <;> simp [h]) | omega
  rcases hm with rfl | rfl
  · exact (show Tryz.prog.wantsStandIn 3 = false by kernel_rfl)
  · exact (show Tryz.prog.wantsStandIn 26 = false by kernel_rfl)

end Go.Proofs.YtkmgildnhnjepaaGreatDoor.tableFixed
namespace Go.Proofs.YtkmgildnhnjepaaGreatDoor
/-- The card. -/
theorem tableFixed_holds : Rows.TableFixedCardSaid :=
  Claim7.holds_tied_plain_at .later [] _ _ _ _ tableFixed.said (fun _ h => by cases h) (by kernel_rfl) (fun _ h => by cases h) tableFixed_row_tie rfl ⟨rfl, rfl⟩ (by kernel_rfl) rfl tableFixed.plain (by kernel_rfl)
end Go.Proofs.YtkmgildnhnjepaaGreatDoor
