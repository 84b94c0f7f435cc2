/- The law StateSteady of package timeballkeep returns true for every input and leaves its arguments as they were: Where the table has no change the local time is one. Condition: the listed variables (math/bits.deBruijn32tab, math/bits.deBruijn64tab, internal/strconv.uint64pow10, timeball/civil.lengths, unicode/utf8.acceptRanges, unicode/utf8.first) lie as their initialisers lay them; the card ties that tto the program's text. -/
import Derived.Test.YtkmgildnhnjepaaGreatDoorCards
import Derived.Test.YtkmgildnhnjepaaGreatDoorTie
import Derived.Test.YtkmgildnhnjepaaGreatDoorRM21
import Derived.Test.YtkmgildnhnjepaaGreatDoorRM46
import Derived.Test.YtkmgildnhnjepaaGreatDoorRM20
namespace Go.Proofs.YtkmgildnhnjepaaGreatDoor.stateSteady
open Go.ChangeShapes Go.WideShapes Go.ChangeAt Go.RowKit
open Go.ChangeMaps (open_string shut_string)
set_option linter.unusedVariables false
set_option linter.unusedSimpArgs false
set_option maxRecDepth 100000 in
set_option maxHeartbeats 16000000 in
theorem walk (b : BokD) (nm : ByteArray) (hn : nm.size ≤ maxLen) (f : Int) (f1 : -9223372036854775808 ≤ f) (f2 : f ≤ 9223372036854775807) (l : Int) (l1 : -9223372036854775808 ≤ l) (l2 : l ≤ 9223372036854775807) (x : Int) (x1 : -9223372036854775808 ≤ x) (x2 : x ≤ 9223372036854775807) (y : Int) (y1 : -9223372036854775808 ≤ y) (y2 : y ≤ 9223372036854775807) (w : World) (hb : b.At w) (ht : BkTab w) :
    Calls Tryz.prog 6 #[bookV b, .string nm, .int .i64 f, .int .i64 l, .int .i64 x, .int .i64 y] w fun e w' => e = .returned (.bool true) ∧ Gr w w' := by
  have KT := Lib.hid (fun W (g : Gr w W) => ptabled W (g.bk ht))
  have KSp := Lib.hid (fun W => pspan f l W f1 f2 l1 l2)
  have KA := Lib.hid (fun t W (g : Gr w W) h1 h2 => pAt b nm t W (hb.gr g) hn h1 h2 (g.bk ht))
  have K1 := Lib.hid (fun W (g : Gr w W) fb tb => mk_any b nm (tV f) (spT f l) W (hb.gr g) hn fb tb (g.bk ht))
  have SB : Hid ((-11676096000 ≤ tV f ∧ tV f ≤ 13569465599) ∧ tV f ≤ spT f l ∧ spT f l ≤ 13569465599) := ⟨tV_bd f, spT_ge f l, (spT_bd f l).2⟩
  obtain ⟨Ar, cr, rs, Az, cz, zs, Al, cl, ls⟩ := b
  generalize tV f = F at KSp SB K1
  generalize spT f l = T at KSp SB K1
  have B0 := Lib.hid (box_one w (.cells #[.slice Ar rs.length cr, .slice Az zs.length cz, .slice Al ls.length cl] 26))
  simp only at KA K1
  clear hb ht hn f1 f2 l1 l2
  go_enter Tryz.func6, Tryz.ntmps6
  go_wp2_with fail
  generalize w.alloc (.cells #[.slice Ar rs.length cr, .slice Az zs.length cz, .slice Al ls.length cl] 26) = w1 at B0 ⊢
  generalize w.heap.size = q at B0 ⊢
  refine (KT.out w1 B0.out.1).mono ?_
  rintro e w2 ⟨rfl, g2⟩
  have G2 := Lib.hid (B0.out.1.trans g2)
  have HQ2 := Lib.hid (bheap_gr g2 B0.out.2)
  clear g2 B0 KT
  go_wp2_with fail
  refine (KSp.out w2).mono ?_
  rintro e w3 ⟨rfl, g3⟩
  have NS := Lib.hid (box_one w3 (.cells #[.int .i64 F, .int .i64 T] 28))
  have G4 := Lib.hid ((G2.out.trans g3).trans NS.out.1)
  have HQ4 := Lib.hid (bheap_gr (g3.trans NS.out.1) HQ2.out)
  clear g3 G2 HQ2 KSp
  have x0 : (w3.alloc (.cells #[.int .i64 F, .int .i64 T] 28)).cell? ⟨q, 0, none⟩ = some (.slice Ar rs.length cr) := bcell_row HQ4.out rfl
  have x1 : (w3.alloc (.cells #[.int .i64 F, .int .i64 T] 28)).cell? ⟨q, 1, none⟩ = some (.slice Az zs.length cz) := bcell_row HQ4.out rfl
  have x2 : (w3.alloc (.cells #[.int .i64 F, .int .i64 T] 28)).cell? ⟨q, 2, none⟩ = some (.slice Al ls.length cl) := bcell_row HQ4.out rfl
  have y0 : (w3.alloc (.cells #[.int .i64 F, .int .i64 T] 28)).cell? ⟨w3.heap.size, 0, none⟩ = some (.int .i64 F) := bcell_row NS.out.2 rfl
  have y1 : (w3.alloc (.cells #[.int .i64 F, .int .i64 T] 28)).cell? ⟨w3.heap.size, 1, none⟩ = some (.int .i64 T) := bcell_row NS.out.2 rfl
  go_wp2_with fail
  clear x0 x1 x2 y0 y1
  generalize (w3.alloc (.cells #[.int .i64 F, .int .i64 T] 28)) = w4 at NS G4 HQ4 ⊢
  generalize w3.heap.size = qs at NS ⊢
  have HS4 := Lib.hid NS.out.2
  have ML := Lib.hid (mk_lens rs zs ls nm F T)
  have MS := Lib.hid (fun X Y (h : mkC rs zs ls nm F T = 0) x1 x2 y1 y2 hn => mk_steady (x := X) (y := Y) h x1 x2 y1 y2 hn)
  have M0 := Lib.hid (fun (h : mkC rs zs ls nm F T = 0) => And.intro (mk_some h).2 (mkC_zero.1 h).2.1.2.2)
  clear NS
  refine (K1.out w4 G4.out SB.out.1 (by have := SB.out; omega)).mono ?_
  rintro e w5 ⟨A1, a1, B1, b1, rfl, ta1, ca1, g5⟩
  generalize mkTy rs zs ls nm F T = ty at ta1 ML ⊢
  generalize mkCh rs zs ls nm F T = ch at ca1 ML M0 ⊢
  have N1 := Lib.hid (box_one w5 (.cells #[.slice A1 ty.length a1, .int .i64 0, .slice B1 ch.length b1] 32))
  have g6 := g5.trans N1.out.1
  have G6 := Lib.hid (G4.out.trans g6)
  have HQ6 := Lib.hid (bheap_gr g6 HQ4.out)
  have HS6 := Lib.hid (bheap_gr g6 HS4.out)
  have CA := Lib.hid (ChsAt.gr ca1 N1.out.1)
  clear g6 g5 ta1 ca1 G4 HQ4 HS4 K1
  by_cases hC : mkC rs zs ls nm F T = 0
  case neg =>
    have tc := bneT hC
    generalize mkC rs zs ls nm F T = C at tc ⊢
    clear hC M0 MS
    go_wp2_with fail
    go_ret
    exact ⟨rfl, G6.out⟩
  case pos =>
  have M1 := Lib.hid (M0.out hC).1
  have FT := (M0.out hC).2
  have MS1 := Lib.hid (fun X Y => MS.out X Y hC)
  rw [← M1.out] at MS1
  rw [hC]
  clear hC M0 MS M1
  have sb := SB.out
  have R1 := Lib.hid (fun W => rest_q x (T - F) W x1 x2 (by omega) (by omega))
  have R2 := Lib.hid (fun W => rest_q y (T - F) W y1 y2 (by omega) (by omega))
  have e0 : IntKind.i64.wrap (T - F) = T - F := IntWalk.i64_in _ (by omega)
  have u1 := Int.emod_nonneg x (show T - F ≠ 0 by omega)
  have u2 := Int.emod_lt_of_pos x (show 0 < T - F by omega)
  have v1 := Int.emod_nonneg y (show T - F ≠ 0 by omega)
  have v2 := Int.emod_lt_of_pos y (show 0 < T - F by omega)
  generalize x % (T - F) = rx at R1 u1 u2
  generalize y % (T - F) = ry at R2 v1 v2
  have e1 : IntKind.i64.wrap (F + rx) = F + rx := IntWalk.i64_in _ (by omega)
  have e2 : IntKind.i64.wrap (F + ry) = F + ry := IntWalk.i64_in _ (by omega)
  have XB : Hid ((F ≤ F + rx ∧ F + rx < T) ∧ F ≤ F + ry ∧ F + ry < T) := by unfold Hid; omega
  clear x1 x2 y1 y2 u1 u2 v1 v2 sb FT
  go_wp2_with fail
  generalize (w5.alloc (.cells #[.slice A1 ty.length a1, .int .i64 0, .slice B1 ch.length b1] 32)) = w6 at N1 G6 HQ6 HS6 CA ⊢
  generalize w5.heap.size = qa at N1 ⊢
  have z0 : w6.cell? ⟨qs, 0, none⟩ = some (.int .i64 F) := bcell_row HS6.out rfl
  have z1 : w6.cell? ⟨qs, 1, none⟩ = some (.int .i64 T) := bcell_row HS6.out rfl
  go_quiet (first | (go_at_call 15; with_reducible exact Calls.quiet_of_same (R1.out _)) | (go_at_call 15; with_reducible exact Calls.quiet_of_same (R2.out _)))
  have gn : Gr w6 (w6.drewN nq) := (Gr.refl w6).drewN nq
  have G7 := Lib.hid (G6.out.trans gn)
  have HQ7 := Lib.hid (bheap_gr gn HQ6.out)
  have HA7 := Lib.hid (bheap_gr gn N1.out.2)
  have CA7 := Lib.hid (ChsAt.gr CA.out gn)
  clear gn G6 HQ6 HS6 N1 CA z0 z1 e0 e1 e2 R1 R2
  generalize w6.drewN nq = w7 at G7 HQ7 HA7 CA7 ⊢
  generalize F + rx = X at XB ⊢
  generalize F + ry = Y at XB ⊢
  have z0 : w7.cell? ⟨qa, 0, none⟩ = some (.slice A1 ty.length a1) := bcell_row HA7.out rfl
  have z1 : w7.cell? ⟨qa, 1, none⟩ = some (.int .i64 0) := bcell_row HA7.out rfl
  have z2 : w7.cell? ⟨qa, 2, none⟩ = some (.slice B1 ch.length b1) := bcell_row HA7.out rfl
  have LM := ML.out.2
  go_wp2_with fail
  clear z0 z1 z2
  go_loopw [59] (fun i W => ∃ k : Nat, k ≤ ch.length ∧ i = .int .i64 k ∧ Hid (∀ (j : Nat) (c : ChaD), j < k → ch[j]? = some c → ¬ (min X Y < c.at' ∧ c.at' ≤ max X Y)) ∧ Hid (Gr w7 W)) (fun i W => ch.length - (intOf i).toNat)
  case atStart => exact ⟨0, Nat.zero_le _, rfl, fun j c hj _ => by omega, Gr.refl _⟩
  case round =>
    obtain ⟨k, hk, rfl, hno, hg⟩ := hrel
    by_cases hlt : k < ch.length
    · obtain ⟨⟨ca, ck⟩, hx⟩ := get_lt hlt
      obtain ⟨bl, off, hA, c0, c1⟩ := CA7.out.2.1.two hx rfl hg.out
      have NC := Lib.hid (box_one wr (.cells #[.int .i64 ca, .int .i64 ck] 44))
      have HX := Lib.hid hx
      have GU := Lib.hid (hg.out.trans NC.out.1)
      have GF := Lib.hid ((G7.out.trans hg.out).trans NC.out.1)
      clear hx
      subst hA
      have STEP : Hid (¬ (min X Y < ca ∧ ca ≤ max X Y) → ∀ (j : Nat) (c : ChaD), j < k + 1 → ch[j]? = some c → ¬ (min X Y < c.at' ∧ c.at' ≤ max X Y)) := fun h j c hj hc => by
        by_cases e : j = k
        · subst e; rw [HX.out] at hc; injection hc with hc; subst hc; exact h
        · exact hno.out j c (by omega) hc
      by_cases p1 : min X Y < ca
      · have t1 : decide (min X Y < ca) = true := ltT p1
        by_cases p2 : ca ≤ max X Y
        · have t2 : decide (ca ≤ max X Y) = true := decide_eq_true p2
          clear p1 p2 STEP
          go_wp2_with fail
          go_ret
          exact ⟨rfl, GF.out⟩
        · have t2 : decide (ca ≤ max X Y) = false := decide_eq_false p2
          have ST := Lib.hid (STEP.out (fun h => p2 h.2))
          clear p1 p2 STEP
          go_wp2_with fail
          go_roundw
          case rel => exact ⟨k + 1, by omega, by go_num, ST.out, GU.out⟩
          case measure => simp [intOf]; omega
      · have t1 : decide (min X Y < ca) = false := ltF p1
        have ST := Lib.hid (STEP.out (fun h => p1 h.1))
        clear p1 STEP
        go_wp2_with fail
        go_roundw
        case rel => exact ⟨k + 1, by omega, by go_num, ST.out, GU.out⟩
        case measure => simp [intOf]; omega
    · obtain rfl : k = ch.length := by omega
      have AA := Lib.hid (MS1.out X Y XB.out.1.1 XB.out.1.2 XB.out.2.1 XB.out.2.2 (fun c hc => by
        obtain ⟨j, hj⟩ := List.getElem?_of_mem hc
        exact hno.out j c (List.getElem?_eq_some_iff.1 hj).1 hj))
      have G8 := Lib.hid (G7.out.trans hg.out)
      have HQ8 := Lib.hid (bheap_gr hg.out HQ7.out)
      have sb := SB.out
      have xb := XB.out
      have KX := Lib.hid (fun W g => KA.out X W g (by omega) (by omega))
      have KY : Hid (∀ W, Gr w W → Calls Tryz.prog 17 #[.agg #[.slice Ar rs.length cr, .slice Az zs.length cz, .slice Al ls.length cl], .string nm, .int .i64 Y] W fun e w' => e = .returned (.tuple #[.agg #[.int .i64 (atT rs zs ls nm X).off, .bool (atT rs zs ls nm X).sv, .string (atT rs zs ls nm X).nm], .int .i64 0]) ∧ Gr W w') := fun W g => (KA.out Y W g (by omega) (by omega)).mono fun e w' h => by
        obtain ⟨h1, h2⟩ := h
        rw [AA.out.2.1, ← AA.out.2.2] at h1
        exact ⟨h1, h2⟩
      have E1 := Lib.hid AA.out.1
      clear sb xb hg hno hk hlt G7 HQ7 HA7 CA7 MS1 KA AA ML SB XB
      have x0 : wr.cell? ⟨q, 0, none⟩ = some (.slice Ar rs.length cr) := bcell_row HQ8.out rfl
      have x1 : wr.cell? ⟨q, 1, none⟩ = some (.slice Az zs.length cz) := bcell_row HQ8.out rfl
      have x2 : wr.cell? ⟨q, 2, none⟩ = some (.slice Al ls.length cl) := bcell_row HQ8.out rfl
      go_wp2_with fail
      clear x0 x1 x2
      refine (KX.out wr G8.out).mono ?_
      rintro e v1 ⟨rfl, g9⟩
      rw [E1.out]
      generalize atT rs zs ls nm X = Z at KY ⊢
      obtain ⟨o, s, n⟩ := Z
      simp only at KY ⊢
      have NU := Lib.hid (box_one v1 (.cells #[.int .i64 o, .bool s, .string n] 46))
      have ga := g9.trans NU.out.1
      have GA := Lib.hid (G8.out.trans ga)
      have HQA := Lib.hid (bheap_gr ga HQ8.out)
      clear ga g9 G8 HQ8 KX E1
      have x0 : (v1.alloc (.cells #[.int .i64 o, .bool s, .string n] 46)).cell? ⟨q, 0, none⟩ = some (.slice Ar rs.length cr) := bcell_row HQA.out rfl
      have x1 : (v1.alloc (.cells #[.int .i64 o, .bool s, .string n] 46)).cell? ⟨q, 1, none⟩ = some (.slice Az zs.length cz) := bcell_row HQA.out rfl
      have x2 : (v1.alloc (.cells #[.int .i64 o, .bool s, .string n] 46)).cell? ⟨q, 2, none⟩ = some (.slice Al ls.length cl) := bcell_row HQA.out rfl
      go_wp2_with fail
      clear x0 x1 x2
      generalize (v1.alloc (.cells #[.int .i64 o, .bool s, .string n] 46)) = v2 at NU GA HQA ⊢
      generalize v1.heap.size = qu at NU ⊢
      refine (KY.out v2 GA.out).mono ?_
      rintro e v3 ⟨rfl, g9⟩
      have NV := Lib.hid (box_one v3 (.cells #[.int .i64 o, .bool s, .string n] 46))
      have ga := g9.trans NV.out.1
      have GB := Lib.hid (GA.out.trans ga)
      have HU := Lib.hid (bheap_gr ga NU.out.2)
      clear ga g9 GA HQA NU KY
      have EQ := fun w => eqType o s n w
      have x0 : (v3.alloc (.cells #[.int .i64 o, .bool s, .string n] 46)).cell? ⟨qu, 0, none⟩ = some (.int .i64 o) := bcell_row HU.out rfl
      have x1 : (v3.alloc (.cells #[.int .i64 o, .bool s, .string n] 46)).cell? ⟨qu, 1, none⟩ = some (.bool s) := bcell_row HU.out rfl
      have x2 : (v3.alloc (.cells #[.int .i64 o, .bool s, .string n] 46)).cell? ⟨qu, 2, none⟩ = some (.string n) := bcell_row HU.out rfl
      go_wp2_with fail
      go_ret
      exact ⟨rfl, GB.out⟩

set_option maxRecDepth 100000 in
theorem contract (H : Type) (enc : TypeId × Value → H) (W : World) (base : Nat) (args : Array Value) (ds gs : List (DataW H)) (before : List MemPlace)
    (hval : ∀ (j : Nat) t v, Tryz.f6.params[j]? = some t → args[j]? = some v → Value.okWide Tryz.prog W .any base t v)
    (hW : DataW.Whole enc Tryz.prog Tryz.f6.params.toList Rows.stateSteadySpec.vars false W args.toList ds gs before) (hL : laidMet Tryz.prog Rows.stateSteadyRow.laid W) (hsh : W.ShapedOpen Tryz.prog) :
    Calls Tryz.prog 6 args W fun e W' => ∃ v, e = .returned v ∧ Rows.stateSteadySpec.post enc Tryz.prog Tryz.f6 false true false false W args v W' := by
  have hW' := hW
  obtain ⟨p, q, hA0, hV, rfl, hfz, hnd⟩ := hW
  have hA : DataW.TrodAll enc Tryz.prog W 0 (fun _ => true) true Tryz.f6.params.toList args.toList ds p := hA0
  rw [Tryz.params6] at hA hval
  obtain ⟨v0, vs0, d0, ds0, p0, q0, hargs, rfl, rfl, h0, r0⟩ := trodAll_cons hA
  obtain ⟨v1, vs1, d1, ds1, p1, q1, rfl, rfl, rfl, h1, r1⟩ := trodAll_cons r0
  obtain ⟨v2, vs2, d2, ds2, p2, q2, rfl, rfl, rfl, h2, r2⟩ := trodAll_cons r1
  obtain ⟨v3, vs3, d3, ds3, p3, q3, rfl, rfl, rfl, h3, r3⟩ := trodAll_cons r2
  obtain ⟨v4, vs4, d4, ds4, p4, q4, rfl, rfl, rfl, h4, r4⟩ := trodAll_cons r3
  obtain ⟨v5, vs5, d5, ds5, p5, q5, rfl, rfl, rfl, h5, r5⟩ := trodAll_cons r4
  obtain ⟨rfl, rfl, rfl⟩ := trodAll_nil r5
  obtain rfl : args = #[v0, v1, v2, v3, v4, v5] := by cases args; simp_all
  obtain ⟨rfl, rfl⟩ := trodVars_none hV
  obtain ⟨bk0, rfl, bi0⟩ := open_book (hval 0 26 v0 rfl rfl) h0
  obtain ⟨a1, rfl, rfl, rfl, w1⟩ := open_string Tryz.underlying9 (hval 1 9 v1 rfl rfl) h1
  obtain ⟨a2, rfl, rfl, rfl, w2⟩ := open_int Tryz.underlying3 (hval 2 3 v2 rfl rfl) h2
  obtain ⟨a3, rfl, rfl, rfl, w3⟩ := open_int Tryz.underlying3 (hval 3 3 v3 rfl rfl) h3
  obtain ⟨a4, rfl, rfl, rfl, w4⟩ := open_int Tryz.underlying3 (hval 4 3 v4 rfl rfl) h4
  obtain ⟨a5, rfl, rfl, rfl, w5⟩ := open_int Tryz.underlying3 (hval 5 3 v5 rfl rfl) h5
  clear hA0
  simp only [List.append_nil] at hW'
  refine (walk bk0 a1 w1 a2 (bounds_i64 w2).1 (bounds_i64 w2).2 a3 (bounds_i64 w3).1 (bounds_i64 w3).2 a4 (bounds_i64 w4).1 (bounds_i64 w4).2 a5 (bounds_i64 w5).1 (bounds_i64 w5).2 W bi0 ⟨lens_of hL (List.mem_of_getElem? (i := 3) rfl), pow_of hL (List.mem_of_getElem? (i := 2) rfl), max_of hsh⟩).mono fun e W' ⟨he, hg⟩ => ?_
  subst he
  exact ⟨_, rfl, post_of_below (pa := (p0 ++ ([] ++ ([] ++ ([] ++ ([] ++ ([] ++ []))))))) (pv := []) hW' (fun _ _ _ => trodAll_cons_mk (shut_bool Tryz.underlying4 _) trodAll_mk0) (fun _ hsp => (trodAll_cons_mk (stays book_reads h0 hg (fun p hp => by simp [hp]) (fun p hp => hW'.lt p hp) hsp) (trodAll_cons_mk (shut_string Tryz.underlying9 w1) (trodAll_cons_mk (shut_int Tryz.underlying3 w2) (trodAll_cons_mk (shut_int Tryz.underlying3 w3) (trodAll_cons_mk (shut_int Tryz.underlying3 w4) (trodAll_cons_mk (shut_int Tryz.underlying3 w5) trodAll_mk0))))))) (fun _ _ => rfl) (by simp)
    hg (ok_one (by kernel_rfl) rfl (okWide_bool_mk Tryz.underlying4 _))⟩

/-- A world for the witness: the settled one, the listed variables holding what their initialisers lay. -/
noncomputable def laidWorld (os : Os) : World := put (put (put (put (put (put (bare os) 5 (flat1 Rows.laid_math_bits_deBruijn32tab)) 6 (flat1 Rows.laid_math_bits_deBruijn64tab)) 2 (flat1 Rows.laid_internal_strconv_uint64pow10)) 0 (flat1 Rows.laid_timeball_civil_lengths)) 4 (flat2 Rows.laid_unicode_utf8_acceptRanges)) 3 (flat1 Rows.laid_unicode_utf8_first)
set_option maxRecDepth 100000 in
theorem laid_met (os : Os) : laidMet Tryz.prog Rows.stateSteadyRow.laid ((laidWorld os).forCall (fun _ _ => 0) ⟨#[], #[.agg #[.slice none 0 0, .slice none 0 0, .slice none 0 0], .string .empty, .int .i64 0, .int .i64 0, .int .i64 0, .int .i64 0], []⟩).memory :=
  laidMet_of_run3 8 (by kernel_rfl) (by kernel_rfl) (by kernel_rfl)
theorem reads (os : Os) {H : Type} (enc : TypeId × Value → H) : ∃ places, DataW.whole enc Tryz.prog ((laidWorld os).forCall (fun _ _ => 0) ⟨#[], #[.agg #[.slice none 0 0, .slice none 0 0, .slice none 0 0], .string .empty, .int .i64 0, .int .i64 0, .int .i64 0, .int .i64 0], []⟩).memory Tryz.f6.params.toList Rows.stateSteadySpec.vars false #[Value.agg #[.slice none 0 0, .slice none 0 0, .slice none 0 0], Value.string .empty, Value.int .i64 0, Value.int .i64 0, Value.int .i64 0, Value.int .i64 0].toList 8 = some ([.agg [.nil, .nil, .nil], .lit (.string []), .lit (.int .i64 0), .lit (.int .i64 0), .lit (.int .i64 0), .lit (.int .i64 0)], [], places) :=
  ⟨[], by kernel_rfl⟩

set_option maxRecDepth 100000 in
theorem lifted (os : Os) (started : os.Started) (H : Type) (enc : TypeId × Value → H) (F : Stop.Interp) :
    ReturnsInHanded {} Tryz.checked os 6 .any ((OpenSpec.ofChange Rows.stateSteadySpec).preRow enc Tryz.prog Tryz.f6 Rows.stateSteadyRow.domain false Rows.stateSteadyRow.laid) (((OpenSpec.ofChange Rows.stateSteadySpec).at F).post enc Tryz.prog Tryz.f6 false true false false) := by
  obtain ⟨places, hx⟩ := reads os enc
  refine returnsInHanded_of_row (C := Tryz.checked) (s := OpenSpec.ofChange Rows.stateSteadySpec) own started (by kernel_rfl) Tryz.func6
    (witness_row_at (enc := enc) (C := Tryz.checked) false (laidWorld os) #[.agg #[.slice none 0 0, .slice none 0 0, .slice none 0 0], .string .empty, .int .i64 0, .int .i64 0, .int .i64 0, .int .i64 0] rfl (by kernel_rfl) (by kernel_rfl) (by kernel_rfl)
      (OpenSpec.preRow_of_cond 8 hx (by kernel_rfl) (fun k hk => by cases hk) (by kernel_rfl) (laid_met os))) ?_
  intro W base args ds gs before hval hW _ _ _ hL hsh _
  exact contract H enc W base args ds gs before hval hW hL hsh

theorem said : Rows.StateSteadySaid :=
  OpenClaim.holds_of_cond 6 Tryz.f6 rfl rfl rfl rfl rfl rfl rfl ⟨rfl, rfl, rfl, rfl, rfl⟩ rfl rfl rfl rfl rfl (by kernel_rfl) Tryz.func6 (by kernel_rfl)
    (of_decide_eq_true (by kernel_rfl)) (by unfold Func.isWrapper; first | (rw [if_pos (by decide +kernel)]; kernel_rfl) | (rw [if_neg (by decide +kernel)]; exact ⟨rfl, rfl⟩))
    (fun os started H enc _ F => by rw [OpenClaim.pre_eq_preRow]; exact lifted os started H enc F)

set_option maxRecDepth 100000 in
/-- No parameter wants a stand-in; whether the program has looks of its own. -/
theorem plain (f : FuncId) (fn : Func) (hf : Tryz.pinned.checked.prog.funcNamed "timeball/timeballkeep.StateSteady" = some f) (hfn : Tryz.pinned.checked.prog.funcs[f]? = some fn) :
    false = Tryz.pinned.checked.prog.looks [] ∧ ∀ (j : Nat) t, fn.params[j]? = some t → Tryz.pinned.checked.prog.wantsStandIn t = false := by
  obtain rfl : f = 6 := Option.some.inj ((show Tryz.prog.funcNamed "timeball/timeballkeep.StateSteady" = some 6 by kernel_rfl).symm.trans hf) |>.symm
  obtain rfl : fn = Tryz.f6 := (Option.some.inj (Tryz.func6.symm.trans hfn)).symm
  refine ⟨by kernel_rfl, fun j t ht => ?_⟩
  rw [Tryz.params6] at ht
  have hm : t = 3 ∨ t = 9 ∨ t = 26 := by have := Array.mem_of_getElem? ht; simp at this; first | exact this | exact this.symm | (rcases this with h | h | h <;> simp [h]) | omega
  rcases hm with rfl | rfl | rfl
  · exact (show Tryz.prog.wantsStandIn 3 = false by kernel_rfl)
  · exact (show Tryz.prog.wantsStandIn 9 = false by kernel_rfl)
  · exact (show Tryz.prog.wantsStandIn 26 = false by kernel_rfl)

end Go.Proofs.YtkmgildnhnjepaaGreatDoor.stateSteady
namespace Go.Proofs.YtkmgildnhnjepaaGreatDoor
/-- The card. -/
theorem stateSteady_holds : Rows.StateSteadyCardSaid :=
  Claim7.holds_tied_plain_at .later [] _ _ _ _ stateSteady.said (fun _ h => by cases h) (by kernel_rfl) (fun _ h => by cases h) stateSteady_row_tie rfl ⟨rfl, rfl⟩ (by kernel_rfl) rfl stateSteady.plain (by kernel_rfl)
end Go.Proofs.YtkmgildnhnjepaaGreatDoor
