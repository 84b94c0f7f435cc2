/- The law TableSays of package timeballkeep returns true for every input and leaves its arguments as they were: A compiled table says what the local time is at each time of its span. Condition: the listed variables (math/bits.deBruijn32tab, math/bits.deBruijn64tab, internal/strconv.uint64pow10, timeball/civil.lengths, unicode/utf8.acceptRanges, unicode/utf8.first) lie as their initialisers lay them; the card ties that tto the program's text. -/
import Derived.Test.YtkmgildnhnjepaaGreatDoorCards
import Derived.Test.YtkmgildnhnjepaaGreatDoorTie
import Derived.Test.YtkmgildnhnjepaaGreatDoorRM21
import Derived.Test.YtkmgildnhnjepaaGreatDoorRM47
import Derived.Test.YtkmgildnhnjepaaGreatDoorRM20
namespace Go.Proofs.YtkmgildnhnjepaaGreatDoor.tableSays
open Go.ChangeShapes Go.WideShapes Go.ChangeAt Go.RowKit
open Go.ChangeMaps (open_string shut_string)
set_option linter.unusedVariables false
set_option linter.unusedSimpArgs false
set_option maxRecDepth 100000 in
set_option maxHeartbeats 16000000 in
theorem walk (b : BokD) (nm : ByteArray) (hn : nm.size ≤ maxLen) (f : Int) (f1 : -9223372036854775808 ≤ f) (f2 : f ≤ 9223372036854775807) (l : Int) (l1 : -9223372036854775808 ≤ l) (l2 : l ≤ 9223372036854775807) (x : Int) (x1 : -9223372036854775808 ≤ x) (x2 : x ≤ 9223372036854775807) (w : World) (hb : b.At w) (ht : BkTab w) :
    Calls Tryz.prog 4 #[bookV b, .string nm, .int .i64 f, .int .i64 l, .int .i64 x] w fun e w' => e = .returned (.bool true) ∧ Gr w w' := by
  have KT := Lib.hid (fun W (g : Gr w W) => ptabled W (g.bk ht))
  have KSp := Lib.hid (fun W => pspan f l W f1 f2 l1 l2)
  have KA := Lib.hid (fun t W (g : Gr w W) h1 h2 => pAt b nm t W (hb.gr g) hn h1 h2 (g.bk ht))
  have K1 := Lib.hid (fun W (g : Gr w W) fb tb => mk_any b nm (tV f) (spT f l) W (hb.gr g) hn fb tb (g.bk ht))
  have SB : Hid ((-11676096000 ≤ tV f ∧ tV f ≤ 13569465599) ∧ tV f ≤ spT f l ∧ spT f l ≤ 13569465599) := ⟨tV_bd f, spT_ge f l, (spT_bd f l).2⟩
  obtain ⟨Ar, cr, rs, Az, cz, zs, Al, cl, ls⟩ := b
  generalize tV f = F at KSp SB K1
  generalize spT f l = T at KSp SB K1
  have B0 := Lib.hid (box_one w (.cells #[.slice Ar rs.length cr, .slice Az zs.length cz, .slice Al ls.length cl] 26))
  simp only at KA K1
  clear hb ht hn f1 f2 l1 l2
  go_enter Tryz.func4, Tryz.ntmps4
  go_wp2_with fail
  generalize w.alloc (.cells #[.slice Ar rs.length cr, .slice Az zs.length cz, .slice Al ls.length cl] 26) = w1 at B0 ⊢
  generalize w.heap.size = q at B0 ⊢
  refine (KT.out w1 B0.out.1).mono ?_
  rintro e w2 ⟨rfl, g2⟩
  have G2 := Lib.hid (B0.out.1.trans g2)
  have HQ2 := Lib.hid (bheap_gr g2 B0.out.2)
  clear g2 B0 KT
  go_wp2_with fail
  refine (KSp.out w2).mono ?_
  rintro e w3 ⟨rfl, g3⟩
  have NS := Lib.hid (box_one w3 (.cells #[.int .i64 F, .int .i64 T] 28))
  have G4 := Lib.hid ((G2.out.trans g3).trans NS.out.1)
  have HQ4 := Lib.hid (bheap_gr (g3.trans NS.out.1) HQ2.out)
  clear g3 G2 HQ2 KSp
  have x0 : (w3.alloc (.cells #[.int .i64 F, .int .i64 T] 28)).cell? ⟨q, 0, none⟩ = some (.slice Ar rs.length cr) := bcell_row HQ4.out rfl
  have x1 : (w3.alloc (.cells #[.int .i64 F, .int .i64 T] 28)).cell? ⟨q, 1, none⟩ = some (.slice Az zs.length cz) := bcell_row HQ4.out rfl
  have x2 : (w3.alloc (.cells #[.int .i64 F, .int .i64 T] 28)).cell? ⟨q, 2, none⟩ = some (.slice Al ls.length cl) := bcell_row HQ4.out rfl
  have y0 : (w3.alloc (.cells #[.int .i64 F, .int .i64 T] 28)).cell? ⟨w3.heap.size, 0, none⟩ = some (.int .i64 F) := bcell_row NS.out.2 rfl
  have y1 : (w3.alloc (.cells #[.int .i64 F, .int .i64 T] 28)).cell? ⟨w3.heap.size, 1, none⟩ = some (.int .i64 T) := bcell_row NS.out.2 rfl
  go_wp2_with fail
  clear x0 x1 x2 y0 y1
  generalize (w3.alloc (.cells #[.int .i64 F, .int .i64 T] 28)) = w4 at NS G4 HQ4 ⊢
  generalize w3.heap.size = qs at NS ⊢
  have HS4 := Lib.hid NS.out.2
  clear NS
  by_cases hC : mkC rs zs ls nm F T = 0
  case neg =>
    have K2 := K1.out w4 G4.out SB.out.1 (by have := SB.out; omega)
    rw [(mk_none hC).1, (mk_none hC).2] at K2
    have tc := bneT hC
    clear hC K1
    generalize mkC rs zs ls nm F T = C at tc K2 ⊢
    refine K2.mono ?_
    rintro e w5 ⟨A1, a1, B1, b1, rfl, ta1, ca1, g5⟩
    simp only [List.length_nil]
    have N1 := Lib.hid (box_one w5 (.cells #[.slice A1 0 a1, .int .i64 0, .slice B1 0 b1] 32))
    have G6 := Lib.hid (G4.out.trans (g5.trans N1.out.1))
    clear ta1 ca1 g5 K2 x1 x2 G4 HQ4
    go_wp2_with fail
    generalize (w5.alloc (.cells #[.slice A1 0 a1, .int .i64 0, .slice B1 0 b1] 32)) = w6 at N1 G6 ⊢
    generalize w5.heap.size = qa at N1 ⊢
    have z0 : w6.cell? ⟨qa, 0, none⟩ = some (.slice A1 0 a1) := bcell_row N1.out.2 rfl
    have z1 : w6.cell? ⟨qa, 1, none⟩ = some (.int .i64 0) := bcell_row N1.out.2 rfl
    have z2 : w6.cell? ⟨qa, 2, none⟩ = some (.slice B1 0 b1) := bcell_row N1.out.2 rfl
    go_wp2_with fail
    have KQ : Calls Tryz.prog 11 #[.agg #[.slice A1 0 a1, .int .i64 0, .slice B1 0 b1], .agg #[.slice none 0 0, .int .i64 0, .slice none 0 0]] w6 fun e w' => e = .returned (.bool true) ∧ Gr w6 w' := rtabEq A1 a1 [] 0 B1 b1 [] none 0 none 0 w6 (by decide) (by decide) (Row.nil _ _ _ _) (Row.nil _ _ _ _) (Row.nil _ _ _ _) (Row.nil _ _ _ _)
    refine KQ.mono ?_
    rintro e w7 ⟨rfl, g7⟩
    clear KQ
    go_wp2_with fail
    go_ret
    exact ⟨rfl, G6.out.trans g7⟩
  case pos =>
  have OK := mkT_ok hC
  have SM := mk_some hC
  rw [← SM.1, ← SM.2] at OK
  have CH := Lib.hid (fun t => mk_ch (rs := rs) (zs := zs) (ls := ls) (nm := nm) (t := t) (mkC_zero.1 hC).2.1.2.2)
  have CT : Hid (∀ c ∈ mkCh rs zs ls nm F T, F < c.at' ∧ c.at' < T) := fun c hc => by
    rw [SM.2] at hc
    exact (mem_tls.1 ((CH.out c.at').1 ⟨c, hc, rfl⟩)).1
  have FT := (mkC_zero.1 hC).2.1.2.2
  have ML := Lib.hid (mk_lens rs zs ls nm F T)
  have T0 := Lib.hid OK.1
  have TI := Lib.hid OK.2.1
  have TA := Lib.hid OK.2.2
  refine (K1.out w4 G4.out SB.out.1 (by have := SB.out; omega)).mono ?_
  rintro e w5 ⟨A1, a1, B1, b1, rfl, ta1, ca1, g5⟩
  rw [hC]
  clear hC OK SM CH K1
  generalize mkTy rs zs ls nm F T = ty at ta1 ML T0 TI TA ⊢
  generalize mkCh rs zs ls nm F T = ch at ca1 ML T0 TA CT ⊢
  have N1 := Lib.hid (box_one w5 (.cells #[.slice A1 ty.length a1, .int .i64 0, .slice B1 ch.length b1] 32))
  have g6 := g5.trans N1.out.1
  have G6 := Lib.hid (G4.out.trans g6)
  have HQ6 := Lib.hid (bheap_gr g6 HQ4.out)
  have HS6 := Lib.hid (bheap_gr g6 HS4.out)
  have CA := Lib.hid (ChsAt.gr ca1 N1.out.1)
  have RT := Lib.hid (TysAt.gr ta1 N1.out.1)
  clear g6 g5 ta1 ca1 G4 HQ4 HS4
  have sb := SB.out
  have R1 := Lib.hid (fun W => rest_q x (T - F) W x1 x2 (by omega) (by omega))
  have e0 : IntKind.i64.wrap (T - F) = T - F := IntWalk.i64_in _ (by omega)
  have u1 := Int.emod_nonneg x (show T - F ≠ 0 by omega)
  have u2 := Int.emod_lt_of_pos x (show 0 < T - F by omega)
  generalize x % (T - F) = rx at R1 u1 u2
  have e1 : IntKind.i64.wrap (F + rx) = F + rx := IntWalk.i64_in _ (by omega)
  have XB : Hid (F ≤ F + rx ∧ F + rx < T) := by unfold Hid; omega
  have FTH := Lib.hid FT
  clear x1 x2 u1 u2 sb FT
  go_wp2_with fail
  generalize (w5.alloc (.cells #[.slice A1 ty.length a1, .int .i64 0, .slice B1 ch.length b1] 32)) = w6 at N1 G6 HQ6 HS6 CA RT ⊢
  generalize w5.heap.size = qa at N1 ⊢
  have z0 : w6.cell? ⟨qs, 0, none⟩ = some (.int .i64 F) := bcell_row HS6.out rfl
  have z1 : w6.cell? ⟨qs, 1, none⟩ = some (.int .i64 T) := bcell_row HS6.out rfl
  go_quiet (first | (go_at_call 15; with_reducible exact Calls.quiet_of_same (R1.out _)))
  have gn : Gr w6 (w6.drewN nq) := (Gr.refl w6).drewN nq
  have G7 := Lib.hid (G6.out.trans gn)
  have HQ7 := Lib.hid (bheap_gr gn HQ6.out)
  have HS7 := Lib.hid (bheap_gr gn HS6.out)
  have HA7 := Lib.hid (bheap_gr gn N1.out.2)
  have CA7 := Lib.hid (ChsAt.gr CA.out gn)
  have RT7 := Lib.hid (TysAt.gr RT.out gn)
  clear gn G6 HQ6 HS6 N1 CA RT z0 z1 e0 e1 R1
  generalize w6.drewN nq = w7 at G7 HQ7 HS7 HA7 CA7 RT7 ⊢
  generalize F + rx = X at XB ⊢
  have sb1 : -11676096000 ≤ F := SB.out.1.1
  have sb2 : T ≤ 13569465599 := SB.out.2.2
  have sb3 : F < T := FTH.out
  have NI := Lib.hid (box_one w7 (.cells #[.int .i64 F, .int .i64 (T - 1), .int .i64 X] 3))
  have G8 := Lib.hid (G7.out.trans NI.out.1)
  have HQ8 := Lib.hid (bheap_gr NI.out.1 HQ7.out)
  have HA8 := Lib.hid (bheap_gr NI.out.1 HA7.out)
  have CA8 := Lib.hid (ChsAt.gr CA7.out NI.out.1)
  have RT8 := Lib.hid (TysAt.gr RT7.out NI.out.1)
  have OW : Hid (Own (w7.alloc (.cells #[.int .i64 F, .int .i64 (T - 1), .int .i64 X] 3)) w7.heap.size 3 1 inC (.slice (some ⟨w7.heap.size, 0, none⟩) 3 3) [F, T - 1, X]) := own_blk (Nat.le_refl _) NI.out.2 rfl rfl rfl (by unfold maxLen; omega)
  have LT : Hid (∀ t ∈ [F, T - 1, X], F ≤ t ∧ t < T) := fun t ht => by
    have xb := XB.out
    simp only [List.mem_cons, List.not_mem_nil, or_false] at ht
    rcases ht with rfl | rfl | rfl <;> omega
  have y0 : w7.cell? ⟨qs, 0, none⟩ = some (.int .i64 F) := bcell_row HS7.out rfl
  have y1 : w7.cell? ⟨qs, 1, none⟩ = some (.int .i64 T) := bcell_row HS7.out rfl
  have z0 : (w7.alloc (.cells #[.int .i64 F, .int .i64 (T - 1), .int .i64 X] 3)).cell? ⟨qa, 0, none⟩ = some (.slice A1 ty.length a1) := bcell_row HA8.out rfl
  have z1 : (w7.alloc (.cells #[.int .i64 F, .int .i64 (T - 1), .int .i64 X] 3)).cell? ⟨qa, 1, none⟩ = some (.int .i64 0) := bcell_row HA8.out rfl
  have z2 : (w7.alloc (.cells #[.int .i64 F, .int .i64 (T - 1), .int .i64 X] 3)).cell? ⟨qa, 2, none⟩ = some (.slice B1 ch.length b1) := bcell_row HA8.out rfl
  have LM := ML.out.2
  go_wp2_with fail
  clear y0 y1 z0 z1 z2 HQ8 HA8 CA8 RT8 HS7
  have GB : Hid (Gr w7 (w7.alloc (.cells #[.int .i64 F, .int .i64 (T - 1), .int .i64 X] 3))) := NI.out.1
  clear NI G8
  generalize (w7.alloc (.cells #[.int .i64 F, .int .i64 (T - 1), .int .i64 X] 3)) = w8 at OW GB ⊢
  obtain ⟨b7, hb7⟩ : ∃ n, w7.heap.size = n := ⟨_, rfl⟩
  have B7 := Lib.hid hb7
  rw [hb7] at OW ⊢
  clear hb7
  obtain ⟨i0, hi, hz0, hz1, hz2⟩ := info_parts infoI
  have I1 := Lib.hid hi
  have I2 := Lib.hid hz0
  have I3 := Lib.hid hz1
  have I4 := Lib.hid hz2
  clear hi hz0 hz1 hz2
  go_loopw [14, 60] (fun v i W => ∃ (k : Nat) (l : List Int), k ≤ ch.length ∧ i = .int .i64 k ∧ Hid (Own W b7 3 1 inC v l) ∧ Hid (∀ t ∈ l, F ≤ t ∧ t < T) ∧ Hid (l.length ≤ 3 + 2 * k) ∧ Hid (Gr w7 W)) (fun v i W => ch.length - (intOf i).toNat)
  case atStart => exact ⟨0, _, Nat.zero_le _, rfl, OW.out, LT.out, (by show 3 ≤ 3 + 2 * 0; omega), GB.out⟩
  case round =>
    obtain ⟨k, l, hk, rfl, how, hlt2, hll, hg⟩ := hrel
    clear OW LT GB
    obtain ⟨A3, c3, rfl, q1, q2, _⟩ := how.out.form
    by_cases hlt : k < ch.length
    · obtain ⟨⟨ca, ck⟩, hx⟩ := get_lt hlt
      obtain ⟨bl, off, hA, c0, c1⟩ := CA7.out.2.1.two hx rfl hg.out
      have NC := Lib.hid (box_one wr (.cells #[.int .i64 ca, .int .i64 ck] 44))
      have CI := Lib.hid (CT.out _ (get_mem hx))
      simp only at CI
      have GU := Lib.hid (hg.out.trans NC.out.1)
      clear hx
      subst hA
      by_cases p6 : k < 6
      · have t6 : decide ((k : Int) < 6) = true := ltT (by omega)
        have d1 : F < ca := CI.out.1
        have d2 : ca < T := CI.out.2
        have LL := Lib.hid hll.out
        have OW2 := Lib.hid (how.out.gr NC.out.1)
        clear p6 how
        have N2 := Lib.hid (box_two wr (.cells #[.int .i64 ca, .int .i64 ck] 44) (.cells #[.int .i64 ca, .int .i64 (ca - 1)] 3)).2.2
        have OW3 := Lib.hid (OW2.out.gr (Gr.alloc (wr.alloc (.cells #[.int .i64 ca, .int .i64 ck] 44)) (.cells #[.int .i64 ca, .int .i64 (ca - 1)] 3)))
        have GU3 := Lib.hid (GU.out.trans (Gr.alloc (wr.alloc (.cells #[.int .i64 ca, .int .i64 ck] 44)) (.cells #[.int .i64 ca, .int .i64 (ca - 1)] 3)))
        go_wp2_with (at_builtin; refine wpList_append_lies _ (by rfl) _ _ 42 (by rfl) b7 3 i0 (.int .i64 0) 1 8 Tryz.underlying42 I1.out I2.out I3.out I4.out (by rfl) (by omega) (.slice A3 l.length c3) l.length (l.flatMap inC) (by rfl) OW3.out ⟨wr.heap.size + 1, 0, none⟩ 2 2 [.int .i64 ca, .int .i64 (ca - 1)] (by rfl) (by rfl) (World.news_of_block N2.out) (fun u hu => by simp at hu; rcases hu with rfl | rfl <;> rfl) (by omega) (by have := LL.out; unfold maxLen; omega) (by have := LL.out; omega) (by rw [← B7.out]; exact Below.size GU3.out) _ rfl ?_; intro g2 cap2 v3 hown hgrow hat hlt3; have OW4 := Lib.hid (own_two (x := ca) (y := ca - 1) hown); have GU4 := Lib.hid (grown_gr GU3.out hgrow (by rw [B7.out]; exact own_base OW3.out)); clear hown hgrow hat hlt3)
        have LN : Hid (∀ t ∈ l ++ [ca, ca - 1], F ≤ t ∧ t < T) := fun t ht => by
          rcases List.mem_append.1 ht with q | q
          · exact hlt2.out t q
          · simp only [List.mem_cons, List.not_mem_nil, or_false] at q
            rcases q with rfl | rfl
            · omega
            · have : 2 ≤ 2 := Nat.le_refl _; omega
        go_roundw
        case rel => exact ⟨k + 1, l ++ [ca, ca - 1], by omega, by go_num, by unfold Hid; simpa using OW4.out, LN.out, by have := LL.out; unfold Hid; simp only [List.length_append, List.length_cons, List.length_nil]; omega, GU4.out⟩
        case measure => simp [intOf]; omega
      · have t6 : decide ((k : Int) < 6) = false := ltF (by omega)
        have OW2 := Lib.hid (how.out.gr NC.out.1)
        clear p6 how
        go_wp2_with fail
        go_roundw
        case rel => exact ⟨k + 1, l, by omega, by go_num, OW2.out, hlt2.out, by have := hll.out; unfold Hid at this ⊢; omega, GU.out⟩
        case measure => simp [intOf]; omega
    · obtain rfl : k = ch.length := by omega
      have RL := Lib.hid (how.out.row in_len)
      have LL : Hid (l.length ≤ 3000) := by have := hll.out; unfold Hid; omega
      have LTM := Lib.hid hlt2.out
      have KT2 := Lib.hid (fun t W (g : Gr w7 W) => ptabAt A1 a1 ty 0 B1 b1 ch t W (RT7.out.2.1.gr g) TI.out (CA7.out.2.1.gr g))
      have G9 := Lib.hid (G7.out.trans hg.out)
      have HQ9 := Lib.hid (bheap_gr hg.out HQ7.out)
      have HA9 := Lib.hid (bheap_gr hg.out HA7.out)
      have G79 := Lib.hid hg.out
      clear how hlt2 hll hk hlt q1 q2 CT I1 I2 I3 I4 hg
      have ll := LL.out
      go_wp2_with fail
      generalize wr = w9 at RL G9 HQ9 HA9 G79 ⊢
      go_loopw [78] (fun i W => ∃ k : Nat, k ≤ l.length ∧ i = .int .i64 k ∧ Hid (Gr w9 W)) (fun i W => l.length - (intOf i).toNat)
      case atStart => exact ⟨0, Nat.zero_le _, rfl, Gr.refl _⟩
      case round =>
        obtain ⟨k, hk, rfl, hg⟩ := hrel
        by_cases hlt : k < l.length
        · obtain ⟨t, hx⟩ := get_lt hlt
          obtain ⟨bl, off, hA, _, hc⟩ := RL.out.gr hg.out k t hx
          have c0 : wr.cell? ⟨bl, off + k, none⟩ = some (.int .i64 t) := by simpa using hc 0 (.int .i64 t) rfl
          have TB := Lib.hid (LTM.out t (get_mem hx))
          have TT := Lib.hid (TA.out t TB.out.1 TB.out.2)
          have GA := Lib.hid (G9.out.trans hg.out)
          have HQA := Lib.hid (bheap_gr hg.out HQ9.out)
          have HAA := Lib.hid (bheap_gr hg.out HA9.out)
          have TBA : Hid (tabA ty 0 ch t = tabO ty 0 ch t) := by unfold Hid tabA; rw [if_pos T0.out]
          have tb := TB.out
          have K1 := KT2.out t wr (G79.out.trans hg.out)
          unfold AtTE at K1
          rw [TBA.out, T0.out] at K1
          have K2 : ∀ W, Gr w W → Calls Tryz.prog 17 #[.agg #[.slice Ar rs.length cr, .slice Az zs.length cz, .slice Al ls.length cl], .string nm, .int .i64 t] W fun e w' => e = .returned (.tuple #[.agg #[.int .i64 (tabO ty 0 ch t).off, .bool (tabO ty 0 ch t).sv, .string (tabO ty 0 ch t).nm], .int .i64 0]) ∧ Gr W w' := fun W g => (KA.out t W g (by omega) (by omega)).mono fun e w' h => by
            obtain ⟨h1, h2⟩ := h
            rw [TT.out.1, TT.out.2] at h1
            exact ⟨h1, h2⟩
          clear hx hc tb TB TT TBA
          generalize tabO ty 0 ch t = Z at K1 K2
          obtain ⟨o, s, n⟩ := Z
          simp only at K1 K2
          have KH1 := Lib.hid K1
          have KH2 := Lib.hid K2
          clear K1 K2
          subst hA
          have z0 : wr.cell? ⟨qa, 0, none⟩ = some (.slice A1 ty.length a1) := bcell_row HAA.out rfl
          have z1 : wr.cell? ⟨qa, 1, none⟩ = some (.int .i64 0) := bcell_row HAA.out rfl
          have z2 : wr.cell? ⟨qa, 2, none⟩ = some (.slice B1 ch.length b1) := bcell_row HAA.out rfl
          go_wp2_with fail
          clear z0 z1 z2 c0
          refine KH1.out.mono ?_
          rintro e v1 ⟨rfl, g1⟩
          have NU := Lib.hid (box_one v1 (.cells #[.int .i64 o, .bool s, .string n] 46))
          have g2 := g1.trans NU.out.1
          have GC := Lib.hid (GA.out.trans g2)
          have GV := Lib.hid (hg.out.trans g2)
          have HQC := Lib.hid (bheap_gr g2 HQA.out)
          clear g1 g2 KH1 GA HQA HAA
          have x0 : (v1.alloc (.cells #[.int .i64 o, .bool s, .string n] 46)).cell? ⟨q, 0, none⟩ = some (.slice Ar rs.length cr) := bcell_row HQC.out rfl
          have x1 : (v1.alloc (.cells #[.int .i64 o, .bool s, .string n] 46)).cell? ⟨q, 1, none⟩ = some (.slice Az zs.length cz) := bcell_row HQC.out rfl
          have x2 : (v1.alloc (.cells #[.int .i64 o, .bool s, .string n] 46)).cell? ⟨q, 2, none⟩ = some (.slice Al ls.length cl) := bcell_row HQC.out rfl
          go_wp2_with fail
          clear x0 x1 x2
          generalize (v1.alloc (.cells #[.int .i64 o, .bool s, .string n] 46)) = v2 at NU GC GV HQC ⊢
          generalize v1.heap.size = qu at NU ⊢
          refine (KH2.out v2 GC.out).mono ?_
          rintro e v3 ⟨rfl, g3⟩
          have NV := Lib.hid (box_one v3 (.cells #[.int .i64 o, .bool s, .string n] 46))
          have g4 := g3.trans NV.out.1
          have GD := Lib.hid (GC.out.trans g4)
          have GVD := Lib.hid (GV.out.trans g4)
          have HU := Lib.hid (bheap_gr g4 NU.out.2)
          clear g3 g4 KH2 GC HQC NU
          have EQ := fun w => neqType o s n w
          have x0 : (v3.alloc (.cells #[.int .i64 o, .bool s, .string n] 46)).cell? ⟨qu, 0, none⟩ = some (.int .i64 o) := bcell_row HU.out rfl
          have x1 : (v3.alloc (.cells #[.int .i64 o, .bool s, .string n] 46)).cell? ⟨qu, 1, none⟩ = some (.bool s) := bcell_row HU.out rfl
          have x2 : (v3.alloc (.cells #[.int .i64 o, .bool s, .string n] 46)).cell? ⟨qu, 2, none⟩ = some (.string n) := bcell_row HU.out rfl
          go_wp2_with fail
          go_roundw
          case rel => exact ⟨k + 1, by omega, by go_num, GVD.out⟩
          case measure => simp [intOf]; omega
        · obtain rfl : k = l.length := by omega
          go_wp2_with fail
          go_ret
          exact ⟨rfl, G9.out.trans hg.out⟩

set_option maxRecDepth 100000 in
theorem contract (H : Type) (enc : TypeId × Value → H) (W : World) (base : Nat) (args : Array Value) (ds gs : List (DataW H)) (before : List MemPlace)
    (hval : ∀ (j : Nat) t v, Tryz.f4.params[j]? = some t → args[j]? = some v → Value.okWide Tryz.prog W .any base t v)
    (hW : DataW.Whole enc Tryz.prog Tryz.f4.params.toList Rows.tableSaysSpec.vars false W args.toList ds gs before) (hL : laidMet Tryz.prog Rows.tableSaysRow.laid W) (hsh : W.ShapedOpen Tryz.prog) :
    Calls Tryz.prog 4 args W fun e W' => ∃ v, e = .returned v ∧ Rows.tableSaysSpec.post enc Tryz.prog Tryz.f4 false true false false W args v W' := by
  have hW' := hW
  obtain ⟨p, q, hA0, hV, rfl, hfz, hnd⟩ := hW
  have hA : DataW.TrodAll enc Tryz.prog W 0 (fun _ => true) true Tryz.f4.params.toList args.toList ds p := hA0
  rw [Tryz.params4] at hA hval
  obtain ⟨v0, vs0, d0, ds0, p0, q0, hargs, rfl, rfl, h0, r0⟩ := trodAll_cons hA
  obtain ⟨v1, vs1, d1, ds1, p1, q1, rfl, rfl, rfl, h1, r1⟩ := trodAll_cons r0
  obtain ⟨v2, vs2, d2, ds2, p2, q2, rfl, rfl, rfl, h2, r2⟩ := trodAll_cons r1
  obtain ⟨v3, vs3, d3, ds3, p3, q3, rfl, rfl, rfl, h3, r3⟩ := trodAll_cons r2
  obtain ⟨v4, vs4, d4, ds4, p4, q4, rfl, rfl, rfl, h4, r4⟩ := trodAll_cons r3
  obtain ⟨rfl, rfl, rfl⟩ := trodAll_nil r4
  obtain rfl : args = #[v0, v1, v2, v3, v4] := by cases args; simp_all
  obtain ⟨rfl, rfl⟩ := trodVars_none hV
  obtain ⟨bk0, rfl, bi0⟩ := open_book (hval 0 26 v0 rfl rfl) h0
  obtain ⟨a1, rfl, rfl, rfl, w1⟩ := open_string Tryz.underlying9 (hval 1 9 v1 rfl rfl) h1
  obtain ⟨a2, rfl, rfl, rfl, w2⟩ := open_int Tryz.underlying3 (hval 2 3 v2 rfl rfl) h2
  obtain ⟨a3, rfl, rfl, rfl, w3⟩ := open_int Tryz.underlying3 (hval 3 3 v3 rfl rfl) h3
  obtain ⟨a4, rfl, rfl, rfl, w4⟩ := open_int Tryz.underlying3 (hval 4 3 v4 rfl rfl) h4
  clear hA0
  simp only [List.append_nil] at hW'
  refine (walk bk0 a1 w1 a2 (bounds_i64 w2).1 (bounds_i64 w2).2 a3 (bounds_i64 w3).1 (bounds_i64 w3).2 a4 (bounds_i64 w4).1 (bounds_i64 w4).2 W bi0 ⟨lens_of hL (List.mem_of_getElem? (i := 3) rfl), pow_of hL (List.mem_of_getElem? (i := 2) rfl), max_of hsh⟩).mono fun e W' ⟨he, hg⟩ => ?_
  subst he
  exact ⟨_, rfl, post_of_below (pa := (p0 ++ ([] ++ ([] ++ ([] ++ ([] ++ [])))))) (pv := []) hW' (fun _ _ _ => trodAll_cons_mk (shut_bool Tryz.underlying4 _) trodAll_mk0) (fun _ hsp => (trodAll_cons_mk (stays book_reads h0 hg (fun p hp => by simp [hp]) (fun p hp => hW'.lt p hp) hsp) (trodAll_cons_mk (shut_string Tryz.underlying9 w1) (trodAll_cons_mk (shut_int Tryz.underlying3 w2) (trodAll_cons_mk (shut_int Tryz.underlying3 w3) (trodAll_cons_mk (shut_int Tryz.underlying3 w4) trodAll_mk0)))))) (fun _ _ => rfl) (by simp)
    hg (ok_one (by kernel_rfl) rfl (okWide_bool_mk Tryz.underlying4 _))⟩

/-- A world for the witness: the settled one, the listed variables holding what their initialisers lay. -/
noncomputable def laidWorld (os : Os) : World := put (put (put (put (put (put (bare os) 5 (flat1 Rows.laid_math_bits_deBruijn32tab)) 6 (flat1 Rows.laid_math_bits_deBruijn64tab)) 2 (flat1 Rows.laid_internal_strconv_uint64pow10)) 0 (flat1 Rows.laid_timeball_civil_lengths)) 4 (flat2 Rows.laid_unicode_utf8_acceptRanges)) 3 (flat1 Rows.laid_unicode_utf8_first)
set_option maxRecDepth 100000 in
theorem laid_met (os : Os) : laidMet Tryz.prog Rows.tableSaysRow.laid ((laidWorld os).forCall (fun _ _ => 0) ⟨#[], #[.agg #[.slice none 0 0, .slice none 0 0, .slice none 0 0], .string .empty, .int .i64 0, .int .i64 0, .int .i64 0], []⟩).memory :=
  laidMet_of_run3 8 (by kernel_rfl) (by kernel_rfl) (by kernel_rfl)
theorem reads (os : Os) {H : Type} (enc : TypeId × Value → H) : ∃ places, DataW.whole enc Tryz.prog ((laidWorld os).forCall (fun _ _ => 0) ⟨#[], #[.agg #[.slice none 0 0, .slice none 0 0, .slice none 0 0], .string .empty, .int .i64 0, .int .i64 0, .int .i64 0], []⟩).memory Tryz.f4.params.toList Rows.tableSaysSpec.vars false #[Value.agg #[.slice none 0 0, .slice none 0 0, .slice none 0 0], Value.string .empty, Value.int .i64 0, Value.int .i64 0, Value.int .i64 0].toList 8 = some ([.agg [.nil, .nil, .nil], .lit (.string []), .lit (.int .i64 0), .lit (.int .i64 0), .lit (.int .i64 0)], [], places) :=
  ⟨[], by kernel_rfl⟩

set_option maxRecDepth 100000 in
theorem lifted (os : Os) (started : os.Started) (H : Type) (enc : TypeId × Value → H) (F : Stop.Interp) :
    ReturnsInHanded {} Tryz.checked os 4 .any ((OpenSpec.ofChange Rows.tableSaysSpec).preRow enc Tryz.prog Tryz.f4 Rows.tableSaysRow.domain false Rows.tableSaysRow.laid) (((OpenSpec.ofChange Rows.tableSaysSpec).at F).post enc Tryz.prog Tryz.f4 false true false false) := by
  obtain ⟨places, hx⟩ := reads os enc
  refine returnsInHanded_of_row (C := Tryz.checked) (s := OpenSpec.ofChange Rows.tableSaysSpec) own started (by kernel_rfl) Tryz.func4
    (witness_row_at (enc := enc) (C := Tryz.checked) false (laidWorld os) #[.agg #[.slice none 0 0, .slice none 0 0, .slice none 0 0], .string .empty, .int .i64 0, .int .i64 0, .int .i64 0] rfl (by kernel_rfl) (by kernel_rfl) (by kernel_rfl)
      (OpenSpec.preRow_of_cond 8 hx (by kernel_rfl) (fun k hk => by cases hk) (by kernel_rfl) (laid_met os))) ?_
  intro W base args ds gs before hval hW _ _ _ hL hsh _
  exact contract H enc W base args ds gs before hval hW hL hsh

theorem said : Rows.TableSaysSaid :=
  OpenClaim.holds_of_cond 4 Tryz.f4 rfl rfl rfl rfl rfl rfl rfl ⟨rfl, rfl, rfl, rfl, rfl⟩ rfl rfl rfl rfl rfl (by kernel_rfl) Tryz.func4 (by kernel_rfl)
    (of_decide_eq_true (by kernel_rfl)) (by unfold Func.isWrapper; first | (rw [if_pos (by decide +kernel)]; kernel_rfl) | (rw [if_neg (by decide +kernel)]; exact ⟨rfl, rfl⟩))
    (fun os started H enc _ F => by rw [OpenClaim.pre_eq_preRow]; exact lifted os started H enc F)

set_option maxRecDepth 100000 in
/-- No parameter wants a stand-in; whether the program has looks of its own. -/
theorem plain (f : FuncId) (fn : Func) (hf : Tryz.pinned.checked.prog.funcNamed "timeball/timeballkeep.TableSays" = some f) (hfn : Tryz.pinned.checked.prog.funcs[f]? = some fn) :
    false = Tryz.pinned.checked.prog.looks [] ∧ ∀ (j : Nat) t, fn.params[j]? = some t → Tryz.pinned.checked.prog.wantsStandIn t = false := by
  obtain rfl : f = 4 := Option.some.inj ((show Tryz.prog.funcNamed "timeball/timeballkeep.TableSays" = some 4 by kernel_rfl).symm.trans hf) |>.symm
  obtain rfl : fn = Tryz.f4 := (Option.some.inj (Tryz.func4.symm.trans hfn)).symm
  refine ⟨by kernel_rfl, fun j t ht => ?_⟩
  rw [Tryz.params4] at ht
  have hm : t = 3 ∨ t = 9 ∨ t = 26 := by have := Array.mem_of_getElem? ht; simp at this; first | exact this | exact this.symm | (rcases this with h | h | h <;> simp [h]) | omega
  rcases hm with rfl | rfl | rfl
  · exact (show Tryz.prog.wantsStandIn 3 = false by kernel_rfl)
  · exact (show Tryz.prog.wantsStandIn 9 = false by kernel_rfl)
  · exact (show Tryz.prog.wantsStandIn 26 = false by kernel_rfl)

end Go.Proofs.YtkmgildnhnjepaaGreatDoor.tableSays
namespace Go.Proofs.YtkmgildnhnjepaaGreatDoor
/-- The card. -/
theorem tableSays_holds : Rows.TableSaysCardSaid :=
  Claim7.holds_tied_plain_at .later [] _ _ _ _ tableSays.said (fun _ h => by cases h) (by kernel_rfl) (fun _ h => by cases h) tableSays_row_tie rfl ⟨rfl, rfl⟩ (by kernel_rfl) rfl tableSays.plain (by kernel_rfl)
end Go.Proofs.YtkmgildnhnjepaaGreatDoor
