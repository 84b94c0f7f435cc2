/- The law TableJoin of package timeballkeep returns true for every input and leaves its arguments as they were: The changes of two spans that meet are those of both together, but for one where they meet. Condition: the listed variables (math/bits.deBruijn32tab, math/bits.deBruijn64tab, internal/strconv.uint64pow10, timeball/civil.lengths, unicode/utf8.acceptRanges, unicode/utf8.first) lie as their initialisers lay them; the card ties that tto the program's text. -/
import Derived.Test.YtkmgildnhnjepaaGreatDoorCards
import Derived.Test.YtkmgildnhnjepaaGreatDoorTie
import Derived.Test.YtkmgildnhnjepaaGreatDoorRM21
import Derived.Test.YtkmgildnhnjepaaGreatDoorRM46
import Derived.Test.YtkmgildnhnjepaaGreatDoorRM07
import Derived.Test.YtkmgildnhnjepaaGreatDoorRM20
namespace Go.Proofs.YtkmgildnhnjepaaGreatDoor.tableJoin
open Go.ChangeShapes Go.WideShapes Go.ChangeAt Go.RowKit
open Go.ChangeMaps (open_string shut_string)
set_option linter.unusedVariables false
set_option linter.unusedSimpArgs false
set_option maxRecDepth 100000 in
set_option maxHeartbeats 16000000 in
theorem walk (b : BokD) (nm : ByteArray) (hn : nm.size ≤ maxLen) (f : Int) (f1 : -9223372036854775808 ≤ f) (f2 : f ≤ 9223372036854775807) (l : Int) (l1 : -9223372036854775808 ≤ l) (l2 : l ≤ 9223372036854775807) (x : Int) (x1 : -9223372036854775808 ≤ x) (x2 : x ≤ 9223372036854775807) (w : World) (hb : b.At w) (ht : BkTab w) :
    Calls Tryz.prog 8 #[bookV b, .string nm, .int .i64 f, .int .i64 l, .int .i64 x] w fun e w' => e = .returned (.bool true) ∧ Gr w w' := by
  have KT := Lib.hid (fun W (g : Gr w W) => ptabled W (g.bk ht))
  have KSp := Lib.hid (fun W => pspan f l W f1 f2 l1 l2)
  have KM := Lib.hid (fun nm F T W (g : Gr w W) hn fb tb => mk_any b nm F T W (hb.gr g) hn fb tb (g.bk ht))
  have SB : Hid ((-11676096000 ≤ tV f ∧ tV f ≤ 13569465599) ∧ tV f ≤ spT f l ∧ spT f l ≤ 13569465599) := ⟨tV_bd f, spT_ge f l, (spT_bd f l).2⟩
  obtain ⟨Ar, cr, rs, Az, cz, zs, Al, cl, ls⟩ := b
  simp only at KM
  generalize tV f = F at KSp SB
  generalize spT f l = T at KSp SB
  have B0 := Lib.hid (box_one w (.cells #[.slice Ar rs.length cr, .slice Az zs.length cz, .slice Al ls.length cl] 26))
  have HN := Lib.hid hn
  clear hb ht hn f1 f2 l1 l2
  go_enter Tryz.func8, Tryz.ntmps8
  go_wp2_with fail
  generalize w.alloc (.cells #[.slice Ar rs.length cr, .slice Az zs.length cz, .slice Al ls.length cl] 26) = w1 at B0 ⊢
  generalize w.heap.size = q at B0 ⊢
  refine (KT.out w1 B0.out.1).mono ?_
  rintro e w2 ⟨rfl, g2⟩
  have G2 := Lib.hid (B0.out.1.trans g2)
  have HQ2 := Lib.hid (bheap_gr g2 B0.out.2)
  clear g2 B0 KT
  go_wp2_with fail
  refine (KSp.out w2).mono ?_
  rintro e w3 ⟨rfl, g3⟩
  have NS := Lib.hid (box_one w3 (.cells #[.int .i64 F, .int .i64 T] 28))
  have G4 := Lib.hid ((G2.out.trans g3).trans NS.out.1)
  have HQ4 := Lib.hid (bheap_gr (g3.trans NS.out.1) HQ2.out)
  clear g3 G2 HQ2 KSp
  have y0 : (w3.alloc (.cells #[.int .i64 F, .int .i64 T] 28)).cell? ⟨w3.heap.size, 0, none⟩ = some (.int .i64 F) := bcell_row NS.out.2 rfl
  have y1 : (w3.alloc (.cells #[.int .i64 F, .int .i64 T] 28)).cell? ⟨w3.heap.size, 1, none⟩ = some (.int .i64 T) := bcell_row NS.out.2 rfl
  have sb := SB.out
  by_cases hs : T - F < 2
  · have t0 : decide (T - F < 2) = true := ltT hs
    clear hs x1 x2
    go_wp2_with fail
    go_ret
    exact ⟨rfl, G4.out⟩
  have t0 : decide (T - F < 2) = false := ltF hs
  go_wp2_with fail
  clear y0 y1 t0
  generalize (w3.alloc (.cells #[.int .i64 F, .int .i64 T] 28)) = w4 at NS G4 HQ4 ⊢
  generalize w3.heap.size = qs at NS ⊢
  have R1 := Lib.hid (fun W => rest_q x (T - F - 1) W x1 x2 (by omega) (by omega))
  have e0 : IntKind.i64.wrap (T - F) = T - F := IntWalk.i64_in _ (by omega)
  have e1 : IntKind.i64.wrap (T - F - 1) = T - F - 1 := IntWalk.i64_in _ (by omega)
  have e2 : IntKind.i64.wrap (F + 1) = F + 1 := IntWalk.i64_in _ (by omega)
  have u1 := Int.emod_nonneg x (show T - F - 1 ≠ 0 by omega)
  have u2 := Int.emod_lt_of_pos x (show 0 < T - F - 1 by omega)
  generalize x % (T - F - 1) = r at R1 u1 u2
  have e3 : IntKind.i64.wrap (F + 1 + r) = F + 1 + r := IntWalk.i64_in _ (by omega)
  have XB : Hid (F < F + 1 + r ∧ F + 1 + r < T) := by unfold Hid; omega
  clear x1 x2 u1 u2 sb hs
  have z0 : w4.cell? ⟨qs, 0, none⟩ = some (.int .i64 F) := bcell_row NS.out.2 rfl
  have z1 : w4.cell? ⟨qs, 1, none⟩ = some (.int .i64 T) := bcell_row NS.out.2 rfl
  go_quiet (first | (go_at_call 15; with_reducible exact Calls.quiet_of_same (R1.out _)))
  have gn : Gr w4 (w4.drewN nq) := (Gr.refl w4).drewN nq
  have G5 := Lib.hid (G4.out.trans gn)
  have HQ5 := Lib.hid (bheap_gr gn HQ4.out)
  have HS5 := Lib.hid (bheap_gr gn NS.out.2)
  clear gn G4 HQ4 NS z0 z1 e0 e1 e2 e3 R1
  generalize w4.drewN nq = w5 at G5 HQ5 HS5 ⊢
  generalize F + 1 + r = M at XB ⊢
  have ER := Lib.hid (fun h => mk_errs (rs := rs) (zs := zs) (ls := ls) (nm := nm) (F := F) (T := T) (a := M) (tmB_yes.2 (by have := SB.out; omega)) (tmB_yes.2 (by have := SB.out; have := XB.out; omega)) XB.out.1 XB.out.2 h)
  have JO := Lib.hid (mk_join (rs := rs) (zs := zs) (ls := ls) (nm := nm) XB.out.1 XB.out.2)
  have P1 := Lib.hid (fun (h : mkC rs zs ls nm F T = 0) => And.intro (mk_part h (Int.le_refl F) (show M ≤ T by have := XB.out; omega) XB.out.1) (mk_part h (show F ≤ M by have := XB.out; omega) (Int.le_refl T) XB.out.2))
  have S1 := Lib.hid (fun (h : mkC rs zs ls nm F T = 0) => (mk_some h).2)
  have S2 := Lib.hid (fun (h : mkC rs zs ls nm F M = 0) => (mk_some h).2)
  have S3 := Lib.hid (fun (h : mkC rs zs ls nm M T = 0) => (mk_some h).2)
  have L1 := Lib.hid (mk_lens rs zs ls nm F T)
  have L2 := Lib.hid (mk_lens rs zs ls nm F M)
  have L3 := Lib.hid (mk_lens rs zs ls nm M T)
  have K1 := Lib.hid (fun W g => KM.out nm F T W g HN.out SB.out.1 (by have := SB.out; omega))
  have K2 := Lib.hid (fun W g => KM.out nm F M W g HN.out SB.out.1 (by have := SB.out; have := XB.out; omega))
  have K3 := Lib.hid (fun W g => KM.out nm M T W g HN.out (by have := SB.out; have := XB.out; omega) (by have := SB.out; omega))
  clear KM HN
  have x0 : w5.cell? ⟨q, 0, none⟩ = some (.slice Ar rs.length cr) := bcell_row HQ5.out rfl
  have x1 : w5.cell? ⟨q, 1, none⟩ = some (.slice Az zs.length cz) := bcell_row HQ5.out rfl
  have x2 : w5.cell? ⟨q, 2, none⟩ = some (.slice Al ls.length cl) := bcell_row HQ5.out rfl
  have y0 : w5.cell? ⟨qs, 0, none⟩ = some (.int .i64 F) := bcell_row HS5.out rfl
  have y1 : w5.cell? ⟨qs, 1, none⟩ = some (.int .i64 T) := bcell_row HS5.out rfl
  go_wp2_with fail
  clear x0 x1 x2 y0 y1
  refine (K1.out w5 G5.out).mono ?_
  rintro e v1 ⟨A1, a1, B1, b1, rfl, ta, ca, g⟩
  generalize mkTy rs zs ls nm F T = ty1 at L1 ta ⊢
  generalize mkCh rs zs ls nm F T = ch1 at L1 ca S1 ⊢
  have N1 := Lib.hid (box_one v1 (.cells #[.slice A1 ty1.length a1, .int .i64 0, .slice B1 ch1.length b1] 32))
  have g2 := g.trans N1.out.1
  have GA1 := Lib.hid (G5.out.trans g2)
  have HQA1 := Lib.hid (bheap_gr g2 HQ5.out)
  have HSA1 := Lib.hid (bheap_gr g2 HS5.out)
  have CA1 := Lib.hid (ChsAt.gr ca N1.out.1)
  clear g2 g ta ca G5 HQ5 HS5 K1
  have x0 : (v1.alloc (.cells #[.slice A1 ty1.length a1, .int .i64 0, .slice B1 ch1.length b1] 32)).cell? ⟨q, 0, none⟩ = some (.slice Ar rs.length cr) := bcell_row HQA1.out rfl
  have x1 : (v1.alloc (.cells #[.slice A1 ty1.length a1, .int .i64 0, .slice B1 ch1.length b1] 32)).cell? ⟨q, 1, none⟩ = some (.slice Az zs.length cz) := bcell_row HQA1.out rfl
  have x2 : (v1.alloc (.cells #[.slice A1 ty1.length a1, .int .i64 0, .slice B1 ch1.length b1] 32)).cell? ⟨q, 2, none⟩ = some (.slice Al ls.length cl) := bcell_row HQA1.out rfl
  have y0 : (v1.alloc (.cells #[.slice A1 ty1.length a1, .int .i64 0, .slice B1 ch1.length b1] 32)).cell? ⟨qs, 0, none⟩ = some (.int .i64 F) := bcell_row HSA1.out rfl
  have y1 : (v1.alloc (.cells #[.slice A1 ty1.length a1, .int .i64 0, .slice B1 ch1.length b1] 32)).cell? ⟨qs, 1, none⟩ = some (.int .i64 T) := bcell_row HSA1.out rfl
  go_wp2_with fail
  clear x0 x1 x2 y0 y1
  generalize (v1.alloc (.cells #[.slice A1 ty1.length a1, .int .i64 0, .slice B1 ch1.length b1] 32)) = w7 at GA1 HQA1 HSA1 N1  CA1 ⊢
  generalize v1.heap.size = qt1 at N1 ⊢
  have HT1 := Lib.hid N1.out.2
  clear N1
  refine (K2.out w7 GA1.out).mono ?_
  rintro e v2 ⟨A2, a2, B2, b2, rfl, ta, ca, g⟩
  generalize mkTy rs zs ls nm F M = ty2 at L2 ta ⊢
  generalize mkCh rs zs ls nm F M = ch2 at L2 ca S2 ⊢
  have N2 := Lib.hid (box_one v2 (.cells #[.slice A2 ty2.length a2, .int .i64 0, .slice B2 ch2.length b2] 32))
  have g2 := g.trans N2.out.1
  have GA2 := Lib.hid (GA1.out.trans g2)
  have HQA2 := Lib.hid (bheap_gr g2 HQA1.out)
  have HSA2 := Lib.hid (bheap_gr g2 HSA1.out)
  have HT1x := Lib.hid (bheap_gr g2 HT1.out)
  clear HT1
  have HT1 := Lib.hid HT1x.out
  clear HT1x
  have CA1x := Lib.hid (ChsAt.gr CA1.out g2)
  clear CA1
  have CA1 := Lib.hid CA1x.out
  clear CA1x
  clear g2 g ta ca GA1 HQA1 HSA1 K2
  have x0 : (v2.alloc (.cells #[.slice A2 ty2.length a2, .int .i64 0, .slice B2 ch2.length b2] 32)).cell? ⟨q, 0, none⟩ = some (.slice Ar rs.length cr) := bcell_row HQA2.out rfl
  have x1 : (v2.alloc (.cells #[.slice A2 ty2.length a2, .int .i64 0, .slice B2 ch2.length b2] 32)).cell? ⟨q, 1, none⟩ = some (.slice Az zs.length cz) := bcell_row HQA2.out rfl
  have x2 : (v2.alloc (.cells #[.slice A2 ty2.length a2, .int .i64 0, .slice B2 ch2.length b2] 32)).cell? ⟨q, 2, none⟩ = some (.slice Al ls.length cl) := bcell_row HQA2.out rfl
  have y0 : (v2.alloc (.cells #[.slice A2 ty2.length a2, .int .i64 0, .slice B2 ch2.length b2] 32)).cell? ⟨qs, 0, none⟩ = some (.int .i64 F) := bcell_row HSA2.out rfl
  have y1 : (v2.alloc (.cells #[.slice A2 ty2.length a2, .int .i64 0, .slice B2 ch2.length b2] 32)).cell? ⟨qs, 1, none⟩ = some (.int .i64 T) := bcell_row HSA2.out rfl
  go_wp2_with fail
  clear x0 x1 x2 y0 y1
  generalize (v2.alloc (.cells #[.slice A2 ty2.length a2, .int .i64 0, .slice B2 ch2.length b2] 32)) = w8 at GA2 HQA2 HSA2 N2 HT1 CA1 ⊢
  generalize v2.heap.size = qt2 at N2 ⊢
  have HT2 := Lib.hid N2.out.2
  clear N2
  refine (K3.out w8 GA2.out).mono ?_
  rintro e v3 ⟨A3, a3, B3, b3, rfl, ta, ca, g⟩
  generalize mkTy rs zs ls nm M T = ty3 at L3 ta ⊢
  generalize mkCh rs zs ls nm M T = ch3 at L3 ca S3 ⊢
  have N3 := Lib.hid (box_one v3 (.cells #[.slice A3 ty3.length a3, .int .i64 0, .slice B3 ch3.length b3] 32))
  have g2 := g.trans N3.out.1
  have GA3 := Lib.hid (GA2.out.trans g2)
  have HQA3 := Lib.hid (bheap_gr g2 HQA2.out)
  have HSA3 := Lib.hid (bheap_gr g2 HSA2.out)
  have HT1x := Lib.hid (bheap_gr g2 HT1.out)
  clear HT1
  have HT1 := Lib.hid HT1x.out
  clear HT1x
  have HT2x := Lib.hid (bheap_gr g2 HT2.out)
  clear HT2
  have HT2 := Lib.hid HT2x.out
  clear HT2x
  have CA1x := Lib.hid (ChsAt.gr CA1.out g2)
  clear CA1
  have CA1 := Lib.hid CA1x.out
  clear CA1x
  clear g2 g ta ca GA2 HQA2 HSA2 K3
  clear HQA3 HSA3
  by_cases c1 : mkC rs zs ls nm F T = 0
  case neg =>
    have E := Lib.hid (ER.out (Or.inl c1))
    have t1 := bneT c1
    clear P1 S1 S2 S3 JO ER N3 HT1 HT2 CA1 L1 L2 L3
    generalize mkC rs zs ls nm F T = C1 at c1 E t1 ⊢
    generalize mkC rs zs ls nm F M = C2 at E ⊢
    generalize mkC rs zs ls nm M T = C3 at E ⊢
    rcases E.out with ⟨e1, e2⟩ | e1
    · subst e1
      subst e2
      have t2 : (C1 == C1) = true := beqT rfl
      clear c1 E
      go_wp2_with fail
      go_ret
      exact ⟨rfl, GA3.out⟩
    · subst e1
      clear c1 E t1
      by_cases d1 : (2 : Int) = C2
      · subst d1
        by_cases d2 : (2 : Int) = C3
        · subst d2
          go_wp2_with fail
          go_ret
          exact ⟨rfl, GA3.out⟩
        · have t3 : ((2 : Int) == C3) = false := beqF d2
          clear d2
          go_wp2_with fail
          go_ret
          exact ⟨rfl, GA3.out⟩
      · have t3 : ((2 : Int) == C2) = false := beqF d1
        clear d1
        go_wp2_with fail
        go_ret
        exact ⟨rfl, GA3.out⟩
  case pos =>
  have c2 := (P1.out c1).1
  have c3 := (P1.out c1).2
  have J1 := Lib.hid JO.out
  rw [← S1.out c1, ← S2.out c2, ← S3.out c3] at J1
  rw [c1, c2, c3]
  clear c1 c2 c3 P1 S1 S2 S3 JO ER
  have LA := L1.out.2
  have LB := L2.out.2
  have LC := L3.out.2
  clear L1 L2 L3
  have HT3 := Lib.hid N3.out.2
  have x0 : (v3.alloc (.cells #[.slice A3 ty3.length a3, .int .i64 0, .slice B3 ch3.length b3] 32)).cell? ⟨qt1, 0, none⟩ = some (.slice A1 ty1.length a1) := bcell_row (bheap_gr (Gr.refl _) HT1.out) rfl
  have x1 : (v3.alloc (.cells #[.slice A3 ty3.length a3, .int .i64 0, .slice B3 ch3.length b3] 32)).cell? ⟨qt1, 1, none⟩ = some (.int .i64 0) := bcell_row (bheap_gr (Gr.refl _) HT1.out) rfl
  have x2 : (v3.alloc (.cells #[.slice A3 ty3.length a3, .int .i64 0, .slice B3 ch3.length b3] 32)).cell? ⟨qt1, 2, none⟩ = some (.slice B1 ch1.length b1) := bcell_row (bheap_gr (Gr.refl _) HT1.out) rfl
  go_wp2_with fail
  clear x0 x1 x2
  generalize (v3.alloc (.cells #[.slice A3 ty3.length a3, .int .i64 0, .slice B3 ch3.length b3] 32)) = w9 at GA3 HT3 HT1 HT2 CA1 N3 ⊢
  generalize v3.heap.size = qt3 at HT3 N3 ⊢
  clear N3
  obtain ⟨mt, hmt⟩ : ∃ mt : Nat → Int, (fun k => if (ch1.take k).any (fun c => c.at' == M) = true then 1 else 0) = mt := ⟨_, rfl⟩
  have MT := Lib.hid (fun k => congrFun hmt k)
  have MB : ∀ k, 0 ≤ mt k ∧ mt k ≤ 1 := fun k => by rw [← hmt]; simp only; split <;> omega
  have MBH := Lib.hid MB
  have MZ : Hid (mt 0 = 0) := by rw [← hmt]; rfl
  clear hmt MB
  go_loopw [18, 96] (fun m i W => ∃ k : Nat, k ≤ ch1.length ∧ i = .int .i64 k ∧ Hid (m = .int .i64 (mt k)) ∧ Hid (Gr w9 W)) (fun m i W => ch1.length - (intOf i).toNat)
  case atStart => exact ⟨0, Nat.zero_le _, rfl, by rw [MZ.out]; rfl, Gr.refl _⟩
  case round =>
    obtain ⟨k, hk, rfl, hm, hg⟩ := hrel
    obtain rfl := hm.out
    by_cases hlt : k < ch1.length
    · obtain ⟨⟨ca, ck⟩, hx⟩ := get_lt hlt
      obtain ⟨bl, off, hA, c0, c1⟩ := CA1.out.2.1.two hx rfl hg.out
      have NC := Lib.hid (box_one wr (.cells #[.int .i64 ca, .int .i64 ck] 44))
      have GU := Lib.hid (hg.out.trans NC.out.1)
      have TK := Lib.hid (any_take (p := fun c : ChaD => c.at' == M) hx)
      clear hx hm
      subst hA
      by_cases p1 : ca = M
      · have t1 : (ca == M) = true := beqT p1
        have MN : Hid (mt (k + 1) = 1) := by unfold Hid; rw [← MT.out (k + 1)]; simp only [TK.out, t1, Bool.or_true, if_true]
        clear p1 TK
        go_wp2_with fail
        go_roundw
        case rel => exact ⟨k + 1, by omega, by go_num, by rw [MN.out]; rfl, GU.out⟩
        case measure => simp [intOf]; omega
      · have t1 : (ca == M) = false := beqF p1
        have MN : Hid (mt (k + 1) = mt k) := by unfold Hid; rw [← MT.out (k + 1), ← MT.out k]; simp only [TK.out, t1, Bool.or_false]
        clear p1 TK
        go_wp2_with fail
        go_roundw
        case rel => exact ⟨k + 1, by omega, by go_num, by rw [MN.out]; rfl, GU.out⟩
        case measure => simp [intOf]; omega
    · obtain rfl : k = ch1.length := by omega
      have JE : Hid ((ch1.length : Int) = ch2.length + mt ch1.length + ch3.length) := by
        unfold Hid
        rw [← MT.out, List.take_length]
        have := J1.out
        by_cases q : ∃ c ∈ ch1, c.at' = M
        · rw [if_pos q] at this
          rw [if_pos (by obtain ⟨c, hc, e⟩ := q; exact List.any_eq_true.2 ⟨c, hc, by simp [e]⟩)]
          omega
        · rw [if_neg q] at this
          rw [if_neg (fun h => q (by obtain ⟨c, hc, e⟩ := List.any_eq_true.1 h; exact ⟨c, hc, by simpa using e⟩))]
          omega
      have mb := MBH.out ch1.length
      have G9 := Lib.hid (GA3.out.trans hg.out)
      have H1 := Lib.hid (bheap_gr hg.out HT1.out)
      have H2 := Lib.hid (bheap_gr hg.out HT2.out)
      have H3 := Lib.hid (bheap_gr hg.out HT3.out)
      have tj : ((ch1.length : Int) == ch2.length + mt ch1.length + ch3.length) = true := beqT JE.out
      clear hm
      have x0 : wr.cell? ⟨qt1, 0, none⟩ = some (.slice A1 ty1.length a1) := bcell_row H1.out rfl
      have x1 : wr.cell? ⟨qt1, 1, none⟩ = some (.int .i64 0) := bcell_row H1.out rfl
      have x2 : wr.cell? ⟨qt1, 2, none⟩ = some (.slice B1 ch1.length b1) := bcell_row H1.out rfl
      have y0 : wr.cell? ⟨qt2, 0, none⟩ = some (.slice A2 ty2.length a2) := bcell_row H2.out rfl
      have y1 : wr.cell? ⟨qt2, 1, none⟩ = some (.int .i64 0) := bcell_row H2.out rfl
      have y2 : wr.cell? ⟨qt2, 2, none⟩ = some (.slice B2 ch2.length b2) := bcell_row H2.out rfl
      have z0 : wr.cell? ⟨qt3, 0, none⟩ = some (.slice A3 ty3.length a3) := bcell_row H3.out rfl
      have z1 : wr.cell? ⟨qt3, 1, none⟩ = some (.int .i64 0) := bcell_row H3.out rfl
      have z2 : wr.cell? ⟨qt3, 2, none⟩ = some (.slice B3 ch3.length b3) := bcell_row H3.out rfl
      go_wp2_with fail
      go_ret
      exact ⟨rfl, G9.out⟩

set_option maxRecDepth 100000 in
theorem contract (H : Type) (enc : TypeId × Value → H) (W : World) (base : Nat) (args : Array Value) (ds gs : List (DataW H)) (before : List MemPlace)
    (hval : ∀ (j : Nat) t v, Tryz.f8.params[j]? = some t → args[j]? = some v → Value.okWide Tryz.prog W .any base t v)
    (hW : DataW.Whole enc Tryz.prog Tryz.f8.params.toList Rows.tableJoinSpec.vars false W args.toList ds gs before) (hL : laidMet Tryz.prog Rows.tableJoinRow.laid W) (hsh : W.ShapedOpen Tryz.prog) :
    Calls Tryz.prog 8 args W fun e W' => ∃ v, e = .returned v ∧ Rows.tableJoinSpec.post enc Tryz.prog Tryz.f8 false true false false W args v W' := by
  have hW' := hW
  obtain ⟨p, q, hA0, hV, rfl, hfz, hnd⟩ := hW
  have hA : DataW.TrodAll enc Tryz.prog W 0 (fun _ => true) true Tryz.f8.params.toList args.toList ds p := hA0
  rw [Tryz.params8] at hA hval
  obtain ⟨v0, vs0, d0, ds0, p0, q0, hargs, rfl, rfl, h0, r0⟩ := trodAll_cons hA
  obtain ⟨v1, vs1, d1, ds1, p1, q1, rfl, rfl, rfl, h1, r1⟩ := trodAll_cons r0
  obtain ⟨v2, vs2, d2, ds2, p2, q2, rfl, rfl, rfl, h2, r2⟩ := trodAll_cons r1
  obtain ⟨v3, vs3, d3, ds3, p3, q3, rfl, rfl, rfl, h3, r3⟩ := trodAll_cons r2
  obtain ⟨v4, vs4, d4, ds4, p4, q4, rfl, rfl, rfl, h4, r4⟩ := trodAll_cons r3
  obtain ⟨rfl, rfl, rfl⟩ := trodAll_nil r4
  obtain rfl : args = #[v0, v1, v2, v3, v4] := by cases args; simp_all
  obtain ⟨rfl, rfl⟩ := trodVars_none hV
  obtain ⟨bk0, rfl, bi0⟩ := open_book (hval 0 26 v0 rfl rfl) h0
  obtain ⟨a1, rfl, rfl, rfl, w1⟩ := open_string Tryz.underlying9 (hval 1 9 v1 rfl rfl) h1
  obtain ⟨a2, rfl, rfl, rfl, w2⟩ := open_int Tryz.underlying3 (hval 2 3 v2 rfl rfl) h2
  obtain ⟨a3, rfl, rfl, rfl, w3⟩ := open_int Tryz.underlying3 (hval 3 3 v3 rfl rfl) h3
  obtain ⟨a4, rfl, rfl, rfl, w4⟩ := open_int Tryz.underlying3 (hval 4 3 v4 rfl rfl) h4
  clear hA0
  simp only [List.append_nil] at hW'
  refine (walk bk0 a1 w1 a2 (bounds_i64 w2).1 (bounds_i64 w2).2 a3 (bounds_i64 w3).1 (bounds_i64 w3).2 a4 (bounds_i64 w4).1 (bounds_i64 w4).2 W bi0 ⟨lens_of hL (List.mem_of_getElem? (i := 3) rfl), pow_of hL (List.mem_of_getElem? (i := 2) rfl), max_of hsh⟩).mono fun e W' ⟨he, hg⟩ => ?_
  subst he
  exact ⟨_, rfl, post_of_below (pa := (p0 ++ ([] ++ ([] ++ ([] ++ ([] ++ [])))))) (pv := []) hW' (fun _ _ _ => trodAll_cons_mk (shut_bool Tryz.underlying4 _) trodAll_mk0) (fun _ hsp => (trodAll_cons_mk (stays book_reads h0 hg (fun p hp => by simp [hp]) (fun p hp => hW'.lt p hp) hsp) (trodAll_cons_mk (shut_string Tryz.underlying9 w1) (trodAll_cons_mk (shut_int Tryz.underlying3 w2) (trodAll_cons_mk (shut_int Tryz.underlying3 w3) (trodAll_cons_mk (shut_int Tryz.underlying3 w4) trodAll_mk0)))))) (fun _ _ => rfl) (by simp)
    hg (ok_one (by kernel_rfl) rfl (okWide_bool_mk Tryz.underlying4 _))⟩

/-- A world for the witness: the settled one, the listed variables holding what their initialisers lay. -/
noncomputable def laidWorld (os : Os) : World := put (put (put (put (put (put (bare os) 5 (flat1 Rows.laid_math_bits_deBruijn32tab)) 6 (flat1 Rows.laid_math_bits_deBruijn64tab)) 2 (flat1 Rows.laid_internal_strconv_uint64pow10)) 0 (flat1 Rows.laid_timeball_civil_lengths)) 4 (flat2 Rows.laid_unicode_utf8_acceptRanges)) 3 (flat1 Rows.laid_unicode_utf8_first)
set_option maxRecDepth 100000 in
theorem laid_met (os : Os) : laidMet Tryz.prog Rows.tableJoinRow.laid ((laidWorld os).forCall (fun _ _ => 0) ⟨#[], #[.agg #[.slice none 0 0, .slice none 0 0, .slice none 0 0], .string .empty, .int .i64 0, .int .i64 0, .int .i64 0], []⟩).memory :=
  laidMet_of_run3 8 (by kernel_rfl) (by kernel_rfl) (by kernel_rfl)
theorem reads (os : Os) {H : Type} (enc : TypeId × Value → H) : ∃ places, DataW.whole enc Tryz.prog ((laidWorld os).forCall (fun _ _ => 0) ⟨#[], #[.agg #[.slice none 0 0, .slice none 0 0, .slice none 0 0], .string .empty, .int .i64 0, .int .i64 0, .int .i64 0], []⟩).memory Tryz.f8.params.toList Rows.tableJoinSpec.vars false #[Value.agg #[.slice none 0 0, .slice none 0 0, .slice none 0 0], Value.string .empty, Value.int .i64 0, Value.int .i64 0, Value.int .i64 0].toList 8 = some ([.agg [.nil, .nil, .nil], .lit (.string []), .lit (.int .i64 0), .lit (.int .i64 0), .lit (.int .i64 0)], [], places) :=
  ⟨[], by kernel_rfl⟩

set_option maxRecDepth 100000 in
theorem lifted (os : Os) (started : os.Started) (H : Type) (enc : TypeId × Value → H) (F : Stop.Interp) :
    ReturnsInHanded {} Tryz.checked os 8 .any ((OpenSpec.ofChange Rows.tableJoinSpec).preRow enc Tryz.prog Tryz.f8 Rows.tableJoinRow.domain false Rows.tableJoinRow.laid) (((OpenSpec.ofChange Rows.tableJoinSpec).at F).post enc Tryz.prog Tryz.f8 false true false false) := by
  obtain ⟨places, hx⟩ := reads os enc
  refine returnsInHanded_of_row (C := Tryz.checked) (s := OpenSpec.ofChange Rows.tableJoinSpec) own started (by kernel_rfl) Tryz.func8
    (witness_row_at (enc := enc) (C := Tryz.checked) false (laidWorld os) #[.agg #[.slice none 0 0, .slice none 0 0, .slice none 0 0], .string .empty, .int .i64 0, .int .i64 0, .int .i64 0] rfl (by kernel_rfl) (by kernel_rfl) (by kernel_rfl)
      (OpenSpec.preRow_of_cond 8 hx (by kernel_rfl) (fun k hk => by cases hk) (by kernel_rfl) (laid_met os))) ?_
  intro W base args ds gs before hval hW _ _ _ hL hsh _
  exact contract H enc W base args ds gs before hval hW hL hsh

theorem said : Rows.TableJoinSaid :=
  OpenClaim.holds_of_cond 8 Tryz.f8 rfl rfl rfl rfl rfl rfl rfl ⟨rfl, rfl, rfl, rfl, rfl⟩ rfl rfl rfl rfl rfl (by kernel_rfl) Tryz.func8 (by kernel_rfl)
    (of_decide_eq_true (by kernel_rfl)) (by unfold Func.isWrapper; first | (rw [if_pos (by decide +kernel)]; kernel_rfl) | (rw [if_neg (by decide +kernel)]; exact ⟨rfl, rfl⟩))
    (fun os started H enc _ F => by rw [OpenClaim.pre_eq_preRow]; exact lifted os started H enc F)

set_option maxRecDepth 100000 in
/-- No parameter wants a stand-in; whether the program has looks of its own. -/
theorem plain (f : FuncId) (fn : Func) (hf : Tryz.pinned.checked.prog.funcNamed "timeball/timeballkeep.TableJoin" = some f) (hfn : Tryz.pinned.checked.prog.funcs[f]? = some fn) :
    false = Tryz.pinned.checked.prog.looks [] ∧ ∀ (j : Nat) t, fn.params[j]? = some t → Tryz.pinned.checked.prog.wantsStandIn t = false := by
  obtain rfl : f = 8 := Option.some.inj ((show Tryz.prog.funcNamed "timeball/timeballkeep.TableJoin" = some 8 by kernel_rfl).symm.trans hf) |>.symm
  obtain rfl : fn = Tryz.f8 := (Option.some.inj (Tryz.func8.symm.trans hfn)).symm
  refine ⟨by kernel_rfl, fun j t ht => ?_⟩
  rw [Tryz.params8] at ht
  have hm : t = 3 ∨ t = 9 ∨ t = 26 := by have := Array.mem_of_getElem? ht; simp at this; first | exact this | exact this.symm | (rcases this with h | h | h <;> simp [h]) | omega
  rcases hm with rfl | rfl | rfl
  · exact (show Tryz.prog.wantsStandIn 3 = false by kernel_rfl)
  · exact (show Tryz.prog.wantsStandIn 9 = false by kernel_rfl)
  · exact (show Tryz.prog.wantsStandIn 26 = false by kernel_rfl)

end Go.Proofs.YtkmgildnhnjepaaGreatDoor.tableJoin
namespace Go.Proofs.YtkmgildnhnjepaaGreatDoor
/-- The card. -/
theorem tableJoin_holds : Rows.TableJoinCardSaid :=
  Claim7.holds_tied_plain_at .later [] _ _ _ _ tableJoin.said (fun _ h => by cases h) (by kernel_rfl) (fun _ h => by cases h) tableJoin_row_tie rfl ⟨rfl, rfl⟩ (by kernel_rfl) rfl tableJoin.plain (by kernel_rfl)
end Go.Proofs.YtkmgildnhnjepaaGreatDoor
