/- The law TableLinks of package timeballkeep returns true for every input and leaves its arguments as they were: A link has the table of its zone. Condition: the listed variables (math/bits.deBruijn32tab, math/bits.deBruijn64tab, internal/strconv.uint64pow10, timeball/civil.lengths, unicode/utf8.acceptRanges, unicode/utf8.first) lie as their initialisers lay them; the card ties that tto the program's text. -/
import Derived.Test.YtkmgildnhnjepaaGreatDoorCards
import Derived.Test.YtkmgildnhnjepaaGreatDoorTie
import Derived.Test.YtkmgildnhnjepaaGreatDoorRM21
import Derived.Test.YtkmgildnhnjepaaGreatDoorRM46
import Derived.Test.YtkmgildnhnjepaaGreatDoorRM20
namespace Go.Proofs.YtkmgildnhnjepaaGreatDoor.tableLinks
open Go.ChangeShapes Go.WideShapes Go.ChangeAt Go.RowKit
open Go.ChangeMaps (open_string shut_string)
set_option linter.unusedVariables false
set_option linter.unusedSimpArgs false
set_option maxRecDepth 100000 in
set_option maxHeartbeats 16000000 in
theorem walk (b : BokD) (f : Int) (f1 : -9223372036854775808 ≤ f) (f2 : f ≤ 9223372036854775807) (l : Int) (l1 : -9223372036854775808 ≤ l) (l2 : l ≤ 9223372036854775807) (w : World) (hb : b.At w) (ht : BkTab w) :
    Calls Tryz.prog 5 #[bookV b, .int .i64 f, .int .i64 l] w fun e w' => e = .returned (.bool true) ∧ Gr w w' := by
  have KT := Lib.hid (fun W (g : Gr w W) => ptabled W (g.bk ht))
  have KSp := Lib.hid (fun W => pspan f l W f1 f2 l1 l2)
  have KM := Lib.hid (fun nm F T W (g : Gr w W) hn fb tb => mk_any b nm F T W (hb.gr g) hn fb tb (g.bk ht))
  have HL : Hid (LisAt w b.Al b.cl b.ls) := hb.2.2
  have SB : Hid ((-11676096000 ≤ tV f ∧ tV f ≤ 13569465599) ∧ tV f ≤ spT f l ∧ spT f l ≤ 13569465599) := ⟨tV_bd f, spT_ge f l, (spT_bd f l).2⟩
  obtain ⟨Ar, cr, rs, Az, cz, zs, Al, cl, ls⟩ := b
  simp only at KM
  generalize tV f = F at KSp SB
  generalize spT f l = T at KSp SB
  have B0 := Lib.hid (box_one w (.cells #[.slice Ar rs.length cr, .slice Az zs.length cz, .slice Al ls.length cl] 26))
  clear hb ht f1 f2 l1 l2
  go_enter Tryz.func5, Tryz.ntmps5
  go_wp2_with fail
  generalize w.alloc (.cells #[.slice Ar rs.length cr, .slice Az zs.length cz, .slice Al ls.length cl] 26) = w1 at B0 ⊢
  generalize w.heap.size = q at B0 ⊢
  refine (KT.out w1 B0.out.1).mono ?_
  rintro e w2 ⟨rfl, g2⟩
  have G2 := Lib.hid (B0.out.1.trans g2)
  have HQ2 := Lib.hid (bheap_gr g2 B0.out.2)
  clear g2 B0 KT
  go_wp2_with fail
  refine (KSp.out w2).mono ?_
  rintro e w3 ⟨rfl, g3⟩
  have NS := Lib.hid (box_one w3 (.cells #[.int .i64 F, .int .i64 T] 28))
  have G4 := Lib.hid ((G2.out.trans g3).trans NS.out.1)
  have HQ4 := Lib.hid (bheap_gr (g3.trans NS.out.1) HQ2.out)
  clear g3 G2 HQ2 KSp
  have x0 : (w3.alloc (.cells #[.int .i64 F, .int .i64 T] 28)).cell? ⟨q, 0, none⟩ = some (.slice Ar rs.length cr) := bcell_row HQ4.out rfl
  have x1 : (w3.alloc (.cells #[.int .i64 F, .int .i64 T] 28)).cell? ⟨q, 1, none⟩ = some (.slice Az zs.length cz) := bcell_row HQ4.out rfl
  have x2 : (w3.alloc (.cells #[.int .i64 F, .int .i64 T] 28)).cell? ⟨q, 2, none⟩ = some (.slice Al ls.length cl) := bcell_row HQ4.out rfl
  have LM : Hid (ls.length ≤ maxLen) := Nat.le_trans HL.out.1.1 HL.out.1.2
  have lm := LM.out
  unfold maxLen at lm
  go_wp2_with fail
  clear x0 x1 x2
  generalize (w3.alloc (.cells #[.int .i64 F, .int .i64 T] 28)) = w4 at NS G4 HQ4 ⊢
  generalize w3.heap.size = qs at NS ⊢
  have HS4 := Lib.hid NS.out.2
  clear NS
  go_loopw [22] (fun i W => ∃ k : Nat, k ≤ ls.length ∧ i = .int .i64 k ∧ Hid (Gr w4 W)) (fun i W => ls.length - (intOf i).toNat)
  case atStart => exact ⟨0, Nat.zero_le _, rfl, Gr.refl _⟩
  case round =>
    obtain ⟨k, hk, rfl, hg⟩ := hrel
    by_cases hlt : k < ls.length
    · obtain ⟨⟨xn, xt⟩, hx⟩ := get_lt hlt
      obtain ⟨bl, off, hA, c0, c1⟩ := HL.out.2.1.two hx rfl (G4.out.trans hg.out)
      have XI := Lib.hid (HL.out.2.2 _ (get_mem hx))
      have AL := Lib.hid (mk_links (rs := rs) (zs := zs) hx F T)
      have ML := Lib.hid (mk_lens rs zs ls xn F T)
      have K1 := Lib.hid (fun W g => KM.out xn F T W g XI.out.1 SB.out.1 (by have := SB.out; omega))
      have K2 := Lib.hid (fun W g => KM.out xt F T W g XI.out.2 SB.out.1 (by have := SB.out; omega))
      simp only at AL
      rw [AL.out.1, AL.out.2.1, AL.out.2.2] at K2
      clear AL hx
      generalize mkTy rs zs ls xn F T = ty at K1 K2 ML
      generalize mkCh rs zs ls xn F T = ch at K1 K2 ML
      generalize mkC rs zs ls xn F T = C at K1 K2
      have NL := Lib.hid (box_one wr (.cells #[.string xn, .string xt] 52))
      have G5 := Lib.hid ((G4.out.trans hg.out).trans NL.out.1)
      have GV := Lib.hid (hg.out.trans NL.out.1)
      have HQ5 := Lib.hid (bheap_gr (hg.out.trans NL.out.1) HQ4.out)
      have HS5 := Lib.hid (bheap_gr (hg.out.trans NL.out.1) HS4.out)
      subst hA
      have x0 : (wr.alloc (.cells #[.string xn, .string xt] 52)).cell? ⟨q, 0, none⟩ = some (.slice Ar rs.length cr) := bcell_row HQ5.out rfl
      have x1 : (wr.alloc (.cells #[.string xn, .string xt] 52)).cell? ⟨q, 1, none⟩ = some (.slice Az zs.length cz) := bcell_row HQ5.out rfl
      have x2 : (wr.alloc (.cells #[.string xn, .string xt] 52)).cell? ⟨q, 2, none⟩ = some (.slice (some ⟨bl, off, none⟩) ls.length cl) := bcell_row HQ5.out rfl
      have y0 : (wr.alloc (.cells #[.string xn, .string xt] 52)).cell? ⟨qs, 0, none⟩ = some (.int .i64 F) := bcell_row HS5.out rfl
      have y1 : (wr.alloc (.cells #[.string xn, .string xt] 52)).cell? ⟨qs, 1, none⟩ = some (.int .i64 T) := bcell_row HS5.out rfl
      go_wp2_with fail
      clear x0 x1 x2 y0 y1 c0 c1
      generalize (wr.alloc (.cells #[.string xn, .string xt] 52)) = w5 at NL G5 GV HQ5 HS5 ⊢
      generalize wr.heap.size = ql at NL ⊢
      refine (K1.out w5 G5.out).mono ?_
      rintro e w6 ⟨A1, a1, B1, b1, rfl, ta1, ca1, g6⟩
      have N1 := Lib.hid (box_one w6 (.cells #[.slice A1 ty.length a1, .int .i64 0, .slice B1 ch.length b1] 32))
      have g7 := g6.trans N1.out.1
      have G7 := Lib.hid (G5.out.trans g7)
      have GV7 := Lib.hid (GV.out.trans g7)
      have HQ7 := Lib.hid (bheap_gr g7 HQ5.out)
      have HS7 := Lib.hid (bheap_gr g7 HS5.out)
      have HL7 := Lib.hid (bheap_gr g7 NL.out.2)
      have TA1 := Lib.hid (TysAt.gr ta1 N1.out.1)
      have CA1 := Lib.hid (ChsAt.gr ca1 N1.out.1)
      clear g7 g6 ta1 ca1 G5 GV HQ5 HS5 NL K1
      have x0 : (w6.alloc (.cells #[.slice A1 ty.length a1, .int .i64 0, .slice B1 ch.length b1] 32)).cell? ⟨q, 0, none⟩ = some (.slice Ar rs.length cr) := bcell_row HQ7.out rfl
      have x1 : (w6.alloc (.cells #[.slice A1 ty.length a1, .int .i64 0, .slice B1 ch.length b1] 32)).cell? ⟨q, 1, none⟩ = some (.slice Az zs.length cz) := bcell_row HQ7.out rfl
      have x2 : (w6.alloc (.cells #[.slice A1 ty.length a1, .int .i64 0, .slice B1 ch.length b1] 32)).cell? ⟨q, 2, none⟩ = some (.slice (some ⟨bl, off, none⟩) ls.length cl) := bcell_row HQ7.out rfl
      have y0 : (w6.alloc (.cells #[.slice A1 ty.length a1, .int .i64 0, .slice B1 ch.length b1] 32)).cell? ⟨qs, 0, none⟩ = some (.int .i64 F) := bcell_row HS7.out rfl
      have y1 : (w6.alloc (.cells #[.slice A1 ty.length a1, .int .i64 0, .slice B1 ch.length b1] 32)).cell? ⟨qs, 1, none⟩ = some (.int .i64 T) := bcell_row HS7.out rfl
      have z0 : (w6.alloc (.cells #[.slice A1 ty.length a1, .int .i64 0, .slice B1 ch.length b1] 32)).cell? ⟨ql, 0, none⟩ = some (.string xn) := bcell_row HL7.out rfl
      have z1 : (w6.alloc (.cells #[.slice A1 ty.length a1, .int .i64 0, .slice B1 ch.length b1] 32)).cell? ⟨ql, 1, none⟩ = some (.string xt) := bcell_row HL7.out rfl
      go_wp2_with fail
      clear x0 x1 x2 y0 y1 z0 z1
      generalize (w6.alloc (.cells #[.slice A1 ty.length a1, .int .i64 0, .slice B1 ch.length b1] 32)) = w7 at N1 G7 GV7 HQ7 HS7 HL7 TA1 CA1 ⊢
      generalize w6.heap.size = qa at N1 ⊢
      refine (K2.out w7 G7.out).mono ?_
      rintro e w8 ⟨A2, a2, B2, b2, rfl, ta2, ca2, g8⟩
      have N2 := Lib.hid (box_one w8 (.cells #[.slice A2 ty.length a2, .int .i64 0, .slice B2 ch.length b2] 32))
      have g9 := g8.trans N2.out.1
      have G9 := Lib.hid (G7.out.trans g9)
      have GV9 := Lib.hid (GV7.out.trans g9)
      have HA9 := Lib.hid (bheap_gr g9 N1.out.2)
      have TA19 := Lib.hid (TysAt.gr TA1.out g9)
      have CA19 := Lib.hid (ChsAt.gr CA1.out g9)
      have TA2 := Lib.hid (TysAt.gr ta2 N2.out.1)
      have CA2 := Lib.hid (ChsAt.gr ca2 N2.out.1)
      clear g9 g8 ta2 ca2 G7 GV7 HQ7 HS7 HL7 N1 TA1 CA1 K2
      have tc : (C != C) = false := bneF rfl
      have x0 : (w8.alloc (.cells #[.slice A2 ty.length a2, .int .i64 0, .slice B2 ch.length b2] 32)).cell? ⟨qa, 0, none⟩ = some (.slice A1 ty.length a1) := bcell_row HA9.out rfl
      have x1 : (w8.alloc (.cells #[.slice A2 ty.length a2, .int .i64 0, .slice B2 ch.length b2] 32)).cell? ⟨qa, 1, none⟩ = some (.int .i64 0) := bcell_row HA9.out rfl
      have x2 : (w8.alloc (.cells #[.slice A2 ty.length a2, .int .i64 0, .slice B2 ch.length b2] 32)).cell? ⟨qa, 2, none⟩ = some (.slice B1 ch.length b1) := bcell_row HA9.out rfl
      have KQ := Lib.hid (rtabEq A1 a1 ty 0 B1 b1 ch A2 a2 B2 b2 (w8.alloc (.cells #[.slice A2 ty.length a2, .int .i64 0, .slice B2 ch.length b2] 32)) (by have := ML.out; omega) (by have := ML.out; omega) TA19.out.2.1 CA19.out.2.1 TA2.out.2.1 CA2.out.2.1)
      clear TA19 CA19 TA2 CA2 HA9
      go_wp2_with ((with_reducible refine KQ.out.mono ?_); rintro e w9 ⟨rfl, g9⟩; have GF := Lib.hid (GV9.out.trans g9); clear g9)
      go_roundw
      case rel => exact ⟨k + 1, by omega, by go_num, GF.out⟩
      case measure => simp [intOf]; omega
    · have e : k = ls.length := by omega
      go_wp2_with fail
      go_ret
      exact ⟨rfl, G4.out.trans hg.out⟩

set_option maxRecDepth 100000 in
theorem contract (H : Type) (enc : TypeId × Value → H) (W : World) (base : Nat) (args : Array Value) (ds gs : List (DataW H)) (before : List MemPlace)
    (hval : ∀ (j : Nat) t v, Tryz.f5.params[j]? = some t → args[j]? = some v → Value.okWide Tryz.prog W .any base t v)
    (hW : DataW.Whole enc Tryz.prog Tryz.f5.params.toList Rows.tableLinksSpec.vars false W args.toList ds gs before) (hL : laidMet Tryz.prog Rows.tableLinksRow.laid W) (hsh : W.ShapedOpen Tryz.prog) :
    Calls Tryz.prog 5 args W fun e W' => ∃ v, e = .returned v ∧ Rows.tableLinksSpec.post enc Tryz.prog Tryz.f5 false true false false W args v W' := by
  have hW' := hW
  obtain ⟨p, q, hA0, hV, rfl, hfz, hnd⟩ := hW
  have hA : DataW.TrodAll enc Tryz.prog W 0 (fun _ => true) true Tryz.f5.params.toList args.toList ds p := hA0
  rw [Tryz.params5] at hA hval
  obtain ⟨v0, vs0, d0, ds0, p0, q0, hargs, rfl, rfl, h0, r0⟩ := trodAll_cons hA
  obtain ⟨v1, vs1, d1, ds1, p1, q1, rfl, rfl, rfl, h1, r1⟩ := trodAll_cons r0
  obtain ⟨v2, vs2, d2, ds2, p2, q2, rfl, rfl, rfl, h2, r2⟩ := trodAll_cons r1
  obtain ⟨rfl, rfl, rfl⟩ := trodAll_nil r2
  obtain rfl : args = #[v0, v1, v2] := by cases args; simp_all
  obtain ⟨rfl, rfl⟩ := trodVars_none hV
  obtain ⟨bk0, rfl, bi0⟩ := open_book (hval 0 26 v0 rfl rfl) h0
  obtain ⟨a1, rfl, rfl, rfl, w1⟩ := open_int Tryz.underlying3 (hval 1 3 v1 rfl rfl) h1
  obtain ⟨a2, rfl, rfl, rfl, w2⟩ := open_int Tryz.underlying3 (hval 2 3 v2 rfl rfl) h2
  clear hA0
  simp only [List.append_nil] at hW'
  refine (walk bk0 a1 (bounds_i64 w1).1 (bounds_i64 w1).2 a2 (bounds_i64 w2).1 (bounds_i64 w2).2 W bi0 ⟨lens_of hL (List.mem_of_getElem? (i := 3) rfl), pow_of hL (List.mem_of_getElem? (i := 2) rfl), max_of hsh⟩).mono fun e W' ⟨he, hg⟩ => ?_
  subst he
  exact ⟨_, rfl, post_of_below (pa := (p0 ++ ([] ++ ([] ++ [])))) (pv := []) hW' (fun _ _ _ => trodAll_cons_mk (shut_bool Tryz.underlying4 _) trodAll_mk0) (fun _ hsp => (trodAll_cons_mk (stays book_reads h0 hg (fun p hp => by simp [hp]) (fun p hp => hW'.lt p hp) hsp) (trodAll_cons_mk (shut_int Tryz.underlying3 w1) (trodAll_cons_mk (shut_int Tryz.underlying3 w2) trodAll_mk0)))) (fun _ _ => rfl) (by simp)
    hg (ok_one (by kernel_rfl) rfl (okWide_bool_mk Tryz.underlying4 _))⟩

/-- A world for the witness: the settled one, the listed variables holding what their initialisers lay. -/
noncomputable def laidWorld (os : Os) : World := put (put (put (put (put (put (bare os) 5 (flat1 Rows.laid_math_bits_deBruijn32tab)) 6 (flat1 Rows.laid_math_bits_deBruijn64tab)) 2 (flat1 Rows.laid_internal_strconv_uint64pow10)) 0 (flat1 Rows.laid_timeball_civil_lengths)) 4 (flat2 Rows.laid_unicode_utf8_acceptRanges)) 3 (flat1 Rows.laid_unicode_utf8_first)
set_option maxRecDepth 100000 in
theorem laid_met (os : Os) : laidMet Tryz.prog Rows.tableLinksRow.laid ((laidWorld os).forCall (fun _ _ => 0) ⟨#[], #[.agg #[.slice none 0 0, .slice none 0 0, .slice none 0 0], .int .i64 0, .int .i64 0], []⟩).memory :=
  laidMet_of_run3 8 (by kernel_rfl) (by kernel_rfl) (by kernel_rfl)
theorem reads (os : Os) {H : Type} (enc : TypeId × Value → H) : ∃ places, DataW.whole enc Tryz.prog ((laidWorld os).forCall (fun _ _ => 0) ⟨#[], #[.agg #[.slice none 0 0, .slice none 0 0, .slice none 0 0], .int .i64 0, .int .i64 0], []⟩).memory Tryz.f5.params.toList Rows.tableLinksSpec.vars false #[Value.agg #[.slice none 0 0, .slice none 0 0, .slice none 0 0], Value.int .i64 0, Value.int .i64 0].toList 8 = some ([.agg [.nil, .nil, .nil], .lit (.int .i64 0), .lit (.int .i64 0)], [], places) :=
  ⟨[], by kernel_rfl⟩

set_option maxRecDepth 100000 in
theorem lifted (os : Os) (started : os.Started) (H : Type) (enc : TypeId × Value → H) (F : Stop.Interp) :
    ReturnsInHanded {} Tryz.checked os 5 .any ((OpenSpec.ofChange Rows.tableLinksSpec).preRow enc Tryz.prog Tryz.f5 Rows.tableLinksRow.domain false Rows.tableLinksRow.laid) (((OpenSpec.ofChange Rows.tableLinksSpec).at F).post enc Tryz.prog Tryz.f5 false true false false) := by
  obtain ⟨places, hx⟩ := reads os enc
  refine returnsInHanded_of_row (C := Tryz.checked) (s := OpenSpec.ofChange Rows.tableLinksSpec) own started (by kernel_rfl) Tryz.func5
    (witness_row_at (enc := enc) (C := Tryz.checked) false (laidWorld os) #[.agg #[.slice none 0 0, .slice none 0 0, .slice none 0 0], .int .i64 0, .int .i64 0] rfl (by kernel_rfl) (by kernel_rfl) (by kernel_rfl)
      (OpenSpec.preRow_of_cond 8 hx (by kernel_rfl) (fun k hk => by cases hk) (by kernel_rfl) (laid_met os))) ?_
  intro W base args ds gs before hval hW _ _ _ hL hsh _
  exact contract H enc W base args ds gs before hval hW hL hsh

theorem said : Rows.TableLinksSaid :=
  OpenClaim.holds_of_cond 5 Tryz.f5 rfl rfl rfl rfl rfl rfl rfl ⟨rfl, rfl, rfl, rfl, rfl⟩ rfl rfl rfl rfl rfl (by kernel_rfl) Tryz.func5 (by kernel_rfl)
    (of_decide_eq_true (by kernel_rfl)) (by unfold Func.isWrapper; first | (rw [if_pos (by decide +kernel)]; kernel_rfl) | (rw [if_neg (by decide +kernel)]; exact ⟨rfl, rfl⟩))
    (fun os started H enc _ F => by rw [OpenClaim.pre_eq_preRow]; exact lifted os started H enc F)

set_option maxRecDepth 100000 in
/-- No parameter wants a stand-in; whether the program has looks of its own. -/
theorem plain (f : FuncId) (fn : Func) (hf : Tryz.pinned.checked.prog.funcNamed "timeball/timeballkeep.TableLinks" = some f) (hfn : Tryz.pinned.checked.prog.funcs[f]? = some fn) :
    false = Tryz.pinned.checked.prog.looks [] ∧ ∀ (j : Nat) t, fn.params[j]? = some t → Tryz.pinned.checked.prog.wantsStandIn t = false := by
  obtain rfl : f = 5 := Option.some.inj ((show Tryz.prog.funcNamed "timeball/timeballkeep.TableLinks" = some 5 by kernel_rfl).symm.trans hf) |>.symm
  obtain rfl : fn = Tryz.f5 := (Option.some.inj (Tryz.func5.symm.trans hfn)).symm
  refine ⟨by kernel_rfl, fun j t ht => ?_⟩
  rw [Tryz.params5] at ht
  have hm : t = 3 ∨ t = 26 := by have := Array.mem_of_getElem? ht; simp at this; first | exact this | exact this.symm | (rcases this with h | h | h <;> simp [h]) | omega
  rcases hm with rfl | rfl
  · exact (show Tryz.prog.wantsStandIn 3 = false by kernel_rfl)
  · exact (show Tryz.prog.wantsStandIn 26 = false by kernel_rfl)

end Go.Proofs.YtkmgildnhnjepaaGreatDoor.tableLinks
namespace Go.Proofs.YtkmgildnhnjepaaGreatDoor
/-- The card. -/
theorem tableLinks_holds : Rows.TableLinksCardSaid :=
  Claim7.holds_tied_plain_at .later [] _ _ _ _ tableLinks.said (fun _ h => by cases h) (by kernel_rfl) (fun _ h => by cases h) tableLinks_row_tie rfl ⟨rfl, rfl⟩ (by kernel_rfl) rfl tableLinks.plain (by kernel_rfl)
end Go.Proofs.YtkmgildnhnjepaaGreatDoor
