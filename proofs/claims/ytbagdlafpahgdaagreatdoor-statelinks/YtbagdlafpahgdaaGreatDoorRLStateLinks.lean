/- The law StateLinks of package timeballkeep returns true for every input and leaves its arguments as they were: A link has the local time of its zone. Condition: the listed variables (math/bits.deBruijn32tab, math/bits.deBruijn64tab, internal/strconv.uint64pow10, timeball/civil.lengths, unicode/utf8.acceptRanges, unicode/utf8.first) lie as their initialisers lay them; the card ties that tto the program's text. -/
import Derived.Test.YtbagdlafpahgdaaGreatDoorCards
import Derived.Test.YtbagdlafpahgdaaGreatDoorTie
import Derived.Test.YtbagdlafpahgdaaGreatDoorRM32
import Derived.Test.YtbagdlafpahgdaaGreatDoorRM50
import Derived.Test.YtbagdlafpahgdaaGreatDoorRM30
namespace Go.Proofs.YtbagdlafpahgdaaGreatDoor.stateLinks
open Go.ChangeShapes Go.WideShapes Go.ChangeAt Go.RowKit
open Go.ChangeMaps (open_string shut_string)
set_option linter.unusedVariables false
set_option linter.unusedSimpArgs false
set_option maxRecDepth 100000 in
set_option maxHeartbeats 8000000 in
theorem walk (b : BokD) (t : Int) (hf1 : -9223372036854775808 ≤ t) (hf2 : t ≤ 9223372036854775807) (w : World) (hb : b.At w) (ht : BkTab w) :
    Calls Tryz.prog 5 #[bookV b, .int .i64 t] w fun e w' => e = .returned (.bool true) ∧ Gr w w' := by
  have KS := Lib.hid (fun W (g : Gr w W) => pstated W (g.bk ht))
  have KP := Lib.hid (fun nm W (g : Gr w W) (hn : nm.size ≤ maxLen) => pAt b nm t W (hb.gr g) hn hf1 hf2 (g.bk ht))
  obtain ⟨Ar, cr, rs, Az, cz, zs, Al, cl, ls⟩ := b
  simp only at KP
  have HL : Hid (LisAt w Al cl ls) := hb.2.2
  have B0 := Lib.hid (box_one w (.cells #[.slice Ar rs.length cr, .slice Az zs.length cz, .slice Al ls.length cl] 26))
  clear hb ht hf1 hf2
  go_enter Tryz.func5, Tryz.ntmps5
  go_wp2_with fail
  generalize w.alloc (.cells #[.slice Ar rs.length cr, .slice Az zs.length cz, .slice Al ls.length cl] 26) = w1 at B0 ⊢
  generalize w.heap.size = q at B0 ⊢
  refine (KS.out w1 B0.out.1).mono ?_
  rintro e w2 ⟨rfl, g2⟩
  have G2 := Lib.hid (B0.out.1.trans g2)
  have HQ2 := Lib.hid (bheap_gr g2 B0.out.2)
  clear g2 B0 KS
  have x2 : w2.cell? ⟨q, 2, none⟩ = some (.slice Al ls.length cl) := bcell_row HQ2.out rfl
  have LM : Hid (ls.length ≤ maxLen) := Nat.le_trans HL.out.1.1 HL.out.1.2
  have lm := LM.out
  unfold maxLen at lm
  go_wp2_with fail
  clear x2
  go_loopw [16] (fun i W => ∃ k : Nat, k ≤ ls.length ∧ i = .int .i64 k ∧ Hid (Gr w2 W)) (fun i W => ls.length - (intOf i).toNat)
  case atStart => exact ⟨0, Nat.zero_le _, rfl, Gr.refl _⟩
  case round =>
    obtain ⟨k, hk, rfl, hg⟩ := hrel
    by_cases hlt : k < ls.length
    · obtain ⟨⟨xn, xt⟩, hx⟩ := get_lt hlt
      obtain ⟨bl, off, rfl, c0, c1⟩ := HL.out.2.1.two hx rfl (G2.out.trans hg.out)
      have XI := Lib.hid (HL.out.2.2 _ (get_mem hx))
      have AL := Lib.hid (at_link (rs := rs) (zs := zs) hx t)
      have G3 := Lib.hid (G2.out.trans hg.out)
      have HQ3 := Lib.hid (bheap_gr hg.out HQ2.out)
      have NL := Lib.hid (box_one wr (.cells #[.string xn, .string xt] 46))
      have G4 := Lib.hid (G3.out.trans NL.out.1)
      have HQ4 := Lib.hid (bheap_gr NL.out.1 HQ3.out)
      clear hx
      have x0 : (wr.alloc (.cells #[.string xn, .string xt] 46)).cell? ⟨q, 0, none⟩ = some (.slice Ar rs.length cr) := bcell_row HQ4.out rfl
      have x1 : (wr.alloc (.cells #[.string xn, .string xt] 46)).cell? ⟨q, 1, none⟩ = some (.slice Az zs.length cz) := bcell_row HQ4.out rfl
      have x2 : (wr.alloc (.cells #[.string xn, .string xt] 46)).cell? ⟨q, 2, none⟩ = some (.slice (some ⟨bl, off, none⟩) ls.length cl) := bcell_row HQ4.out rfl
      go_wp2_with fail
      clear x0 x1 x2 c0 c1
      have GW : Hid (Gr wr (wr.alloc (.cells #[.string xn, .string xt] 46))) := NL.out.1
      generalize wr.alloc (.cells #[.string xn, .string xt] 46) = w4 at NL G4 HQ4 GW ⊢
      generalize wr.heap.size = ql at NL ⊢
      refine (KP.out xn w4 G4.out XI.out.1).mono ?_
      rintro e w5 ⟨rfl, g5⟩
      have G5 := Lib.hid (G4.out.trans g5)
      have HQ5 := Lib.hid (bheap_gr g5 HQ4.out)
      have HL5 := Lib.hid (bheap_gr g5 NL.out.2)
      have GV := Lib.hid (hg.out.trans (GW.out.trans g5))
      have C1 : Hid (∀ (w : World) (e : Ending) (w' : World), AtE rs zs ls xt t w e w' → e = .returned (.tuple #[.agg #[.int .i64 (atT rs zs ls xn t).off, .bool (atT rs zs ls xn t).sv, .string (atT rs zs ls xn t).nm], .int .i64 (atC rs zs ls xn t)]) ∧ Gr w w') := fun w e w' h => by
        have h' := h
        unfold AtE at h'
        rw [AL.out.1, AL.out.2] at h'
        exact h'
      clear g5 G4 HQ4 NL GW AL G3 HQ3
      generalize atT rs zs ls xn t = T at C1 ⊢
      generalize atC rs zs ls xn t = C at C1 ⊢
      obtain ⟨o, s, n⟩ := T
      simp only at C1 ⊢
      have NB := Lib.hid (box_one w5 (.cells #[.int .i64 o, .bool s, .string n] 28))
      have G6 := Lib.hid (G5.out.trans NB.out.1)
      have HQ6 := Lib.hid (bheap_gr NB.out.1 HQ5.out)
      have HL6 := Lib.hid (bheap_gr NB.out.1 HL5.out)
      have GU := Lib.hid (GV.out.trans NB.out.1)
      have x0 : (w5.alloc (.cells #[.int .i64 o, .bool s, .string n] 28)).cell? ⟨q, 0, none⟩ = some (.slice Ar rs.length cr) := bcell_row HQ6.out rfl
      have x1 : (w5.alloc (.cells #[.int .i64 o, .bool s, .string n] 28)).cell? ⟨q, 1, none⟩ = some (.slice Az zs.length cz) := bcell_row HQ6.out rfl
      have x2 : (w5.alloc (.cells #[.int .i64 o, .bool s, .string n] 28)).cell? ⟨q, 2, none⟩ = some (.slice (some ⟨bl, off, none⟩) ls.length cl) := bcell_row HQ6.out rfl
      have z1 : (w5.alloc (.cells #[.int .i64 o, .bool s, .string n] 28)).cell? ⟨ql, 1, none⟩ = some (.string xt) := bcell_row HL6.out rfl
      go_wp2_with fail
      clear x0 x1 x2 z1
      generalize w5.alloc (.cells #[.int .i64 o, .bool s, .string n] 28) = w6 at NB G6 HQ6 HL6 GU ⊢
      generalize w5.heap.size = qa at NB ⊢
      refine (KP.out xt w6 G6.out XI.out.2).mono ?_
      rintro e w7 he
      obtain ⟨rfl, g7⟩ := C1.out w6 e w7 he
      have HA7 := Lib.hid (bheap_gr g7 NB.out.2)
      have NC := Lib.hid (box_one w7 (.cells #[.int .i64 o, .bool s, .string n] 28))
      have HA8 := Lib.hid (bheap_gr NC.out.1 HA7.out)
      have GF := Lib.hid ((GU.out.trans g7).trans NC.out.1)
      clear g7 he C1 NB G6 HQ6 HL6 GU G5 HQ5 HL5 GV HA7 hg
      have y0 : (w7.alloc (.cells #[.int .i64 o, .bool s, .string n] 28)).cell? ⟨qa, 0, none⟩ = some (.int .i64 o) := bcell_row HA8.out rfl
      have y1 : (w7.alloc (.cells #[.int .i64 o, .bool s, .string n] 28)).cell? ⟨qa, 1, none⟩ = some (.bool s) := bcell_row HA8.out rfl
      have y2 : (w7.alloc (.cells #[.int .i64 o, .bool s, .string n] 28)).cell? ⟨qa, 2, none⟩ = some (.string n) := bcell_row HA8.out rfl
      have EQ := fun w => neqType o s n w
      have tc : (C != C) = false := by simp
      go_wp2_with fail
      go_roundw
      case rel => exact ⟨k + 1, by omega, by go_num, GF.out⟩
      case measure => simp [intOf]; omega
    · go_wp2_with fail
      go_ret
      exact ⟨rfl, G2.out.trans hg.out⟩

set_option maxRecDepth 100000 in
theorem contract (H : Type) (enc : TypeId × Value → H) (W : World) (base : Nat) (args : Array Value) (ds gs : List (DataW H)) (before : List MemPlace)
    (hval : ∀ (j : Nat) t v, Tryz.f5.params[j]? = some t → args[j]? = some v → Value.okWide Tryz.prog W .any base t v)
    (hW : DataW.Whole enc Tryz.prog Tryz.f5.params.toList Rows.stateLinksSpec.vars false W args.toList ds gs before) (hL : laidMet Tryz.prog Rows.stateLinksRow.laid W) (hsh : W.ShapedOpen Tryz.prog) :
    Calls Tryz.prog 5 args W fun e W' => ∃ v, e = .returned v ∧ Rows.stateLinksSpec.post enc Tryz.prog Tryz.f5 false true false false W args v W' := by
  have hW' := hW
  obtain ⟨p, q, hA0, hV, rfl, hfz, hnd⟩ := hW
  have hA : DataW.TrodAll enc Tryz.prog W 0 (fun _ => true) true Tryz.f5.params.toList args.toList ds p := hA0
  rw [Tryz.params5] at hA hval
  obtain ⟨v0, vs0, d0, ds0, p0, q0, hargs, rfl, rfl, h0, r0⟩ := trodAll_cons hA
  obtain ⟨v1, vs1, d1, ds1, p1, q1, rfl, rfl, rfl, h1, r1⟩ := trodAll_cons r0
  obtain ⟨rfl, rfl, rfl⟩ := trodAll_nil r1
  obtain rfl : args = #[v0, v1] := by cases args; simp_all
  obtain ⟨rfl, rfl⟩ := trodVars_none hV
  obtain ⟨bk0, rfl, bi0⟩ := open_book (hval 0 26 v0 rfl rfl) h0
  obtain ⟨a1, rfl, rfl, rfl, w1⟩ := open_int Tryz.underlying3 (hval 1 3 v1 rfl rfl) h1
  clear hA0
  simp only [List.append_nil] at hW'
  refine (walk bk0 a1 (bounds_i64 w1).1 (bounds_i64 w1).2 W bi0 ⟨lens_of hL (List.mem_of_getElem? (i := 3) rfl), pow_of hL (List.mem_of_getElem? (i := 2) rfl), max_of hsh⟩).mono fun e W' ⟨he, hg⟩ => ?_
  subst he
  exact ⟨_, rfl, post_of_below (pa := (p0 ++ ([] ++ []))) (pv := []) hW' (fun _ _ _ => trodAll_cons_mk (shut_bool Tryz.underlying4 _) trodAll_mk0) (fun _ hsp => (trodAll_cons_mk (stays book_reads h0 hg (fun p hp => by simp [hp]) (fun p hp => hW'.lt p hp) hsp) (trodAll_cons_mk (shut_int Tryz.underlying3 w1) trodAll_mk0))) (fun _ _ => rfl) (by simp)
    hg (ok_one (by kernel_rfl) rfl (okWide_bool_mk Tryz.underlying4 _))⟩

/-- A world for the witness: the settled one, the listed variables holding what their initialisers lay. -/
noncomputable def laidWorld (os : Os) : World := put (put (put (put (put (put (bare os) 5 (flat1 Rows.laid_math_bits_deBruijn32tab)) 6 (flat1 Rows.laid_math_bits_deBruijn64tab)) 2 (flat1 Rows.laid_internal_strconv_uint64pow10)) 0 (flat1 Rows.laid_timeball_civil_lengths)) 4 (flat2 Rows.laid_unicode_utf8_acceptRanges)) 3 (flat1 Rows.laid_unicode_utf8_first)
set_option maxRecDepth 100000 in
theorem laid_met (os : Os) : laidMet Tryz.prog Rows.stateLinksRow.laid ((laidWorld os).forCall (fun _ _ => 0) ⟨#[], #[.agg #[.slice none 0 0, .slice none 0 0, .slice none 0 0], .int .i64 0], []⟩).memory :=
  laidMet_of_run3 8 (by kernel_rfl) (by kernel_rfl) (by kernel_rfl)
theorem reads (os : Os) {H : Type} (enc : TypeId × Value → H) : ∃ places, DataW.whole enc Tryz.prog ((laidWorld os).forCall (fun _ _ => 0) ⟨#[], #[.agg #[.slice none 0 0, .slice none 0 0, .slice none 0 0], .int .i64 0], []⟩).memory Tryz.f5.params.toList Rows.stateLinksSpec.vars false #[Value.agg #[.slice none 0 0, .slice none 0 0, .slice none 0 0], Value.int .i64 0].toList 8 = some ([.agg [.nil, .nil, .nil], .lit (.int .i64 0)], [], places) :=
  ⟨[], by kernel_rfl⟩

set_option maxRecDepth 100000 in
theorem lifted (os : Os) (started : os.Started) (H : Type) (enc : TypeId × Value → H) (F : Stop.Interp) :
    ReturnsInHanded {} Tryz.checked os 5 .any ((OpenSpec.ofChange Rows.stateLinksSpec).preRow enc Tryz.prog Tryz.f5 Rows.stateLinksRow.domain false Rows.stateLinksRow.laid) (((OpenSpec.ofChange Rows.stateLinksSpec).at F).post enc Tryz.prog Tryz.f5 false true false false) := by
  obtain ⟨places, hx⟩ := reads os enc
  refine returnsInHanded_of_row (C := Tryz.checked) (s := OpenSpec.ofChange Rows.stateLinksSpec) own started (by kernel_rfl) Tryz.func5
    (witness_row_at (enc := enc) (C := Tryz.checked) false (laidWorld os) #[.agg #[.slice none 0 0, .slice none 0 0, .slice none 0 0], .int .i64 0] rfl (by kernel_rfl) (by kernel_rfl) (by kernel_rfl)
      (OpenSpec.preRow_of_cond 8 hx (by kernel_rfl) (fun k hk => by cases hk) (by kernel_rfl) (laid_met os))) ?_
  intro W base args ds gs before hval hW _ _ _ hL hsh _
  exact contract H enc W base args ds gs before hval hW hL hsh

theorem said : Rows.StateLinksSaid :=
  OpenClaim.holds_of_cond 5 Tryz.f5 rfl rfl rfl rfl rfl rfl rfl ⟨rfl, rfl, rfl, rfl, rfl⟩ rfl rfl rfl rfl rfl (by kernel_rfl) Tryz.func5 (by kernel_rfl)
    (of_decide_eq_true (by kernel_rfl)) (by unfold Func.isWrapper; first | (rw [if_pos (by decide +kernel)]; kernel_rfl) | (rw [if_neg (by decide +kernel)]; exact ⟨rfl, rfl⟩))
    (fun os started H enc _ F => by rw [OpenClaim.pre_eq_preRow]; exact lifted os started H enc F)

set_option maxRecDepth 100000 in
/-- No parameter wants a stand-in; whether the program has looks of its own. -/
theorem plain (f : FuncId) (fn : Func) (hf : Tryz.pinned.checked.prog.funcNamed "timeball/timeballkeep.StateLinks" = some f) (hfn : Tryz.pinned.checked.prog.funcs[f]? = some fn) :
    false = Tryz.pinned.checked.prog.looks [] ∧ ∀ (j : Nat) t, fn.params[j]? = some t → Tryz.pinned.checked.prog.wantsStandIn t = false := by
  obtain rfl : f = 5 := Option.some.inj ((show Tryz.prog.funcNamed "timeball/timeballkeep.StateLinks" = some 5 by kernel_rfl).symm.trans hf) |>.symm
  obtain rfl : fn = Tryz.f5 := (Option.some.inj (Tryz.func5.symm.trans hfn)).symm
  refine ⟨by kernel_rfl, fun j t ht => ?_⟩
  rw [Tryz.params5] at ht
  have hm : t = 3 ∨ t = 26 := by have := Array.mem_of_getElem? ht; simp at this; first | exact this | exact this.symm | (rcases this with h | h | h <;> simp [h]) | omega
  rcases hm with rfl | rfl
  · exact (show Tryz.prog.wantsStandIn 3 = false by kernel_rfl)
  · exact (show Tryz.prog.wantsStandIn 26 = false by kernel_rfl)

end Go.Proofs.YtbagdlafpahgdaaGreatDoor.stateLinks
namespace Go.Proofs.YtbagdlafpahgdaaGreatDoor
/-- The card. -/
theorem stateLinks_holds : Rows.StateLinksCardSaid :=
  Claim7.holds_tied_plain_at .later [] _ _ _ _ stateLinks.said (fun _ h => by cases h) (by kernel_rfl) (fun _ h => by cases h) stateLinks_row_tie rfl ⟨rfl, rfl⟩ (by kernel_rfl) rfl stateLinks.plain (by kernel_rfl)
end Go.Proofs.YtbagdlafpahgdaaGreatDoor
