/- The law TurnsOne of package timeballkeep returns true for every input and leaves its arguments as they were: A rule of one year has one turn, by its clock. Condition: the listed variables (math/bits.deBruijn32tab, math/bits.deBruijn64tab, internal/strconv.uint64pow10, timeball/civil.lengths, unicode/utf8.acceptRanges, unicode/utf8.first) lie as their initialisers lay them; the card ties that tto the program's text. -/
import Derived.Test.YtkbegommjlmfmaaGreatDoorCards
import Derived.Test.YtkbegommjlmfmaaGreatDoorTie
import Derived.Test.YtkbegommjlmfmaaGreatDoorQM34
import Derived.Test.YtkbegommjlmfmaaGreatDoorQM46
import Derived.Test.YtkbegommjlmfmaaGreatDoorQM47
import Derived.Test.YtkbegommjlmfmaaGreatDoorQM28
import Derived.Test.YtkbegommjlmfmaaGreatDoorQM17
import Derived.Test.YtkbegommjlmfmaaGreatDoorQM24
namespace Go.Proofs.YtkbegommjlmfmaaGreatDoor.turnsOne
open Go.ChangeShapes Go.WideShapes Go.ChangeAt Go.RowKit
open Go.ChangeMaps (open_string shut_string)
set_option linter.unusedVariables false
set_option linter.unusedSimpArgs false
set_option maxRecDepth 100000 in
set_option maxHeartbeats 8000000 in
theorem walk (nm : ByteArray) (fr tt mo k d n at' by' sv : Int) (lt : ByteArray) (ri : RuleIn nm fr tt mo k d n at' by' sv lt) (off : Int) (hf1 : -9223372036854775808 ≤ off) (hf2 : off ≤ 9223372036854775807) (w : World) (ht : BkTab w) :
    Calls Tryz.prog 6 #[ruleV nm fr tt mo k d n at' by' sv lt, .int .i64 off] w fun e w' => e = .returned (.bool true) ∧ Gr w w' := by
  have mixed : Tryz.prog.follows .mixedOrders = true := by kernel_rfl
  have KT := Lib.hid (fun W (g : Gr w W) => turned_any W (g.bk ht))
  have KC := Lib.hid (fun W (g : Gr w W) => pruleCheck nm fr fr mo k d n at' by' sv lt W (g.bk ht).1 ri.1 ri.2.1)
  have KD := Lib.hid (fun W (g : Gr w W) => dayOf fr mo k d n W (g.bk ht).1)
  have KO := Lib.hid (fun bb o W (g : Gr w W) (ha : BokD.At W bb) => tOf bb nm o W ha (g.bk ht))
  have KR := Lib.hid (fun w => rest_any off 129601 w hf1 hf2 (by omega) (by omega))
  have RI : Hid (RuD.In ⟨nm, fr, fr, mo, k, d, n, at', by', sv, lt⟩) := ⟨ri.1, ri.2.1⟩
  have r1 := Int.emod_nonneg off (show (129601 : Int) ≠ 0 by omega)
  have r2 := Int.emod_lt_of_pos off (show (0 : Int) < 129601 by omega)
  have B0 := Lib.hid (box_one w (.cells #[.string nm, .int .i64 fr, .int .i64 tt, .int .i64 mo, .int .i64 k, .int .i64 d, .int .i64 n, .int .i64 at', .int .i64 by', .int .i64 sv, .string lt] 40))
  clear ht ri hf1 hf2
  go_enter Tryz.func6, Tryz.ntmps6
  go_wp2_with fail
  generalize w.alloc (.cells #[.string nm, .int .i64 fr, .int .i64 tt, .int .i64 mo, .int .i64 k, .int .i64 d, .int .i64 n, .int .i64 at', .int .i64 by', .int .i64 sv, .string lt] 40) = w1 at B0 ⊢
  generalize hb0 : w.heap.size = b at B0 ⊢
  have HB0 := Lib.hid hb0
  clear hb0
  refine (KT.out w1 B0.out.1).mono ?_
  rintro e w2 ⟨rfl, g2⟩
  have G2 := Lib.hid (B0.out.1.trans g2)
  have HQ := Lib.hid (bheap_gr g2 B0.out.2)
  clear g2 B0 KT
  have E1 : (w2.setCell ⟨b, 2, none⟩ (.int .i64 fr)).heap[b]? = some (.cells #[.string nm, .int .i64 fr, .int .i64 fr, .int .i64 mo, .int .i64 k, .int .i64 d, .int .i64 n, .int .i64 at', .int .i64 by', .int .i64 sv, .string lt] 40 (0, 0)) := heap_setCell_same w2 b 2 #[.string nm, .int .i64 fr, .int .i64 tt, .int .i64 mo, .int .i64 k, .int .i64 d, .int .i64 n, .int .i64 at', .int .i64 by', .int .i64 sv, .string lt] 40 _ HQ.out
  have GF := Lib.hid (show Gr w (w2.setCell ⟨b, 2, none⟩ (.int .i64 fr)) from Below.setCell G2.out (show w.heap.size ≤ b by have := HB0.out; omega) _)
  have EE := Lib.hid E1
  have z1 : w2.cell? ⟨b, 1, none⟩ = some (.int .i64 fr) := bcell_row HQ.out rfl
  have z2 : w2.cell? ⟨b, 2, none⟩ = some (.int .i64 tt) := bcell_row HQ.out rfl
  have fz : w2.frozen? ⟨b, 2, none⟩ = false := unfrozen HQ.out
  clear E1
  go_upto_region 4 with (fail)
  generalize w2.setCell ⟨b, 2, none⟩ (.int .i64 fr) = F at EE GF ⊢
  clear z1 z2 fz G2 HQ
  have y0 := bcell_row (i := 0) EE.out rfl
  have y1 := bcell_row (i := 1) EE.out rfl
  have y2 := bcell_row (i := 2) EE.out rfl
  have y3 := bcell_row (i := 3) EE.out rfl
  have y4 := bcell_row (i := 4) EE.out rfl
  have y5 := bcell_row (i := 5) EE.out rfl
  have y6 := bcell_row (i := 6) EE.out rfl
  have y7 := bcell_row (i := 7) EE.out rfl
  have y8 := bcell_row (i := 8) EE.out rfl
  have y9 := bcell_row (i := 9) EE.out rfl
  have y10 := bcell_row (i := 10) EE.out rfl
  go_wp2_with fail
  clear y0 y1 y2 y3 y4 y5 y6 y7 y8 y9 y10
  refine (KC.out F GF.out).mono ?_
  rintro e w3 ⟨rfl, g3⟩
  have G3 := Lib.hid (GF.out.trans g3)
  have HQ3 := Lib.hid (bheap_gr g3 EE.out)
  clear g3 GF EE KC
  by_cases hc : ruleC nm.toList lt.toList fr fr mo k d n at' by' sv = 0
  case neg =>
    have tc := bneT hc
    generalize ruleC nm.toList lt.toList fr fr mo k d n at' by' sv = C at tc ⊢
    clear hc
    go_wp2_with fail
    go_ret
    exact ⟨rfl, G3.out⟩
  case pos =>
    have CHK : Hid (RuD.chk ⟨nm, fr, fr, mo, k, d, n, at', by', sv, lt⟩ = 0) := hc
    have OK := RuD.ok_of CHK.out
    obtain ⟨⟨⟨o1, o2⟩, _, _, o4, o5⟩, _, _, ⟨o6, o7⟩, ⟨o8, o9⟩, o10, o11⟩ := OK
    simp only at o1 o2 o4 o5 o6 o7 o8 o9 o10 o11
    have DB := dayT_bd (RuD.ok_of CHK.out) (y := fr) (by simp) (by simp)
    have DA := Lib.hid (dayA_rule (RuD.ok_of CHK.out) (y := fr) (by simp) (by simp))
    simp only at DB DA
    rw [hc]
    clear hc
    have y0 := bcell_row (i := 0) HQ3.out rfl
    have y1 := bcell_row (i := 1) HQ3.out rfl
    have y2 := bcell_row (i := 2) HQ3.out rfl
    have y3 := bcell_row (i := 3) HQ3.out rfl
    have y4 := bcell_row (i := 4) HQ3.out rfl
    have y5 := bcell_row (i := 5) HQ3.out rfl
    have y6 := bcell_row (i := 6) HQ3.out rfl
    have y7 := bcell_row (i := 7) HQ3.out rfl
    have y8 := bcell_row (i := 8) HQ3.out rfl
    have y9 := bcell_row (i := 9) HQ3.out rfl
    have y10 := bcell_row (i := 10) HQ3.out rfl
    generalize off % 129601 = ro at KR r1 r2
    have ya := bcell_row (i := 0) (bheap_gr (Gr.alloc w3 (.cells #[.string nm, .int .i64 fr, .int .i64 fr, .int .i64 mo, .int .i64 k, .int .i64 d, .int .i64 n, .int .i64 at', .int .i64 by', .int .i64 sv, .string lt] 40)) HQ3.out) rfl
    go_wp2_with (first | (go_at_call 14; (with_reducible refine (KR.out _).mono ?_); rintro e w9 ⟨rfl, rfl⟩) | (refine lay_one _ _ _ (by rfl) (bsn_rule w3 _ _ _ _ _ _ _ _ _ _ _) ?_))
    have B1 := Lib.hid (box_one w3 (.cells #[.string nm, .int .i64 fr, .int .i64 fr, .int .i64 mo, .int .i64 k, .int .i64 d, .int .i64 n, .int .i64 at', .int .i64 by', .int .i64 sv, .string lt] 40))
    have HQ4 := Lib.hid (bheap_gr B1.out.1 HQ3.out)
    have G4 := Lib.hid (G3.out.trans B1.out.1)
    have NB := Lib.hid B1.out.2
    clear y0 y1 y2 y3 y4 y5 y6 y7 y8 y9 y10 ya B1 HQ3 G3
    generalize w3.alloc (.cells #[.string nm, .int .i64 fr, .int .i64 fr, .int .i64 mo, .int .i64 k, .int .i64 d, .int .i64 n, .int .i64 at', .int .i64 by', .int .i64 sv, .string lt] 40) = w4 at HQ4 G4 NB ⊢
    generalize w3.heap.size = q at NB ⊢
    have OC := Lib.hid (ofC_one (r := ⟨nm, fr, fr, mo, k, d, n, at', by', sv, lt⟩) (nm := nm) (off := ro - 64800) CHK.out rfl rfl (by omega) (by omega))
    refine (KO.out (oneB q ⟨nm, fr, fr, mo, k, d, n, at', by', sv, lt⟩) (ro - 64800) w4 G4.out (oneB_at RI.out NB.out rfl)).mono ?_
    rintro e w5 ⟨A, c, rfl, ta, g5⟩
    have e1' : ofC (oneB q ⟨nm, fr, fr, mo, k, d, n, at', by', sv, lt⟩).rs (oneB q ⟨nm, fr, fr, mo, k, d, n, at', by', sv, lt⟩).zs (oneB q ⟨nm, fr, fr, mo, k, d, n, at', by', sv, lt⟩).ls nm (ro - 64800) = 0 := OC.out.1
    have e2' : ofL (oneB q ⟨nm, fr, fr, mo, k, d, n, at', by', sv, lt⟩).rs (oneB q ⟨nm, fr, fr, mo, k, d, n, at', by', sv, lt⟩).zs (oneB q ⟨nm, fr, fr, mo, k, d, n, at', by', sv, lt⟩).ls nm (ro - 64800) = [⟨momR (ro - 64800) 0 ⟨nomR ⟨nm, fr, fr, mo, k, d, n, at', by', sv, lt⟩ fr, ⟨nm, fr, fr, mo, k, d, n, at', by', sv, lt⟩⟩, sv, lt⟩] := OC.out.2
    have ta2 := ta.2
    rw [e2'] at ta2
    rw [e1', e2']
    have G5 := Lib.hid (G4.out.trans g5)
    have HQ5 := Lib.hid (bheap_gr g5 HQ4.out)
    obtain ⟨M, hM⟩ : ∃ M, momR (ro - 64800) 0 ⟨nomR ⟨nm, fr, fr, mo, k, d, n, at', by', sv, lt⟩ fr, ⟨nm, fr, fr, mo, k, d, n, at', by', sv, lt⟩⟩ = M := ⟨_, rfl⟩
    have HM : Hid (M = if by' = 1 then 86400 * dayT fr mo k d n + at' - (ro - 64800) else if by' = 2 then 86400 * dayT fr mo k d n + at' else 86400 * dayT fr mo k d n + at' - (ro - 64800) - 0) := hM.symm
    rw [hM] at ta2
    have TA := Lib.hid ta2
    clear ta ta2 e1' e2' hM g5 G4 NB HQ4 OC KO
    have y0 := bcell_row (i := 1) HQ5.out rfl
    have y1 := bcell_row (i := 3) HQ5.out rfl
    have y2 := bcell_row (i := 4) HQ5.out rfl
    have y3 := bcell_row (i := 5) HQ5.out rfl
    have y4 := bcell_row (i := 6) HQ5.out rfl
    go_wp2_with fail
    clear y0 y1 y2 y3 y4
    refine (KD.out w5 G5.out).mono ?_
    rintro e w6 ⟨rfl, g6⟩
    rw [DA.out]
    have G6 := Lib.hid (G5.out.trans g6)
    have HQ6 := Lib.hid (bheap_gr g6 HQ5.out)
    obtain ⟨b2, off2, rfl, d0, d1, d2⟩ := Row.three (i := 0) (x := (⟨M, sv, lt⟩ : TurD)) TA.out rfl rfl g6
    rw [Nat.zero_mul, Nat.add_zero] at d0 d1 d2
    clear g6 G5 HQ5 TA DA KD
    generalize dayT fr mo k d n = dn at DB HM ⊢
    have y7 := bcell_row (i := 7) HQ6.out rfl
    have y8 := bcell_row (i := 8) HQ6.out rfl
    have y9 := bcell_row (i := 9) HQ6.out rfl
    have y10 := bcell_row (i := 10) HQ6.out rfl
    have EQ := fun w => eqTurn M sv lt w
    have b3 : by' = 0 ∨ by' = 1 ∨ by' = 2 := by omega
    rcases b3 with rfl | rfl | rfl
    · have hm : 86400 * dn + at' - (ro - 64800) = M := by rw [HM.out]; simp
      clear HM
      go_wp2_with fail
      go_quiet (fail)
      go_wp2_with fail
      go_ret
      exact ⟨rfl, G6.out.drewN _⟩
    · have hm : 86400 * dn + at' - (ro - 64800) = M := by rw [HM.out]; simp
      clear HM
      go_wp2_with fail
      go_quiet (fail)
      go_wp2_with fail
      go_ret
      exact ⟨rfl, G6.out.drewN _⟩
    · have hm : 86400 * dn + at' = M := by rw [HM.out]; simp
      clear HM
      go_wp2_with fail
      go_quiet (fail)
      go_wp2_with fail
      go_ret
      exact ⟨rfl, G6.out.drewN _⟩

set_option maxRecDepth 100000 in
theorem contract (H : Type) (enc : TypeId × Value → H) (W : World) (base : Nat) (args : Array Value) (ds gs : List (DataW H)) (before : List MemPlace)
    (hval : ∀ (j : Nat) t v, Tryz.f6.params[j]? = some t → args[j]? = some v → Value.okWide Tryz.prog W .any base t v)
    (hW : DataW.Whole enc Tryz.prog Tryz.f6.params.toList Rows.turnsOneSpec.vars false W args.toList ds gs before) (hL : laidMet Tryz.prog Rows.turnsOneRow.laid W) (hsh : W.ShapedOpen Tryz.prog) :
    Calls Tryz.prog 6 args W fun e W' => ∃ v, e = .returned v ∧ Rows.turnsOneSpec.post enc Tryz.prog Tryz.f6 false true false false W args v W' := by
  have hW' := hW
  obtain ⟨p, q, hA0, hV, rfl, hfz, hnd⟩ := hW
  have hA : DataW.TrodAll enc Tryz.prog W 0 (fun _ => true) true Tryz.f6.params.toList args.toList ds p := hA0
  rw [Tryz.params6] at hA hval
  obtain ⟨v0, vs0, d0, ds0, p0, q0, hargs, rfl, rfl, h0, r0⟩ := trodAll_cons hA
  obtain ⟨v1, vs1, d1, ds1, p1, q1, rfl, rfl, rfl, h1, r1⟩ := trodAll_cons r0
  obtain ⟨rfl, rfl, rfl⟩ := trodAll_nil r1
  obtain rfl : args = #[v0, v1] := by cases args; simp_all
  obtain ⟨rfl, rfl⟩ := trodVars_none hV
  obtain ⟨a0, fr0, tt0, mo0, k0, d0, n0, at0, by0, sv0, lt0, rfl, rfl, rfl, ri0⟩ := open_rule (hval 0 40 v0 rfl rfl) h0
  obtain ⟨a1, rfl, rfl, rfl, w1⟩ := open_int Tryz.underlying3 (hval 1 3 v1 rfl rfl) h1
  clear hA0
  simp only [List.append_nil] at hW'
  refine (walk a0 fr0 tt0 mo0 k0 d0 n0 at0 by0 sv0 lt0 ri0 a1 (bounds_i64 w1).1 (bounds_i64 w1).2 W ⟨lens_of hL (List.mem_of_getElem? (i := 3) rfl), pow_of hL (List.mem_of_getElem? (i := 2) rfl), max_of hsh⟩).mono fun e W' ⟨he, hg⟩ => ?_
  subst he
  exact ⟨_, rfl, post_of_below (pa := []) (pv := []) hW' (fun _ _ _ => trodAll_cons_mk (shut_bool Tryz.underlying4 _) trodAll_mk0) (fun _ _ => (trodAll_cons_mk (shut_rule ri0) (trodAll_cons_mk (shut_int Tryz.underlying3 w1) trodAll_mk0))) (fun _ _ => rfl) rfl
    hg (ok_one (by kernel_rfl) rfl (okWide_bool_mk Tryz.underlying4 _))⟩

/-- A world for the witness: the settled one, the listed variables holding what their initialisers lay. -/
noncomputable def laidWorld (os : Os) : World := put (put (put (put (put (put (bare os) 5 (flat1 Rows.laid_math_bits_deBruijn32tab)) 6 (flat1 Rows.laid_math_bits_deBruijn64tab)) 4 (flat1 Rows.laid_internal_strconv_uint64pow10)) 0 (flat1 Rows.laid_timeball_civil_lengths)) 3 (flat2 Rows.laid_unicode_utf8_acceptRanges)) 2 (flat1 Rows.laid_unicode_utf8_first)
set_option maxRecDepth 100000 in
theorem laid_met (os : Os) : laidMet Tryz.prog Rows.turnsOneRow.laid ((laidWorld os).forCall (fun _ _ => 0) ⟨#[], #[.agg #[.string .empty, .int .i64 0, .int .i64 0, .int .i64 0, .int .i64 0, .int .i64 0, .int .i64 0, .int .i64 0, .int .i64 0, .int .i64 0, .string .empty], .int .i64 0], []⟩).memory :=
  laidMet_of_run3 8 (by kernel_rfl) (by kernel_rfl) (by kernel_rfl)
theorem reads (os : Os) {H : Type} (enc : TypeId × Value → H) : ∃ places, DataW.whole enc Tryz.prog ((laidWorld os).forCall (fun _ _ => 0) ⟨#[], #[.agg #[.string .empty, .int .i64 0, .int .i64 0, .int .i64 0, .int .i64 0, .int .i64 0, .int .i64 0, .int .i64 0, .int .i64 0, .int .i64 0, .string .empty], .int .i64 0], []⟩).memory Tryz.f6.params.toList Rows.turnsOneSpec.vars false #[Value.agg #[.string .empty, .int .i64 0, .int .i64 0, .int .i64 0, .int .i64 0, .int .i64 0, .int .i64 0, .int .i64 0, .int .i64 0, .int .i64 0, .string .empty], Value.int .i64 0].toList 8 = some ([.agg [.lit (.string []), .lit (.int .i64 0), .lit (.int .i64 0), .lit (.int .i64 0), .agg [.lit (.int .i64 0), .lit (.int .i64 0), .lit (.int .i64 0)], .lit (.int .i64 0), .lit (.int .i64 0), .lit (.int .i64 0), .lit (.string [])], .lit (.int .i64 0)], [], places) :=
  ⟨[], by kernel_rfl⟩

set_option maxRecDepth 100000 in
theorem lifted (os : Os) (started : os.Started) (H : Type) (enc : TypeId × Value → H) (F : Stop.Interp) :
    ReturnsInHanded {} Tryz.checked os 6 .any ((OpenSpec.ofChange Rows.turnsOneSpec).preRow enc Tryz.prog Tryz.f6 Rows.turnsOneRow.domain false Rows.turnsOneRow.laid) (((OpenSpec.ofChange Rows.turnsOneSpec).at F).post enc Tryz.prog Tryz.f6 false true false false) := by
  obtain ⟨places, hx⟩ := reads os enc
  refine returnsInHanded_of_row (C := Tryz.checked) (s := OpenSpec.ofChange Rows.turnsOneSpec) own started (by kernel_rfl) Tryz.func6
    (witness_row_at (enc := enc) (C := Tryz.checked) false (laidWorld os) #[.agg #[.string .empty, .int .i64 0, .int .i64 0, .int .i64 0, .int .i64 0, .int .i64 0, .int .i64 0, .int .i64 0, .int .i64 0, .int .i64 0, .string .empty], .int .i64 0] rfl (by kernel_rfl) (by kernel_rfl) (by kernel_rfl)
      (OpenSpec.preRow_of_cond 8 hx (by kernel_rfl) (fun k hk => by cases hk) (by kernel_rfl) (laid_met os))) ?_
  intro W base args ds gs before hval hW _ _ _ hL hsh _
  exact contract H enc W base args ds gs before hval hW hL hsh

theorem said : Rows.TurnsOneSaid :=
  OpenClaim.holds_of_cond 6 Tryz.f6 rfl rfl rfl rfl rfl rfl rfl ⟨rfl, rfl, rfl, rfl, rfl⟩ rfl rfl rfl rfl rfl (by kernel_rfl) Tryz.func6 (by kernel_rfl)
    (of_decide_eq_true (by kernel_rfl)) (by unfold Func.isWrapper; first | (rw [if_pos (by decide +kernel)]; kernel_rfl) | (rw [if_neg (by decide +kernel)]; exact ⟨rfl, rfl⟩))
    (fun os started H enc _ F => by rw [OpenClaim.pre_eq_preRow]; exact lifted os started H enc F)

set_option maxRecDepth 100000 in
/-- No parameter wants a stand-in; whether the program has looks of its own. -/
theorem plain (f : FuncId) (fn : Func) (hf : Tryz.pinned.checked.prog.funcNamed "timeball/timeballkeep.TurnsOne" = some f) (hfn : Tryz.pinned.checked.prog.funcs[f]? = some fn) :
    false = Tryz.pinned.checked.prog.looks [] ∧ ∀ (j : Nat) t, fn.params[j]? = some t → Tryz.pinned.checked.prog.wantsStandIn t = false := by
  obtain rfl : f = 6 := Option.some.inj ((show Tryz.prog.funcNamed "timeball/timeballkeep.TurnsOne" = some 6 by kernel_rfl).symm.trans hf) |>.symm
  obtain rfl : fn = Tryz.f6 := (Option.some.inj (Tryz.func6.symm.trans hfn)).symm
  refine ⟨by kernel_rfl, fun j t ht => ?_⟩
  rw [Tryz.params6] at ht
  have hm : t = 3 ∨ t = 40 := by have := Array.mem_of_getElem? ht; simp at this; first | exact this | exact this.symm | (rcases this with h | h | h <;> simp [h]) | omega
  rcases hm with rfl | rfl
  · exact (show Tryz.prog.wantsStandIn 3 = false by kernel_rfl)
  · exact (show Tryz.prog.wantsStandIn 40 = false by kernel_rfl)

end Go.Proofs.YtkbegommjlmfmaaGreatDoor.turnsOne
namespace Go.Proofs.YtkbegommjlmfmaaGreatDoor
/-- The card. -/
theorem turnsOne_holds : Rows.TurnsOneCardSaid :=
  Claim7.holds_tied_plain_at .later [] _ _ _ _ turnsOne.said (fun _ h => by cases h) (by kernel_rfl) (fun _ h => by cases h) turnsOne_row_tie rfl ⟨rfl, rfl⟩ (by kernel_rfl) rfl turnsOne.plain (by kernel_rfl)
end Go.Proofs.YtkbegommjlmfmaaGreatDoor
