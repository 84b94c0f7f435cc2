/- The law StampNext of package timeballkeep returns true for every input and leaves its arguments as they were: The timestamp one day later has a later date and the same time of day. Condition: the listed variables (math/bits.deBruijn32tab, math/bits.deBruijn64tab, internal/strconv.uint64pow10, timeball/civil.lengths) lie as their initialisers lay them; the card ties that to the program's text. -/
import Derived.Test.YteciijcgnaojeaaDoorCards
import Derived.Test.YteciijcgnaojeaaDoorTie
import Derived.Test.YteciijcgnaojeaaDoorR0
import Derived.Test.YteciijcgnaojeaaDoorK10
import Derived.Test.YteciijcgnaojeaaDoorK11
namespace Go.Proofs.YteciijcgnaojeaaDoor.stampNext
open Go.ChangeShapes Go.WideShapes Go.ChangeAt Go.RowKit
open Go.ChangeMaps (open_string shut_string)
set_option linter.unusedVariables false
set_option linter.unusedSimpArgs false

set_option maxHeartbeats 1000000 in
theorem walk (n : Int) (n1 : -9223372036854775808 ≤ n) (n2 : n ≤ 9223372036854775807) (w : World) (hl : HasLen w) (hp : HasPow w) :
    Calls Tryd.prog 11 #[.int .i64 n] w fun e w' => e = .returned (.bool true) ∧ Gr w w' := by
  have c0 := clocked_any w hl hp
  have c1 := Lib.hid (fun w => timeOf_any n w n1 n2)
  have tb := timeV_bd n
  generalize timeV n = t at c1 tb
  obtain ⟨t1, t2⟩ := tb
  obtain ⟨y, m, d, hv, hd⟩ := Cal.has_date (n := t / 86400) (by omega) (by omega)
  have c2 := Lib.hid (fun w hl hp => stamp_yes t y m d (t % 86400) w hl hp hv (by omega) (by omega) (by omega))
  have HP := Lib.hid hp
  have HL := Lib.hid hl
  clear hl hp n1 n2
  by_cases z : t / 86400 + 1 ≤ 157053
  · obtain ⟨a, b, c, kv, kd⟩ := Cal.has_date (n := t / 86400 + 1) (by omega) (by omega)
    have c3 := Lib.hid (fun w hl hp => stamp_yes (t + 86400) a b c (t % 86400) w hl hp kv (by omega) (by omega) (by omega))
    have o := (bl_date hv kv).2 (by omega)
    have hlen := stampL_len y m d (t % 86400)
    have hlen' := stampL_len a b c (t % 86400)
    have e1 : ((S (stampL y m d (t % 86400))).extract 0 10).toList = dateL y m d := by rw [stampL_parts]; exact part_head (dateL_len y m d)
    have e2 : ((S (stampL a b c (t % 86400))).extract 0 10).toList = dateL a b c := by rw [stampL_parts]; exact part_head (dateL_len a b c)
    have f1 : ((S (stampL y m d (t % 86400))).extract 10 19).toList = 84 :: clockL (t % 86400) := by rw [stampL_parts]; exact part_tail (dateL_len y m d) (by simp [dateL_len, clockL_len])
    have f2 : ((S (stampL a b c (t % 86400))).extract 10 19).toList = 84 :: clockL (t % 86400) := by rw [stampL_parts]; exact part_tail (dateL_len a b c) (by simp [dateL_len, clockL_len])
    clear hd hv kd kv z
    generalize stampL y m d (t % 86400) = l at c2 hlen e1 f1
    generalize stampL a b c (t % 86400) = l' at c3 hlen' e2 f2
    generalize dateL y m d = p at e1 o
    generalize dateL a b c = q at e2 o
    generalize 84 :: clockL (t % 86400) = x at f1 f2
    go_enter Tryd.func11, Tryd.ntmps11
    go_wp2_with fail
    refine c0.mono ?_
    rintro e w1 ⟨rfl, hg1⟩
    clear c0
    go_wp2_with fail
    refine (c1.out w1).mono ?_
    rintro e w2 ⟨rfl, hg2⟩
    have g12 := hg1.trans hg2
    clear hg1 hg2 c1
    go_wp2_with fail
    refine (c2.out w2 (g12.len HL.out) (g12.pow HP.out)).mono ?_
    rintro e w3 ⟨rfl, hg3⟩
    have g13 := g12.trans hg3
    clear g12 hg3 c2
    go_wp2_with fail
    refine (c3.out w3 (g13.len HL.out) (g13.pow HP.out)).mono ?_
    rintro e w4 ⟨rfl, hg4⟩
    have g14 := g13.trans hg4
    clear g13 hg4 c3
    go_wp2_with fail
    go_quiet (fail)
    go_wp2
    go_ret
    exact ⟨rfl, g14.drewN _⟩
  · have c3 := Lib.hid (fun w => stamp_no (t + 86400) w (by omega) (by omega) (by omega))
    clear hd hv z
    generalize stampL y m d (t % 86400) = l at c2
    go_enter Tryd.func11, Tryd.ntmps11
    go_wp2_with fail
    refine c0.mono ?_
    rintro e w1 ⟨rfl, hg1⟩
    clear c0
    go_wp2_with fail
    refine (c1.out w1).mono ?_
    rintro e w2 ⟨rfl, hg2⟩
    have g12 := hg1.trans hg2
    clear hg1 hg2 c1
    go_wp2_with fail
    refine (c2.out w2 (g12.len HL.out) (g12.pow HP.out)).mono ?_
    rintro e w3 ⟨rfl, hg3⟩
    have g13 := g12.trans hg3
    clear g12 hg3 c2
    go_wp2_with fail
    refine (c3.out w3).mono ?_
    rintro e w4 ⟨rfl, hg4⟩
    have g14 := g13.trans hg4
    clear g13 hg4 c3
    go_wp2_with fail
    go_ret
    exact ⟨rfl, g14⟩


theorem contract (H : Type) (enc : TypeId × Value → H) (W : World) (base : Nat) (args : Array Value) (ds gs : List (DataW H)) (before : List MemPlace)
    (hval : ∀ (j : Nat) t v, Tryd.f11.params[j]? = some t → args[j]? = some v → Value.okWide Tryd.prog W .any base t v)
    (hW : DataW.Whole enc Tryd.prog Tryd.f11.params.toList Rows.stampNextSpec.vars false W args.toList ds gs before) (hL : laidMet Tryd.prog Rows.stampNextRow.laid W) (hsh : W.ShapedOpen Tryd.prog) :
    Calls Tryd.prog 11 args W fun e W' => ∃ v, e = .returned v ∧ Rows.stampNextSpec.post enc Tryd.prog Tryd.f11 false true false false W args v W' := by
  have hW' := hW
  obtain ⟨p, q, hA0, hV, rfl, hfz, hnd⟩ := hW
  have hA : DataW.TrodAll enc Tryd.prog W 0 (fun _ => true) true Tryd.f11.params.toList args.toList ds p := hA0
  rw [Tryd.params11] at hA hval
  obtain ⟨v0, vs0, d0, ds0, p0, q0, hargs, rfl, rfl, h0, r0⟩ := trodAll_cons hA
  obtain ⟨rfl, rfl, rfl⟩ := trodAll_nil r0
  obtain rfl : args = #[v0] := by cases args; simp_all
  obtain ⟨rfl, rfl⟩ := trodVars_none hV
  obtain ⟨a0, rfl, rfl, rfl, w0⟩ := open_int Tryd.underlying3 (hval 0 3 v0 rfl rfl) h0
  clear hA0
  simp only [List.append_nil] at hW'
  refine (walk a0 (bounds_i64 w0).1 (bounds_i64 w0).2 W (lens_of hL (List.mem_of_getElem? (i := 3) rfl)) (pow_of hL (List.mem_of_getElem? (i := 2) rfl))).mono fun e W' ⟨he, hg⟩ => ?_
  subst he
  exact ⟨_, rfl, post_of_below (pa := []) (pv := []) hW' (fun _ _ _ => trodAll_cons_mk (shut_bool Tryd.underlying4 _) trodAll_mk0) (fun _ _ => (trodAll_cons_mk (shut_int Tryd.underlying3 w0) trodAll_mk0)) (fun _ _ => rfl) rfl
    hg (ok_one (by kernel_rfl) rfl (okWide_bool_mk Tryd.underlying4 _))⟩

/-- A world for the witness: the settled one, the listed variables holding what their initialisers lay. -/
noncomputable def laidWorld (os : Os) : World := put (put (put (put (bare os) 5 (flat1 Rows.laid_math_bits_deBruijn32tab)) 6 (flat1 Rows.laid_math_bits_deBruijn64tab)) 2 (flat1 Rows.laid_internal_strconv_uint64pow10)) 0 (flat1 Rows.laid_timeball_civil_lengths)
set_option maxRecDepth 100000 in
theorem laid_met (os : Os) : laidMet Tryd.prog Rows.stampNextRow.laid ((laidWorld os).forCall (fun _ _ => 0) ⟨#[], #[.int .i64 0], []⟩).memory :=
  laidMet_of_run3 8 (by kernel_rfl) (by kernel_rfl) (by kernel_rfl)
theorem reads (os : Os) {H : Type} (enc : TypeId × Value → H) : ∃ places, DataW.whole enc Tryd.prog ((laidWorld os).forCall (fun _ _ => 0) ⟨#[], #[.int .i64 0], []⟩).memory Tryd.f11.params.toList Rows.stampNextSpec.vars false #[Value.int .i64 0].toList 8 = some ([.lit (.int .i64 0)], [], places) :=
  ⟨[], by kernel_rfl⟩

set_option maxRecDepth 100000 in
theorem lifted (os : Os) (started : os.Started) (H : Type) (enc : TypeId × Value → H) (F : Stop.Interp) :
    ReturnsInHanded {} Tryd.checked os 11 .any ((OpenSpec.ofChange Rows.stampNextSpec).preRow enc Tryd.prog Tryd.f11 Rows.stampNextRow.domain false Rows.stampNextRow.laid) (((OpenSpec.ofChange Rows.stampNextSpec).at F).post enc Tryd.prog Tryd.f11 false true false false) := by
  obtain ⟨places, hx⟩ := reads os enc
  refine returnsInHanded_of_row (C := Tryd.checked) (s := OpenSpec.ofChange Rows.stampNextSpec) own started (by kernel_rfl) Tryd.func11
    (witness_row_at (enc := enc) (C := Tryd.checked) false (laidWorld os) #[.int .i64 0] rfl (by kernel_rfl) (by kernel_rfl) (by kernel_rfl)
      (OpenSpec.preRow_of_cond 8 hx (by kernel_rfl) (fun k hk => by cases hk) (by kernel_rfl) (laid_met os))) ?_
  intro W base args ds gs before hval hW _ _ _ hL hsh _
  exact contract H enc W base args ds gs before hval hW hL hsh

theorem said : Rows.StampNextSaid :=
  OpenClaim.holds_of_cond 11 Tryd.f11 rfl rfl rfl rfl rfl rfl rfl ⟨rfl, rfl, rfl, rfl, rfl⟩ rfl rfl rfl rfl rfl (by kernel_rfl) Tryd.func11 (by kernel_rfl)
    (of_decide_eq_true (by kernel_rfl)) (by unfold Func.isWrapper; first | (rw [if_pos (by decide +kernel)]; kernel_rfl) | (rw [if_neg (by decide +kernel)]; exact ⟨rfl, rfl⟩))
    (fun os started H enc _ F => by rw [OpenClaim.pre_eq_preRow]; exact lifted os started H enc F)

/-- No parameter wants a stand-in; the program's own looks are off. -/
theorem plain (f : FuncId) (fn : Func) (hf : Tryd.pinned.checked.prog.funcNamed "timeball/timeballkeep.StampNext" = some f) (hfn : Tryd.pinned.checked.prog.funcs[f]? = some fn) :
    false = Tryd.pinned.checked.prog.looks [] ∧ ∀ (j : Nat) t, fn.params[j]? = some t → Tryd.pinned.checked.prog.wantsStandIn t = false := by
  obtain rfl : f = 11 := Option.some.inj ((show Tryd.prog.funcNamed "timeball/timeballkeep.StampNext" = some 11 by kernel_rfl).symm.trans hf) |>.symm
  obtain rfl : fn = Tryd.f11 := (Option.some.inj (Tryd.func11.symm.trans hfn)).symm
  refine ⟨by kernel_rfl, fun j t ht => ?_⟩
  rw [Tryd.params11] at ht
  obtain rfl : t = 3 := by simpa using Array.mem_of_getElem? ht
  exact (show Tryd.prog.wantsStandIn 3 = false by kernel_rfl)

end Go.Proofs.YteciijcgnaojeaaDoor.stampNext
namespace Go.Proofs.YteciijcgnaojeaaDoor
/-- The card. -/
theorem stampNext_holds : Rows.StampNextCardSaid :=
  Claim7.holds_tied_plain_at .later [] _ _ _ _ stampNext.said (fun _ h => by cases h) (by kernel_rfl) (fun _ h => by cases h) stampNext_row_tie rfl ⟨rfl, rfl⟩ (by kernel_rfl) rfl stampNext.plain (by kernel_rfl)
end Go.Proofs.YteciijcgnaojeaaDoor
