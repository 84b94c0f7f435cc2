/- The law StampOrder of package timeballkeep returns true for every input and leaves its arguments as they were: Timestamps are ordered like times and have 19 bytes. Condition: the listed variables (math/bits.deBruijn32tab, math/bits.deBruijn64tab, internal/strconv.uint64pow10, timeball/civil.lengths) lie as their initialisers lay them; the card ties that to the program's text. -/
import Derived.Test.YteciijcgnaojeaaDoorCards
import Derived.Test.YteciijcgnaojeaaDoorTie
import Derived.Test.YteciijcgnaojeaaDoorR0
import Derived.Test.YteciijcgnaojeaaDoorK10
import Derived.Test.YteciijcgnaojeaaDoorK11
namespace Go.Proofs.YteciijcgnaojeaaDoor.stampOrder
open Go.ChangeShapes Go.WideShapes Go.ChangeAt Go.RowKit
open Go.ChangeMaps (open_string shut_string)
set_option linter.unusedVariables false
set_option linter.unusedSimpArgs false

set_option maxHeartbeats 1000000 in
theorem walk (n : Int) (n1 : -9223372036854775808 ≤ n) (n2 : n ≤ 9223372036854775807) (k : Int) (k1 : -9223372036854775808 ≤ k) (k2 : k ≤ 9223372036854775807) (w : World) (hl : HasLen w) (hp : HasPow w) :
    Calls Tryd.prog 10 #[.int .i64 n, .int .i64 k] w fun e w' => e = .returned (.bool true) ∧ Gr w w' := by
  have c0 := clocked_any w hl hp
  have c1 := Lib.hid (fun w => timeOf_any n w n1 n2)
  have d1 := Lib.hid (fun w => timeOf_any k w k1 k2)
  have tb := timeV_bd n
  generalize timeV n = t at c1 tb
  have ub := timeV_bd k
  generalize timeV k = v at d1 ub
  obtain ⟨t1, t2⟩ := tb
  obtain ⟨u1, u2⟩ := ub
  obtain ⟨y, m, d, hv, hd⟩ := Cal.has_date (n := t / 86400) (by omega) (by omega)
  obtain ⟨a, b, c, kv, kd⟩ := Cal.has_date (n := v / 86400) (by omega) (by omega)
  have c2 := Lib.hid (fun w hl hp => stamp_yes t y m d (t % 86400) w hl hp hv (by omega) (by omega) (by omega))
  have d2' := Lib.hid (fun w hl hp => stamp_yes v a b c (v % 86400) w hl hp kv (by omega) (by omega) (by omega))
  have o := bl_stamp hv kv (r := t % 86400) (q := v % 86400) (by omega) (by omega) (by omega) (by omega)
  have o2 : Op.bytesLess (stampL y m d (t % 86400)) (stampL a b c (v % 86400)) = decide (t < v) := by
    by_cases z : t < v
    · have := o.2 (by omega)
      rw [this]; simp [z]
    · have : ¬ Op.bytesLess (stampL y m d (t % 86400)) (stampL a b c (v % 86400)) = true := fun hh => by have := o.1 hh; omega
      simp only [Bool.not_eq_true] at this
      rw [this]; simp; omega
  have hlen := stampL_len y m d (t % 86400)
  have HP := Lib.hid hp
  have HL := Lib.hid hl
  clear hl hp n1 n2 k1 k2 hd hv kd kv o
  generalize stampL y m d (t % 86400) = l at c2 o2 hlen
  generalize stampL a b c (v % 86400) = l' at d2' o2
  go_enter Tryd.func10, Tryd.ntmps10
  go_wp2_with fail
  refine c0.mono ?_
  rintro e w1 ⟨rfl, hg1⟩
  clear c0
  go_wp2_with fail
  refine (c1.out w1).mono ?_
  rintro e w2 ⟨rfl, hg2⟩
  have g12 := hg1.trans hg2
  clear hg1 hg2 c1
  go_wp2_with fail
  refine (d1.out w2).mono ?_
  rintro e w3 ⟨rfl, hg3⟩
  have g13 := g12.trans hg3
  clear g12 hg3 d1
  go_wp2_with fail
  refine (c2.out w3 (g13.len HL.out) (g13.pow HP.out)).mono ?_
  rintro e w4 ⟨rfl, hg4⟩
  have g14 := g13.trans hg4
  clear g13 hg4 c2
  go_wp2_with fail
  refine (d2'.out w4 (g14.len HL.out) (g14.pow HP.out)).mono ?_
  rintro e w5 ⟨rfl, hg5⟩
  have g15 := g14.trans hg5
  clear g14 hg5 d2'
  by_cases z : t < v
  · have z' := ltT z
    rw [z'] at o2
    go_wp2_with fail
    go_ret
    exact ⟨rfl, g15⟩
  · have z' := ltF z
    rw [z'] at o2
    go_wp2_with fail
    go_ret
    exact ⟨rfl, g15⟩


theorem contract (H : Type) (enc : TypeId × Value → H) (W : World) (base : Nat) (args : Array Value) (ds gs : List (DataW H)) (before : List MemPlace)
    (hval : ∀ (j : Nat) t v, Tryd.f10.params[j]? = some t → args[j]? = some v → Value.okWide Tryd.prog W .any base t v)
    (hW : DataW.Whole enc Tryd.prog Tryd.f10.params.toList Rows.stampOrderSpec.vars false W args.toList ds gs before) (hL : laidMet Tryd.prog Rows.stampOrderRow.laid W) (hsh : W.ShapedOpen Tryd.prog) :
    Calls Tryd.prog 10 args W fun e W' => ∃ v, e = .returned v ∧ Rows.stampOrderSpec.post enc Tryd.prog Tryd.f10 false true false false W args v W' := by
  have hW' := hW
  obtain ⟨p, q, hA0, hV, rfl, hfz, hnd⟩ := hW
  have hA : DataW.TrodAll enc Tryd.prog W 0 (fun _ => true) true Tryd.f10.params.toList args.toList ds p := hA0
  rw [Tryd.params10] at hA hval
  obtain ⟨v0, vs0, d0, ds0, p0, q0, hargs, rfl, rfl, h0, r0⟩ := trodAll_cons hA
  obtain ⟨v1, vs1, d1, ds1, p1, q1, rfl, rfl, rfl, h1, r1⟩ := trodAll_cons r0
  obtain ⟨rfl, rfl, rfl⟩ := trodAll_nil r1
  obtain rfl : args = #[v0, v1] := by cases args; simp_all
  obtain ⟨rfl, rfl⟩ := trodVars_none hV
  obtain ⟨a0, rfl, rfl, rfl, w0⟩ := open_int Tryd.underlying3 (hval 0 3 v0 rfl rfl) h0
  obtain ⟨a1, rfl, rfl, rfl, w1⟩ := open_int Tryd.underlying3 (hval 1 3 v1 rfl rfl) h1
  clear hA0
  simp only [List.append_nil] at hW'
  refine (walk a0 (bounds_i64 w0).1 (bounds_i64 w0).2 a1 (bounds_i64 w1).1 (bounds_i64 w1).2 W (lens_of hL (List.mem_of_getElem? (i := 3) rfl)) (pow_of hL (List.mem_of_getElem? (i := 2) rfl))).mono fun e W' ⟨he, hg⟩ => ?_
  subst he
  exact ⟨_, rfl, post_of_below (pa := []) (pv := []) hW' (fun _ _ _ => trodAll_cons_mk (shut_bool Tryd.underlying4 _) trodAll_mk0) (fun _ _ => (trodAll_cons_mk (shut_int Tryd.underlying3 w0) (trodAll_cons_mk (shut_int Tryd.underlying3 w1) trodAll_mk0))) (fun _ _ => rfl) rfl
    hg (ok_one (by kernel_rfl) rfl (okWide_bool_mk Tryd.underlying4 _))⟩

/-- A world for the witness: the settled one, the listed variables holding what their initialisers lay. -/
noncomputable def laidWorld (os : Os) : World := put (put (put (put (bare os) 5 (flat1 Rows.laid_math_bits_deBruijn32tab)) 6 (flat1 Rows.laid_math_bits_deBruijn64tab)) 2 (flat1 Rows.laid_internal_strconv_uint64pow10)) 0 (flat1 Rows.laid_timeball_civil_lengths)
set_option maxRecDepth 100000 in
theorem laid_met (os : Os) : laidMet Tryd.prog Rows.stampOrderRow.laid ((laidWorld os).forCall (fun _ _ => 0) ⟨#[], #[.int .i64 0, .int .i64 0], []⟩).memory :=
  laidMet_of_run3 8 (by kernel_rfl) (by kernel_rfl) (by kernel_rfl)
theorem reads (os : Os) {H : Type} (enc : TypeId × Value → H) : ∃ places, DataW.whole enc Tryd.prog ((laidWorld os).forCall (fun _ _ => 0) ⟨#[], #[.int .i64 0, .int .i64 0], []⟩).memory Tryd.f10.params.toList Rows.stampOrderSpec.vars false #[Value.int .i64 0, Value.int .i64 0].toList 8 = some ([.lit (.int .i64 0), .lit (.int .i64 0)], [], places) :=
  ⟨[], by kernel_rfl⟩

set_option maxRecDepth 100000 in
theorem lifted (os : Os) (started : os.Started) (H : Type) (enc : TypeId × Value → H) (F : Stop.Interp) :
    ReturnsInHanded {} Tryd.checked os 10 .any ((OpenSpec.ofChange Rows.stampOrderSpec).preRow enc Tryd.prog Tryd.f10 Rows.stampOrderRow.domain false Rows.stampOrderRow.laid) (((OpenSpec.ofChange Rows.stampOrderSpec).at F).post enc Tryd.prog Tryd.f10 false true false false) := by
  obtain ⟨places, hx⟩ := reads os enc
  refine returnsInHanded_of_row (C := Tryd.checked) (s := OpenSpec.ofChange Rows.stampOrderSpec) own started (by kernel_rfl) Tryd.func10
    (witness_row_at (enc := enc) (C := Tryd.checked) false (laidWorld os) #[.int .i64 0, .int .i64 0] rfl (by kernel_rfl) (by kernel_rfl) (by kernel_rfl)
      (OpenSpec.preRow_of_cond 8 hx (by kernel_rfl) (fun k hk => by cases hk) (by kernel_rfl) (laid_met os))) ?_
  intro W base args ds gs before hval hW _ _ _ hL hsh _
  exact contract H enc W base args ds gs before hval hW hL hsh

theorem said : Rows.StampOrderSaid :=
  OpenClaim.holds_of_cond 10 Tryd.f10 rfl rfl rfl rfl rfl rfl rfl ⟨rfl, rfl, rfl, rfl, rfl⟩ rfl rfl rfl rfl rfl (by kernel_rfl) Tryd.func10 (by kernel_rfl)
    (of_decide_eq_true (by kernel_rfl)) (by unfold Func.isWrapper; first | (rw [if_pos (by decide +kernel)]; kernel_rfl) | (rw [if_neg (by decide +kernel)]; exact ⟨rfl, rfl⟩))
    (fun os started H enc _ F => by rw [OpenClaim.pre_eq_preRow]; exact lifted os started H enc F)

/-- No parameter wants a stand-in; the program's own looks are off. -/
theorem plain (f : FuncId) (fn : Func) (hf : Tryd.pinned.checked.prog.funcNamed "timeball/timeballkeep.StampOrder" = some f) (hfn : Tryd.pinned.checked.prog.funcs[f]? = some fn) :
    false = Tryd.pinned.checked.prog.looks [] ∧ ∀ (j : Nat) t, fn.params[j]? = some t → Tryd.pinned.checked.prog.wantsStandIn t = false := by
  obtain rfl : f = 10 := Option.some.inj ((show Tryd.prog.funcNamed "timeball/timeballkeep.StampOrder" = some 10 by kernel_rfl).symm.trans hf) |>.symm
  obtain rfl : fn = Tryd.f10 := (Option.some.inj (Tryd.func10.symm.trans hfn)).symm
  refine ⟨by kernel_rfl, fun j t ht => ?_⟩
  rw [Tryd.params10] at ht
  obtain rfl : t = 3 := by simpa using Array.mem_of_getElem? ht
  exact (show Tryd.prog.wantsStandIn 3 = false by kernel_rfl)

end Go.Proofs.YteciijcgnaojeaaDoor.stampOrder
namespace Go.Proofs.YteciijcgnaojeaaDoor
/-- The card. -/
theorem stampOrder_holds : Rows.StampOrderCardSaid :=
  Claim7.holds_tied_plain_at .later [] _ _ _ _ stampOrder.said (fun _ h => by cases h) (by kernel_rfl) (fun _ h => by cases h) stampOrder_row_tie rfl ⟨rfl, rfl⟩ (by kernel_rfl) rfl stampOrder.plain (by kernel_rfl)
end Go.Proofs.YteciijcgnaojeaaDoor
