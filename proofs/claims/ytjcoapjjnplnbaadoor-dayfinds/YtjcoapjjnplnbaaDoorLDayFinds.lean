/- The law DayFinds of package timeballlaw returns true for every input and leaves its arguments as they were: Check and Of return what the reference returns. Condition: the listed variables (timeball/civil.lengths) lie as their initialisers lay them; the card ties that to the program's text. -/
import Derived.Test.YtjcoapjjnplnbaaDoorCards
import Derived.Test.YtjcoapjjnplnbaaDoorTie
import Derived.Test.YtjcoapjjnplnbaaDoorR0
import Derived.Test.YtjcoapjjnplnbaaDoorE2
import Derived.Test.YtjcoapjjnplnbaaDoorS0
import Derived.Test.YtjcoapjjnplnbaaDoorD3
namespace Go.Proofs.YtjcoapjjnplnbaaDoor.dayFinds
open Go.ChangeShapes Go.WideShapes Go.ChangeAt Go.RowKit
open Go.ChangeMaps (open_string shut_string)
set_option linter.unusedVariables false
set_option linter.unusedSimpArgs false

set_option maxRecDepth 100000 in
set_option maxHeartbeats 4000000 in
theorem walk (y : Int) (y1 : -9223372036854775808 ≤ y) (y2 : y ≤ 9223372036854775807) (m : Int) (m1 : -9223372036854775808 ≤ m) (m2 : m ≤ 9223372036854775807) (k d n : Int) (w : World) (ho : OfTab w) :
    Calls Tryd.prog 3 #[.int .i64 y, .int .i64 m, dayV k d n] w fun e w' => e = .returned (.bool true) ∧ Gr w w' := by
  obtain ⟨a, b, e⟩ := dayA_two y m k d n
  have KO := fun w h => dayOf y m k d n w h
  have KR := rdayOf y m k d n
  rw [e] at KO KR
  have KO' := Lib.hid KO
  have KR' := Lib.hid KR
  have KC' := Lib.hid dayCheck
  have KD' := Lib.hid rdayCheck
  have hz : dchk 0 0 0 = 1 := by decide
  have eq : (dchk k d n == dchk k d n) = true := by simp
  have HO := Lib.hid ho
  clear KO KR ho e
  have L := laid3 w k d n 23
  go_enter Tryd.func3, Tryd.ntmps3
  go_wp2_with fail
  generalize w.alloc (.cells #[.int .i64 k, .int .i64 d, .int .i64 n] 23) = w1 at L ⊢
  generalize w.heap.size = q at L ⊢
  have c0 := L.1
  have c1 := L.2.1
  have c2 := L.2.2.1
  have HL := Lib.hid L
  clear L
  refine (KO'.out w1 (Gr.ofT HL.out.2.2.2 HO.out)).mono ?_
  rintro e w2 ⟨rfl, hg2⟩
  have L2 := keep4 HL.out hg2
  clear HL hg2 c0 c1 c2 KO'
  have c0 := L2.1
  have c1 := L2.2.1
  have c2 := L2.2.2.1
  have HL := Lib.hid L2
  clear L2
  go_wp2_with fail
  refine (KR'.out w2).mono ?_
  rintro e w3 ⟨rfl, hg3⟩
  have L3 := keep4 HL.out hg3
  clear HL hg3 c0 c1 c2 KR'
  have c0 := L3.1
  have c1 := L3.2.1
  have c2 := L3.2.2.1
  have HL := Lib.hid L3
  clear L3
  go_wp2_with fail
  go_region_held3 (fun wx => wx.cell? ⟨q, 0, none⟩ = some (.int .i64 k) ∧ wx.cell? ⟨q, 1, none⟩ = some (.int .i64 d) ∧ wx.cell? ⟨q, 2, none⟩ = some (.int .i64 n) ∧ Gr w wx) (first | exact ⟨HL.out.1, HL.out.2.1, HL.out.2.2.1, HL.out.2.2.2.drew'⟩ | assumption) (first | (go_at_call 14; refine (KC'.out _ _ _ _).mono ?_; rintro e wa ⟨rfl, hga⟩; have Ha := keep4 (by assumption) hga) | (go_at_call 15; refine (KD'.out _ _ _ _).mono ?_; rintro e wb ⟨rfl, hgb⟩; have Hb := keep4 (by assumption) hgb))
  go_wp2
  go_ret
  exact ⟨rfl, Ha.2.2.2⟩


set_option maxRecDepth 100000 in
theorem contract (H : Type) (enc : TypeId × Value → H) (W : World) (base : Nat) (args : Array Value) (ds gs : List (DataW H)) (before : List MemPlace)
    (hval : ∀ (j : Nat) t v, Tryd.f3.params[j]? = some t → args[j]? = some v → Value.okWide Tryd.prog W .any base t v)
    (hW : DataW.Whole enc Tryd.prog Tryd.f3.params.toList Rows.dayFindsSpec.vars false W args.toList ds gs before) (hL : laidMet Tryd.prog Rows.dayFindsRow.laid W) (hsh : W.ShapedOpen Tryd.prog) :
    Calls Tryd.prog 3 args W fun e W' => ∃ v, e = .returned v ∧ Rows.dayFindsSpec.post enc Tryd.prog Tryd.f3 false true false false W args v W' := by
  have hW' := hW
  obtain ⟨p, q, hA0, hV, rfl, hfz, hnd⟩ := hW
  have hA : DataW.TrodAll enc Tryd.prog W 0 (fun _ => true) true Tryd.f3.params.toList args.toList ds p := hA0
  rw [Tryd.params3] at hA hval
  obtain ⟨v0, vs0, d0, ds0, p0, q0, hargs, rfl, rfl, h0, r0⟩ := trodAll_cons hA
  obtain ⟨v1, vs1, d1, ds1, p1, q1, rfl, rfl, rfl, h1, r1⟩ := trodAll_cons r0
  obtain ⟨v2, vs2, d2, ds2, p2, q2, rfl, rfl, rfl, h2, r2⟩ := trodAll_cons r1
  obtain ⟨rfl, rfl, rfl⟩ := trodAll_nil r2
  obtain rfl : args = #[v0, v1, v2] := by cases args; simp_all
  obtain ⟨rfl, rfl⟩ := trodVars_none hV
  obtain ⟨a0, rfl, rfl, rfl, w0⟩ := open_int Tryd.underlying3 (hval 0 3 v0 rfl rfl) h0
  obtain ⟨a1, rfl, rfl, rfl, w1⟩ := open_int Tryd.underlying3 (hval 1 3 v1 rfl rfl) h1
  obtain ⟨a2, b2, c2, rfl, rfl, rfl, wa2, wb2, wc2⟩ := open_day (hval 2 23 v2 rfl rfl) h2
  clear hA0
  simp only [List.append_nil] at hW'
  refine (walk a0 (bounds_i64 w0).1 (bounds_i64 w0).2 a1 (bounds_i64 w1).1 (bounds_i64 w1).2 a2 b2 c2 W (lens_of hL (List.mem_of_getElem? (i := 0) rfl))).mono fun e W' ⟨he, hg⟩ => ?_
  subst he
  exact ⟨_, rfl, post_of_below (pa := []) (pv := []) hW' (fun _ _ _ => trodAll_cons_mk (shut_bool Tryd.underlying4 _) trodAll_mk0) (fun _ _ => (trodAll_cons_mk (shut_int Tryd.underlying3 w0) (trodAll_cons_mk (shut_int Tryd.underlying3 w1) (trodAll_cons_mk (shut_day wa2 wb2 wc2) trodAll_mk0)))) (fun _ _ => rfl) rfl
    hg (ok_one (by kernel_rfl) rfl (okWide_bool_mk Tryd.underlying4 _))⟩

/-- A world for the witness: the settled one, the listed variables holding what their initialisers lay. -/
noncomputable def laidWorld (os : Os) : World := put (bare os) 1 (flat1 Rows.laid_timeball_civil_lengths)
set_option maxRecDepth 100000 in
theorem laid_met (os : Os) : laidMet Tryd.prog Rows.dayFindsRow.laid ((laidWorld os).forCall (fun _ _ => 0) ⟨#[], #[.int .i64 0, .int .i64 0, .agg #[.int .i64 0, .int .i64 0, .int .i64 0]], []⟩).memory :=
  laidMet_of_run3 8 (by kernel_rfl) (by kernel_rfl) (by kernel_rfl)
theorem reads (os : Os) {H : Type} (enc : TypeId × Value → H) : ∃ places, DataW.whole enc Tryd.prog ((laidWorld os).forCall (fun _ _ => 0) ⟨#[], #[.int .i64 0, .int .i64 0, .agg #[.int .i64 0, .int .i64 0, .int .i64 0]], []⟩).memory Tryd.f3.params.toList Rows.dayFindsSpec.vars false #[Value.int .i64 0, Value.int .i64 0, Value.agg #[.int .i64 0, .int .i64 0, .int .i64 0]].toList 8 = some ([.lit (.int .i64 0), .lit (.int .i64 0), .agg [.lit (.int .i64 0), .lit (.int .i64 0), .lit (.int .i64 0)]], [], places) :=
  ⟨[], by kernel_rfl⟩

set_option maxRecDepth 100000 in
theorem lifted (os : Os) (started : os.Started) (H : Type) (enc : TypeId × Value → H) (F : Stop.Interp) :
    ReturnsInHanded {} Tryd.checked os 3 .any ((OpenSpec.ofChange Rows.dayFindsSpec).preRow enc Tryd.prog Tryd.f3 Rows.dayFindsRow.domain false Rows.dayFindsRow.laid) (((OpenSpec.ofChange Rows.dayFindsSpec).at F).post enc Tryd.prog Tryd.f3 false true false false) := by
  obtain ⟨places, hx⟩ := reads os enc
  refine returnsInHanded_of_row (C := Tryd.checked) (s := OpenSpec.ofChange Rows.dayFindsSpec) own started (by kernel_rfl) Tryd.func3
    (witness_row_at (enc := enc) (C := Tryd.checked) false (laidWorld os) #[.int .i64 0, .int .i64 0, .agg #[.int .i64 0, .int .i64 0, .int .i64 0]] rfl (by kernel_rfl) (by kernel_rfl) (by kernel_rfl)
      (OpenSpec.preRow_of_cond 8 hx (by kernel_rfl) (fun k hk => by cases hk) (by kernel_rfl) (laid_met os))) ?_
  intro W base args ds gs before hval hW _ _ _ hL hsh _
  exact contract H enc W base args ds gs before hval hW hL hsh

theorem said : Rows.DayFindsSaid :=
  OpenClaim.holds_of_cond 3 Tryd.f3 rfl rfl rfl rfl rfl rfl rfl ⟨rfl, rfl, rfl, rfl, rfl⟩ rfl rfl rfl rfl rfl (by kernel_rfl) Tryd.func3 (by kernel_rfl)
    (of_decide_eq_true (by kernel_rfl)) (by unfold Func.isWrapper; first | (rw [if_pos (by decide +kernel)]; kernel_rfl) | (rw [if_neg (by decide +kernel)]; exact ⟨rfl, rfl⟩))
    (fun os started H enc _ F => by rw [OpenClaim.pre_eq_preRow]; exact lifted os started H enc F)

set_option maxRecDepth 100000 in
/-- No parameter wants a stand-in; whether the program has looks of its own. -/
theorem plain (f : FuncId) (fn : Func) (hf : Tryd.pinned.checked.prog.funcNamed "timeball/timeballlaw.DayFinds" = some f) (hfn : Tryd.pinned.checked.prog.funcs[f]? = some fn) :
    true = Tryd.pinned.checked.prog.looks [] ∧ ∀ (j : Nat) t, fn.params[j]? = some t → Tryd.pinned.checked.prog.wantsStandIn t = false := by
  obtain rfl : f = 3 := Option.some.inj ((show Tryd.prog.funcNamed "timeball/timeballlaw.DayFinds" = some 3 by kernel_rfl).symm.trans hf) |>.symm
  obtain rfl : fn = Tryd.f3 := (Option.some.inj (Tryd.func3.symm.trans hfn)).symm
  refine ⟨by kernel_rfl, fun j t ht => ?_⟩
  rw [Tryd.params3] at ht
  have hm : t = 3 ∨ t = 23 := by have := Array.mem_of_getElem? ht; simp at this; omega
  rcases hm with rfl | rfl
  · exact (show Tryd.prog.wantsStandIn 3 = false by kernel_rfl)
  · exact (show Tryd.prog.wantsStandIn 23 = false by kernel_rfl)

end Go.Proofs.YtjcoapjjnplnbaaDoor.dayFinds
namespace Go.Proofs.YtjcoapjjnplnbaaDoor
/-- The card. -/
theorem dayFinds_holds : Rows.DayFindsCardSaid :=
  Claim7.holds_tied_plain_at .later [] _ _ _ _ dayFinds.said (fun _ h => by cases h) (by kernel_rfl) (fun _ h => by cases h) dayFinds_row_tie rfl ⟨rfl, rfl⟩ (by kernel_rfl) rfl dayFinds.plain (by kernel_rfl)
end Go.Proofs.YtjcoapjjnplnbaaDoor
