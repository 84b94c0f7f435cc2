/- The law DayTells of package timeballlaw returns true for every input and leaves its arguments as they were: Text returns what the reference returns. Condition: the listed variables (math/bits.deBruijn32tab, math/bits.deBruijn64tab, internal/strconv.uint64pow10, timeball/day.weekdays) lie as their initialisers lay them; the card ties that to the program's text. -/
import Derived.Test.YtjcoapjjnplnbaaDoorCards
import Derived.Test.YtjcoapjjnplnbaaDoorTie
import Derived.Test.YtjcoapjjnplnbaaDoorR0
import Derived.Test.YtjcoapjjnplnbaaDoorE2
import Derived.Test.YtjcoapjjnplnbaaDoorS0
import Derived.Test.YtjcoapjjnplnbaaDoorR1
namespace Go.Proofs.YtjcoapjjnplnbaaDoor.dayTells
open Go.ChangeShapes Go.WideShapes Go.ChangeAt Go.RowKit
open Go.ChangeMaps (open_string shut_string)
set_option linter.unusedVariables false
set_option linter.unusedSimpArgs false

set_option maxHeartbeats 1000000 in
theorem walk (k d n : Int) (w : World) (ht : TxTab w) :
    Calls Tryd.prog 4 #[dayV k d n] w fun e w' => e = .returned (.bool true) ∧ Gr w w' := by
  obtain ⟨a, b, e⟩ := dayTextA_two k d n
  have KO := fun w h => dayText k d n w h
  have KR := rdayText k d n
  rw [e] at KO KR
  have KO' := Lib.hid KO
  have KR' := Lib.hid KR
  have KZ0 := dayCheck 0 0 0
  rw [show dchk 0 0 0 = 1 by decide] at KZ0
  have KZ := Lib.hid KZ0
  have HO := Lib.hid ht
  clear KO KR KZ0 ht e
  have L := laid3 w k d n 23
  go_enter Tryd.func4, Tryd.ntmps4
  go_wp2_with fail
  generalize w.alloc (.cells #[.int .i64 k, .int .i64 d, .int .i64 n] 23) = w1 at L ⊢
  generalize w.heap.size = q at L ⊢
  have c0 := L.1
  have c1 := L.2.1
  have c2 := L.2.2.1
  have HL := Lib.hid L
  clear L
  refine (KO'.out w1 (Gr.txT HL.out.2.2.2 HO.out)).mono ?_
  rintro e w2 ⟨rfl, hg2⟩
  have L2 := keep4 HL.out hg2
  clear HL hg2 c0 c1 c2 KO'
  have c0 := L2.1
  have c1 := L2.2.1
  have c2 := L2.2.2.1
  have HL := Lib.hid L2
  clear L2
  go_wp2_with fail
  refine (KR'.out w2).mono ?_
  rintro e w3 ⟨rfl, hg3⟩
  have g5 := HL.out.2.2.2.trans hg3
  clear HL hg3 c0 c1 c2 KR'
  go_wp2_with fail
  have L2 := Gr.refl w3
  refine (KZ.out _).mono ?_
  rintro e w6 ⟨rfl, hg6⟩
  go_wp2_with fail
  go_ret
  exact ⟨rfl, (g5.trans L2).trans hg6⟩


set_option maxRecDepth 100000 in
theorem contract (H : Type) (enc : TypeId × Value → H) (W : World) (base : Nat) (args : Array Value) (ds gs : List (DataW H)) (before : List MemPlace)
    (hval : ∀ (j : Nat) t v, Tryd.f4.params[j]? = some t → args[j]? = some v → Value.okWide Tryd.prog W .any base t v)
    (hW : DataW.Whole enc Tryd.prog Tryd.f4.params.toList Rows.dayTellsSpec.vars false W args.toList ds gs before) (hL : laidMet Tryd.prog Rows.dayTellsRow.laid W) (hsh : W.ShapedOpen Tryd.prog) :
    Calls Tryd.prog 4 args W fun e W' => ∃ v, e = .returned v ∧ Rows.dayTellsSpec.post enc Tryd.prog Tryd.f4 false true false false W args v W' := by
  have hW' := hW
  obtain ⟨p, q, hA0, hV, rfl, hfz, hnd⟩ := hW
  have hA : DataW.TrodAll enc Tryd.prog W 0 (fun _ => true) true Tryd.f4.params.toList args.toList ds p := hA0
  rw [Tryd.params4] at hA hval
  obtain ⟨v0, vs0, d0, ds0, p0, q0, hargs, rfl, rfl, h0, r0⟩ := trodAll_cons hA
  obtain ⟨rfl, rfl, rfl⟩ := trodAll_nil r0
  obtain rfl : args = #[v0] := by cases args; simp_all
  obtain ⟨rfl, rfl⟩ := trodVars_none hV
  obtain ⟨a0, b0, c0, rfl, rfl, rfl, wa0, wb0, wc0⟩ := open_day (hval 0 23 v0 rfl rfl) h0
  clear hA0
  simp only [List.append_nil] at hW'
  refine (walk a0 b0 c0 W ⟨pow_of hL (List.mem_of_getElem? (i := 2) rfl), wk_of hL (List.mem_of_getElem? (i := 3) rfl)⟩).mono fun e W' ⟨he, hg⟩ => ?_
  subst he
  exact ⟨_, rfl, post_of_below (pa := []) (pv := []) hW' (fun _ _ _ => trodAll_cons_mk (shut_bool Tryd.underlying4 _) trodAll_mk0) (fun _ _ => (trodAll_cons_mk (shut_day wa0 wb0 wc0) trodAll_mk0)) (fun _ _ => rfl) rfl
    hg (ok_one (by kernel_rfl) rfl (okWide_bool_mk Tryd.underlying4 _))⟩

/-- A world for the witness: the settled one, the listed variables holding what their initialisers lay. -/
noncomputable def laidWorld (os : Os) : World := put (put (put (put (bare os) 6 (flat1 Rows.laid_math_bits_deBruijn32tab)) 7 (flat1 Rows.laid_math_bits_deBruijn64tab)) 2 (flat1 Rows.laid_internal_strconv_uint64pow10)) 0 (flat1 Rows.laid_timeball_day_weekdays)
set_option maxRecDepth 100000 in
theorem laid_met (os : Os) : laidMet Tryd.prog Rows.dayTellsRow.laid ((laidWorld os).forCall (fun _ _ => 0) ⟨#[], #[.agg #[.int .i64 0, .int .i64 0, .int .i64 0]], []⟩).memory :=
  laidMet_of_run3 8 (by kernel_rfl) (by kernel_rfl) (by kernel_rfl)
theorem reads (os : Os) {H : Type} (enc : TypeId × Value → H) : ∃ places, DataW.whole enc Tryd.prog ((laidWorld os).forCall (fun _ _ => 0) ⟨#[], #[.agg #[.int .i64 0, .int .i64 0, .int .i64 0]], []⟩).memory Tryd.f4.params.toList Rows.dayTellsSpec.vars false #[Value.agg #[.int .i64 0, .int .i64 0, .int .i64 0]].toList 8 = some ([.agg [.lit (.int .i64 0), .lit (.int .i64 0), .lit (.int .i64 0)]], [], places) :=
  ⟨[], by kernel_rfl⟩

set_option maxRecDepth 100000 in
theorem lifted (os : Os) (started : os.Started) (H : Type) (enc : TypeId × Value → H) (F : Stop.Interp) :
    ReturnsInHanded {} Tryd.checked os 4 .any ((OpenSpec.ofChange Rows.dayTellsSpec).preRow enc Tryd.prog Tryd.f4 Rows.dayTellsRow.domain false Rows.dayTellsRow.laid) (((OpenSpec.ofChange Rows.dayTellsSpec).at F).post enc Tryd.prog Tryd.f4 false true false false) := by
  obtain ⟨places, hx⟩ := reads os enc
  refine returnsInHanded_of_row (C := Tryd.checked) (s := OpenSpec.ofChange Rows.dayTellsSpec) own started (by kernel_rfl) Tryd.func4
    (witness_row_at (enc := enc) (C := Tryd.checked) false (laidWorld os) #[.agg #[.int .i64 0, .int .i64 0, .int .i64 0]] rfl (by kernel_rfl) (by kernel_rfl) (by kernel_rfl)
      (OpenSpec.preRow_of_cond 8 hx (by kernel_rfl) (fun k hk => by cases hk) (by kernel_rfl) (laid_met os))) ?_
  intro W base args ds gs before hval hW _ _ _ hL hsh _
  exact contract H enc W base args ds gs before hval hW hL hsh

theorem said : Rows.DayTellsSaid :=
  OpenClaim.holds_of_cond 4 Tryd.f4 rfl rfl rfl rfl rfl rfl rfl ⟨rfl, rfl, rfl, rfl, rfl⟩ rfl rfl rfl rfl rfl (by kernel_rfl) Tryd.func4 (by kernel_rfl)
    (of_decide_eq_true (by kernel_rfl)) (by unfold Func.isWrapper; first | (rw [if_pos (by decide +kernel)]; kernel_rfl) | (rw [if_neg (by decide +kernel)]; exact ⟨rfl, rfl⟩))
    (fun os started H enc _ F => by rw [OpenClaim.pre_eq_preRow]; exact lifted os started H enc F)

set_option maxRecDepth 100000 in
/-- No parameter wants a stand-in; whether the program has looks of its own. -/
theorem plain (f : FuncId) (fn : Func) (hf : Tryd.pinned.checked.prog.funcNamed "timeball/timeballlaw.DayTells" = some f) (hfn : Tryd.pinned.checked.prog.funcs[f]? = some fn) :
    true = Tryd.pinned.checked.prog.looks [] ∧ ∀ (j : Nat) t, fn.params[j]? = some t → Tryd.pinned.checked.prog.wantsStandIn t = false := by
  obtain rfl : f = 4 := Option.some.inj ((show Tryd.prog.funcNamed "timeball/timeballlaw.DayTells" = some 4 by kernel_rfl).symm.trans hf) |>.symm
  obtain rfl : fn = Tryd.f4 := (Option.some.inj (Tryd.func4.symm.trans hfn)).symm
  refine ⟨by kernel_rfl, fun j t ht => ?_⟩
  rw [Tryd.params4] at ht
  obtain rfl : t = 23 := by simpa using Array.mem_of_getElem? ht
  exact (show Tryd.prog.wantsStandIn 23 = false by kernel_rfl)

end Go.Proofs.YtjcoapjjnplnbaaDoor.dayTells
namespace Go.Proofs.YtjcoapjjnplnbaaDoor
/-- The card. -/
theorem dayTells_holds : Rows.DayTellsCardSaid :=
  Claim7.holds_tied_plain_at .later [] _ _ _ _ dayTells.said (fun _ h => by cases h) (by kernel_rfl) (fun _ h => by cases h) dayTells_row_tie rfl ⟨rfl, rfl⟩ (by kernel_rfl) rfl dayTells.plain (by kernel_rfl)
end Go.Proofs.YtjcoapjjnplnbaaDoor
