/- The law RuleTells of package timeballlaw returns true for every input and leaves its arguments as they were: Text returns what the reference returns. Condition: the listed variables (math/bits.deBruijn32tab, math/bits.deBruijn64tab, internal/strconv.uint64pow10, timeball/civil.lengths, timeball/day.weekdays, timeball/rule.clockLetters) lie as their initialisers lay them; the card ties that to the program's text. -/
import Derived.Test.YteljpjhjoclkfaaDoorCards
import Derived.Test.YteljpjhjoclkfaaDoorTie
import Derived.Test.YteljpjhjoclkfaaDoorR0
import Derived.Test.YteljpjhjoclkfaaDoorP3
import Derived.Test.YteljpjhjoclkfaaDoorF5
import Derived.Test.YteljpjhjoclkfaaDoorS1
import Derived.Test.YteljpjhjoclkfaaDoorR2
namespace Go.Proofs.YteljpjhjoclkfaaDoor.ruleTells
open Go.ChangeShapes Go.WideShapes Go.ChangeAt Go.RowKit
open Go.ChangeMaps (open_string shut_string)
set_option linter.unusedVariables false
set_option linter.unusedSimpArgs false

theorem ruleTextA_two (nm lt : List UInt8) (fr tt mo k d n at' by' sv : Int) : ∃ (a : List UInt8) (b : Int), ruleTextA nm lt fr tt mo k d n at' by' sv = strInt (S a) b := by
  unfold ruleTextA
  split
  · exact ⟨_, _, rfl⟩
  · exact ⟨_, _, rfl⟩

set_option maxRecDepth 100000 in
set_option maxHeartbeats 8000000 in
theorem walk (nm : ByteArray) (fr tt mo k d n at' by' sv : Int) (lt : ByteArray) (ri : RuleIn nm fr tt mo k d n at' by' sv lt) (w : World) (ht : RtTab w) :
    Calls Tryd.prog 4 #[ruleV nm fr tt mo k d n at' by' sv lt] w fun e w' => e = .returned (.bool true) ∧ Gr w w' := by
  obtain ⟨a, c, e⟩ := ruleTextA_two nm.toList lt.toList fr tt mo k d n at' by' sv
  have KP0 := fun w h => pruleText nm fr tt mo k d n at' by' sv lt w h ri.1 ri.2.1
  have KR0 := fun w => rruleText nm fr tt mo k d n at' by' sv lt w ri.1 ri.2.1
  rw [e] at KP0 KR0
  have KP := Lib.hid KP0
  have KR := Lib.hid KR0
  have KZ0 := fun w hl => pruleCheck ⟨#[]⟩ 0 0 0 0 0 0 0 0 0 ⟨#[]⟩ w hl (by decide) (by decide)
  rw [lit0, show ruleC [] [] 0 0 0 0 0 0 0 0 0 = 3 by decide] at KZ0
  have KZ := Lib.hid KZ0
  have HO := Lib.hid ht
  have R0 := Lib.hid (RuleAt.new w 25 nm fr tt mo k d n at' by' sv lt)
  clear KZ0 KP0 KR0 e ht ri
  go_enter Tryd.func4, Tryd.ntmps4
  go_wp2_with fail
  generalize w.alloc (.cells #[.string nm, .int .i64 fr, .int .i64 tt, .int .i64 mo, .int .i64 k, .int .i64 d, .int .i64 n, .int .i64 at', .int .i64 by', .int .i64 sv, .string lt] 25) = w0 at R0 ⊢
  generalize w.heap.size = b at R0 ⊢
  refine (KP.out w0 (Gr.rtT (R0.out.2.2.2.2.2.2.2.2.2.2.2) HO.out)).mono ?_
  rintro e w1 ⟨rfl, g1⟩
  have R1 := Lib.hid (R0.out.gr g1)
  clear R0 g1 KP
  have c0 := R1.out.1
  have c1 := R1.out.2.1
  have c2 := R1.out.2.2.1
  have c3 := R1.out.2.2.2.1
  have c4 := R1.out.2.2.2.2.1
  have c5 := R1.out.2.2.2.2.2.1
  have c6 := R1.out.2.2.2.2.2.2.1
  have c7 := R1.out.2.2.2.2.2.2.2.1
  have c8 := R1.out.2.2.2.2.2.2.2.2.1
  have c9 := R1.out.2.2.2.2.2.2.2.2.2.1
  have c10 := R1.out.2.2.2.2.2.2.2.2.2.2.1
  go_wp2_with fail
  refine (KR.out w1).mono ?_
  rintro e w2 ⟨rfl, g2⟩
  have G2 := Lib.hid ((R1.out.2.2.2.2.2.2.2.2.2.2.2).trans g2)
  clear R1 g2 KR c0 c1 c2 c3 c4 c5 c6 c7 c8 c9 c10
  go_wp2_with fail
  refine (KZ.out w2 (Gr.len G2.out HO.out.1)).mono ?_
  rintro e w3 ⟨rfl, g3⟩
  go_wp2_with fail
  go_ret
  exact ⟨rfl, G2.out.trans g3⟩


set_option maxRecDepth 100000 in
theorem contract (H : Type) (enc : TypeId × Value → H) (W : World) (base : Nat) (args : Array Value) (ds gs : List (DataW H)) (before : List MemPlace)
    (hval : ∀ (j : Nat) t v, Tryd.f4.params[j]? = some t → args[j]? = some v → Value.okWide Tryd.prog W .any base t v)
    (hW : DataW.Whole enc Tryd.prog Tryd.f4.params.toList Rows.ruleTellsSpec.vars false W args.toList ds gs before) (hL : laidMet Tryd.prog Rows.ruleTellsRow.laid W) (hsh : W.ShapedOpen Tryd.prog) :
    Calls Tryd.prog 4 args W fun e W' => ∃ v, e = .returned v ∧ Rows.ruleTellsSpec.post enc Tryd.prog Tryd.f4 false true false false W args v W' := by
  have hW' := hW
  obtain ⟨p, q, hA0, hV, rfl, hfz, hnd⟩ := hW
  have hA : DataW.TrodAll enc Tryd.prog W 0 (fun _ => true) true Tryd.f4.params.toList args.toList ds p := hA0
  rw [Tryd.params4] at hA hval
  obtain ⟨v0, vs0, d0, ds0, p0, q0, hargs, rfl, rfl, h0, r0⟩ := trodAll_cons hA
  obtain ⟨rfl, rfl, rfl⟩ := trodAll_nil r0
  obtain rfl : args = #[v0] := by cases args; simp_all
  obtain ⟨rfl, rfl⟩ := trodVars_none hV
  obtain ⟨a0, fr0, tt0, mo0, k0, d0, n0, at0, by0, sv0, lt0, rfl, rfl, rfl, ri0⟩ := open_rule (hval 0 25 v0 rfl rfl) h0
  clear hA0
  simp only [List.append_nil] at hW'
  refine (walk a0 fr0 tt0 mo0 k0 d0 n0 at0 by0 sv0 lt0 ri0 W ⟨lens_of hL (List.mem_of_getElem? (i := 3) rfl), ⟨pow_of hL (List.mem_of_getElem? (i := 2) rfl), wk_of hL (List.mem_of_getElem? (i := 4) rfl)⟩, cl_of hL (List.mem_of_getElem? (i := 5) rfl)⟩).mono fun e W' ⟨he, hg⟩ => ?_
  subst he
  exact ⟨_, rfl, post_of_below (pa := []) (pv := []) hW' (fun _ _ _ => trodAll_cons_mk (shut_bool Tryd.underlying4 _) trodAll_mk0) (fun _ _ => (trodAll_cons_mk (shut_rule ri0) trodAll_mk0)) (fun _ _ => rfl) rfl
    hg (ok_one (by kernel_rfl) rfl (okWide_bool_mk Tryd.underlying4 _))⟩

/-- A world for the witness: the settled one, the listed variables holding what their initialisers lay. -/
noncomputable def laidWorld (os : Os) : World := put (put (put (put (put (put (bare os) 5 (flat1 Rows.laid_math_bits_deBruijn32tab)) 6 (flat1 Rows.laid_math_bits_deBruijn64tab)) 3 (flat1 Rows.laid_internal_strconv_uint64pow10)) 2 (flat1 Rows.laid_timeball_civil_lengths)) 1 (flat1 Rows.laid_timeball_day_weekdays)) 0 (flat1 Rows.laid_timeball_rule_clockLetters)
set_option maxRecDepth 100000 in
theorem laid_met (os : Os) : laidMet Tryd.prog Rows.ruleTellsRow.laid ((laidWorld os).forCall (fun _ _ => 0) ⟨#[], #[.agg #[.string .empty, .int .i64 0, .int .i64 0, .int .i64 0, .int .i64 0, .int .i64 0, .int .i64 0, .int .i64 0, .int .i64 0, .int .i64 0, .string .empty]], []⟩).memory :=
  laidMet_of_run3 8 (by kernel_rfl) (by kernel_rfl) (by kernel_rfl)
theorem reads (os : Os) {H : Type} (enc : TypeId × Value → H) : ∃ places, DataW.whole enc Tryd.prog ((laidWorld os).forCall (fun _ _ => 0) ⟨#[], #[.agg #[.string .empty, .int .i64 0, .int .i64 0, .int .i64 0, .int .i64 0, .int .i64 0, .int .i64 0, .int .i64 0, .int .i64 0, .int .i64 0, .string .empty]], []⟩).memory Tryd.f4.params.toList Rows.ruleTellsSpec.vars false #[Value.agg #[.string .empty, .int .i64 0, .int .i64 0, .int .i64 0, .int .i64 0, .int .i64 0, .int .i64 0, .int .i64 0, .int .i64 0, .int .i64 0, .string .empty]].toList 8 = some ([.agg [.lit (.string []), .lit (.int .i64 0), .lit (.int .i64 0), .lit (.int .i64 0), .agg [.lit (.int .i64 0), .lit (.int .i64 0), .lit (.int .i64 0)], .lit (.int .i64 0), .lit (.int .i64 0), .lit (.int .i64 0), .lit (.string [])]], [], places) :=
  ⟨[], by kernel_rfl⟩

set_option maxRecDepth 100000 in
theorem lifted (os : Os) (started : os.Started) (H : Type) (enc : TypeId × Value → H) (F : Stop.Interp) :
    ReturnsInHanded {} Tryd.checked os 4 .any ((OpenSpec.ofChange Rows.ruleTellsSpec).preRow enc Tryd.prog Tryd.f4 Rows.ruleTellsRow.domain false Rows.ruleTellsRow.laid) (((OpenSpec.ofChange Rows.ruleTellsSpec).at F).post enc Tryd.prog Tryd.f4 false true false false) := by
  obtain ⟨places, hx⟩ := reads os enc
  refine returnsInHanded_of_row (C := Tryd.checked) (s := OpenSpec.ofChange Rows.ruleTellsSpec) own started (by kernel_rfl) Tryd.func4
    (witness_row_at (enc := enc) (C := Tryd.checked) false (laidWorld os) #[.agg #[.string .empty, .int .i64 0, .int .i64 0, .int .i64 0, .int .i64 0, .int .i64 0, .int .i64 0, .int .i64 0, .int .i64 0, .int .i64 0, .string .empty]] rfl (by kernel_rfl) (by kernel_rfl) (by kernel_rfl)
      (OpenSpec.preRow_of_cond 8 hx (by kernel_rfl) (fun k hk => by cases hk) (by kernel_rfl) (laid_met os))) ?_
  intro W base args ds gs before hval hW _ _ _ hL hsh _
  exact contract H enc W base args ds gs before hval hW hL hsh

theorem said : Rows.RuleTellsSaid :=
  OpenClaim.holds_of_cond 4 Tryd.f4 rfl rfl rfl rfl rfl rfl rfl ⟨rfl, rfl, rfl, rfl, rfl⟩ rfl rfl rfl rfl rfl (by kernel_rfl) Tryd.func4 (by kernel_rfl)
    (of_decide_eq_true (by kernel_rfl)) (by unfold Func.isWrapper; first | (rw [if_pos (by decide +kernel)]; kernel_rfl) | (rw [if_neg (by decide +kernel)]; exact ⟨rfl, rfl⟩))
    (fun os started H enc _ F => by rw [OpenClaim.pre_eq_preRow]; exact lifted os started H enc F)

set_option maxRecDepth 100000 in
/-- No parameter wants a stand-in; whether the program has looks of its own. -/
theorem plain (f : FuncId) (fn : Func) (hf : Tryd.pinned.checked.prog.funcNamed "timeball/timeballlaw.RuleTells" = some f) (hfn : Tryd.pinned.checked.prog.funcs[f]? = some fn) :
    false = Tryd.pinned.checked.prog.looks [] ∧ ∀ (j : Nat) t, fn.params[j]? = some t → Tryd.pinned.checked.prog.wantsStandIn t = false := by
  obtain rfl : f = 4 := Option.some.inj ((show Tryd.prog.funcNamed "timeball/timeballlaw.RuleTells" = some 4 by kernel_rfl).symm.trans hf) |>.symm
  obtain rfl : fn = Tryd.f4 := (Option.some.inj (Tryd.func4.symm.trans hfn)).symm
  refine ⟨by kernel_rfl, fun j t ht => ?_⟩
  rw [Tryd.params4] at ht
  obtain rfl : t = 25 := by simpa using Array.mem_of_getElem? ht
  exact (show Tryd.prog.wantsStandIn 25 = false by kernel_rfl)

end Go.Proofs.YteljpjhjoclkfaaDoor.ruleTells
namespace Go.Proofs.YteljpjhjoclkfaaDoor
/-- The card. -/
theorem ruleTells_holds : Rows.RuleTellsCardSaid :=
  Claim7.holds_tied_plain_at .later [] _ _ _ _ ruleTells.said (fun _ h => by cases h) (by kernel_rfl) (fun _ h => by cases h) ruleTells_row_tie rfl ⟨rfl, rfl⟩ (by kernel_rfl) rfl ruleTells.plain (by kernel_rfl)
end Go.Proofs.YteljpjhjoclkfaaDoor
