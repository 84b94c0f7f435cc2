/- The law RuleChecks of package timeballlaw returns true for every input and leaves its arguments as they were: IsName, IsAbbr and Check return what the reference returns. Condition: the listed variables (timeball/civil.lengths) lie as their initialisers lay them; the card ties that to the program's text. -/
import Derived.Test.YteljpjhjoclkfaaDoorCards
import Derived.Test.YteljpjhjoclkfaaDoorTie
import Derived.Test.YteljpjhjoclkfaaDoorR0
import Derived.Test.YteljpjhjoclkfaaDoorP2
import Derived.Test.YteljpjhjoclkfaaDoorF5
import Derived.Test.YteljpjhjoclkfaaDoorS1
namespace Go.Proofs.YteljpjhjoclkfaaDoor.ruleChecks
open Go.ChangeShapes Go.WideShapes Go.ChangeAt Go.RowKit
open Go.ChangeMaps (open_string shut_string)
set_option linter.unusedVariables false
set_option linter.unusedSimpArgs false

theorem lit97 : (ByteArray.mk #[97]).toList = [97] := ByteArray.toList_mk [97]
theorem keep11 {w W W' : World} {b : Nat} {x0 x1 x2 x3 x4 x5 x6 x7 x8 x9 x10 : Value} (h : W.cell? ⟨b, 0, none⟩ = some x0 ∧ W.cell? ⟨b, 1, none⟩ = some x1 ∧ W.cell? ⟨b, 2, none⟩ = some x2 ∧ W.cell? ⟨b, 3, none⟩ = some x3 ∧ W.cell? ⟨b, 4, none⟩ = some x4 ∧ W.cell? ⟨b, 5, none⟩ = some x5 ∧ W.cell? ⟨b, 6, none⟩ = some x6 ∧ W.cell? ⟨b, 7, none⟩ = some x7 ∧ W.cell? ⟨b, 8, none⟩ = some x8 ∧ W.cell? ⟨b, 9, none⟩ = some x9 ∧ W.cell? ⟨b, 10, none⟩ = some x10 ∧ Gr w W) (hg : Gr W W') :
    W'.cell? ⟨b, 0, none⟩ = some x0 ∧ W'.cell? ⟨b, 1, none⟩ = some x1 ∧ W'.cell? ⟨b, 2, none⟩ = some x2 ∧ W'.cell? ⟨b, 3, none⟩ = some x3 ∧ W'.cell? ⟨b, 4, none⟩ = some x4 ∧ W'.cell? ⟨b, 5, none⟩ = some x5 ∧ W'.cell? ⟨b, 6, none⟩ = some x6 ∧ W'.cell? ⟨b, 7, none⟩ = some x7 ∧ W'.cell? ⟨b, 8, none⟩ = some x8 ∧ W'.cell? ⟨b, 9, none⟩ = some x9 ∧ W'.cell? ⟨b, 10, none⟩ = some x10 ∧ Gr w W' := by
  obtain ⟨h0, h1, h2, h3, h4, h5, h6, h7, h8, h9, h10, h11⟩ := h
  exact ⟨hg.holds h0, hg.holds h1, hg.holds h2, hg.holds h3, hg.holds h4, hg.holds h5, hg.holds h6, hg.holds h7, hg.holds h8, hg.holds h9, hg.holds h10, h11.trans hg⟩

set_option maxRecDepth 100000 in
set_option maxHeartbeats 8000000 in
theorem walk (nm : ByteArray) (fr tt mo k d n at' by' sv : Int) (lt : ByteArray) (ri : RuleIn nm fr tt mo k d n at' by' sv lt) (s : ByteArray) (hs : s.size ≤ maxLen) (w : World) (hl : HasLen w) :
    Calls Tryd.prog 3 #[ruleV nm fr tt mo k d n at' by' sv lt, .string s] w fun e w' => e = .returned (.bool true) ∧ Gr w w' := by
  have KP := Lib.hid (fun w hl => pruleCheck nm fr tt mo k d n at' by' sv lt w hl ri.1 ri.2.1)
  have KR := Lib.hid (fun w => rruleCheck nm fr tt mo k d n at' by' sv lt w ri.1 ri.2.1)
  generalize ruleC nm.toList lt.toList fr tt mo k d n at' by' sv = C at KP KR
  have KZ0 := fun w hl => pruleCheck ⟨#[]⟩ 0 0 0 0 0 0 0 0 0 ⟨#[]⟩ w hl (by decide) (by decide)
  rw [lit0, show ruleC [] [] 0 0 0 0 0 0 0 0 0 = 3 by decide] at KZ0
  have KZ := Lib.hid KZ0
  have KA0 := fun w => pname_any ⟨#[97]⟩ w (by decide)
  rw [lit97, show isNameB [97] = true by decide] at KA0
  have KA := Lib.hid KA0
  have KN := Lib.hid (fun w => pname_any s w hs)
  have KM := Lib.hid (fun w => isName_any s w hs)
  have KB := Lib.hid (fun w => pabbr_any s w hs)
  have KD := Lib.hid (fun w => isAbbr_any s w hs)
  generalize isNameB s.toList = bn at KN KM
  generalize isAbbrB s.toList = ba at KB KD
  have e1 : (C == C) = true := by simp
  have e2 : (bn == bn) = true := by simp
  have e3 : (ba == ba) = true := by simp
  have HO := Lib.hid hl
  have R0 := RuleAt.new w 25 nm fr tt mo k d n at' by' sv lt
  clear KZ0 KA0 hl ri hs
  go_enter Tryd.func3, Tryd.ntmps3
  go_wp2_with fail
  generalize w.alloc (.cells #[.string nm, .int .i64 fr, .int .i64 tt, .int .i64 mo, .int .i64 k, .int .i64 d, .int .i64 n, .int .i64 at', .int .i64 by', .int .i64 sv, .string lt] 25) = w1 at R0 ⊢
  generalize w.heap.size = q at R0 ⊢
  unfold RuleAt at R0
  have HL := Lib.hid R0
  clear R0
  go_region_held3 (fun wx => wx.cell? ⟨q, 0, none⟩ = some (.string nm) ∧ wx.cell? ⟨q, 1, none⟩ = some (.int .i64 fr) ∧ wx.cell? ⟨q, 2, none⟩ = some (.int .i64 tt) ∧ wx.cell? ⟨q, 3, none⟩ = some (.int .i64 mo) ∧ wx.cell? ⟨q, 4, none⟩ = some (.int .i64 k) ∧ wx.cell? ⟨q, 5, none⟩ = some (.int .i64 d) ∧ wx.cell? ⟨q, 6, none⟩ = some (.int .i64 n) ∧ wx.cell? ⟨q, 7, none⟩ = some (.int .i64 at') ∧ wx.cell? ⟨q, 8, none⟩ = some (.int .i64 by') ∧ wx.cell? ⟨q, 9, none⟩ = some (.int .i64 sv) ∧ wx.cell? ⟨q, 10, none⟩ = some (.string lt) ∧ Gr w wx) (first | exact ⟨HL.out.1, HL.out.2.1, HL.out.2.2.1, HL.out.2.2.2.1, HL.out.2.2.2.2.1, HL.out.2.2.2.2.2.1, HL.out.2.2.2.2.2.2.1, HL.out.2.2.2.2.2.2.2.1, HL.out.2.2.2.2.2.2.2.2.1, HL.out.2.2.2.2.2.2.2.2.2.1, HL.out.2.2.2.2.2.2.2.2.2.2.1, HL.out.2.2.2.2.2.2.2.2.2.2.2.drew'⟩ | assumption) (first | (go_at_call 5; (with_reducible refine (KP.out _ ?_).mono ?_); (refine Gr.len (w := w) ?_ HO.out; exact And.right (And.right (And.right (And.right (And.right (And.right (And.right (And.right (And.right (And.right (And.right (by assumption)))))))))))); rintro e wa ⟨rfl, hga⟩; have Ha := keep11 (by assumption) hga) | (go_at_call 5; (with_reducible refine (KZ.out _ ?_).mono ?_); (refine Gr.len (w := w) ?_ HO.out; exact And.right (And.right (And.right (And.right (And.right (And.right (And.right (And.right (And.right (And.right (And.right (by assumption)))))))))))); rintro e wa ⟨rfl, hga⟩; have Ha := keep11 (by assumption) hga) | (go_at_call 6; refine (KR.out _).mono ?_; rintro e wb ⟨rfl, hgb⟩; have Hb := keep11 (by assumption) hgb) | (go_at_call 7; (with_reducible refine (KN.out _).mono ?_); rintro e wb ⟨rfl, rfl⟩) | (go_at_call 7; (with_reducible refine (KA.out _).mono ?_); rintro e wb ⟨rfl, rfl⟩) | (go_at_call 9; refine (KB.out _).mono ?_; rintro e wb ⟨rfl, rfl⟩) | (go_at_call 8; refine (KM.out _).mono ?_; rintro e wb ⟨rfl, hgb⟩; have Hb := keep11 (by assumption) hgb) | (go_at_call 10; refine (KD.out _).mono ?_; rintro e wb ⟨rfl, hgb⟩; have Hb := keep11 (by assumption) hgb))
  all_goals go_wp2
  all_goals go_ret
  all_goals exact ⟨rfl, Ha.2.2.2.2.2.2.2.2.2.2.2⟩


set_option maxRecDepth 100000 in
theorem contract (H : Type) (enc : TypeId × Value → H) (W : World) (base : Nat) (args : Array Value) (ds gs : List (DataW H)) (before : List MemPlace)
    (hval : ∀ (j : Nat) t v, Tryd.f3.params[j]? = some t → args[j]? = some v → Value.okWide Tryd.prog W .any base t v)
    (hW : DataW.Whole enc Tryd.prog Tryd.f3.params.toList Rows.ruleChecksSpec.vars false W args.toList ds gs before) (hL : laidMet Tryd.prog Rows.ruleChecksRow.laid W) (hsh : W.ShapedOpen Tryd.prog) :
    Calls Tryd.prog 3 args W fun e W' => ∃ v, e = .returned v ∧ Rows.ruleChecksSpec.post enc Tryd.prog Tryd.f3 false true false false W args v W' := by
  have hW' := hW
  obtain ⟨p, q, hA0, hV, rfl, hfz, hnd⟩ := hW
  have hA : DataW.TrodAll enc Tryd.prog W 0 (fun _ => true) true Tryd.f3.params.toList args.toList ds p := hA0
  rw [Tryd.params3] at hA hval
  obtain ⟨v0, vs0, d0, ds0, p0, q0, hargs, rfl, rfl, h0, r0⟩ := trodAll_cons hA
  obtain ⟨v1, vs1, d1, ds1, p1, q1, rfl, rfl, rfl, h1, r1⟩ := trodAll_cons r0
  obtain ⟨rfl, rfl, rfl⟩ := trodAll_nil r1
  obtain rfl : args = #[v0, v1] := by cases args; simp_all
  obtain ⟨rfl, rfl⟩ := trodVars_none hV
  obtain ⟨a0, fr0, tt0, mo0, k0, d0, n0, at0, by0, sv0, lt0, rfl, rfl, rfl, ri0⟩ := open_rule (hval 0 25 v0 rfl rfl) h0
  obtain ⟨a1, rfl, rfl, rfl, w1⟩ := open_string Tryd.underlying9 (hval 1 9 v1 rfl rfl) h1
  clear hA0
  simp only [List.append_nil] at hW'
  refine (walk a0 fr0 tt0 mo0 k0 d0 n0 at0 by0 sv0 lt0 ri0 a1 w1 W (lens_of hL (List.mem_of_getElem? (i := 0) rfl))).mono fun e W' ⟨he, hg⟩ => ?_
  subst he
  exact ⟨_, rfl, post_of_below (pa := []) (pv := []) hW' (fun _ _ _ => trodAll_cons_mk (shut_bool Tryd.underlying4 _) trodAll_mk0) (fun _ _ => (trodAll_cons_mk (shut_rule ri0) (trodAll_cons_mk (shut_string Tryd.underlying9 w1) trodAll_mk0))) (fun _ _ => rfl) rfl
    hg (ok_one (by kernel_rfl) rfl (okWide_bool_mk Tryd.underlying4 _))⟩

/-- A world for the witness: the settled one, the listed variables holding what their initialisers lay. -/
noncomputable def laidWorld (os : Os) : World := put (bare os) 2 (flat1 Rows.laid_timeball_civil_lengths)
set_option maxRecDepth 100000 in
theorem laid_met (os : Os) : laidMet Tryd.prog Rows.ruleChecksRow.laid ((laidWorld os).forCall (fun _ _ => 0) ⟨#[], #[.agg #[.string .empty, .int .i64 0, .int .i64 0, .int .i64 0, .int .i64 0, .int .i64 0, .int .i64 0, .int .i64 0, .int .i64 0, .int .i64 0, .string .empty], .string .empty], []⟩).memory :=
  laidMet_of_run3 8 (by kernel_rfl) (by kernel_rfl) (by kernel_rfl)
theorem reads (os : Os) {H : Type} (enc : TypeId × Value → H) : ∃ places, DataW.whole enc Tryd.prog ((laidWorld os).forCall (fun _ _ => 0) ⟨#[], #[.agg #[.string .empty, .int .i64 0, .int .i64 0, .int .i64 0, .int .i64 0, .int .i64 0, .int .i64 0, .int .i64 0, .int .i64 0, .int .i64 0, .string .empty], .string .empty], []⟩).memory Tryd.f3.params.toList Rows.ruleChecksSpec.vars false #[Value.agg #[.string .empty, .int .i64 0, .int .i64 0, .int .i64 0, .int .i64 0, .int .i64 0, .int .i64 0, .int .i64 0, .int .i64 0, .int .i64 0, .string .empty], Value.string .empty].toList 8 = some ([.agg [.lit (.string []), .lit (.int .i64 0), .lit (.int .i64 0), .lit (.int .i64 0), .agg [.lit (.int .i64 0), .lit (.int .i64 0), .lit (.int .i64 0)], .lit (.int .i64 0), .lit (.int .i64 0), .lit (.int .i64 0), .lit (.string [])], .lit (.string [])], [], places) :=
  ⟨[], by kernel_rfl⟩

set_option maxRecDepth 100000 in
theorem lifted (os : Os) (started : os.Started) (H : Type) (enc : TypeId × Value → H) (F : Stop.Interp) :
    ReturnsInHanded {} Tryd.checked os 3 .any ((OpenSpec.ofChange Rows.ruleChecksSpec).preRow enc Tryd.prog Tryd.f3 Rows.ruleChecksRow.domain false Rows.ruleChecksRow.laid) (((OpenSpec.ofChange Rows.ruleChecksSpec).at F).post enc Tryd.prog Tryd.f3 false true false false) := by
  obtain ⟨places, hx⟩ := reads os enc
  refine returnsInHanded_of_row (C := Tryd.checked) (s := OpenSpec.ofChange Rows.ruleChecksSpec) own started (by kernel_rfl) Tryd.func3
    (witness_row_at (enc := enc) (C := Tryd.checked) false (laidWorld os) #[.agg #[.string .empty, .int .i64 0, .int .i64 0, .int .i64 0, .int .i64 0, .int .i64 0, .int .i64 0, .int .i64 0, .int .i64 0, .int .i64 0, .string .empty], .string .empty] rfl (by kernel_rfl) (by kernel_rfl) (by kernel_rfl)
      (OpenSpec.preRow_of_cond 8 hx (by kernel_rfl) (fun k hk => by cases hk) (by kernel_rfl) (laid_met os))) ?_
  intro W base args ds gs before hval hW _ _ _ hL hsh _
  exact contract H enc W base args ds gs before hval hW hL hsh

theorem said : Rows.RuleChecksSaid :=
  OpenClaim.holds_of_cond 3 Tryd.f3 rfl rfl rfl rfl rfl rfl rfl ⟨rfl, rfl, rfl, rfl, rfl⟩ rfl rfl rfl rfl rfl (by kernel_rfl) Tryd.func3 (by kernel_rfl)
    (of_decide_eq_true (by kernel_rfl)) (by unfold Func.isWrapper; first | (rw [if_pos (by decide +kernel)]; kernel_rfl) | (rw [if_neg (by decide +kernel)]; exact ⟨rfl, rfl⟩))
    (fun os started H enc _ F => by rw [OpenClaim.pre_eq_preRow]; exact lifted os started H enc F)

set_option maxRecDepth 100000 in
/-- No parameter wants a stand-in; whether the program has looks of its own. -/
theorem plain (f : FuncId) (fn : Func) (hf : Tryd.pinned.checked.prog.funcNamed "timeball/timeballlaw.RuleChecks" = some f) (hfn : Tryd.pinned.checked.prog.funcs[f]? = some fn) :
    false = Tryd.pinned.checked.prog.looks [] ∧ ∀ (j : Nat) t, fn.params[j]? = some t → Tryd.pinned.checked.prog.wantsStandIn t = false := by
  obtain rfl : f = 3 := Option.some.inj ((show Tryd.prog.funcNamed "timeball/timeballlaw.RuleChecks" = some 3 by kernel_rfl).symm.trans hf) |>.symm
  obtain rfl : fn = Tryd.f3 := (Option.some.inj (Tryd.func3.symm.trans hfn)).symm
  refine ⟨by kernel_rfl, fun j t ht => ?_⟩
  rw [Tryd.params3] at ht
  have hm : t = 9 ∨ t = 25 := by have := Array.mem_of_getElem? ht; simp at this; first | exact this | exact this.symm | (rcases this with h | h | h <;> simp [h]) | omega
  rcases hm with rfl | rfl
  · exact (show Tryd.prog.wantsStandIn 9 = false by kernel_rfl)
  · exact (show Tryd.prog.wantsStandIn 25 = false by kernel_rfl)

end Go.Proofs.YteljpjhjoclkfaaDoor.ruleChecks
namespace Go.Proofs.YteljpjhjoclkfaaDoor
/-- The card. -/
theorem ruleChecks_holds : Rows.RuleChecksCardSaid :=
  Claim7.holds_tied_plain_at .later [] _ _ _ _ ruleChecks.said (fun _ h => by cases h) (by kernel_rfl) (fun _ h => by cases h) ruleChecks_row_tie rfl ⟨rfl, rfl⟩ (by kernel_rfl) rfl ruleChecks.plain (by kernel_rfl)
end Go.Proofs.YteljpjhjoclkfaaDoor
