/- The law RuleParses of package timeballlaw returns true for every input and where the arguments hold together at most 1048576 values and letters and leaves its arguments as they were: Parse returns what the reference returns. Condition: the listed variables (math/bits.deBruijn32tab, math/bits.deBruijn64tab, internal/strconv.uint64pow10, timeball/civil.lengths, unicode/utf8.acceptRanges, strconv.ErrRange, strconv.ErrSyntax, timeball/day.weekdays, timeball/rule.clockLetters, unicode/utf8.first) lie as their initialisers lay them; the card ties that to the program's text. -/
import Derived.Test.YteljpjhjoclkfaaGreatDoorCards
import Derived.Test.YteljpjhjoclkfaaGreatDoorTie
import Derived.Test.YteljpjhjoclkfaaGreatDoorR0
import Derived.Test.YteljpjhjoclkfaaGreatDoorP7
import Derived.Test.YteljpjhjoclkfaaGreatDoorFB
import Derived.Test.YteljpjhjoclkfaaGreatDoorRA
namespace Go.Proofs.YteljpjhjoclkfaaGreatDoor.ruleParses
open Go.ChangeShapes Go.WideShapes Go.ChangeAt Go.RowKit
open Go.ChangeMaps (open_string shut_string)
set_option linter.unusedVariables false
set_option linter.unusedSimpArgs false

set_option maxRecDepth 100000 in
set_option maxHeartbeats 4000000 in
theorem walk (s : ByteArray) (hs0 : s.size ≤ maxLen) (w : World) (ht : RpTab w) (hs : s.size ≤ 1048576) :
    Calls Tryz.prog 3 #[.string s] w fun e w' => e = .returned (.bool true) ∧ Gr w w' := by
  obtain ⟨mx, hmx⟩ := ht.1.2.2.2
  have HM := Lib.hid hmx
  have HE : Hid (∃ (nm : ByteArray) (fr tt mo k d n at' by' sv : Int) (lt : ByteArray) (c : Int), ∀ e, RuleReadA s.toList e → e = ruleInt nm fr tt mo k d n at' by' sv lt c) := by
    rcases read_one s.toList with ⟨nm, lt, fr, tt, mo, k, d, n, at', by', sv, _, _, h⟩ | h
    · exact ⟨_, _, _, _, _, _, _, _, _, _, _, _, h⟩
    · exact ⟨_, _, _, _, _, _, _, _, _, _, _, _, h⟩
  obtain ⟨nm, fr, tt, mo, k, d, n, at', by', sv, lt, c, hE⟩ := HE.out
  have KE := Lib.hid hE
  have KP := Lib.hid (fun w h => pparse s w hs h)
  have KR := Lib.hid (fun w h => rruleParse s mx w hs h)
  have KZ0 := fun w hl => pruleCheck ⟨#[]⟩ 0 0 0 0 0 0 0 0 0 ⟨#[]⟩ w hl (by decide) (by decide)
  rw [lit0, show ruleC [] [] 0 0 0 0 0 0 0 0 0 = 3 by decide] at KZ0
  have KZ := Lib.hid KZ0
  have HT := Lib.hid ht
  clear HE hE hs0 hs ht hmx KZ0
  go_enter Tryz.func3, Tryz.ntmps3
  go_wp2_with fail
  refine (KP.out w HT.out).mono ?_
  rintro e w1 ⟨h, g1⟩
  obtain rfl := KE.out e h
  clear h KP
  have R0 := Lib.hid (RuleAt.new w1 25 nm fr tt mo k d n at' by' sv lt)
  have G1 := Lib.hid (g1.trans (R0.out.2.2.2.2.2.2.2.2.2.2.2))
  clear g1
  go_wp2_with fail
  generalize w1.alloc (.cells #[.string nm, .int .i64 fr, .int .i64 tt, .int .i64 mo, .int .i64 k, .int .i64 d, .int .i64 n, .int .i64 at', .int .i64 by', .int .i64 sv, .string lt] 25) = w2 at R0 G1 ⊢
  generalize w1.heap.size = b at R0 ⊢
  refine (KR.out w2 (G1.out.holds HM.out)).mono ?_
  rintro e w3 ⟨h, g3⟩
  obtain rfl := KE.out e h
  clear h KR KE
  have R3 := R0.out.gr (g3.trans (Gr.alloc w3 (.cells #[.string nm, .int .i64 fr, .int .i64 tt, .int .i64 mo, .int .i64 k, .int .i64 d, .int .i64 n, .int .i64 at', .int .i64 by', .int .i64 sv, .string lt] 25)))
  unfold RuleAt at R3
  obtain ⟨c0, c1, c2, c3, c4, c5, c6, c7, c8, c9, c10, g5⟩ := R3
  have Q := RuleAt.new w3 25 nm fr tt mo k d n at' by' sv lt
  unfold RuleAt at Q
  obtain ⟨q0, q1, q2, q3, q4, q5, q6, q7, q8, q9, q10, gq⟩ := Q
  have G4 := Lib.hid ((G1.out.trans g3).trans gq)
  clear R0 G1 g3 gq g5
  go_wp2_with fail
  generalize w3.alloc (.cells #[.string nm, .int .i64 fr, .int .i64 tt, .int .i64 mo, .int .i64 k, .int .i64 d, .int .i64 n, .int .i64 at', .int .i64 by', .int .i64 sv, .string lt] 25) = w4 at c0 c1 c2 c3 c4 c5 c6 c7 c8 c9 c10 q0 q1 q2 q3 q4 q5 q6 q7 q8 q9 q10 G4 ⊢
  generalize w3.heap.size = b' at q0 q1 q2 q3 q4 q5 q6 q7 q8 q9 q10 ⊢
  refine (KZ.out w4 (Gr.len G4.out HT.out.2.1)).mono ?_
  rintro e w5 ⟨rfl, g5⟩
  go_wp2_with fail
  go_ret
  exact ⟨rfl, G4.out.trans g5⟩

theorem short0 {H : Type} {a0 : ByteArray} (hk : Rows.uptoSmall H [.lit (.string a0.data.toList)] = true) : a0.size ≤ 1048576 := by
  have h : Rows.uptoBulkAll (H := H) [.lit (.string a0.data.toList)] ≤ 1048576 := of_decide_eq_true hk
  simp only [Rows.uptoBulkAll, Rows.uptoBulk] at h
  have e : a0.data.toList.length = a0.size := by rw [Array.length_toList]; rfl
  omega

set_option maxRecDepth 100000 in
theorem contract (H : Type) (enc : TypeId × Value → H) (W : World) (base : Nat) (args : Array Value) (ds gs : List (DataW H)) (before : List MemPlace)
    (hval : ∀ (j : Nat) t v, Tryz.f3.params[j]? = some t → args[j]? = some v → Value.okWide Tryz.prog W .any base t v)
    (hW : DataW.Whole enc Tryz.prog Tryz.f3.params.toList Rows.ruleParsesSpec.vars false W args.toList ds gs before) (hL : laidMet Tryz.prog Rows.ruleParsesUptoRow.laid W) (hsh : W.ShapedOpen Tryz.prog) (hk : Rows.uptoSmall H (ds ++ gs) = true) :
    Calls Tryz.prog 3 args W fun e W' => ∃ v, e = .returned v ∧ Rows.ruleParsesSpec.post enc Tryz.prog Tryz.f3 false true false false W args v W' := by
  have hW' := hW
  obtain ⟨p, q, hA0, hV, rfl, hfz, hnd⟩ := hW
  have hA : DataW.TrodAll enc Tryz.prog W 0 (fun _ => true) true Tryz.f3.params.toList args.toList ds p := hA0
  rw [Tryz.params3] at hA hval
  obtain ⟨v0, vs0, d0, ds0, p0, q0, hargs, rfl, rfl, h0, r0⟩ := trodAll_cons hA
  obtain ⟨rfl, rfl, rfl⟩ := trodAll_nil r0
  obtain rfl : args = #[v0] := by cases args; simp_all
  obtain ⟨rfl, rfl⟩ := trodVars_none hV
  obtain ⟨a0, rfl, rfl, rfl, w0⟩ := open_string Tryz.underlying9 (hval 0 9 v0 rfl rfl) h0
  clear hA0
  simp only [List.append_nil] at hW' hk
  refine (walk a0 w0 W ⟨⟨⟨pow_of hL (List.mem_of_getElem? (i := 2) rfl), wk_of hL (List.mem_of_getElem? (i := 7) rfl)⟩, syn_of hL (List.mem_of_getElem? (i := 6) rfl), rng_of hL (List.mem_of_getElem? (i := 5) rfl), max_of hsh⟩, ⟨lens_of hL (List.mem_of_getElem? (i := 3) rfl), ⟨pow_of hL (List.mem_of_getElem? (i := 2) rfl), wk_of hL (List.mem_of_getElem? (i := 7) rfl)⟩, cl_of hL (List.mem_of_getElem? (i := 8) rfl)⟩⟩ (short0 hk)).mono fun e W' ⟨he, hg⟩ => ?_
  subst he
  exact ⟨_, rfl, post_of_below (pa := []) (pv := []) hW' (fun _ _ _ => trodAll_cons_mk (shut_bool Tryz.underlying4 _) trodAll_mk0) (fun _ _ => (trodAll_cons_mk (shut_string Tryz.underlying9 w0) trodAll_mk0)) (fun _ _ => rfl) rfl
    hg (ok_one (by kernel_rfl) rfl (okWide_bool_mk Tryz.underlying4 _))⟩

/-- A world for the witness: the settled one, the listed variables holding what their initialisers lay. -/
noncomputable def laidWorld (os : Os) : World := put (put (put (putErr (putErr (put (put (put (put (put (bare os) 9 (flat1 Rows.laid_math_bits_deBruijn32tab)) 10 (flat1 Rows.laid_math_bits_deBruijn64tab)) 4 (flat1 Rows.laid_internal_strconv_uint64pow10)) 2 (flat1 Rows.laid_timeball_civil_lengths)) 6 (flat2 Rows.laid_unicode_utf8_acceptRanges)) 8 (textOf Rows.laid_strconv_ErrRange)) 7 (textOf Rows.laid_strconv_ErrSyntax)) 1 (flat1 Rows.laid_timeball_day_weekdays)) 0 (flat1 Rows.laid_timeball_rule_clockLetters)) 5 (flat1 Rows.laid_unicode_utf8_first)
set_option maxRecDepth 100000 in
theorem laid_met (os : Os) : laidMet Tryz.prog Rows.ruleParsesUptoRow.laid ((laidWorld os).forCall (fun _ _ => 0) ⟨#[], #[.string .empty], []⟩).memory :=
  laidMet_of_run3 8 (by kernel_rfl) (by kernel_rfl) (by kernel_rfl)
theorem reads (os : Os) {H : Type} (enc : TypeId × Value → H) : ∃ places, DataW.whole enc Tryz.prog ((laidWorld os).forCall (fun _ _ => 0) ⟨#[], #[.string .empty], []⟩).memory Tryz.f3.params.toList Rows.ruleParsesSpec.vars false #[Value.string .empty].toList 8 = some ([.lit (.string [])], [], places) :=
  ⟨[], by kernel_rfl⟩

set_option maxRecDepth 100000 in
theorem lifted (os : Os) (started : os.Started) (H : Type) (enc : TypeId × Value → H) (F : Stop.Interp) :
    ReturnsInHanded {} Tryz.checked os 3 .any ((Rows.OpenSpec.upto Rows.ruleParsesSpec).preRow enc Tryz.prog Tryz.f3 Rows.ruleParsesUptoRow.domain false Rows.ruleParsesUptoRow.laid) (((Rows.OpenSpec.upto Rows.ruleParsesSpec).at F).post enc Tryz.prog Tryz.f3 false true false false) := by
  obtain ⟨places, hx⟩ := reads os enc
  refine returnsInHanded_of_row (C := Tryz.checked) (s := Rows.OpenSpec.upto Rows.ruleParsesSpec) own started (by kernel_rfl) Tryz.func3
    (witness_row_at (enc := enc) (C := Tryz.checked) false (laidWorld os) #[.string .empty] rfl (by kernel_rfl) (by kernel_rfl) (by kernel_rfl)
      (OpenSpec.preRow_of_cond 8 hx (by kernel_rfl) (fun k hk => by cases hk; kernel_rfl) (by kernel_rfl) (laid_met os))) ?_
  intro W base args ds gs before hval hW _ hcond _ hL hsh _
  exact contract H enc W base args ds gs before hval hW hL hsh (hcond _ rfl)

theorem said : Rows.RuleParsesUptoSaid :=
  OpenClaim.holds_of_cond 3 Tryz.f3 rfl rfl rfl rfl rfl rfl rfl ⟨rfl, rfl, rfl, rfl, rfl⟩ rfl rfl rfl rfl rfl (by kernel_rfl) Tryz.func3 (by kernel_rfl)
    (of_decide_eq_true (by kernel_rfl)) (by unfold Func.isWrapper; first | (rw [if_pos (by decide +kernel)]; kernel_rfl) | (rw [if_neg (by decide +kernel)]; exact ⟨rfl, rfl⟩))
    (fun os started H enc _ F => by rw [OpenClaim.pre_eq_preRow]; exact lifted os started H enc F)

set_option maxRecDepth 100000 in
/-- No parameter wants a stand-in; whether the program has looks of its own. -/
theorem plain (f : FuncId) (fn : Func) (hf : Tryz.pinned.checked.prog.funcNamed "timeball/timeballlaw.RuleParses" = some f) (hfn : Tryz.pinned.checked.prog.funcs[f]? = some fn) :
    true = Tryz.pinned.checked.prog.looks [] ∧ ∀ (j : Nat) t, fn.params[j]? = some t → Tryz.pinned.checked.prog.wantsStandIn t = false := by
  obtain rfl : f = 3 := Option.some.inj ((show Tryz.prog.funcNamed "timeball/timeballlaw.RuleParses" = some 3 by kernel_rfl).symm.trans hf) |>.symm
  obtain rfl : fn = Tryz.f3 := (Option.some.inj (Tryz.func3.symm.trans hfn)).symm
  refine ⟨by kernel_rfl, fun j t ht => ?_⟩
  rw [Tryz.params3] at ht
  obtain rfl : t = 9 := by simpa using Array.mem_of_getElem? ht
  exact (show Tryz.prog.wantsStandIn 9 = false by kernel_rfl)

end Go.Proofs.YteljpjhjoclkfaaGreatDoor.ruleParses
namespace Go.Proofs.YteljpjhjoclkfaaGreatDoor
/-- The card. -/
theorem ruleParsesUpto_holds : Rows.RuleParsesUptoCardSaid :=
  Claim7.holds_tied_plain_at .later [] _ _ _ _ ruleParses.said (fun _ h => by cases h) (by kernel_rfl) (fun _ h => by cases h) ruleParsesUpto_row_tie rfl ⟨rfl, rfl⟩ (by kernel_rfl) rfl ruleParses.plain (by kernel_rfl)
end Go.Proofs.YteljpjhjoclkfaaGreatDoor
