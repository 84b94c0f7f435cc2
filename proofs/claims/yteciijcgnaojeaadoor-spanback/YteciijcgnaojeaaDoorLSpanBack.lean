/- The law SpanBack of package timeballkeep returns true for every input and leaves its arguments as they were: A duration is read as it was written; what is read is written so. Condition: the listed variables (math/bits.deBruijn32tab, math/bits.deBruijn64tab, internal/strconv.uint64pow10, timeball/civil.lengths, unicode/utf8.acceptRanges, unicode/utf8.first) lie as their initialisers lay them; the card ties that to the program's text. -/
import Derived.Test.YteciijcgnaojeaaDoorCards
import Derived.Test.YteciijcgnaojeaaDoorTie
import Derived.Test.YteciijcgnaojeaaDoorR0
import Derived.Test.YteciijcgnaojeaaDoorK10
namespace Go.Proofs.YteciijcgnaojeaaDoor.spanBack
open Go.ChangeShapes Go.WideShapes Go.ChangeAt Go.RowKit
open Go.ChangeMaps (open_string shut_string)
set_option linter.unusedVariables false
set_option linter.unusedSimpArgs false

set_option maxHeartbeats 1000000 in
theorem walk (n : Int) (n1 : -9223372036854775808 ≤ n) (n2 : n ≤ 9223372036854775807) (s : ByteArray) (hm : s.size ≤ maxLen) (w : World) (hl : HasLen w) (hp : HasPow w) :
    Calls Tryd.prog 7 #[.int .i64 n, .string s] w fun e w' => e = .returned (.bool true) ∧ Gr w w' := by
  have c0 := clocked_any w hl hp
  have c1 := Lib.hid (fun w => rest_any n 1209601 w n1 n2 (by omega) (by omega))
  have m1 : 0 ≤ n % 1209601 := by omega
  have m2 : n % 1209601 ≤ 1209600 := by omega
  generalize n % 1209601 = k at c1 m1 m2
  have c2 := Lib.hid (fun w hp => span_yes (k - 604800) w hp (by omega) (by omega))
  have c3 : Hid (∀ w, Calls Tryd.prog 16 #[.string (S (spanL (k - 604800)))] w fun e w' => e = two (k - 604800) 0 ∧ Gr w w') := fun w => by
    refine (readSpan_ans (S (spanL (k - 604800))) w ?_).mono ?_
    · rw [S_size]
      have : (spanL (k - 604800)).length ≤ 21 := by
        unfold spanL; split
        · have := spanL0_len (-(k - 604800)) (by omega) (by omega); simp; omega
        · have := spanL0_len (k - 604800) (by omega) (by omega); omega
      unfold maxLen; omega
    · rintro e w' ⟨he, hg⟩
      rw [S_toList] at he
      exact ⟨he.1 _ ⟨⟨by omega, by omega⟩, rfl⟩, hg⟩
  have c4 := Lib.hid (fun w => readSpan_ans s w hm)
  have HP := Lib.hid hp
  clear hl hp hm n1 n2
  generalize spanL (k - 604800) = l at c2 c3
  go_enter Tryd.func7, Tryd.ntmps7
  go_wp2_with fail
  refine c0.mono ?_
  rintro e w1 ⟨rfl, hg1⟩
  clear c0
  go_wp2_with fail
  refine (c1.out w1).mono ?_
  rintro e w2 ⟨rfl, rfl⟩
  go_wp2_with fail
  refine (c2.out w1 (hg1.pow HP.out)).mono ?_
  rintro e w2 ⟨rfl, hg2⟩
  have g12 := hg1.trans hg2
  clear hg1 hg2 c2
  go_wp2_with fail
  refine (c3.out w2).mono ?_
  rintro e w3 ⟨rfl, hg3⟩
  have g13 := g12.trans hg3
  clear g12 hg3 c3
  go_wp2_with fail
  by_cases h : ∃ q, IsSpan s.toList q
  · obtain ⟨q, hq⟩ := h
    have hs : s = S (spanL q) := by rw [hq.2]; exact S_of s
    have q1 := hq.1.1
    have q2 := hq.1.2
    have HQ := Lib.hid hq
    clear hq
    subst hs
    refine (c4.out w3).mono ?_
    rintro e w4 ⟨he, hg4⟩
    obtain rfl := he.1 q HQ.out
    clear he
    have g14 := g13.trans hg4
    have c5 := span_yes q w4 (g14.pow HP.out) q1 q2
    clear g13 hg4 c4 HQ
    generalize spanL q = l at c5 ⊢
    go_wp2_with fail
    refine c5.mono ?_
    rintro e w5 ⟨rfl, hg5⟩
    go_wp2_with fail
    go_ret
    exact ⟨rfl, g14.trans hg5⟩
  · refine (c4.out w3).mono ?_
    rintro e w4 ⟨he, hg4⟩
    obtain rfl := he.2 h
    clear he h
    have g14 := g13.trans hg4
    have c5 := span_yes 0 w4 (g14.pow HP.out) (by omega) (by omega)
    clear g13 hg4 c4
    generalize spanL 0 = l at c5 ⊢
    go_wp2_with fail
    refine c5.mono ?_
    rintro e w5 ⟨rfl, hg5⟩
    go_wp2_with fail
    go_ret
    exact ⟨rfl, g14.trans hg5⟩


theorem contract (H : Type) (enc : TypeId × Value → H) (W : World) (base : Nat) (args : Array Value) (ds gs : List (DataW H)) (before : List MemPlace)
    (hval : ∀ (j : Nat) t v, Tryd.f7.params[j]? = some t → args[j]? = some v → Value.okWide Tryd.prog W .any base t v)
    (hW : DataW.Whole enc Tryd.prog Tryd.f7.params.toList Rows.spanBackSpec.vars false W args.toList ds gs before) (hL : laidMet Tryd.prog Rows.spanBackRow.laid W) (hsh : W.ShapedOpen Tryd.prog) :
    Calls Tryd.prog 7 args W fun e W' => ∃ v, e = .returned v ∧ Rows.spanBackSpec.post enc Tryd.prog Tryd.f7 false true false false W args v W' := by
  have hW' := hW
  obtain ⟨p, q, hA0, hV, rfl, hfz, hnd⟩ := hW
  have hA : DataW.TrodAll enc Tryd.prog W 0 (fun _ => true) true Tryd.f7.params.toList args.toList ds p := hA0
  rw [Tryd.params7] at hA hval
  obtain ⟨v0, vs0, d0, ds0, p0, q0, hargs, rfl, rfl, h0, r0⟩ := trodAll_cons hA
  obtain ⟨v1, vs1, d1, ds1, p1, q1, rfl, rfl, rfl, h1, r1⟩ := trodAll_cons r0
  obtain ⟨rfl, rfl, rfl⟩ := trodAll_nil r1
  obtain rfl : args = #[v0, v1] := by cases args; simp_all
  obtain ⟨rfl, rfl⟩ := trodVars_none hV
  obtain ⟨a0, rfl, rfl, rfl, w0⟩ := open_int Tryd.underlying3 (hval 0 3 v0 rfl rfl) h0
  obtain ⟨a1, rfl, rfl, rfl, w1⟩ := open_string Tryd.underlying9 (hval 1 9 v1 rfl rfl) h1
  clear hA0
  simp only [List.append_nil] at hW'
  refine (walk a0 (bounds_i64 w0).1 (bounds_i64 w0).2 a1 w1 W (lens_of hL (List.mem_of_getElem? (i := 3) rfl)) (pow_of hL (List.mem_of_getElem? (i := 2) rfl))).mono fun e W' ⟨he, hg⟩ => ?_
  subst he
  exact ⟨_, rfl, post_of_below (pa := []) (pv := []) hW' (fun _ _ _ => trodAll_cons_mk (shut_bool Tryd.underlying4 _) trodAll_mk0) (fun _ _ => (trodAll_cons_mk (shut_int Tryd.underlying3 w0) (trodAll_cons_mk (shut_string Tryd.underlying9 w1) trodAll_mk0))) (fun _ _ => rfl) rfl
    hg (ok_one (by kernel_rfl) rfl (okWide_bool_mk Tryd.underlying4 _))⟩

/-- A world for the witness: the settled one, the listed variables holding what their initialisers lay. -/
noncomputable def laidWorld (os : Os) : World := put (put (put (put (put (put (bare os) 5 (flat1 Rows.laid_math_bits_deBruijn32tab)) 6 (flat1 Rows.laid_math_bits_deBruijn64tab)) 2 (flat1 Rows.laid_internal_strconv_uint64pow10)) 0 (flat1 Rows.laid_timeball_civil_lengths)) 4 (flat2 Rows.laid_unicode_utf8_acceptRanges)) 3 (flat1 Rows.laid_unicode_utf8_first)
set_option maxRecDepth 100000 in
theorem laid_met (os : Os) : laidMet Tryd.prog Rows.spanBackRow.laid ((laidWorld os).forCall (fun _ _ => 0) ⟨#[], #[.int .i64 0, .string .empty], []⟩).memory :=
  laidMet_of_run3 8 (by kernel_rfl) (by kernel_rfl) (by kernel_rfl)
theorem reads (os : Os) {H : Type} (enc : TypeId × Value → H) : ∃ places, DataW.whole enc Tryd.prog ((laidWorld os).forCall (fun _ _ => 0) ⟨#[], #[.int .i64 0, .string .empty], []⟩).memory Tryd.f7.params.toList Rows.spanBackSpec.vars false #[Value.int .i64 0, Value.string .empty].toList 8 = some ([.lit (.int .i64 0), .lit (.string [])], [], places) :=
  ⟨[], by kernel_rfl⟩

set_option maxRecDepth 100000 in
theorem lifted (os : Os) (started : os.Started) (H : Type) (enc : TypeId × Value → H) (F : Stop.Interp) :
    ReturnsInHanded {} Tryd.checked os 7 .any ((OpenSpec.ofChange Rows.spanBackSpec).preRow enc Tryd.prog Tryd.f7 Rows.spanBackRow.domain false Rows.spanBackRow.laid) (((OpenSpec.ofChange Rows.spanBackSpec).at F).post enc Tryd.prog Tryd.f7 false true false false) := by
  obtain ⟨places, hx⟩ := reads os enc
  refine returnsInHanded_of_row (C := Tryd.checked) (s := OpenSpec.ofChange Rows.spanBackSpec) own started (by kernel_rfl) Tryd.func7
    (witness_row_at (enc := enc) (C := Tryd.checked) false (laidWorld os) #[.int .i64 0, .string .empty] rfl (by kernel_rfl) (by kernel_rfl) (by kernel_rfl)
      (OpenSpec.preRow_of_cond 8 hx (by kernel_rfl) (fun k hk => by cases hk) (by kernel_rfl) (laid_met os))) ?_
  intro W base args ds gs before hval hW _ _ _ hL hsh _
  exact contract H enc W base args ds gs before hval hW hL hsh

theorem said : Rows.SpanBackSaid :=
  OpenClaim.holds_of_cond 7 Tryd.f7 rfl rfl rfl rfl rfl rfl rfl ⟨rfl, rfl, rfl, rfl, rfl⟩ rfl rfl rfl rfl rfl (by kernel_rfl) Tryd.func7 (by kernel_rfl)
    (of_decide_eq_true (by kernel_rfl)) (by unfold Func.isWrapper; first | (rw [if_pos (by decide +kernel)]; kernel_rfl) | (rw [if_neg (by decide +kernel)]; exact ⟨rfl, rfl⟩))
    (fun os started H enc _ F => by rw [OpenClaim.pre_eq_preRow]; exact lifted os started H enc F)

/-- No parameter wants a stand-in; the program's own looks are off. -/
theorem plain (f : FuncId) (fn : Func) (hf : Tryd.pinned.checked.prog.funcNamed "timeball/timeballkeep.SpanBack" = some f) (hfn : Tryd.pinned.checked.prog.funcs[f]? = some fn) :
    false = Tryd.pinned.checked.prog.looks [] ∧ ∀ (j : Nat) t, fn.params[j]? = some t → Tryd.pinned.checked.prog.wantsStandIn t = false := by
  obtain rfl : f = 7 := Option.some.inj ((show Tryd.prog.funcNamed "timeball/timeballkeep.SpanBack" = some 7 by kernel_rfl).symm.trans hf) |>.symm
  obtain rfl : fn = Tryd.f7 := (Option.some.inj (Tryd.func7.symm.trans hfn)).symm
  refine ⟨by kernel_rfl, fun j t ht => ?_⟩
  rw [Tryd.params7] at ht
  have hm : t = 3 ∨ t = 9 := by have := Array.mem_of_getElem? ht; simp at this; omega
  rcases hm with rfl | rfl
  · exact (show Tryd.prog.wantsStandIn 3 = false by kernel_rfl)
  · exact (show Tryd.prog.wantsStandIn 9 = false by kernel_rfl)

end Go.Proofs.YteciijcgnaojeaaDoor.spanBack
namespace Go.Proofs.YteciijcgnaojeaaDoor
/-- The card. -/
theorem spanBack_holds : Rows.SpanBackCardSaid :=
  Claim7.holds_tied_plain_at .later [] _ _ _ _ spanBack.said (fun _ h => by cases h) (by kernel_rfl) (fun _ h => by cases h) spanBack_row_tie rfl ⟨rfl, rfl⟩ (by kernel_rfl) rfl spanBack.plain (by kernel_rfl)
end Go.Proofs.YteciijcgnaojeaaDoor
