/- The law StampBack of package timeballkeep returns true for every input and leaves its arguments as they were: A time is read as it was written; what is read is written so. Condition: the listed variables (math/bits.deBruijn32tab, math/bits.deBruijn64tab, internal/strconv.uint64pow10, timeball/civil.lengths) lie as their initialisers lay them; the card ties that to the program's text. -/
import Derived.Test.YteciijcgnaojeaaDoorCards
import Derived.Test.YteciijcgnaojeaaDoorTie
import Derived.Test.YteciijcgnaojeaaDoorR0
import Derived.Test.YteciijcgnaojeaaDoorK10
import Derived.Test.YteciijcgnaojeaaDoorK8
import Derived.Test.YteciijcgnaojeaaDoorT4
namespace Go.Proofs.YteciijcgnaojeaaDoor.stampBack
open Go.ChangeShapes Go.WideShapes Go.ChangeAt Go.RowKit
open Go.ChangeMaps (open_string shut_string)
set_option linter.unusedVariables false
set_option linter.unusedSimpArgs false

set_option maxHeartbeats 1000000 in
theorem walk (n : Int) (n1 : -9223372036854775808 ≤ n) (n2 : n ≤ 9223372036854775807) (s : ByteArray) (hm : s.size ≤ maxLen) (w : World) (hl : HasLen w) (hp : HasPow w) :
    Calls Tryd.prog 9 #[.int .i64 n, .string s] w fun e w' => e = .returned (.bool true) ∧ Gr w w' := by
  have c0 := clocked_any w hl hp
  have c1 := Lib.hid (fun w => timeOf_any n w n1 n2)
  have tb := timeV_bd n
  generalize timeV n = t at c1 tb
  obtain ⟨t1, t2⟩ := tb
  obtain ⟨y, m, d, hv, hd⟩ := Cal.has_date (n := t / 86400) (by omega) (by omega)
  have c2 := Lib.hid (fun w hl hp => stamp_yes t y m d (t % 86400) w hl hp hv (by omega) (by omega) (by omega))
  have so := stamped_of y m d (t % 86400) hv (by omega) (by omega)
  have sv : stampV (stampL y m d (t % 86400)) = t := by rw [so.2]; omega
  have c3 : Hid (∀ w, HasLen w → Calls Tryd.prog 20 #[.string (S (stampL y m d (t % 86400)))] w fun e w' => e = two t 0 ∧ Gr w w') := fun w hl => by
    have := readStamp_any (S (stampL y m d (t % 86400))) w hl (by rw [S_size]; have := so.1.1; unfold maxLen; omega)
    rw [S_toList, ← stampAns_yes so.1, sv] at this
    exact this
  have c4 := Lib.hid (fun w hl => readStamp_any s w hl hm)
  have HP := Lib.hid hp
  have HL := Lib.hid hl
  clear hl hp hm n1 n2 so sv hd hv
  generalize stampL y m d (t % 86400) = l at c2 c3
  go_enter Tryd.func9, Tryd.ntmps9
  go_wp2_with fail
  refine c0.mono ?_
  rintro e w1 ⟨rfl, hg1⟩
  clear c0
  go_wp2_with fail
  refine (c1.out w1).mono ?_
  rintro e w2 ⟨rfl, hg2⟩
  have g12 := hg1.trans hg2
  clear hg1 hg2 c1
  go_wp2_with fail
  refine (c2.out w2 (g12.len HL.out) (g12.pow HP.out)).mono ?_
  rintro e w3 ⟨rfl, hg3⟩
  have g13 := g12.trans hg3
  clear g12 hg3 c2
  go_wp2_with fail
  refine (c3.out w3 (g13.len HL.out)).mono ?_
  rintro e w4 ⟨rfl, hg4⟩
  have g14 := g13.trans hg4
  clear g13 hg4 c3
  go_wp2_with fail
  by_cases h : Stamped s.toList
  · obtain ⟨a, b, c, r, hv, r1, r2, es, ev⟩ := stamped_to s.toList h
    have c5 := c4.out w4 (g14.len HL.out)
    rw [← stampAns_yes h, ev] at c5
    have hs : s = S (stampL a b c r) := (S_of s).trans (by rw [es])
    have c6 := Lib.hid (fun w hl hp => stamp_yes (86400 * Cal.days a b c + r) a b c r w hl hp hv r1 r2 rfl)
    have db := Cal.days_bd hv
    obtain ⟨db1, db2⟩ := db
    clear es ev h c4 hv
    subst hs
    generalize stampL a b c r = l at c5 c6 ⊢
    refine c5.mono ?_
    rintro e w5 ⟨rfl, hg5⟩
    have g15 := g14.trans hg5
    clear g14 hg5 c5
    generalize Cal.days a b c = q at db1 db2 c6 ⊢
    go_wp2_with fail
    refine (c6.out w5 (g15.len HL.out) (g15.pow HP.out)).mono ?_
    rintro e w6 ⟨rfl, hg6⟩
    go_wp2_with fail
    go_ret
    exact ⟨rfl, g15.trans hg6⟩
  · have c5 := c4.out w4 (g14.len HL.out)
    rw [← stampAns_no h] at c5
    clear h c4
    refine c5.mono ?_
    rintro e w5 ⟨rfl, hg5⟩
    have g15 := g14.trans hg5
    clear g14 hg5 c5
    have c6 := stamp_yes 0 1970 1 1 0 w5 (g15.len HL.out) (g15.pow HP.out) (by unfold Cal.Valid; decide) (by decide) (by decide) (by decide)
    generalize stampL 1970 1 1 0 = l at c6 ⊢
    go_wp2_with fail
    refine c6.mono ?_
    rintro e w6 ⟨rfl, hg6⟩
    go_wp2_with fail
    go_ret
    exact ⟨rfl, g15.trans hg6⟩


theorem contract (H : Type) (enc : TypeId × Value → H) (W : World) (base : Nat) (args : Array Value) (ds gs : List (DataW H)) (before : List MemPlace)
    (hval : ∀ (j : Nat) t v, Tryd.f9.params[j]? = some t → args[j]? = some v → Value.okWide Tryd.prog W .any base t v)
    (hW : DataW.Whole enc Tryd.prog Tryd.f9.params.toList Rows.stampBackSpec.vars false W args.toList ds gs before) (hL : laidMet Tryd.prog Rows.stampBackRow.laid W) (hsh : W.ShapedOpen Tryd.prog) :
    Calls Tryd.prog 9 args W fun e W' => ∃ v, e = .returned v ∧ Rows.stampBackSpec.post enc Tryd.prog Tryd.f9 false true false false W args v W' := by
  have hW' := hW
  obtain ⟨p, q, hA0, hV, rfl, hfz, hnd⟩ := hW
  have hA : DataW.TrodAll enc Tryd.prog W 0 (fun _ => true) true Tryd.f9.params.toList args.toList ds p := hA0
  rw [Tryd.params9] at hA hval
  obtain ⟨v0, vs0, d0, ds0, p0, q0, hargs, rfl, rfl, h0, r0⟩ := trodAll_cons hA
  obtain ⟨v1, vs1, d1, ds1, p1, q1, rfl, rfl, rfl, h1, r1⟩ := trodAll_cons r0
  obtain ⟨rfl, rfl, rfl⟩ := trodAll_nil r1
  obtain rfl : args = #[v0, v1] := by cases args; simp_all
  obtain ⟨rfl, rfl⟩ := trodVars_none hV
  obtain ⟨a0, rfl, rfl, rfl, w0⟩ := open_int Tryd.underlying3 (hval 0 3 v0 rfl rfl) h0
  obtain ⟨a1, rfl, rfl, rfl, w1⟩ := open_string Tryd.underlying9 (hval 1 9 v1 rfl rfl) h1
  clear hA0
  simp only [List.append_nil] at hW'
  refine (walk a0 (bounds_i64 w0).1 (bounds_i64 w0).2 a1 w1 W (lens_of hL (List.mem_of_getElem? (i := 3) rfl)) (pow_of hL (List.mem_of_getElem? (i := 2) rfl))).mono fun e W' ⟨he, hg⟩ => ?_
  subst he
  exact ⟨_, rfl, post_of_below (pa := []) (pv := []) hW' (fun _ _ _ => trodAll_cons_mk (shut_bool Tryd.underlying4 _) trodAll_mk0) (fun _ _ => (trodAll_cons_mk (shut_int Tryd.underlying3 w0) (trodAll_cons_mk (shut_string Tryd.underlying9 w1) trodAll_mk0))) (fun _ _ => rfl) rfl
    hg (ok_one (by kernel_rfl) rfl (okWide_bool_mk Tryd.underlying4 _))⟩

/-- A world for the witness: the settled one, the listed variables holding what their initialisers lay. -/
noncomputable def laidWorld (os : Os) : World := put (put (put (put (bare os) 5 (flat1 Rows.laid_math_bits_deBruijn32tab)) 6 (flat1 Rows.laid_math_bits_deBruijn64tab)) 2 (flat1 Rows.laid_internal_strconv_uint64pow10)) 0 (flat1 Rows.laid_timeball_civil_lengths)
set_option maxRecDepth 100000 in
theorem laid_met (os : Os) : laidMet Tryd.prog Rows.stampBackRow.laid ((laidWorld os).forCall (fun _ _ => 0) ⟨#[], #[.int .i64 0, .string .empty], []⟩).memory :=
  laidMet_of_run3 8 (by kernel_rfl) (by kernel_rfl) (by kernel_rfl)
theorem reads (os : Os) {H : Type} (enc : TypeId × Value → H) : ∃ places, DataW.whole enc Tryd.prog ((laidWorld os).forCall (fun _ _ => 0) ⟨#[], #[.int .i64 0, .string .empty], []⟩).memory Tryd.f9.params.toList Rows.stampBackSpec.vars false #[Value.int .i64 0, Value.string .empty].toList 8 = some ([.lit (.int .i64 0), .lit (.string [])], [], places) :=
  ⟨[], by kernel_rfl⟩

set_option maxRecDepth 100000 in
theorem lifted (os : Os) (started : os.Started) (H : Type) (enc : TypeId × Value → H) (F : Stop.Interp) :
    ReturnsInHanded {} Tryd.checked os 9 .any ((OpenSpec.ofChange Rows.stampBackSpec).preRow enc Tryd.prog Tryd.f9 Rows.stampBackRow.domain false Rows.stampBackRow.laid) (((OpenSpec.ofChange Rows.stampBackSpec).at F).post enc Tryd.prog Tryd.f9 false true false false) := by
  obtain ⟨places, hx⟩ := reads os enc
  refine returnsInHanded_of_row (C := Tryd.checked) (s := OpenSpec.ofChange Rows.stampBackSpec) own started (by kernel_rfl) Tryd.func9
    (witness_row_at (enc := enc) (C := Tryd.checked) false (laidWorld os) #[.int .i64 0, .string .empty] rfl (by kernel_rfl) (by kernel_rfl) (by kernel_rfl)
      (OpenSpec.preRow_of_cond 8 hx (by kernel_rfl) (fun k hk => by cases hk) (by kernel_rfl) (laid_met os))) ?_
  intro W base args ds gs before hval hW _ _ _ hL hsh _
  exact contract H enc W base args ds gs before hval hW hL hsh

theorem said : Rows.StampBackSaid :=
  OpenClaim.holds_of_cond 9 Tryd.f9 rfl rfl rfl rfl rfl rfl rfl ⟨rfl, rfl, rfl, rfl, rfl⟩ rfl rfl rfl rfl rfl (by kernel_rfl) Tryd.func9 (by kernel_rfl)
    (of_decide_eq_true (by kernel_rfl)) (by unfold Func.isWrapper; first | (rw [if_pos (by decide +kernel)]; kernel_rfl) | (rw [if_neg (by decide +kernel)]; exact ⟨rfl, rfl⟩))
    (fun os started H enc _ F => by rw [OpenClaim.pre_eq_preRow]; exact lifted os started H enc F)

/-- No parameter wants a stand-in; the program's own looks are off. -/
theorem plain (f : FuncId) (fn : Func) (hf : Tryd.pinned.checked.prog.funcNamed "timeball/timeballkeep.StampBack" = some f) (hfn : Tryd.pinned.checked.prog.funcs[f]? = some fn) :
    false = Tryd.pinned.checked.prog.looks [] ∧ ∀ (j : Nat) t, fn.params[j]? = some t → Tryd.pinned.checked.prog.wantsStandIn t = false := by
  obtain rfl : f = 9 := Option.some.inj ((show Tryd.prog.funcNamed "timeball/timeballkeep.StampBack" = some 9 by kernel_rfl).symm.trans hf) |>.symm
  obtain rfl : fn = Tryd.f9 := (Option.some.inj (Tryd.func9.symm.trans hfn)).symm
  refine ⟨by kernel_rfl, fun j t ht => ?_⟩
  rw [Tryd.params9] at ht
  have hm : t = 3 ∨ t = 9 := by have := Array.mem_of_getElem? ht; simp at this; omega
  rcases hm with rfl | rfl
  · exact (show Tryd.prog.wantsStandIn 3 = false by kernel_rfl)
  · exact (show Tryd.prog.wantsStandIn 9 = false by kernel_rfl)

end Go.Proofs.YteciijcgnaojeaaDoor.stampBack
namespace Go.Proofs.YteciijcgnaojeaaDoor
/-- The card. -/
theorem stampBack_holds : Rows.StampBackCardSaid :=
  Claim7.holds_tied_plain_at .later [] _ _ _ _ stampBack.said (fun _ h => by cases h) (by kernel_rfl) (fun _ h => by cases h) stampBack_row_tie rfl ⟨rfl, rfl⟩ (by kernel_rfl) rfl stampBack.plain (by kernel_rfl)
end Go.Proofs.YteciijcgnaojeaaDoor
