/- The law DayMonths of package timeballkeep returns true for every input and leaves its arguments as they were: One week after the last weekday of a month lies the first one of the next month. Condition: the listed variables (timeball/civil.lengths) lie as their initialisers lay them; the card ties that to the program's text. -/
import Derived.Test.YtjcoapjjnplnbaaDoorCards
import Derived.Test.YtjcoapjjnplnbaaDoorTie
import Derived.Test.YtjcoapjjnplnbaaDoorR0
import Derived.Test.YtjcoapjjnplnbaaDoorE2
import Derived.Test.YtjcoapjjnplnbaaDoorS0
namespace Go.Proofs.YtjcoapjjnplnbaaDoor.dayMonths
open Go.ChangeShapes Go.WideShapes Go.ChangeAt Go.RowKit
open Go.ChangeMaps (open_string shut_string)
set_option linter.unusedVariables false
set_option linter.unusedSimpArgs false

set_option maxHeartbeats 2000000 in
theorem walk (y : Int) (y1 : -9223372036854775808 ≤ y) (y2 : y ≤ 9223372036854775807) (m : Int) (m1 : -9223372036854775808 ≤ m) (m2 : m ≤ 9223372036854775807) (v : Int) (v1 : -9223372036854775808 ≤ v) (v2 : v ≤ 9223372036854775807)
    (w : World) (ho : OfTab w) :
    Calls Tryd.prog 11 #[.int .i64 y, .int .i64 m, .int .i64 v] w fun e w' => e = .returned (.bool true) ∧ Gr w w' := by
  have c0 := mondays_any w ho
  have c1 := fun w => date_any y m 0 w y1 y2 m1 m2 (by omega) (by omega)
  have c2 := Lib.hid (fun w => rest_any v 7 w v1 v2 (by omega) (by omega))
  have r1 : 0 ≤ v % 7 := by omega
  have r2 : v % 7 ≤ 6 := by omega
  generalize v % 7 = d at c2 r1 r2
  have hY1 : 1600 ≤ y % 800 + 1600 := by omega
  have hY2 : y % 800 + 1600 ≤ 2399 := by omega
  have hM1 : 1 ≤ m % 12 + 1 := by omega
  have hM2 : m % 12 + 1 ≤ 12 := by omega
  generalize y % 800 + 1600 = Y at c1 hY1 hY2
  generalize m % 12 + 1 = M at c1 hM1 hM2
  generalize 0 % Cal.ml Y M + 1 = z at c1
  have C1 := Lib.hid c1
  have hb := Cal.ml_bd Y hM1 hM2
  have fv := first_valid hY1 hY2 hM1 hM2
  have fb := Cal.days_bd fv
  have HO := Lib.hid ho
  clear c1 ho
  by_cases last : Y = 2399 ∧ M = 12
  · obtain ⟨x1, x2⟩ := last
    subst x1 x2
    clear hb fv fb
    go_enter Tryd.func11, Tryd.ntmps11
    go_wp2_with fail
    refine c0.mono ?_
    rintro e w1 ⟨rfl, hg1⟩
    clear c0
    go_wp2_with fail
    refine (C1.out w1).mono ?_
    rintro e w2 ⟨rfl, hg2⟩
    have g2 := hg1.trans hg2
    clear hg1 hg2 C1
    go_wp2_with fail
    refine (c2.out w2).mono ?_
    rintro e w3 ⟨rfl, rfl⟩
    clear c2
    go_wp2_with fail
    go_ret
    exact ⟨rfl, g2⟩
  · have nx := after_bd hY1 hY2 hM1 hM2 last
    have t2 : dayT Y M 2 d 0 = nd (Cal.days Y M 1 + Cal.ml Y M - 7) d := by simp only [dayT]; simp only [Int.reduceEq, if_false, if_true]
    have n2' := nd_bd (Cal.days Y M 1 + Cal.ml Y M - 7) d
    have K2 := fun w h => dayOf Y M 2 d 0 w h
    rw [dayA_yes (by unfold DayOk; omega) hY1 hY2 hM1 hM2 (by omega) (by omega) (by omega), t2] at K2
    have k2 := Lib.hid K2
    clear K2 t2
    have HB : Hid (∀ Y' M', 1600 ≤ Y' → Y' ≤ 2399 → 1 ≤ M' → M' ≤ 12 → Cal.days Y' M' 1 = Cal.days Y M 1 + Cal.ml Y M → ∀ w, OfTab w → Calls Tryd.prog 12 #[.int .i64 Y', .int .i64 M', dayV 3 d 1] w fun e w' => e = two (nd (Cal.days Y M 1 + Cal.ml Y M - 7) d + 7) 0 ∧ Gr w w') := by
      intro Y' M' a1 a2 a3 a4 hd w h
      have mb := Cal.ml_bd Y' a3 a4
      have t : dayT Y' M' 3 d 1 = nd (Cal.days Y M 1 + Cal.ml Y M - 7) d + 7 := by simp only [dayT]; simp only [Int.reduceEq, if_false, if_true]; rw [hd]; unfold nd; omega
      have K := dayOf Y' M' 3 d 1 w h
      rw [dayA_yes (by unfold DayOk; omega) a1 a2 a3 a4 (by omega) (by omega) (by omega), t] at K
      exact K
    have dM : Hid (M < 12 → Cal.days Y (M + 1) 1 = Cal.days Y M 1 + Cal.ml Y M) := fun h => by
      unfold Cal.days; have := Cal.cum_succ Y hM1 (by omega); omega
    have dY : Hid (M = 12 → Cal.days (Y + 1) 1 1 = Cal.days Y M 1 + Cal.ml Y M) := fun h => by
      subst h
      unfold Cal.days; have := Cal.cum_succ Y (m := 12) (by omega) (by omega); have c13 := Cal.cum_13 Y; have c1 := Cal.cum_one (Y + 1); have ysu := Cal.ys_succ Y
      simp only [Int.reduceAdd] at this
      omega
    have A1 : -135140 ≤ nd (Cal.days Y M 1 + Cal.ml Y M - 7) d := by omega
    have A2 : nd (Cal.days Y M 1 + Cal.ml Y M - 7) d ≤ 157053 := by omega
    clear nx n2' hb fv fb
    generalize Cal.days Y M 1 + Cal.ml Y M = F at HB dM dY k2 A1 A2
    generalize nd (F - 7) d = A at HB k2 A1 A2
    have tl : ((Y == 2399) = true ∧ (M == 12) = false) ∨ (Y == 2399) = false := by
      by_cases yy : Y = 2399
      · exact Or.inl ⟨beqT yy, beqF (fun h => last ⟨yy, h⟩)⟩
      · exact Or.inr (beqF yy)
    by_cases mm : M < 12
    · have k3 := Lib.hid (HB.out Y (M + 1) hY1 hY2 (by omega) (by omega) (dM.out mm))
      have t1 : ¬ 12 < M + 1 := by omega
      have t1' := ltF t1
      clear HB dM dY last
      go_enter Tryd.func11, Tryd.ntmps11
      go_wp2_with fail
      refine c0.mono ?_
      rintro e w1 ⟨rfl, hg1⟩
      clear c0
      go_wp2_with fail
      refine (C1.out w1).mono ?_
      rintro e w2 ⟨rfl, hg2⟩
      have g2 := hg1.trans hg2
      clear hg1 hg2 C1
      go_wp2_with fail
      refine (c2.out w2).mono ?_
      rintro e w3 ⟨rfl, rfl⟩
      clear c2
      have g3 := g2
      rcases tl with ⟨u1, u2⟩ | u1
      · go_wp2_with fail
        refine (k2.out _ (Gr.ofT g3 HO.out)).mono ?_
        rintro e w4 ⟨rfl, hg4⟩
        have g4 := g3.trans hg4
        clear g2 g3 hg4 k2
        go_wp2_with fail
        have g5 := g4
        refine (k3.out _ (Gr.ofT g5 HO.out)).mono ?_
        rintro e w6 ⟨rfl, hg6⟩
        go_wp2_with fail
        go_ret
        exact ⟨rfl, g5.trans hg6⟩
      · go_wp2_with fail
        refine (k2.out _ (Gr.ofT g3 HO.out)).mono ?_
        rintro e w4 ⟨rfl, hg4⟩
        have g4 := g3.trans hg4
        clear g2 g3 hg4 k2
        go_wp2_with fail
        have g5 := g4
        refine (k3.out _ (Gr.ofT g5 HO.out)).mono ?_
        rintro e w6 ⟨rfl, hg6⟩
        go_wp2_with fail
        go_ret
        exact ⟨rfl, g5.trans hg6⟩
    · have M12 : M = 12 := by omega
      have k3 := Lib.hid (HB.out (Y + 1) 1 (by omega) (by omega) (by omega) (by omega) (dY.out M12))
      have u1 : (Y == 2399) = false := beqF (fun h => last ⟨h, M12⟩)
      clear HB dM dY last tl mm
      subst M12
      go_enter Tryd.func11, Tryd.ntmps11
      go_wp2_with fail
      refine c0.mono ?_
      rintro e w1 ⟨rfl, hg1⟩
      clear c0
      go_wp2_with fail
      refine (C1.out w1).mono ?_
      rintro e w2 ⟨rfl, hg2⟩
      have g2 := hg1.trans hg2
      clear hg1 hg2 C1
      go_wp2_with fail
      refine (c2.out w2).mono ?_
      rintro e w3 ⟨rfl, rfl⟩
      clear c2
      have g3 := g2
      go_wp2_with fail
      refine (k2.out _ (Gr.ofT g3 HO.out)).mono ?_
      rintro e w4 ⟨rfl, hg4⟩
      have g4 := g3.trans hg4
      clear g2 g3 hg4 k2
      go_wp2_with fail
      have g5 := g4
      refine (k3.out _ (Gr.ofT g5 HO.out)).mono ?_
      rintro e w6 ⟨rfl, hg6⟩
      go_wp2_with fail
      go_ret
      exact ⟨rfl, g5.trans hg6⟩


set_option maxRecDepth 100000 in
theorem contract (H : Type) (enc : TypeId × Value → H) (W : World) (base : Nat) (args : Array Value) (ds gs : List (DataW H)) (before : List MemPlace)
    (hval : ∀ (j : Nat) t v, Tryd.f11.params[j]? = some t → args[j]? = some v → Value.okWide Tryd.prog W .any base t v)
    (hW : DataW.Whole enc Tryd.prog Tryd.f11.params.toList Rows.dayMonthsSpec.vars false W args.toList ds gs before) (hL : laidMet Tryd.prog Rows.dayMonthsRow.laid W) (hsh : W.ShapedOpen Tryd.prog) :
    Calls Tryd.prog 11 args W fun e W' => ∃ v, e = .returned v ∧ Rows.dayMonthsSpec.post enc Tryd.prog Tryd.f11 false true false false W args v W' := by
  have hW' := hW
  obtain ⟨p, q, hA0, hV, rfl, hfz, hnd⟩ := hW
  have hA : DataW.TrodAll enc Tryd.prog W 0 (fun _ => true) true Tryd.f11.params.toList args.toList ds p := hA0
  rw [Tryd.params11] at hA hval
  obtain ⟨v0, vs0, d0, ds0, p0, q0, hargs, rfl, rfl, h0, r0⟩ := trodAll_cons hA
  obtain ⟨v1, vs1, d1, ds1, p1, q1, rfl, rfl, rfl, h1, r1⟩ := trodAll_cons r0
  obtain ⟨v2, vs2, d2, ds2, p2, q2, rfl, rfl, rfl, h2, r2⟩ := trodAll_cons r1
  obtain ⟨rfl, rfl, rfl⟩ := trodAll_nil r2
  obtain rfl : args = #[v0, v1, v2] := by cases args; simp_all
  obtain ⟨rfl, rfl⟩ := trodVars_none hV
  obtain ⟨a0, rfl, rfl, rfl, w0⟩ := open_int Tryd.underlying3 (hval 0 3 v0 rfl rfl) h0
  obtain ⟨a1, rfl, rfl, rfl, w1⟩ := open_int Tryd.underlying3 (hval 1 3 v1 rfl rfl) h1
  obtain ⟨a2, rfl, rfl, rfl, w2⟩ := open_int Tryd.underlying3 (hval 2 3 v2 rfl rfl) h2
  clear hA0
  simp only [List.append_nil] at hW'
  refine (walk a0 (bounds_i64 w0).1 (bounds_i64 w0).2 a1 (bounds_i64 w1).1 (bounds_i64 w1).2 a2 (bounds_i64 w2).1 (bounds_i64 w2).2 W (lens_of hL (List.mem_of_getElem? (i := 0) rfl))).mono fun e W' ⟨he, hg⟩ => ?_
  subst he
  exact ⟨_, rfl, post_of_below (pa := []) (pv := []) hW' (fun _ _ _ => trodAll_cons_mk (shut_bool Tryd.underlying4 _) trodAll_mk0) (fun _ _ => (trodAll_cons_mk (shut_int Tryd.underlying3 w0) (trodAll_cons_mk (shut_int Tryd.underlying3 w1) (trodAll_cons_mk (shut_int Tryd.underlying3 w2) trodAll_mk0)))) (fun _ _ => rfl) rfl
    hg (ok_one (by kernel_rfl) rfl (okWide_bool_mk Tryd.underlying4 _))⟩

/-- A world for the witness: the settled one, the listed variables holding what their initialisers lay. -/
noncomputable def laidWorld (os : Os) : World := put (bare os) 1 (flat1 Rows.laid_timeball_civil_lengths)
set_option maxRecDepth 100000 in
theorem laid_met (os : Os) : laidMet Tryd.prog Rows.dayMonthsRow.laid ((laidWorld os).forCall (fun _ _ => 0) ⟨#[], #[.int .i64 0, .int .i64 0, .int .i64 0], []⟩).memory :=
  laidMet_of_run3 8 (by kernel_rfl) (by kernel_rfl) (by kernel_rfl)
theorem reads (os : Os) {H : Type} (enc : TypeId × Value → H) : ∃ places, DataW.whole enc Tryd.prog ((laidWorld os).forCall (fun _ _ => 0) ⟨#[], #[.int .i64 0, .int .i64 0, .int .i64 0], []⟩).memory Tryd.f11.params.toList Rows.dayMonthsSpec.vars false #[Value.int .i64 0, Value.int .i64 0, Value.int .i64 0].toList 8 = some ([.lit (.int .i64 0), .lit (.int .i64 0), .lit (.int .i64 0)], [], places) :=
  ⟨[], by kernel_rfl⟩

set_option maxRecDepth 100000 in
theorem lifted (os : Os) (started : os.Started) (H : Type) (enc : TypeId × Value → H) (F : Stop.Interp) :
    ReturnsInHanded {} Tryd.checked os 11 .any ((OpenSpec.ofChange Rows.dayMonthsSpec).preRow enc Tryd.prog Tryd.f11 Rows.dayMonthsRow.domain false Rows.dayMonthsRow.laid) (((OpenSpec.ofChange Rows.dayMonthsSpec).at F).post enc Tryd.prog Tryd.f11 false true false false) := by
  obtain ⟨places, hx⟩ := reads os enc
  refine returnsInHanded_of_row (C := Tryd.checked) (s := OpenSpec.ofChange Rows.dayMonthsSpec) own started (by kernel_rfl) Tryd.func11
    (witness_row_at (enc := enc) (C := Tryd.checked) false (laidWorld os) #[.int .i64 0, .int .i64 0, .int .i64 0] rfl (by kernel_rfl) (by kernel_rfl) (by kernel_rfl)
      (OpenSpec.preRow_of_cond 8 hx (by kernel_rfl) (fun k hk => by cases hk) (by kernel_rfl) (laid_met os))) ?_
  intro W base args ds gs before hval hW _ _ _ hL hsh _
  exact contract H enc W base args ds gs before hval hW hL hsh

theorem said : Rows.DayMonthsSaid :=
  OpenClaim.holds_of_cond 11 Tryd.f11 rfl rfl rfl rfl rfl rfl rfl ⟨rfl, rfl, rfl, rfl, rfl⟩ rfl rfl rfl rfl rfl (by kernel_rfl) Tryd.func11 (by kernel_rfl)
    (of_decide_eq_true (by kernel_rfl)) (by unfold Func.isWrapper; first | (rw [if_pos (by decide +kernel)]; kernel_rfl) | (rw [if_neg (by decide +kernel)]; exact ⟨rfl, rfl⟩))
    (fun os started H enc _ F => by rw [OpenClaim.pre_eq_preRow]; exact lifted os started H enc F)

set_option maxRecDepth 100000 in
/-- No parameter wants a stand-in; whether the program has looks of its own. -/
theorem plain (f : FuncId) (fn : Func) (hf : Tryd.pinned.checked.prog.funcNamed "timeball/timeballkeep.DayMonths" = some f) (hfn : Tryd.pinned.checked.prog.funcs[f]? = some fn) :
    true = Tryd.pinned.checked.prog.looks [] ∧ ∀ (j : Nat) t, fn.params[j]? = some t → Tryd.pinned.checked.prog.wantsStandIn t = false := by
  obtain rfl : f = 11 := Option.some.inj ((show Tryd.prog.funcNamed "timeball/timeballkeep.DayMonths" = some 11 by kernel_rfl).symm.trans hf) |>.symm
  obtain rfl : fn = Tryd.f11 := (Option.some.inj (Tryd.func11.symm.trans hfn)).symm
  refine ⟨by kernel_rfl, fun j t ht => ?_⟩
  rw [Tryd.params11] at ht
  obtain rfl : t = 3 := by simpa using Array.mem_of_getElem? ht
  exact (show Tryd.prog.wantsStandIn 3 = false by kernel_rfl)

end Go.Proofs.YtjcoapjjnplnbaaDoor.dayMonths
namespace Go.Proofs.YtjcoapjjnplnbaaDoor
/-- The card. -/
theorem dayMonths_holds : Rows.DayMonthsCardSaid :=
  Claim7.holds_tied_plain_at .later [] _ _ _ _ dayMonths.said (fun _ h => by cases h) (by kernel_rfl) (fun _ h => by cases h) dayMonths_row_tie rfl ⟨rfl, rfl⟩ (by kernel_rfl) rfl dayMonths.plain (by kernel_rfl)
end Go.Proofs.YtjcoapjjnplnbaaDoor
