/- The law DayWeeks of package timeballkeep returns true for every input and leaves its arguments as they were: Increasing N by 7 shifts the specified day by a week. Condition: the listed variables (timeball/civil.lengths) lie as their initialisers lay them; the card ties that to the program's text. -/
import Derived.Test.YtjcoapjjnplnbaaDoorCards
import Derived.Test.YtjcoapjjnplnbaaDoorTie
import Derived.Test.YtjcoapjjnplnbaaDoorR0
import Derived.Test.YtjcoapjjnplnbaaDoorE2
import Derived.Test.YtjcoapjjnplnbaaDoorS0
namespace Go.Proofs.YtjcoapjjnplnbaaDoor.dayWeeks
open Go.ChangeShapes Go.WideShapes Go.ChangeAt Go.RowKit
open Go.ChangeMaps (open_string shut_string)
set_option linter.unusedVariables false
set_option linter.unusedSimpArgs false

set_option maxHeartbeats 2000000 in
theorem walk (y : Int) (y1 : -9223372036854775808 ≤ y) (y2 : y ≤ 9223372036854775807) (m : Int) (m1 : -9223372036854775808 ≤ m) (m2 : m ≤ 9223372036854775807) (v : Int) (v1 : -9223372036854775808 ≤ v) (v2 : v ≤ 9223372036854775807)
    (n : Int) (n1 : -9223372036854775808 ≤ n) (n2 : n ≤ 9223372036854775807) (w : World) (ho : OfTab w) :
    Calls Tryd.prog 10 #[.int .i64 y, .int .i64 m, .int .i64 v, .int .i64 n] w fun e w' => e = .returned (.bool true) ∧ Gr w w' := by
  have c0 := mondays_any w ho
  have c1 := fun w => date_any y m 0 w y1 y2 m1 m2 (by omega) (by omega)
  have c2 := Lib.hid (fun w => rest_any v 7 w v1 v2 (by omega) (by omega))
  have r1 : 0 ≤ v % 7 := by omega
  have r2 : v % 7 ≤ 6 := by omega
  generalize v % 7 = d at c2 r1 r2
  have hY1 : 1600 ≤ y % 800 + 1600 := by omega
  have hY2 : y % 800 + 1600 ≤ 2399 := by omega
  have hM1 : 1 ≤ m % 12 + 1 := by omega
  have hM2 : m % 12 + 1 ≤ 12 := by omega
  generalize y % 800 + 1600 = Y at c1 hY1 hY2
  generalize m % 12 + 1 = M at c1 hM1 hM2
  generalize 0 % Cal.ml Y M + 1 = z at c1
  have C1 := Lib.hid c1
  have hb := Cal.ml_bd Y hM1 hM2
  have fv := first_valid hY1 hY2 hM1 hM2
  have fb := Cal.days_bd fv
  have HO := Lib.hid ho
  clear c1 ho
  have c3 := Lib.hid (fun w => rest_any n 21 w n1 n2 (by omega) (by omega))
  have q1 : 0 ≤ n % 21 := by omega
  have q2 : n % 21 ≤ 20 := by omega
  generalize n % 21 = k at c3 q1 q2
  have main : ∀ (a b a' b' : Int) (fin : Bool), dayA Y M 3 d (k + 1) = two a b → dayA Y M 3 d (k + 1 + 7) = two a' b' →
      (Y = 2399 ∧ M = 12 ∨ ¬ (Y = 2399 ∧ M = 12) ∧ b = 0 ∧ b' = 0 ∧ a' = a + 7 ∧ -200000 ≤ a ∧ a ≤ 200000) →
      Calls Tryd.prog 10 #[.int .i64 y, .int .i64 m, .int .i64 v, .int .i64 n] w fun e w' => e = .returned (.bool true) ∧ Gr w w' := by
    intro a b a' b' fin ea eb hc
    have K3 := fun w h => dayOf Y M 3 d (k + 1) w h
    rw [ea] at K3
    have K4 := fun w h => dayOf Y M 3 d (k + 1 + 7) w h
    rw [eb] at K4
    have k3 := Lib.hid K3
    have k4 := Lib.hid K4
    have HC := Lib.hid hc
    clear K3 K4 ea eb hc hb fv fb
    go_enter Tryd.func10, Tryd.ntmps10
    go_wp2_with fail
    refine c0.mono ?_
    rintro e w1 ⟨rfl, hg1⟩
    clear c0
    go_wp2_with fail
    refine (C1.out w1).mono ?_
    rintro e w2 ⟨rfl, hg2⟩
    have g2 := hg1.trans hg2
    clear hg1 hg2 C1
    go_wp2_with fail
    refine (c2.out w2).mono ?_
    rintro e w3 ⟨rfl, rfl⟩
    clear c2
    go_wp2_with fail
    refine (c3.out w2).mono ?_
    rintro e w3 ⟨rfl, rfl⟩
    clear c3
    go_wp2_with fail
    have g3 := g2
    refine (k3.out _ (Gr.ofT g3 HO.out)).mono ?_
    rintro e w4 ⟨rfl, hg4⟩
    have g4 := g3.trans hg4
    clear g2 g3 hg4 k3
    go_wp2_with fail
    have g5 := g4
    refine (k4.out _ (Gr.ofT g5 HO.out)).mono ?_
    rintro e w6 ⟨rfl, hg6⟩
    have g6 := g5.trans hg6
    clear g4 g5 hg6 k4
    rcases HC.out with ⟨x1, x2⟩ | ⟨x0, x1, x2, x3, x4, x5⟩
    · subst x1 x2
      clear HC
      go_wp2_with fail
      go_ret
      exact ⟨rfl, g6⟩
    · subst x1 x2 x3
      clear HC
      by_cases yy : Y = 2399
      · have t1 := beqT yy
        have t2 : (M == 12) = false := beqF (fun h => x0 ⟨yy, h⟩)
        clear x0
        go_wp2_with fail
        go_ret
        exact ⟨rfl, g6⟩
      · have t1 := beqF yy
        clear x0
        go_wp2_with fail
        go_ret
        exact ⟨rfl, g6⟩
  by_cases last : Y = 2399 ∧ M = 12
  · obtain ⟨a, b, ea⟩ := dayA_two Y M 3 d (k + 1)
    obtain ⟨a', b', eb⟩ := dayA_two Y M 3 d (k + 1 + 7)
    exact main a b a' b' true ea eb (Or.inl last)
  · have nx := after_bd hY1 hY2 hM1 hM2 last
    have t3 : dayT Y M 3 d (k + 1) = nd (Cal.days Y M 1 + k) d := by simp only [dayT]; simp only [Int.reduceEq, if_false, if_true]; congr 1; omega
    have t4 : dayT Y M 3 d (k + 1 + 7) = nd (Cal.days Y M 1 + k) d + 7 := by simp only [dayT]; simp only [Int.reduceEq, if_false, if_true]; unfold nd; omega
    have n3 := nd_bd (Cal.days Y M 1 + k) d
    refine main _ 0 _ 0 true (dayA_yes (by unfold DayOk; omega) hY1 hY2 hM1 hM2 (by omega) (by omega) (by omega)) (dayA_yes (by unfold DayOk; omega) hY1 hY2 hM1 hM2 (by omega) (by omega) (by omega)) (Or.inr ⟨last, rfl, rfl, by omega, by omega, by omega⟩)


set_option maxRecDepth 100000 in
theorem contract (H : Type) (enc : TypeId × Value → H) (W : World) (base : Nat) (args : Array Value) (ds gs : List (DataW H)) (before : List MemPlace)
    (hval : ∀ (j : Nat) t v, Tryd.f10.params[j]? = some t → args[j]? = some v → Value.okWide Tryd.prog W .any base t v)
    (hW : DataW.Whole enc Tryd.prog Tryd.f10.params.toList Rows.dayWeeksSpec.vars false W args.toList ds gs before) (hL : laidMet Tryd.prog Rows.dayWeeksRow.laid W) (hsh : W.ShapedOpen Tryd.prog) :
    Calls Tryd.prog 10 args W fun e W' => ∃ v, e = .returned v ∧ Rows.dayWeeksSpec.post enc Tryd.prog Tryd.f10 false true false false W args v W' := by
  have hW' := hW
  obtain ⟨p, q, hA0, hV, rfl, hfz, hnd⟩ := hW
  have hA : DataW.TrodAll enc Tryd.prog W 0 (fun _ => true) true Tryd.f10.params.toList args.toList ds p := hA0
  rw [Tryd.params10] at hA hval
  obtain ⟨v0, vs0, d0, ds0, p0, q0, hargs, rfl, rfl, h0, r0⟩ := trodAll_cons hA
  obtain ⟨v1, vs1, d1, ds1, p1, q1, rfl, rfl, rfl, h1, r1⟩ := trodAll_cons r0
  obtain ⟨v2, vs2, d2, ds2, p2, q2, rfl, rfl, rfl, h2, r2⟩ := trodAll_cons r1
  obtain ⟨v3, vs3, d3, ds3, p3, q3, rfl, rfl, rfl, h3, r3⟩ := trodAll_cons r2
  obtain ⟨rfl, rfl, rfl⟩ := trodAll_nil r3
  obtain rfl : args = #[v0, v1, v2, v3] := by cases args; simp_all
  obtain ⟨rfl, rfl⟩ := trodVars_none hV
  obtain ⟨a0, rfl, rfl, rfl, w0⟩ := open_int Tryd.underlying3 (hval 0 3 v0 rfl rfl) h0
  obtain ⟨a1, rfl, rfl, rfl, w1⟩ := open_int Tryd.underlying3 (hval 1 3 v1 rfl rfl) h1
  obtain ⟨a2, rfl, rfl, rfl, w2⟩ := open_int Tryd.underlying3 (hval 2 3 v2 rfl rfl) h2
  obtain ⟨a3, rfl, rfl, rfl, w3⟩ := open_int Tryd.underlying3 (hval 3 3 v3 rfl rfl) h3
  clear hA0
  simp only [List.append_nil] at hW'
  refine (walk a0 (bounds_i64 w0).1 (bounds_i64 w0).2 a1 (bounds_i64 w1).1 (bounds_i64 w1).2 a2 (bounds_i64 w2).1 (bounds_i64 w2).2 a3 (bounds_i64 w3).1 (bounds_i64 w3).2 W (lens_of hL (List.mem_of_getElem? (i := 0) rfl))).mono fun e W' ⟨he, hg⟩ => ?_
  subst he
  exact ⟨_, rfl, post_of_below (pa := []) (pv := []) hW' (fun _ _ _ => trodAll_cons_mk (shut_bool Tryd.underlying4 _) trodAll_mk0) (fun _ _ => (trodAll_cons_mk (shut_int Tryd.underlying3 w0) (trodAll_cons_mk (shut_int Tryd.underlying3 w1) (trodAll_cons_mk (shut_int Tryd.underlying3 w2) (trodAll_cons_mk (shut_int Tryd.underlying3 w3) trodAll_mk0))))) (fun _ _ => rfl) rfl
    hg (ok_one (by kernel_rfl) rfl (okWide_bool_mk Tryd.underlying4 _))⟩

/-- A world for the witness: the settled one, the listed variables holding what their initialisers lay. -/
noncomputable def laidWorld (os : Os) : World := put (bare os) 1 (flat1 Rows.laid_timeball_civil_lengths)
set_option maxRecDepth 100000 in
theorem laid_met (os : Os) : laidMet Tryd.prog Rows.dayWeeksRow.laid ((laidWorld os).forCall (fun _ _ => 0) ⟨#[], #[.int .i64 0, .int .i64 0, .int .i64 0, .int .i64 0], []⟩).memory :=
  laidMet_of_run3 8 (by kernel_rfl) (by kernel_rfl) (by kernel_rfl)
theorem reads (os : Os) {H : Type} (enc : TypeId × Value → H) : ∃ places, DataW.whole enc Tryd.prog ((laidWorld os).forCall (fun _ _ => 0) ⟨#[], #[.int .i64 0, .int .i64 0, .int .i64 0, .int .i64 0], []⟩).memory Tryd.f10.params.toList Rows.dayWeeksSpec.vars false #[Value.int .i64 0, Value.int .i64 0, Value.int .i64 0, Value.int .i64 0].toList 8 = some ([.lit (.int .i64 0), .lit (.int .i64 0), .lit (.int .i64 0), .lit (.int .i64 0)], [], places) :=
  ⟨[], by kernel_rfl⟩

set_option maxRecDepth 100000 in
theorem lifted (os : Os) (started : os.Started) (H : Type) (enc : TypeId × Value → H) (F : Stop.Interp) :
    ReturnsInHanded {} Tryd.checked os 10 .any ((OpenSpec.ofChange Rows.dayWeeksSpec).preRow enc Tryd.prog Tryd.f10 Rows.dayWeeksRow.domain false Rows.dayWeeksRow.laid) (((OpenSpec.ofChange Rows.dayWeeksSpec).at F).post enc Tryd.prog Tryd.f10 false true false false) := by
  obtain ⟨places, hx⟩ := reads os enc
  refine returnsInHanded_of_row (C := Tryd.checked) (s := OpenSpec.ofChange Rows.dayWeeksSpec) own started (by kernel_rfl) Tryd.func10
    (witness_row_at (enc := enc) (C := Tryd.checked) false (laidWorld os) #[.int .i64 0, .int .i64 0, .int .i64 0, .int .i64 0] rfl (by kernel_rfl) (by kernel_rfl) (by kernel_rfl)
      (OpenSpec.preRow_of_cond 8 hx (by kernel_rfl) (fun k hk => by cases hk) (by kernel_rfl) (laid_met os))) ?_
  intro W base args ds gs before hval hW _ _ _ hL hsh _
  exact contract H enc W base args ds gs before hval hW hL hsh

theorem said : Rows.DayWeeksSaid :=
  OpenClaim.holds_of_cond 10 Tryd.f10 rfl rfl rfl rfl rfl rfl rfl ⟨rfl, rfl, rfl, rfl, rfl⟩ rfl rfl rfl rfl rfl (by kernel_rfl) Tryd.func10 (by kernel_rfl)
    (of_decide_eq_true (by kernel_rfl)) (by unfold Func.isWrapper; first | (rw [if_pos (by decide +kernel)]; kernel_rfl) | (rw [if_neg (by decide +kernel)]; exact ⟨rfl, rfl⟩))
    (fun os started H enc _ F => by rw [OpenClaim.pre_eq_preRow]; exact lifted os started H enc F)

set_option maxRecDepth 100000 in
/-- No parameter wants a stand-in; whether the program has looks of its own. -/
theorem plain (f : FuncId) (fn : Func) (hf : Tryd.pinned.checked.prog.funcNamed "timeball/timeballkeep.DayWeeks" = some f) (hfn : Tryd.pinned.checked.prog.funcs[f]? = some fn) :
    true = Tryd.pinned.checked.prog.looks [] ∧ ∀ (j : Nat) t, fn.params[j]? = some t → Tryd.pinned.checked.prog.wantsStandIn t = false := by
  obtain rfl : f = 10 := Option.some.inj ((show Tryd.prog.funcNamed "timeball/timeballkeep.DayWeeks" = some 10 by kernel_rfl).symm.trans hf) |>.symm
  obtain rfl : fn = Tryd.f10 := (Option.some.inj (Tryd.func10.symm.trans hfn)).symm
  refine ⟨by kernel_rfl, fun j t ht => ?_⟩
  rw [Tryd.params10] at ht
  obtain rfl : t = 3 := by simpa using Array.mem_of_getElem? ht
  exact (show Tryd.prog.wantsStandIn 3 = false by kernel_rfl)

end Go.Proofs.YtjcoapjjnplnbaaDoor.dayWeeks
namespace Go.Proofs.YtjcoapjjnplnbaaDoor
/-- The card. -/
theorem dayWeeks_holds : Rows.DayWeeksCardSaid :=
  Claim7.holds_tied_plain_at .later [] _ _ _ _ dayWeeks.said (fun _ h => by cases h) (by kernel_rfl) (fun _ h => by cases h) dayWeeks_row_tie rfl ⟨rfl, rfl⟩ (by kernel_rfl) rfl dayWeeks.plain (by kernel_rfl)
end Go.Proofs.YtjcoapjjnplnbaaDoor
