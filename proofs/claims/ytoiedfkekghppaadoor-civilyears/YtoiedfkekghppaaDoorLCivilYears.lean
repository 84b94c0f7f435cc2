/- The law CivilYears of package timeballkeep returns true for every input and leaves its arguments as they were: a year has 365 or 366 days; 400 consecutive years have 146097 days and begin on the same weekday. Condition: the table of the months' lengths (timeball/civil.lengths) lies as its initialiser lays it; the card ties that to the program's text. -/
import Derived.Test.YtoiedfkekghppaaDoorCards
import Derived.Test.YtoiedfkekghppaaDoorTie
import Derived.Test.YtoiedfkekghppaaDoorW6
import Derived.ProofKit
import Derived.OpenShut
import Derived.Deep.DeepHandedRow
import Derived.Lib.LaidTab
namespace Go.Proofs.YtoiedfkekghppaaDoor.civilYears
open Go.ChangeShapes Go.WideShapes Go.ChangeAt Go.RowKit
set_option linter.unusedVariables false

theorem jan1 {y : Int} (h1 : 1600 ≤ y) (h2 : y ≤ 2399) : Cal.Valid y 1 1 := ⟨h1, h2, by omega, by omega, by omega, by have := (Cal.ml_bd y (m := 1) (by omega) (by omega)).1; omega⟩
theorem year_long (y : Int) : Cal.days (y + 1) 1 1 - Cal.days y 1 1 = 337 + Cal.ml y 2 := by
  have h := Cal.ys_succ y
  unfold Cal.days; rw [Cal.cum_one, Cal.cum_one]; simp only [Cal.ml, if_true]; omega
theorem ml2 (y : Int) : Cal.ml y 2 = 28 ∨ Cal.ml y 2 = 29 := by
  have := Cal.lp_bd y
  simp only [Cal.ml, if_true]; omega

set_option maxHeartbeats 2000000 in
theorem walk (n : Int) (n1 : -9223372036854775808 ≤ n) (n2 : n ≤ 9223372036854775807) (w : World) (hl : HasLen w) :
    Calls Tryd.prog 9 #[.int .i64 n] w fun e w' => e = .returned (.bool true) ∧ Gr w w' := by
  have r1 := Int.emod_nonneg n (by omega : (399 : Int) ≠ 0)
  have r2 := Int.emod_lt_of_pos n (by omega : (0 : Int) < 399)
  go_enter Tryd.func9, Tryd.ntmps9
  go_wp2_with fail
  refine (dated_any w hl).mono ?_
  rintro e w1 ⟨rfl, rfl⟩
  go_wp2_with fail
  refine (rest_any n 399 w n1 n2 (by omega) (by omega)).mono ?_
  rintro e w1 ⟨rfl, rfl⟩
  generalize n % 399 = r at r1 r2 ⊢
  have hv0 := jan1 (y := r + 1600) (by omega) (by omega)
  have hv1 := jan1 (y := r + 1600 + 1) (by omega) (by omega)
  have hv4 := jan1 (y := r + 1600 + 400) (by omega) (by omega)
  have b0 := Cal.days_bd hv0
  have b1 := Cal.days_bd hv1
  have b4 := Cal.days_bd hv4
  have t1 : (Cal.days (r + 1600 + 1) 1 1 - Cal.days (r + 1600) 1 1 == 337 + Cal.ml (r + 1600) 2) = true := by simpa using year_long (r + 1600)
  have t4 : (Cal.days (r + 1600 + 400) 1 1 - Cal.days (r + 1600) 1 1 == 146097) = true := by
    have := Cal.days_400 (r + 1600) 1 1
    simp; omega
  have tw : ((Cal.days (r + 1600) 1 1 + 135146) % 7 == (Cal.days (r + 1600 + 400) 1 1 + 135146) % 7) = true := by
    have := Cal.days_400 (r + 1600) 1 1
    simp; omega
  have tm := ml2 (r + 1600)
  have mb := Cal.ml_bd (r + 1600) (m := 2) (by omega) (by omega)
  have l0 := length_yes (r + 1600) 2 w hl (by omega) (by omega) (by omega) (by omega)
  have d0 := days_yes (r + 1600) 1 1 w hl hv0
  have d1 := days_yes (r + 1600 + 1) 1 1 w hl hv1
  have d4 := days_yes (r + 1600 + 400) 1 1 w hl hv4
  have k0 := weekday_yes _ w b0.1 b0.2
  have k4 := weekday_yes _ w b4.1 b4.2
  obtain ⟨b01, b02⟩ := b0
  obtain ⟨b11, b12⟩ := b1
  obtain ⟨b41, b42⟩ := b4
  obtain ⟨mb1, mb2⟩ := mb
  go_wp2_with fail
  refine d0.mono ?_
  rintro e w1 ⟨rfl, rfl⟩
  go_wp2_with fail
  refine d1.mono ?_
  rintro e w1 ⟨rfl, rfl⟩
  go_wp2_with fail
  refine d4.mono ?_
  rintro e w1 ⟨rfl, rfl⟩
  go_wp2_with fail
  refine k0.mono ?_
  rintro e w1 ⟨rfl, rfl⟩
  go_wp2_with fail
  refine k4.mono ?_
  rintro e w1 ⟨rfl, rfl⟩
  go_wp2_with fail
  refine l0.mono ?_
  rintro e w1 ⟨rfl, rfl⟩
  clear l0 d0 d1 d4 k0 k4
  rcases tm with tm | tm
  · have tm1 : (Cal.ml (r + 1600) 2 == 28) = true := by simpa using tm
    clear tm
    go_wp2
    go_ret
    exact ⟨rfl, Gr.refl _⟩
  · have tm1 : (Cal.ml (r + 1600) 2 == 28) = false := by simp; omega
    have tm2 : (Cal.ml (r + 1600) 2 == 29) = true := by simpa using tm
    clear tm
    go_wp2
    go_ret
    exact ⟨rfl, Gr.refl _⟩


theorem own : ownKnob Tryd.prog.godebug = none := by kernel_rfl
theorem gTab : Tryd.prog.globalNamed "timeball/civil.lengths" = some 0 := by kernel_rfl
theorem gTabType : (Tryd.prog.globals[0]?).map (·.type) = some 40 := by kernel_rfl
theorem cellsT : Tryd.prog.cellsOf 40 = 12 := by kernel_rfl
theorem cells3 : Tryd.prog.cellsOf 3 = 1 := by kernel_rfl

/-- What the row's list gives: the table's cells hold its twelve numbers. -/
theorem table {W : World} (h : laidMetH Tryd.prog Rows.civilYearsRow.laid W) : HasLen W := by
  have t : Lib.TabIs Tryd.prog W "timeball/civil.lengths" .i64 Cal.tab := Lib.tabIs_of_head (rest := []) gTab gTabType Tryd.underlying40 Tryd.underlying3 cells3 cellsT h
  exact ⟨World.block_lt_of_cell? W ⟨0, 0, none⟩ (t.cell gTab 0 (by decide)), fun i hi => t.cell gTab i hi⟩

theorem contract (H : Type) (enc : TypeId × Value → H) (W : World) (base : Nat) (args : Array Value) (ds gs : List (DataW H)) (before : List MemPlace)
    (hval : ∀ (j : Nat) t v, Tryd.f9.params[j]? = some t → args[j]? = some v → Value.okWide Tryd.prog W .any base t v)
    (hW : DataW.Whole enc Tryd.prog Tryd.f9.params.toList Rows.civilYearsSpec.vars false W args.toList ds gs before) (hL : laidMetH Tryd.prog Rows.civilYearsRow.laid W) :
    Calls Tryd.prog 9 args W fun e W' => ∃ v, e = .returned v ∧ Rows.civilYearsSpec.post enc Tryd.prog Tryd.f9 false true false false W args v W' := by
  have hW' := hW
  obtain ⟨p, q, hA0, hV, rfl, hfz, hnd⟩ := hW
  have hA : DataW.TrodAll enc Tryd.prog W 0 (fun _ => true) true Tryd.f9.params.toList args.toList ds p := hA0
  rw [Tryd.params9] at hA hval
  obtain ⟨v0, vs0, d0, ds0, p0, q0, hargs, rfl, rfl, h0, r0⟩ := trodAll_cons hA
  obtain ⟨rfl, rfl, rfl⟩ := trodAll_nil r0
  obtain rfl : args = #[v0] := by cases args; simp_all
  obtain ⟨rfl, rfl⟩ := trodVars_none hV
  obtain ⟨a0, rfl, rfl, rfl, w0⟩ := open_int Tryd.underlying3 (hval 0 3 v0 rfl rfl) h0
  clear hA0
  simp only [List.append_nil] at hW'
  refine (walk a0 (bounds_i64 w0).1 (bounds_i64 w0).2 W (table hL)).mono fun e W' ⟨he, hg0⟩ => ?_
  have hg := hg0.grown
  subst he
  exact ⟨_, rfl, post_of_same (pa := []) (pv := []) hW' (fun _ _ _ => trodAll_cons_mk (shut_bool Tryd.underlying4 _) trodAll_mk0) (fun _ _ => (trodAll_cons_mk (shut_int Tryd.underlying3 w0) trodAll_mk0)) (fun _ _ => rfl) rfl
    (hg.frame _) hg.2.1 (ok_one (by kernel_rfl) rfl (okWide_bool_mk Tryd.underlying4 _))⟩

/-- A world for the witness: the settled one, the table (block 0) holding what its initialiser lays. -/
noncomputable def laidWorld (os : Os) : World :=
  { World.holding Tryd.prog os ⟨#[], #[], []⟩ with heap := (World.holding Tryd.prog os ⟨#[], #[], []⟩).heap.modify 0 fun
      | .cells _ t frozen => .cells #[.int .i64 31, .int .i64 28, .int .i64 31, .int .i64 30, .int .i64 31, .int .i64 30, .int .i64 31, .int .i64 31, .int .i64 30, .int .i64 31, .int .i64 30, .int .i64 31] t frozen
      | o => o }
theorem laid_met (os : Os) : laidMet Tryd.prog Rows.civilYearsRow.laid ((laidWorld os).forCall (fun _ _ => 0) ⟨#[], #[.int .i64 0], []⟩).memory :=
  laidMet_of_run' 8 (by kernel_rfl) (by kernel_rfl)
theorem reads (os : Os) {H : Type} (enc : TypeId × Value → H) : ∃ places, DataW.whole enc Tryd.prog ((laidWorld os).forCall (fun _ _ => 0) ⟨#[], #[.int .i64 0], []⟩).memory Tryd.f9.params.toList Rows.civilYearsSpec.vars false #[Value.int .i64 0].toList 8 = some ([.lit (.int .i64 0)], [], places) :=
  ⟨[], by kernel_rfl⟩

set_option maxRecDepth 100000 in
theorem lifted (os : Os) (started : os.Started) (H : Type) (enc : TypeId × Value → H) (F : Stop.Interp) :
    ReturnsInHanded {} Tryd.checked os 9 .any ((OpenSpec.ofChange Rows.civilYearsSpec).preRow enc Tryd.prog Tryd.f9 Rows.civilYearsRow.domain false Rows.civilYearsRow.laid) (((OpenSpec.ofChange Rows.civilYearsSpec).at F).post enc Tryd.prog Tryd.f9 false true false false) := by
  obtain ⟨places, hx⟩ := reads os enc
  refine returnsInHanded_of_row (C := Tryd.checked) (s := OpenSpec.ofChange Rows.civilYearsSpec) own started (by kernel_rfl) Tryd.func9
    (witness_row_at (enc := enc) (C := Tryd.checked) false (laidWorld os) #[.int .i64 0] rfl (by kernel_rfl) (by kernel_rfl) (by kernel_rfl)
      (OpenSpec.preRow_of_cond 8 hx (by kernel_rfl) (fun k hk => by cases hk) (by kernel_rfl) (laid_met os))) ?_
  intro W base args ds gs before hval hW _ _ _ hL _ _
  exact contract H enc W base args ds gs before hval hW hL

theorem said : Rows.CivilYearsSaid :=
  OpenClaim.holds_of_cond 9 Tryd.f9 rfl rfl rfl rfl rfl rfl rfl ⟨rfl, rfl, rfl, rfl, rfl⟩ rfl rfl rfl rfl rfl (by kernel_rfl) Tryd.func9 (by kernel_rfl)
    (of_decide_eq_true (by kernel_rfl)) (by unfold Func.isWrapper; first | (rw [if_pos (by decide +kernel)]; kernel_rfl) | (rw [if_neg (by decide +kernel)]; exact ⟨rfl, rfl⟩))
    (fun os started H enc _ F => by rw [OpenClaim.pre_eq_preRow]; exact lifted os started H enc F)

/-- No parameter wants a stand-in; the program's own looks are off. -/
theorem plain (f : FuncId) (fn : Func) (hf : Tryd.pinned.checked.prog.funcNamed "timeball/timeballkeep.CivilYears" = some f) (hfn : Tryd.pinned.checked.prog.funcs[f]? = some fn) :
    false = Tryd.pinned.checked.prog.looks [] ∧ ∀ (j : Nat) t, fn.params[j]? = some t → Tryd.pinned.checked.prog.wantsStandIn t = false := by
  obtain rfl : f = 9 := Option.some.inj ((show Tryd.prog.funcNamed "timeball/timeballkeep.CivilYears" = some 9 by kernel_rfl).symm.trans hf) |>.symm
  obtain rfl : fn = Tryd.f9 := (Option.some.inj (Tryd.func9.symm.trans hfn)).symm
  refine ⟨by kernel_rfl, fun j t ht => ?_⟩
  rw [Tryd.params9] at ht
  obtain rfl : t = 3 := by simpa using Array.mem_of_getElem? ht
  exact (show Tryd.prog.wantsStandIn 3 = false by kernel_rfl)

end Go.Proofs.YtoiedfkekghppaaDoor.civilYears
namespace Go.Proofs.YtoiedfkekghppaaDoor
/-- The card. -/
theorem civilYears_holds : Rows.CivilYearsCardSaid :=
  Claim7.holds_tied_plain_at .later [] _ _ _ _ civilYears.said (fun _ h => by cases h) (by kernel_rfl) (fun _ h => by cases h) civilYears_row_tie rfl ⟨rfl, rfl⟩ (by kernel_rfl) rfl civilYears.plain (by kernel_rfl)
end Go.Proofs.YtoiedfkekghppaaDoor
