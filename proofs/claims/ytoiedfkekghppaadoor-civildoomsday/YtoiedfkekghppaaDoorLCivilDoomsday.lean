/- The law CivilDoomsday of package timeballkeep returns true for every input and leaves its arguments as they were: in every year April 4, June 6, August 8, October 10, December 12 and the last day of February are the same weekday. Condition: the table of the months' lengths (timeball/civil.lengths) lies as its initialiser lays it; the card ties that to the program's text. -/
import Derived.Test.YtoiedfkekghppaaDoorCards
import Derived.Test.YtoiedfkekghppaaDoorTie
import Derived.Test.YtoiedfkekghppaaDoorW6
import Derived.ProofKit
import Derived.OpenShut
import Derived.Deep.DeepHandedRow
import Derived.Lib.LaidTab
namespace Go.Proofs.YtoiedfkekghppaaDoor.civilDoomsday
open Go.ChangeShapes Go.WideShapes Go.ChangeAt Go.RowKit
set_option linter.unusedVariables false

theorem even (y : Int) {m : Int} (h1 : 1600 ≤ y) (h2 : y ≤ 2399) (h3 : 1 ≤ m) (h4 : m ≤ 12) : Cal.Valid y m m := ⟨h1, h2, h3, h4, by omega, by have := (Cal.ml_bd y h3 h4).1; omega⟩
theorem last (y : Int) (h1 : 1600 ≤ y) (h2 : y ≤ 2399) : Cal.Valid y 2 (Cal.ml y 2) := ⟨h1, h2, by omega, by omega, by have := (Cal.ml_bd y (m := 2) (by omega) (by omega)).1; omega, by omega⟩
theorem same (y : Int) {j : Int} (h : j = 4 ∨ j = 6 ∨ j = 8 ∨ j = 10 ∨ j = 12) : (Cal.days y j j + 135146) % 7 = (Cal.days y 2 (Cal.ml y 2) + 135146) % 7 := by
  rcases h with h | h | h | h | h <;> subst h <;> simp [Cal.days, Cal.ml, Cal.cum, Cal.acc] <;> omega

set_option maxHeartbeats 2000000 in
theorem walk (n : Int) (n1 : -9223372036854775808 ≤ n) (n2 : n ≤ 9223372036854775807) (w : World) (hl : HasLen w) :
    Calls Tryd.prog 10 #[.int .i64 n] w fun e w' => e = .returned (.bool true) ∧ Gr w w' := by
  go_enter Tryd.func10, Tryd.ntmps10
  go_wp2_with fail
  refine (dated_any w hl).mono ?_
  rintro e w1 ⟨rfl, rfl⟩
  go_wp2_with fail
  refine (date_some n 0 0 w n1 n2 (by omega) (by omega) (by omega) (by omega)).mono ?_
  rintro e w1 ⟨y, mm, dd, hv, rfl, hg⟩
  have hl1 := hg.len hl
  have h1 := hv.1
  have h2 := hv.2.1
  clear hv
  have hz := last y h1 h2
  have zb := Cal.days_bd hz
  go_wp2_with fail
  refine (length_yes y 2 w1 hl1 h1 h2 (by omega) (by omega)).mono ?_
  rintro e w2 ⟨rfl, rfl⟩
  go_wp2_with fail
  refine (days_yes y 2 (Cal.ml y 2) w1 hl1 hz).mono ?_
  rintro e w2 ⟨rfl, rfl⟩
  go_wp2_with fail
  refine (weekday_yes (Cal.days y 2 (Cal.ml y 2)) w1 zb.1 zb.2).mono ?_
  rintro e w2 ⟨rfl, rfl⟩
  have S : Hid (∀ j : Int, (j = 4 ∨ j = 6 ∨ j = 8 ∨ j = 10 ∨ j = 12) → (Cal.days y j j + 135146) % 7 = (Cal.days y 2 (Cal.ml y 2) + 135146) % 7) := fun j h => same y h
  generalize (Cal.days y 2 (Cal.ml y 2) + 135146) % 7 = x at S ⊢
  clear zb hz
  go_wp2
  go_loop [9] (fun i => ∃ k : Int, 2 ≤ k ∧ k ≤ 7 ∧ i = .int .i64 (2 * k)) (fun i => (14 - intOf i).toNat)
  case atStart => exact ⟨2, by omega, by omega, rfl⟩
  case round =>
    obtain ⟨k, hk1, hk2, rfl⟩ := hrel
    by_cases hlt : k ≤ 6
    · have hf := even y (m := 2 * k) h1 h2 (by omega) (by omega)
      have fb := Cal.days_bd hf
      have t : ((Cal.days y (2 * k) (2 * k) + 135146) % 7 != x) = false := by
        rw [S.out (2 * k) (by omega)]; simp
      go_wp2_with fail
      refine (days_yes y (2 * k) (2 * k) w1 hl1 hf).mono ?_
      rintro e w2 ⟨rfl, rfl⟩
      go_wp2_with fail
      refine (weekday_yes (Cal.days y (2 * k) (2 * k)) w1 fb.1 fb.2).mono ?_
      rintro e w2 ⟨rfl, rfl⟩
      go_wp2
      go_round
      case rel => exact ⟨k + 1, by omega, by omega, by go_num⟩
      case measure => simp [intOf]; omega
    · obtain rfl : k = 7 := by omega
      go_wp2
      go_ret
      exact ⟨rfl, hg⟩


theorem own : ownKnob Tryd.prog.godebug = none := by kernel_rfl
theorem gTab : Tryd.prog.globalNamed "timeball/civil.lengths" = some 0 := by kernel_rfl
theorem gTabType : (Tryd.prog.globals[0]?).map (·.type) = some 40 := by kernel_rfl
theorem cellsT : Tryd.prog.cellsOf 40 = 12 := by kernel_rfl
theorem cells3 : Tryd.prog.cellsOf 3 = 1 := by kernel_rfl

/-- What the row's list gives: the table's cells hold its twelve numbers. -/
theorem table {W : World} (h : laidMetH Tryd.prog Rows.civilDoomsdayRow.laid W) : HasLen W := by
  have t : Lib.TabIs Tryd.prog W "timeball/civil.lengths" .i64 Cal.tab := Lib.tabIs_of_head (rest := []) gTab gTabType Tryd.underlying40 Tryd.underlying3 cells3 cellsT h
  exact ⟨World.block_lt_of_cell? W ⟨0, 0, none⟩ (t.cell gTab 0 (by decide)), fun i hi => t.cell gTab i hi⟩

theorem contract (H : Type) (enc : TypeId × Value → H) (W : World) (base : Nat) (args : Array Value) (ds gs : List (DataW H)) (before : List MemPlace)
    (hval : ∀ (j : Nat) t v, Tryd.f10.params[j]? = some t → args[j]? = some v → Value.okWide Tryd.prog W .any base t v)
    (hW : DataW.Whole enc Tryd.prog Tryd.f10.params.toList Rows.civilDoomsdaySpec.vars false W args.toList ds gs before) (hL : laidMetH Tryd.prog Rows.civilDoomsdayRow.laid W) :
    Calls Tryd.prog 10 args W fun e W' => ∃ v, e = .returned v ∧ Rows.civilDoomsdaySpec.post enc Tryd.prog Tryd.f10 false true false false W args v W' := by
  have hW' := hW
  obtain ⟨p, q, hA0, hV, rfl, hfz, hnd⟩ := hW
  have hA : DataW.TrodAll enc Tryd.prog W 0 (fun _ => true) true Tryd.f10.params.toList args.toList ds p := hA0
  rw [Tryd.params10] at hA hval
  obtain ⟨v0, vs0, d0, ds0, p0, q0, hargs, rfl, rfl, h0, r0⟩ := trodAll_cons hA
  obtain ⟨rfl, rfl, rfl⟩ := trodAll_nil r0
  obtain rfl : args = #[v0] := by cases args; simp_all
  obtain ⟨rfl, rfl⟩ := trodVars_none hV
  obtain ⟨a0, rfl, rfl, rfl, w0⟩ := open_int Tryd.underlying3 (hval 0 3 v0 rfl rfl) h0
  clear hA0
  simp only [List.append_nil] at hW'
  refine (walk a0 (bounds_i64 w0).1 (bounds_i64 w0).2 W (table hL)).mono fun e W' ⟨he, hg0⟩ => ?_
  have hg := hg0.grown
  subst he
  exact ⟨_, rfl, post_of_same (pa := []) (pv := []) hW' (fun _ _ _ => trodAll_cons_mk (shut_bool Tryd.underlying4 _) trodAll_mk0) (fun _ _ => (trodAll_cons_mk (shut_int Tryd.underlying3 w0) trodAll_mk0)) (fun _ _ => rfl) rfl
    (hg.frame _) hg.2.1 (ok_one (by kernel_rfl) rfl (okWide_bool_mk Tryd.underlying4 _))⟩

/-- A world for the witness: the settled one, the table (block 0) holding what its initialiser lays. -/
noncomputable def laidWorld (os : Os) : World :=
  { World.holding Tryd.prog os ⟨#[], #[], []⟩ with heap := (World.holding Tryd.prog os ⟨#[], #[], []⟩).heap.modify 0 fun
      | .cells _ t frozen => .cells #[.int .i64 31, .int .i64 28, .int .i64 31, .int .i64 30, .int .i64 31, .int .i64 30, .int .i64 31, .int .i64 31, .int .i64 30, .int .i64 31, .int .i64 30, .int .i64 31] t frozen
      | o => o }
theorem laid_met (os : Os) : laidMet Tryd.prog Rows.civilDoomsdayRow.laid ((laidWorld os).forCall (fun _ _ => 0) ⟨#[], #[.int .i64 0], []⟩).memory :=
  laidMet_of_run' 8 (by kernel_rfl) (by kernel_rfl)
theorem reads (os : Os) {H : Type} (enc : TypeId × Value → H) : ∃ places, DataW.whole enc Tryd.prog ((laidWorld os).forCall (fun _ _ => 0) ⟨#[], #[.int .i64 0], []⟩).memory Tryd.f10.params.toList Rows.civilDoomsdaySpec.vars false #[Value.int .i64 0].toList 8 = some ([.lit (.int .i64 0)], [], places) :=
  ⟨[], by kernel_rfl⟩

set_option maxRecDepth 100000 in
theorem lifted (os : Os) (started : os.Started) (H : Type) (enc : TypeId × Value → H) (F : Stop.Interp) :
    ReturnsInHanded {} Tryd.checked os 10 .any ((OpenSpec.ofChange Rows.civilDoomsdaySpec).preRow enc Tryd.prog Tryd.f10 Rows.civilDoomsdayRow.domain false Rows.civilDoomsdayRow.laid) (((OpenSpec.ofChange Rows.civilDoomsdaySpec).at F).post enc Tryd.prog Tryd.f10 false true false false) := by
  obtain ⟨places, hx⟩ := reads os enc
  refine returnsInHanded_of_row (C := Tryd.checked) (s := OpenSpec.ofChange Rows.civilDoomsdaySpec) own started (by kernel_rfl) Tryd.func10
    (witness_row_at (enc := enc) (C := Tryd.checked) false (laidWorld os) #[.int .i64 0] rfl (by kernel_rfl) (by kernel_rfl) (by kernel_rfl)
      (OpenSpec.preRow_of_cond 8 hx (by kernel_rfl) (fun k hk => by cases hk) (by kernel_rfl) (laid_met os))) ?_
  intro W base args ds gs before hval hW _ _ _ hL _ _
  exact contract H enc W base args ds gs before hval hW hL

theorem said : Rows.CivilDoomsdaySaid :=
  OpenClaim.holds_of_cond 10 Tryd.f10 rfl rfl rfl rfl rfl rfl rfl ⟨rfl, rfl, rfl, rfl, rfl⟩ rfl rfl rfl rfl rfl (by kernel_rfl) Tryd.func10 (by kernel_rfl)
    (of_decide_eq_true (by kernel_rfl)) (by unfold Func.isWrapper; first | (rw [if_pos (by decide +kernel)]; kernel_rfl) | (rw [if_neg (by decide +kernel)]; exact ⟨rfl, rfl⟩))
    (fun os started H enc _ F => by rw [OpenClaim.pre_eq_preRow]; exact lifted os started H enc F)

/-- No parameter wants a stand-in; the program's own looks are off. -/
theorem plain (f : FuncId) (fn : Func) (hf : Tryd.pinned.checked.prog.funcNamed "timeball/timeballkeep.CivilDoomsday" = some f) (hfn : Tryd.pinned.checked.prog.funcs[f]? = some fn) :
    false = Tryd.pinned.checked.prog.looks [] ∧ ∀ (j : Nat) t, fn.params[j]? = some t → Tryd.pinned.checked.prog.wantsStandIn t = false := by
  obtain rfl : f = 10 := Option.some.inj ((show Tryd.prog.funcNamed "timeball/timeballkeep.CivilDoomsday" = some 10 by kernel_rfl).symm.trans hf) |>.symm
  obtain rfl : fn = Tryd.f10 := (Option.some.inj (Tryd.func10.symm.trans hfn)).symm
  refine ⟨by kernel_rfl, fun j t ht => ?_⟩
  rw [Tryd.params10] at ht
  obtain rfl : t = 3 := by simpa using Array.mem_of_getElem? ht
  exact (show Tryd.prog.wantsStandIn 3 = false by kernel_rfl)

end Go.Proofs.YtoiedfkekghppaaDoor.civilDoomsday
namespace Go.Proofs.YtoiedfkekghppaaDoor
/-- The card. -/
theorem civilDoomsday_holds : Rows.CivilDoomsdayCardSaid :=
  Claim7.holds_tied_plain_at .later [] _ _ _ _ civilDoomsday.said (fun _ h => by cases h) (by kernel_rfl) (fun _ h => by cases h) civilDoomsday_row_tie rfl ⟨rfl, rfl⟩ (by kernel_rfl) rfl civilDoomsday.plain (by kernel_rfl)
end Go.Proofs.YtoiedfkekghppaaDoor
