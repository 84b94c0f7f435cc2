/- The law CivilNext of package timeballkeep returns true for every input and leaves its arguments as they were: the day after each day is the next day of its month or the first day of the next month. Condition: the table of the months' lengths (timeball/civil.lengths) lies as its initialiser lays it; the card ties that to the program's text. -/
import Derived.Test.YtoiedfkekghppaaDoorCards
import Derived.Test.YtoiedfkekghppaaDoorTie
import Derived.Test.YtoiedfkekghppaaDoorW6
import Derived.ProofKit
import Derived.OpenShut
import Derived.Deep.DeepHandedRow
import Derived.Lib.LaidTab
namespace Go.Proofs.YtoiedfkekghppaaDoor.civilNext
open Go.ChangeShapes Go.WideShapes Go.ChangeAt Go.RowKit
set_option linter.unusedVariables false

theorem ml12 (y : Int) : Cal.ml y 12 = 31 := by simp [Cal.ml, Cal.tab]

set_option maxHeartbeats 2000000 in
theorem walk (n : Int) (n1 : -9223372036854775808 ≤ n) (n2 : n ≤ 9223372036854775807) (w : World) (hl : HasLen w) :
    Calls Tryd.prog 8 #[.int .i64 n] w fun e w' => e = .returned (.bool true) ∧ Gr w w' := by
  go_enter Tryd.func8, Tryd.ntmps8
  go_wp2_with fail
  refine (dated_any w hl).mono ?_
  rintro e w1 ⟨rfl, rfl⟩
  go_wp2_with fail
  refine (some_day n w n1 n2).mono ?_
  rintro e w1 ⟨y, m, d, hv, rfl, hg⟩
  have hl1 := hg.len hl
  have hb1 := (Cal.days_bd hv).1
  have hb2 := (Cal.days_bd hv).2
  have v1 := hv.1
  have v2 := hv.2.1
  have v3 := hv.2.2.1
  have v4 := hv.2.2.2.1
  have v5 := hv.2.2.2.2.1
  have v6 := hv.2.2.2.2.2
  have m31 := (Cal.ml_bd y v3 v4).2
  go_wp2_with fail
  refine (date_yes (Cal.days y m d) y m d w1 hl1 hv rfl).mono ?_
  rintro e w2 ⟨rfl, rfl⟩
  go_wp2_with fail
  rcases Cal.next_day hv with ⟨c1, hv2, hd⟩ | ⟨c1, c2, hv2, hd⟩ | ⟨c1, c2, c3, hv2, hd⟩ | ⟨c1, c2, c3, hd⟩
  · refine (date_yes (Cal.days y m d + 1) y m (d + 1) w1 hl1 hv2 hd).mono ?_
    rintro e w2 ⟨rfl, rfl⟩
    clear hd
    have hn31 : m = 12 → (d == 31) = false := by
      intro h; subst h; rw [ml12] at c1; simp; omega
    by_cases e1 : y = 2399
    · have e1' : (y == 2399) = true := by simpa using e1
      by_cases e2 : m = 12
      · have e2' : (m == 12) = true := by simpa using e2
        have e3' := hn31 e2
        clear e1 e2 hn31
        go_wp2_with (go_at_call 14; refine (length_yes y m w1 hl1 v1 v2 v3 v4).mono ?_; rintro e w2 ⟨rfl, rfl⟩)
        go_ret
        exact ⟨rfl, hg⟩
      · have e2' : (m == 12) = false := by simpa using e2
        clear e1 e2 hn31
        go_wp2_with (go_at_call 14; refine (length_yes y m w1 hl1 v1 v2 v3 v4).mono ?_; rintro e w2 ⟨rfl, rfl⟩)
        go_ret
        exact ⟨rfl, hg⟩
    · have e1' : (y == 2399) = false := by simpa using e1
      clear e1 hn31
      go_wp2_with (go_at_call 14; refine (length_yes y m w1 hl1 v1 v2 v3 v4).mono ?_; rintro e w2 ⟨rfl, rfl⟩)
      go_ret
      exact ⟨rfl, hg⟩
  · refine (date_yes (Cal.days y m d + 1) y (m + 1) 1 w1 hl1 hv2 hd).mono ?_
    rintro e w2 ⟨rfl, rfl⟩
    have e2' : (m == 12) = false := by simp; omega
    have c1' : ¬ d < Cal.ml y m := by omega
    clear hd c1
    by_cases e1 : y = 2399
    · have e1' : (y == 2399) = true := by simpa using e1
      clear e1
      go_wp2_with (go_at_call 14; refine (length_yes y m w1 hl1 v1 v2 v3 v4).mono ?_; rintro e w2 ⟨rfl, rfl⟩)
      go_ret
      exact ⟨rfl, hg⟩
    · have e1' : (y == 2399) = false := by simpa using e1
      clear e1
      go_wp2_with (go_at_call 14; refine (length_yes y m w1 hl1 v1 v2 v3 v4).mono ?_; rintro e w2 ⟨rfl, rfl⟩)
      go_ret
      exact ⟨rfl, hg⟩
  · refine (date_yes (Cal.days y m d + 1) (y + 1) 1 1 w1 hl1 hv2 hd).mono ?_
    rintro e w2 ⟨rfl, rfl⟩
    have e1' : (y == 2399) = false := by simp; omega
    have e2' : (1 == m + 1) = false := by simp; omega
    have c1' : ¬ d < Cal.ml y m := by omega
    have e3' : (m == 12) = true := by simpa using c2
    clear hd c1 c2
    go_wp2_with (go_at_call 14; refine (length_yes y m w1 hl1 v1 v2 v3 v4).mono ?_; rintro e w2 ⟨rfl, rfl⟩)
    go_ret
    exact ⟨rfl, hg⟩
  · refine (date_no (Cal.days y m d + 1) w1 (by omega)).mono ?_
    rintro e w2 ⟨rfl, rfl⟩
    have e1' : (y == 2399) = true := by simpa using c3
    have e2' : (m == 12) = true := by simpa using c2
    have e3' : (d == 31) = true := by subst c2; rw [ml12] at c1; simpa using c1
    clear hd c1 c2 c3
    go_wp2
    go_ret
    exact ⟨rfl, hg⟩


theorem own : ownKnob Tryd.prog.godebug = none := by kernel_rfl
theorem gTab : Tryd.prog.globalNamed "timeball/civil.lengths" = some 0 := by kernel_rfl
theorem gTabType : (Tryd.prog.globals[0]?).map (·.type) = some 40 := by kernel_rfl
theorem cellsT : Tryd.prog.cellsOf 40 = 12 := by kernel_rfl
theorem cells3 : Tryd.prog.cellsOf 3 = 1 := by kernel_rfl

/-- What the row's list gives: the table's cells hold its twelve numbers. -/
theorem table {W : World} (h : laidMetH Tryd.prog Rows.civilNextRow.laid W) : HasLen W := by
  have t : Lib.TabIs Tryd.prog W "timeball/civil.lengths" .i64 Cal.tab := Lib.tabIs_of_head (rest := []) gTab gTabType Tryd.underlying40 Tryd.underlying3 cells3 cellsT h
  exact ⟨World.block_lt_of_cell? W ⟨0, 0, none⟩ (t.cell gTab 0 (by decide)), fun i hi => t.cell gTab i hi⟩

theorem contract (H : Type) (enc : TypeId × Value → H) (W : World) (base : Nat) (args : Array Value) (ds gs : List (DataW H)) (before : List MemPlace)
    (hval : ∀ (j : Nat) t v, Tryd.f8.params[j]? = some t → args[j]? = some v → Value.okWide Tryd.prog W .any base t v)
    (hW : DataW.Whole enc Tryd.prog Tryd.f8.params.toList Rows.civilNextSpec.vars false W args.toList ds gs before) (hL : laidMetH Tryd.prog Rows.civilNextRow.laid W) :
    Calls Tryd.prog 8 args W fun e W' => ∃ v, e = .returned v ∧ Rows.civilNextSpec.post enc Tryd.prog Tryd.f8 false true false false W args v W' := by
  have hW' := hW
  obtain ⟨p, q, hA0, hV, rfl, hfz, hnd⟩ := hW
  have hA : DataW.TrodAll enc Tryd.prog W 0 (fun _ => true) true Tryd.f8.params.toList args.toList ds p := hA0
  rw [Tryd.params8] at hA hval
  obtain ⟨v0, vs0, d0, ds0, p0, q0, hargs, rfl, rfl, h0, r0⟩ := trodAll_cons hA
  obtain ⟨rfl, rfl, rfl⟩ := trodAll_nil r0
  obtain rfl : args = #[v0] := by cases args; simp_all
  obtain ⟨rfl, rfl⟩ := trodVars_none hV
  obtain ⟨a0, rfl, rfl, rfl, w0⟩ := open_int Tryd.underlying3 (hval 0 3 v0 rfl rfl) h0
  clear hA0
  simp only [List.append_nil] at hW'
  refine (walk a0 (bounds_i64 w0).1 (bounds_i64 w0).2 W (table hL)).mono fun e W' ⟨he, hg0⟩ => ?_
  have hg := hg0.grown
  subst he
  exact ⟨_, rfl, post_of_same (pa := []) (pv := []) hW' (fun _ _ _ => trodAll_cons_mk (shut_bool Tryd.underlying4 _) trodAll_mk0) (fun _ _ => (trodAll_cons_mk (shut_int Tryd.underlying3 w0) trodAll_mk0)) (fun _ _ => rfl) rfl
    (hg.frame _) hg.2.1 (ok_one (by kernel_rfl) rfl (okWide_bool_mk Tryd.underlying4 _))⟩

/-- A world for the witness: the settled one, the table (block 0) holding what its initialiser lays. -/
noncomputable def laidWorld (os : Os) : World :=
  { World.holding Tryd.prog os ⟨#[], #[], []⟩ with heap := (World.holding Tryd.prog os ⟨#[], #[], []⟩).heap.modify 0 fun
      | .cells _ t frozen => .cells #[.int .i64 31, .int .i64 28, .int .i64 31, .int .i64 30, .int .i64 31, .int .i64 30, .int .i64 31, .int .i64 31, .int .i64 30, .int .i64 31, .int .i64 30, .int .i64 31] t frozen
      | o => o }
theorem laid_met (os : Os) : laidMet Tryd.prog Rows.civilNextRow.laid ((laidWorld os).forCall (fun _ _ => 0) ⟨#[], #[.int .i64 0], []⟩).memory :=
  laidMet_of_run' 8 (by kernel_rfl) (by kernel_rfl)
theorem reads (os : Os) {H : Type} (enc : TypeId × Value → H) : ∃ places, DataW.whole enc Tryd.prog ((laidWorld os).forCall (fun _ _ => 0) ⟨#[], #[.int .i64 0], []⟩).memory Tryd.f8.params.toList Rows.civilNextSpec.vars false #[Value.int .i64 0].toList 8 = some ([.lit (.int .i64 0)], [], places) :=
  ⟨[], by kernel_rfl⟩

set_option maxRecDepth 100000 in
theorem lifted (os : Os) (started : os.Started) (H : Type) (enc : TypeId × Value → H) (F : Stop.Interp) :
    ReturnsInHanded {} Tryd.checked os 8 .any ((OpenSpec.ofChange Rows.civilNextSpec).preRow enc Tryd.prog Tryd.f8 Rows.civilNextRow.domain false Rows.civilNextRow.laid) (((OpenSpec.ofChange Rows.civilNextSpec).at F).post enc Tryd.prog Tryd.f8 false true false false) := by
  obtain ⟨places, hx⟩ := reads os enc
  refine returnsInHanded_of_row (C := Tryd.checked) (s := OpenSpec.ofChange Rows.civilNextSpec) own started (by kernel_rfl) Tryd.func8
    (witness_row_at (enc := enc) (C := Tryd.checked) false (laidWorld os) #[.int .i64 0] rfl (by kernel_rfl) (by kernel_rfl) (by kernel_rfl)
      (OpenSpec.preRow_of_cond 8 hx (by kernel_rfl) (fun k hk => by cases hk) (by kernel_rfl) (laid_met os))) ?_
  intro W base args ds gs before hval hW _ _ _ hL _ _
  exact contract H enc W base args ds gs before hval hW hL

theorem said : Rows.CivilNextSaid :=
  OpenClaim.holds_of_cond 8 Tryd.f8 rfl rfl rfl rfl rfl rfl rfl ⟨rfl, rfl, rfl, rfl, rfl⟩ rfl rfl rfl rfl rfl (by kernel_rfl) Tryd.func8 (by kernel_rfl)
    (of_decide_eq_true (by kernel_rfl)) (by unfold Func.isWrapper; first | (rw [if_pos (by decide +kernel)]; kernel_rfl) | (rw [if_neg (by decide +kernel)]; exact ⟨rfl, rfl⟩))
    (fun os started H enc _ F => by rw [OpenClaim.pre_eq_preRow]; exact lifted os started H enc F)

/-- No parameter wants a stand-in; the program's own looks are off. -/
theorem plain (f : FuncId) (fn : Func) (hf : Tryd.pinned.checked.prog.funcNamed "timeball/timeballkeep.CivilNext" = some f) (hfn : Tryd.pinned.checked.prog.funcs[f]? = some fn) :
    false = Tryd.pinned.checked.prog.looks [] ∧ ∀ (j : Nat) t, fn.params[j]? = some t → Tryd.pinned.checked.prog.wantsStandIn t = false := by
  obtain rfl : f = 8 := Option.some.inj ((show Tryd.prog.funcNamed "timeball/timeballkeep.CivilNext" = some 8 by kernel_rfl).symm.trans hf) |>.symm
  obtain rfl : fn = Tryd.f8 := (Option.some.inj (Tryd.func8.symm.trans hfn)).symm
  refine ⟨by kernel_rfl, fun j t ht => ?_⟩
  rw [Tryd.params8] at ht
  obtain rfl : t = 3 := by simpa using Array.mem_of_getElem? ht
  exact (show Tryd.prog.wantsStandIn 3 = false by kernel_rfl)

end Go.Proofs.YtoiedfkekghppaaDoor.civilNext
namespace Go.Proofs.YtoiedfkekghppaaDoor
/-- The card. -/
theorem civilNext_holds : Rows.CivilNextCardSaid :=
  Claim7.holds_tied_plain_at .later [] _ _ _ _ civilNext.said (fun _ h => by cases h) (by kernel_rfl) (fun _ h => by cases h) civilNext_row_tie rfl ⟨rfl, rfl⟩ (by kernel_rfl) rfl civilNext.plain (by kernel_rfl)
end Go.Proofs.YtoiedfkekghppaaDoor
