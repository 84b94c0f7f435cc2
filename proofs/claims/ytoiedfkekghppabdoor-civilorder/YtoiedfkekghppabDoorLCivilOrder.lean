/- The law CivilOrder of package timeballkeep returns true for every input and leaves its arguments as they were: the day number is strictly increasing in the date. Condition: the table of the months' lengths (timeball/civil.lengths) lies as its initialiser lays it; the card ties that to the program's text. -/
import Derived.Test.YtoiedfkekghppabDoorCards
import Derived.Test.YtoiedfkekghppabDoorTie
import Derived.Test.YtoiedfkekghppabDoorW6
import Derived.ProofKit
import Derived.OpenShut
import Derived.Deep.DeepHandedRow
import Derived.Lib.LaidTab
namespace Go.Proofs.YtoiedfkekghppabDoor.civilOrder
open Go.ChangeShapes Go.WideShapes Go.ChangeAt Go.RowKit
set_option linter.unusedVariables false

theorem order_true {y m d a b c : Int} (h : Cal.Valid y m d) (k : Cal.Valid a b c) (hl : y < a ∨ y = a ∧ (m < b ∨ m = b ∧ d < c)) : Cal.days y m d < Cal.days a b c := Cal.days_lt h k hl
theorem order_false {y m d a b c : Int} (h : Cal.Valid y m d) (k : Cal.Valid a b c) (hl : ¬ (y < a ∨ y = a ∧ (m < b ∨ m = b ∧ d < c))) : ¬ Cal.days y m d < Cal.days a b c := fun hh => hl ((Cal.days_iff h k).1 hh)

set_option maxHeartbeats 2000000 in
theorem walk (y0 m0 d0 a0 b0 c0 : Int) (y1 : -9223372036854775808 ≤ y0) (y2 : y0 ≤ 9223372036854775807) (m1 : -9223372036854775808 ≤ m0) (m2 : m0 ≤ 9223372036854775807) (d1 : -9223372036854775808 ≤ d0) (d2 : d0 ≤ 9223372036854775807)
    (a1 : -9223372036854775808 ≤ a0) (a2 : a0 ≤ 9223372036854775807) (b1 : -9223372036854775808 ≤ b0) (b2 : b0 ≤ 9223372036854775807) (c1 : -9223372036854775808 ≤ c0) (c2 : c0 ≤ 9223372036854775807) (w : World) (hl : HasLen w) :
    Calls Tryd.prog 3 #[.int .i64 y0, .int .i64 m0, .int .i64 d0, .int .i64 a0, .int .i64 b0, .int .i64 c0] w fun e w' => e = .returned (.bool true) ∧ Gr w w' := by
  go_enter Tryd.func3, Tryd.ntmps3
  go_wp2_with fail
  refine (dated_any w hl).mono ?_
  rintro e w1 ⟨rfl, rfl⟩
  go_wp2_with fail
  refine (date_some y0 m0 d0 w y1 y2 m1 m2 d1 d2).mono ?_
  rintro e w1 ⟨y, m, d, hv, rfl, hg⟩
  have hl1 := hg.len hl
  go_wp2_with fail
  refine (date_some a0 b0 c0 w1 a1 a2 b1 b2 c1 c2).mono ?_
  rintro e w2 ⟨a, b, c, hv2, rfl, hg2⟩
  have hl2 := hg2.len hl1
  have hgg := hg.trans hg2
  clear y1 y2 m1 m2 d1 d2 a1 a2 b1 b2 c1 c2
  go_wp2_with fail
  refine (days_yes y m d w2 hl2 hv).mono ?_
  rintro e w3 ⟨rfl, rfl⟩
  go_wp2_with fail
  refine (days_yes a b c w2 hl2 hv2).mono ?_
  rintro e w3 ⟨rfl, rfl⟩
  have O : Hid ((y < a ∨ y = a ∧ (m < b ∨ m = b ∧ d < c)) → Cal.days y m d < Cal.days a b c) := order_true hv hv2
  have N : Hid (¬ (y < a ∨ y = a ∧ (m < b ∨ m = b ∧ d < c)) → ¬ Cal.days y m d < Cal.days a b c) := order_false hv hv2
  clear hv hv2
  generalize Cal.days y m d = p at O N ⊢
  generalize Cal.days a b c = q at O N ⊢
  by_cases t1 : y < a
  · have t1' : decide (y < a) = true := by simpa using t1
    have r : decide (p < q) = true := by simpa using O.out (Or.inl t1)
    clear O N
    go_wp2
    go_ret
    exact ⟨rfl, hgg⟩
  · have t1' : decide (y < a) = false := by simpa using t1
    by_cases t2 : y = a
    · have t2' : (y == a) = true := by simpa using t2
      by_cases t3 : m < b
      · have t3' : decide (m < b) = true := by simpa using t3
        have r : decide (p < q) = true := by simpa using O.out (Or.inr ⟨t2, Or.inl t3⟩)
        clear O N t2
        go_wp2
        go_ret
        exact ⟨rfl, hgg⟩
      · have t3' : decide (m < b) = false := by simpa using t3
        by_cases t4 : m = b
        · have t4' : (m == b) = true := by simpa using t4
          by_cases t5 : d < c
          · have t5' : decide (d < c) = true := by simpa using t5
            have r : decide (p < q) = true := by simpa using O.out (Or.inr ⟨t2, Or.inr ⟨t4, t5⟩⟩)
            clear O N t2 t4
            go_wp2
            go_ret
            exact ⟨rfl, hgg⟩
          · have t5' : decide (d < c) = false := by simpa using t5
            have r : decide (p < q) = false := by simpa using N.out (by omega)
            clear O N t2 t4
            go_wp2
            go_ret
            exact ⟨rfl, hgg⟩
        · have t4' : (m == b) = false := by simpa using t4
          have r : decide (p < q) = false := by simpa using N.out (by omega)
          clear O N t2
          go_wp2
          go_ret
          exact ⟨rfl, hgg⟩
    · have t2' : (y == a) = false := by simpa using t2
      have r : decide (p < q) = false := by simpa using N.out (by omega)
      clear O N
      go_wp2
      go_ret
      exact ⟨rfl, hgg⟩


theorem own : ownKnob Tryd.prog.godebug = none := by kernel_rfl
theorem gTab : Tryd.prog.globalNamed "timeball/civil.lengths" = some 0 := by kernel_rfl
theorem gTabType : (Tryd.prog.globals[0]?).map (·.type) = some 39 := by kernel_rfl
theorem cellsT : Tryd.prog.cellsOf 39 = 12 := by kernel_rfl
theorem cells3 : Tryd.prog.cellsOf 3 = 1 := by kernel_rfl

/-- What the row's list gives: the table's cells hold its twelve numbers. -/
theorem table {W : World} (h : laidMetH Tryd.prog Rows.civilOrderRow.laid W) : HasLen W := by
  have t : Lib.TabIs Tryd.prog W "timeball/civil.lengths" .i64 Cal.tab := Lib.tabIs_of_head (rest := []) gTab gTabType Tryd.underlying39 Tryd.underlying3 cells3 cellsT h
  exact ⟨World.block_lt_of_cell? W ⟨0, 0, none⟩ (t.cell gTab 0 (by decide)), fun i hi => t.cell gTab i hi⟩

theorem contract (H : Type) (enc : TypeId × Value → H) (W : World) (base : Nat) (args : Array Value) (ds gs : List (DataW H)) (before : List MemPlace)
    (hval : ∀ (j : Nat) t v, Tryd.f3.params[j]? = some t → args[j]? = some v → Value.okWide Tryd.prog W .any base t v)
    (hW : DataW.Whole enc Tryd.prog Tryd.f3.params.toList Rows.civilOrderSpec.vars false W args.toList ds gs before) (hL : laidMetH Tryd.prog Rows.civilOrderRow.laid W) :
    Calls Tryd.prog 3 args W fun e W' => ∃ v, e = .returned v ∧ Rows.civilOrderSpec.post enc Tryd.prog Tryd.f3 false true false false W args v W' := by
  have hW' := hW
  obtain ⟨p, q, hA0, hV, rfl, hfz, hnd⟩ := hW
  have hA : DataW.TrodAll enc Tryd.prog W 0 (fun _ => true) true Tryd.f3.params.toList args.toList ds p := hA0
  rw [Tryd.params3] at hA hval
  obtain ⟨v0, vs0, d0, ds0, p0, q0, hargs, rfl, rfl, h0, r0⟩ := trodAll_cons hA
  obtain ⟨v1, vs1, d1, ds1, p1, q1, rfl, rfl, rfl, h1, r1⟩ := trodAll_cons r0
  obtain ⟨v2, vs2, d2, ds2, p2, q2, rfl, rfl, rfl, h2, r2⟩ := trodAll_cons r1
  obtain ⟨v3, vs3, d3, ds3, p3, q3, rfl, rfl, rfl, h3, r3⟩ := trodAll_cons r2
  obtain ⟨v4, vs4, d4, ds4, p4, q4, rfl, rfl, rfl, h4, r4⟩ := trodAll_cons r3
  obtain ⟨v5, vs5, d5, ds5, p5, q5, rfl, rfl, rfl, h5, r5⟩ := trodAll_cons r4
  obtain ⟨rfl, rfl, rfl⟩ := trodAll_nil r5
  obtain rfl : args = #[v0, v1, v2, v3, v4, v5] := by cases args; simp_all
  obtain ⟨rfl, rfl⟩ := trodVars_none hV
  obtain ⟨a0, rfl, rfl, rfl, w0⟩ := open_int Tryd.underlying3 (hval 0 3 v0 rfl rfl) h0
  obtain ⟨a1, rfl, rfl, rfl, w1⟩ := open_int Tryd.underlying3 (hval 1 3 v1 rfl rfl) h1
  obtain ⟨a2, rfl, rfl, rfl, w2⟩ := open_int Tryd.underlying3 (hval 2 3 v2 rfl rfl) h2
  obtain ⟨a3, rfl, rfl, rfl, w3⟩ := open_int Tryd.underlying3 (hval 3 3 v3 rfl rfl) h3
  obtain ⟨a4, rfl, rfl, rfl, w4⟩ := open_int Tryd.underlying3 (hval 4 3 v4 rfl rfl) h4
  obtain ⟨a5, rfl, rfl, rfl, w5⟩ := open_int Tryd.underlying3 (hval 5 3 v5 rfl rfl) h5
  clear hA0
  simp only [List.append_nil] at hW'
  refine (walk a0 a1 a2 a3 a4 a5 (bounds_i64 w0).1 (bounds_i64 w0).2 (bounds_i64 w1).1 (bounds_i64 w1).2 (bounds_i64 w2).1 (bounds_i64 w2).2 (bounds_i64 w3).1 (bounds_i64 w3).2 (bounds_i64 w4).1 (bounds_i64 w4).2 (bounds_i64 w5).1 (bounds_i64 w5).2 W (table hL)).mono fun e W' ⟨he, hg0⟩ => ?_
  have hg := hg0.grown
  subst he
  exact ⟨_, rfl, post_of_same (pa := []) (pv := []) hW' (fun _ _ _ => trodAll_cons_mk (shut_bool Tryd.underlying4 _) trodAll_mk0) (fun _ _ => (trodAll_cons_mk (shut_int Tryd.underlying3 w0) (trodAll_cons_mk (shut_int Tryd.underlying3 w1) (trodAll_cons_mk (shut_int Tryd.underlying3 w2) (trodAll_cons_mk (shut_int Tryd.underlying3 w3) (trodAll_cons_mk (shut_int Tryd.underlying3 w4) (trodAll_cons_mk (shut_int Tryd.underlying3 w5) trodAll_mk0))))))) (fun _ _ => rfl) rfl
    (hg.frame _) hg.2.1 (ok_one (by kernel_rfl) rfl (okWide_bool_mk Tryd.underlying4 _))⟩

/-- A world for the witness: the settled one, the table (block 0) holding what its initialiser lays. -/
noncomputable def laidWorld (os : Os) : World :=
  { World.holding Tryd.prog os ⟨#[], #[], []⟩ with heap := (World.holding Tryd.prog os ⟨#[], #[], []⟩).heap.modify 0 fun
      | .cells _ t frozen => .cells #[.int .i64 31, .int .i64 28, .int .i64 31, .int .i64 30, .int .i64 31, .int .i64 30, .int .i64 31, .int .i64 31, .int .i64 30, .int .i64 31, .int .i64 30, .int .i64 31] t frozen
      | o => o }
theorem laid_met (os : Os) : laidMet Tryd.prog Rows.civilOrderRow.laid ((laidWorld os).forCall (fun _ _ => 0) ⟨#[], #[.int .i64 0, .int .i64 0, .int .i64 0, .int .i64 0, .int .i64 0, .int .i64 0], []⟩).memory :=
  laidMet_of_run' 8 (by kernel_rfl) (by kernel_rfl)
theorem reads (os : Os) {H : Type} (enc : TypeId × Value → H) : ∃ places, DataW.whole enc Tryd.prog ((laidWorld os).forCall (fun _ _ => 0) ⟨#[], #[.int .i64 0, .int .i64 0, .int .i64 0, .int .i64 0, .int .i64 0, .int .i64 0], []⟩).memory Tryd.f3.params.toList Rows.civilOrderSpec.vars false #[Value.int .i64 0, Value.int .i64 0, Value.int .i64 0, Value.int .i64 0, Value.int .i64 0, Value.int .i64 0].toList 8 = some ([.lit (.int .i64 0), .lit (.int .i64 0), .lit (.int .i64 0), .lit (.int .i64 0), .lit (.int .i64 0), .lit (.int .i64 0)], [], places) :=
  ⟨[], by kernel_rfl⟩

set_option maxRecDepth 100000 in
theorem lifted (os : Os) (started : os.Started) (H : Type) (enc : TypeId × Value → H) (F : Stop.Interp) :
    ReturnsInHanded {} Tryd.checked os 3 .any ((OpenSpec.ofChange Rows.civilOrderSpec).preRow enc Tryd.prog Tryd.f3 Rows.civilOrderRow.domain false Rows.civilOrderRow.laid) (((OpenSpec.ofChange Rows.civilOrderSpec).at F).post enc Tryd.prog Tryd.f3 false true false false) := by
  obtain ⟨places, hx⟩ := reads os enc
  refine returnsInHanded_of_row (C := Tryd.checked) (s := OpenSpec.ofChange Rows.civilOrderSpec) own started (by kernel_rfl) Tryd.func3
    (witness_row_at (enc := enc) (C := Tryd.checked) false (laidWorld os) #[.int .i64 0, .int .i64 0, .int .i64 0, .int .i64 0, .int .i64 0, .int .i64 0] rfl (by kernel_rfl) (by kernel_rfl) (by kernel_rfl)
      (OpenSpec.preRow_of_cond 8 hx (by kernel_rfl) (fun k hk => by cases hk) (by kernel_rfl) (laid_met os))) ?_
  intro W base args ds gs before hval hW _ _ _ hL _ _
  exact contract H enc W base args ds gs before hval hW hL

theorem said : Rows.CivilOrderSaid :=
  OpenClaim.holds_of_cond 3 Tryd.f3 rfl rfl rfl rfl rfl rfl rfl ⟨rfl, rfl, rfl, rfl, rfl⟩ rfl rfl rfl rfl rfl (by kernel_rfl) Tryd.func3 (by kernel_rfl)
    (of_decide_eq_true (by kernel_rfl)) (by unfold Func.isWrapper; first | (rw [if_pos (by decide +kernel)]; kernel_rfl) | (rw [if_neg (by decide +kernel)]; exact ⟨rfl, rfl⟩))
    (fun os started H enc _ F => by rw [OpenClaim.pre_eq_preRow]; exact lifted os started H enc F)

/-- No parameter wants a stand-in; the program's own looks are off. -/
theorem plain (f : FuncId) (fn : Func) (hf : Tryd.pinned.checked.prog.funcNamed "timeball/timeballkeep.CivilOrder" = some f) (hfn : Tryd.pinned.checked.prog.funcs[f]? = some fn) :
    false = Tryd.pinned.checked.prog.looks [] ∧ ∀ (j : Nat) t, fn.params[j]? = some t → Tryd.pinned.checked.prog.wantsStandIn t = false := by
  obtain rfl : f = 3 := Option.some.inj ((show Tryd.prog.funcNamed "timeball/timeballkeep.CivilOrder" = some 3 by kernel_rfl).symm.trans hf) |>.symm
  obtain rfl : fn = Tryd.f3 := (Option.some.inj (Tryd.func3.symm.trans hfn)).symm
  refine ⟨by kernel_rfl, fun j t ht => ?_⟩
  rw [Tryd.params3] at ht
  obtain rfl : t = 3 := by simpa using Array.mem_of_getElem? ht
  exact (show Tryd.prog.wantsStandIn 3 = false by kernel_rfl)

end Go.Proofs.YtoiedfkekghppabDoor.civilOrder
namespace Go.Proofs.YtoiedfkekghppabDoor
/-- The card. -/
theorem civilOrder_holds : Rows.CivilOrderCardSaid :=
  Claim7.holds_tied_plain_at .later [] _ _ _ _ civilOrder.said (fun _ h => by cases h) (by kernel_rfl) (fun _ h => by cases h) civilOrder_row_tie rfl ⟨rfl, rfl⟩ (by kernel_rfl) rfl civilOrder.plain (by kernel_rfl)
end Go.Proofs.YtoiedfkekghppabDoor
