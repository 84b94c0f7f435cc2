/- The law CivilFriday of package timeballkeep returns true for every input and leaves its arguments as they were: every year has at least one and at most three Fridays that are the thirteenth of a month. Condition: the table of the months' lengths (timeball/civil.lengths) lies as its initialiser lays it; the card ties that to the program's text. -/
import Derived.Test.YtoiedfkekghppaaDoorCards
import Derived.Test.YtoiedfkekghppaaDoorTie
import Derived.Test.YtoiedfkekghppaaDoorW6
import Derived.ProofKit
import Derived.OpenShut
import Derived.Deep.DeepHandedRow
import Derived.Lib.LaidTab
namespace Go.Proofs.YtoiedfkekghppaaDoor.civilFriday
open Go.ChangeShapes Go.WideShapes Go.ChangeAt Go.RowKit
set_option linter.unusedVariables false

theorem thirteen (y : Int) {m : Int} (h1 : 1600 ≤ y) (h2 : y ≤ 2399) (h3 : 1 ≤ m) (h4 : m ≤ 12) : Cal.Valid y m 13 := ⟨h1, h2, h3, h4, by omega, by have := (Cal.ml_bd y h3 h4).1; omega⟩
/-- how many of the first k months have a Friday the thirteenth -/
def fri (y : Int) : Nat → Int
  | 0 => 0
  | k + 1 => fri y k + if (Cal.days y (k + 1) 13 + 135146) % 7 = 5 then 1 else 0
theorem fri_bd (y : Int) : ∀ k : Nat, 0 ≤ fri y k ∧ fri y k ≤ k
  | 0 => ⟨by simp [fri], by simp [fri]⟩
  | k + 1 => by have := fri_bd y k; unfold fri; split <;> omega
theorem fri_yes {y : Int} {k : Nat} (h : (Cal.days y (k + 1) 13 + 135146) % 7 = 5) : fri y (k + 1) = fri y k + 1 := by simp [fri, h]
theorem fri_no {y : Int} {k : Nat} (h : ¬ (Cal.days y (k + 1) 13 + 135146) % 7 = 5) : fri y (k + 1) = fri y k := by simp [fri, h]
theorem em {s r : Int} (h : (s + 135146) % 7 = r) (c : Int) : (s + c + 135146) % 7 = (r + c) % 7 := by omega
theorem d1 (y : Int) : Cal.days y ((0 : Nat) + 1) 13 = Cal.ys y + (12) := by simp [Cal.days, Cal.cum, Cal.acc]; omega
theorem d2 (y : Int) : Cal.days y ((1 : Nat) + 1) 13 = Cal.ys y + (43) := by simp [Cal.days, Cal.cum, Cal.acc]; omega
theorem d3 (y : Int) : Cal.days y ((2 : Nat) + 1) 13 = Cal.ys y + (71 + Cal.lp y) := by simp [Cal.days, Cal.cum, Cal.acc]; omega
theorem d4 (y : Int) : Cal.days y ((3 : Nat) + 1) 13 = Cal.ys y + (102 + Cal.lp y) := by simp [Cal.days, Cal.cum, Cal.acc]; omega
theorem d5 (y : Int) : Cal.days y ((4 : Nat) + 1) 13 = Cal.ys y + (132 + Cal.lp y) := by simp [Cal.days, Cal.cum, Cal.acc]; omega
theorem d6 (y : Int) : Cal.days y ((5 : Nat) + 1) 13 = Cal.ys y + (163 + Cal.lp y) := by simp [Cal.days, Cal.cum, Cal.acc]; omega
theorem d7 (y : Int) : Cal.days y ((6 : Nat) + 1) 13 = Cal.ys y + (193 + Cal.lp y) := by simp [Cal.days, Cal.cum, Cal.acc]; omega
theorem d8 (y : Int) : Cal.days y ((7 : Nat) + 1) 13 = Cal.ys y + (224 + Cal.lp y) := by simp [Cal.days, Cal.cum, Cal.acc]; omega
theorem d9 (y : Int) : Cal.days y ((8 : Nat) + 1) 13 = Cal.ys y + (255 + Cal.lp y) := by simp [Cal.days, Cal.cum, Cal.acc]; omega
theorem d10 (y : Int) : Cal.days y ((9 : Nat) + 1) 13 = Cal.ys y + (285 + Cal.lp y) := by simp [Cal.days, Cal.cum, Cal.acc]; omega
theorem d11 (y : Int) : Cal.days y ((10 : Nat) + 1) 13 = Cal.ys y + (316 + Cal.lp y) := by simp [Cal.days, Cal.cum, Cal.acc]; omega
theorem d12 (y : Int) : Cal.days y ((11 : Nat) + 1) 13 = Cal.ys y + (346 + Cal.lp y) := by simp [Cal.days, Cal.cum, Cal.acc]; omega
/-- the same count, out of the weekday of January 1 and of whether the year is a leap year -/
def friR (r l : Int) : Int :=
  0 + (if (r + (12)) % 7 = 5 then 1 else 0) + (if (r + (43)) % 7 = 5 then 1 else 0) + (if (r + (71 + l)) % 7 = 5 then 1 else 0) + (if (r + (102 + l)) % 7 = 5 then 1 else 0) + (if (r + (132 + l)) % 7 = 5 then 1 else 0) + (if (r + (163 + l)) % 7 = 5 then 1 else 0) + (if (r + (193 + l)) % 7 = 5 then 1 else 0) + (if (r + (224 + l)) % 7 = 5 then 1 else 0) + (if (r + (255 + l)) % 7 = 5 then 1 else 0) + (if (r + (285 + l)) % 7 = 5 then 1 else 0) + (if (r + (316 + l)) % 7 = 5 then 1 else 0) + (if (r + (346 + l)) % 7 = 5 then 1 else 0)
theorem fri_eq (y : Int) {r : Int} (h : (Cal.ys y + 135146) % 7 = r) : fri y 12 = friR r (Cal.lp y) := by
  simp only [fri, friR, d1, d2, d3, d4, d5, d6, d7, d8, d9, d10, d11, d12, em h]
theorem friR_bd {r l : Int} (r1 : 0 ≤ r) (r2 : r < 7) (l1 : 0 ≤ l) (l2 : l ≤ 1) : 1 ≤ friR r l ∧ friR r l ≤ 3 := by
  have hr7 : r = 0 ∨ r = 1 ∨ r = 2 ∨ r = 3 ∨ r = 4 ∨ r = 5 ∨ r = 6 := by omega
  have hl2 : l = 0 ∨ l = 1 := by omega
  rcases hr7 with h | h | h | h | h | h | h <;> rcases hl2 with k | k <;> subst h <;> subst k <;> decide
theorem one_to_three (y : Int) : 1 ≤ fri y 12 ∧ fri y 12 ≤ 3 := by
  rw [fri_eq y rfl]
  exact friR_bd (by omega) (by omega) (Cal.lp_bd y).1 (Cal.lp_bd y).2

set_option maxHeartbeats 2000000 in
theorem walk (n : Int) (n1 : -9223372036854775808 ≤ n) (n2 : n ≤ 9223372036854775807) (w : World) (hl : HasLen w) :
    Calls Tryd.prog 11 #[.int .i64 n] w fun e w' => e = .returned (.bool true) ∧ Gr w w' := by
  go_enter Tryd.func11, Tryd.ntmps11
  go_wp2_with fail
  refine (dated_any w hl).mono ?_
  rintro e w1 ⟨rfl, rfl⟩
  go_wp2_with fail
  refine (date_some n 0 0 w n1 n2 (by omega) (by omega) (by omega) (by omega)).mono ?_
  rintro e w1 ⟨y, mm, dd, hv, rfl, hg⟩
  have hl1 := hg.len hl
  have h1 := hv.1
  have h2 := hv.2.1
  clear hv
  go_wp2
  go_loop [3, 4] (fun s i => ∃ k : Nat, k ≤ 12 ∧ i = .int .i64 (k + 1) ∧ s = .int .i64 (fri y k)) (fun _ i => (13 - intOf i).toNat)
  case atStart => exact ⟨0, by omega, rfl, rfl⟩
  case round =>
    obtain ⟨k, hk, rfl, rfl⟩ := hrel
    have fb := fri_bd y k
    obtain ⟨fb1, fb2⟩ := fb
    by_cases hlt : k < 12
    · have hf := thirteen y (m := k + 1) h1 h2 (by omega) (by omega)
      have db := Cal.days_bd hf
      go_wp2_with fail
      refine (days_yes y (k + 1) 13 w1 hl1 hf).mono ?_
      rintro e w2 ⟨rfl, rfl⟩
      go_wp2_with fail
      refine (weekday_yes (Cal.days y (k + 1) 13) w1 db.1 db.2).mono ?_
      rintro e w2 ⟨rfl, rfl⟩
      by_cases h5 : (Cal.days y (k + 1) 13 + 135146) % 7 = 5
      · have t : ((Cal.days y (k + 1) 13 + 135146) % 7 == 5) = true := by simpa using h5
        have F : Hid (fri y (k + 1) = fri y k + 1) := fri_yes h5
        clear h5
        go_wp2
        go_round
        case rel => exact ⟨k + 1, by omega, by go_num, by rw [F.out]⟩
        case measure => simp [intOf]; omega
      · have t : ((Cal.days y (k + 1) 13 + 135146) % 7 == 5) = false := by simpa using h5
        have F : Hid (fri y (k + 1) = fri y k) := fri_no h5
        clear h5
        go_wp2
        go_round
        case rel => exact ⟨k + 1, by omega, by go_num, by rw [F.out]⟩
        case measure => simp [intOf]; omega
    · obtain rfl : k = 12 := by omega
      have o := one_to_three y
      obtain ⟨o1, o2⟩ := o
      go_wp2
      go_ret
      exact ⟨rfl, hg⟩


theorem own : ownKnob Tryd.prog.godebug = none := by kernel_rfl
theorem gTab : Tryd.prog.globalNamed "timeball/civil.lengths" = some 0 := by kernel_rfl
theorem gTabType : (Tryd.prog.globals[0]?).map (·.type) = some 40 := by kernel_rfl
theorem cellsT : Tryd.prog.cellsOf 40 = 12 := by kernel_rfl
theorem cells3 : Tryd.prog.cellsOf 3 = 1 := by kernel_rfl

/-- What the row's list gives: the table's cells hold its twelve numbers. -/
theorem table {W : World} (h : laidMetH Tryd.prog Rows.civilFridayRow.laid W) : HasLen W := by
  have t : Lib.TabIs Tryd.prog W "timeball/civil.lengths" .i64 Cal.tab := Lib.tabIs_of_head (rest := []) gTab gTabType Tryd.underlying40 Tryd.underlying3 cells3 cellsT h
  exact ⟨World.block_lt_of_cell? W ⟨0, 0, none⟩ (t.cell gTab 0 (by decide)), fun i hi => t.cell gTab i hi⟩

theorem contract (H : Type) (enc : TypeId × Value → H) (W : World) (base : Nat) (args : Array Value) (ds gs : List (DataW H)) (before : List MemPlace)
    (hval : ∀ (j : Nat) t v, Tryd.f11.params[j]? = some t → args[j]? = some v → Value.okWide Tryd.prog W .any base t v)
    (hW : DataW.Whole enc Tryd.prog Tryd.f11.params.toList Rows.civilFridaySpec.vars false W args.toList ds gs before) (hL : laidMetH Tryd.prog Rows.civilFridayRow.laid W) :
    Calls Tryd.prog 11 args W fun e W' => ∃ v, e = .returned v ∧ Rows.civilFridaySpec.post enc Tryd.prog Tryd.f11 false true false false W args v W' := by
  have hW' := hW
  obtain ⟨p, q, hA0, hV, rfl, hfz, hnd⟩ := hW
  have hA : DataW.TrodAll enc Tryd.prog W 0 (fun _ => true) true Tryd.f11.params.toList args.toList ds p := hA0
  rw [Tryd.params11] at hA hval
  obtain ⟨v0, vs0, d0, ds0, p0, q0, hargs, rfl, rfl, h0, r0⟩ := trodAll_cons hA
  obtain ⟨rfl, rfl, rfl⟩ := trodAll_nil r0
  obtain rfl : args = #[v0] := by cases args; simp_all
  obtain ⟨rfl, rfl⟩ := trodVars_none hV
  obtain ⟨a0, rfl, rfl, rfl, w0⟩ := open_int Tryd.underlying3 (hval 0 3 v0 rfl rfl) h0
  clear hA0
  simp only [List.append_nil] at hW'
  refine (walk a0 (bounds_i64 w0).1 (bounds_i64 w0).2 W (table hL)).mono fun e W' ⟨he, hg0⟩ => ?_
  have hg := hg0.grown
  subst he
  exact ⟨_, rfl, post_of_same (pa := []) (pv := []) hW' (fun _ _ _ => trodAll_cons_mk (shut_bool Tryd.underlying4 _) trodAll_mk0) (fun _ _ => (trodAll_cons_mk (shut_int Tryd.underlying3 w0) trodAll_mk0)) (fun _ _ => rfl) rfl
    (hg.frame _) hg.2.1 (ok_one (by kernel_rfl) rfl (okWide_bool_mk Tryd.underlying4 _))⟩

/-- A world for the witness: the settled one, the table (block 0) holding what its initialiser lays. -/
noncomputable def laidWorld (os : Os) : World :=
  { World.holding Tryd.prog os ⟨#[], #[], []⟩ with heap := (World.holding Tryd.prog os ⟨#[], #[], []⟩).heap.modify 0 fun
      | .cells _ t frozen => .cells #[.int .i64 31, .int .i64 28, .int .i64 31, .int .i64 30, .int .i64 31, .int .i64 30, .int .i64 31, .int .i64 31, .int .i64 30, .int .i64 31, .int .i64 30, .int .i64 31] t frozen
      | o => o }
theorem laid_met (os : Os) : laidMet Tryd.prog Rows.civilFridayRow.laid ((laidWorld os).forCall (fun _ _ => 0) ⟨#[], #[.int .i64 0], []⟩).memory :=
  laidMet_of_run' 8 (by kernel_rfl) (by kernel_rfl)
theorem reads (os : Os) {H : Type} (enc : TypeId × Value → H) : ∃ places, DataW.whole enc Tryd.prog ((laidWorld os).forCall (fun _ _ => 0) ⟨#[], #[.int .i64 0], []⟩).memory Tryd.f11.params.toList Rows.civilFridaySpec.vars false #[Value.int .i64 0].toList 8 = some ([.lit (.int .i64 0)], [], places) :=
  ⟨[], by kernel_rfl⟩

set_option maxRecDepth 100000 in
theorem lifted (os : Os) (started : os.Started) (H : Type) (enc : TypeId × Value → H) (F : Stop.Interp) :
    ReturnsInHanded {} Tryd.checked os 11 .any ((OpenSpec.ofChange Rows.civilFridaySpec).preRow enc Tryd.prog Tryd.f11 Rows.civilFridayRow.domain false Rows.civilFridayRow.laid) (((OpenSpec.ofChange Rows.civilFridaySpec).at F).post enc Tryd.prog Tryd.f11 false true false false) := by
  obtain ⟨places, hx⟩ := reads os enc
  refine returnsInHanded_of_row (C := Tryd.checked) (s := OpenSpec.ofChange Rows.civilFridaySpec) own started (by kernel_rfl) Tryd.func11
    (witness_row_at (enc := enc) (C := Tryd.checked) false (laidWorld os) #[.int .i64 0] rfl (by kernel_rfl) (by kernel_rfl) (by kernel_rfl)
      (OpenSpec.preRow_of_cond 8 hx (by kernel_rfl) (fun k hk => by cases hk) (by kernel_rfl) (laid_met os))) ?_
  intro W base args ds gs before hval hW _ _ _ hL _ _
  exact contract H enc W base args ds gs before hval hW hL

theorem said : Rows.CivilFridaySaid :=
  OpenClaim.holds_of_cond 11 Tryd.f11 rfl rfl rfl rfl rfl rfl rfl ⟨rfl, rfl, rfl, rfl, rfl⟩ rfl rfl rfl rfl rfl (by kernel_rfl) Tryd.func11 (by kernel_rfl)
    (of_decide_eq_true (by kernel_rfl)) (by unfold Func.isWrapper; first | (rw [if_pos (by decide +kernel)]; kernel_rfl) | (rw [if_neg (by decide +kernel)]; exact ⟨rfl, rfl⟩))
    (fun os started H enc _ F => by rw [OpenClaim.pre_eq_preRow]; exact lifted os started H enc F)

/-- No parameter wants a stand-in; the program's own looks are off. -/
theorem plain (f : FuncId) (fn : Func) (hf : Tryd.pinned.checked.prog.funcNamed "timeball/timeballkeep.CivilFriday" = some f) (hfn : Tryd.pinned.checked.prog.funcs[f]? = some fn) :
    false = Tryd.pinned.checked.prog.looks [] ∧ ∀ (j : Nat) t, fn.params[j]? = some t → Tryd.pinned.checked.prog.wantsStandIn t = false := by
  obtain rfl : f = 11 := Option.some.inj ((show Tryd.prog.funcNamed "timeball/timeballkeep.CivilFriday" = some 11 by kernel_rfl).symm.trans hf) |>.symm
  obtain rfl : fn = Tryd.f11 := (Option.some.inj (Tryd.func11.symm.trans hfn)).symm
  refine ⟨by kernel_rfl, fun j t ht => ?_⟩
  rw [Tryd.params11] at ht
  obtain rfl : t = 3 := by simpa using Array.mem_of_getElem? ht
  exact (show Tryd.prog.wantsStandIn 3 = false by kernel_rfl)

end Go.Proofs.YtoiedfkekghppaaDoor.civilFriday
namespace Go.Proofs.YtoiedfkekghppaaDoor
/-- The card. -/
theorem civilFriday_holds : Rows.CivilFridayCardSaid :=
  Claim7.holds_tied_plain_at .later [] _ _ _ _ civilFriday.said (fun _ h => by cases h) (by kernel_rfl) (fun _ h => by cases h) civilFriday_row_tie rfl ⟨rfl, rfl⟩ (by kernel_rfl) rfl civilFriday.plain (by kernel_rfl)
end Go.Proofs.YtoiedfkekghppaaDoor
