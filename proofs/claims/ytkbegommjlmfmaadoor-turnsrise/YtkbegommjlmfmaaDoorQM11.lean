/- What the functions of package civil return (Length, Days, Date, Weekday), for every input. What the reference's functions on days of months return: DayCheck, IsTime, DayOf. What the reference's RuleCheck returns, for every rule. What the reference's DayOf returns, for every input. -/
import Derived.Test.YtkbegommjlmfmaaDoorQM02
import Derived.Test.YtkbegommjlmfmaaDoorQM09
import Derived.Deep.QuietTactic
import Derived.BigQuiet
namespace Go.Proofs.YtkbegommjlmfmaaDoor
set_option linter.unusedVariables false
set_option linter.unusedSimpArgs false
open Go.RowKit
set_option maxHeartbeats 400000 in
theorem length_yes (y m : Int) (w : World) (hl : HasLen w) (h1 : 1600 ≤ y) (h2 : y ≤ 2399) (h3 : 1 ≤ m) (h4 : m ≤ 12) :
    Calls Tryd.prog 22 #[.int .i64 y, .int .i64 m] w fun e w' => e = two (Cal.ml y m) 0 ∧ w = w' := by
  go_enter Tryd.func22, Tryd.ntmps22
  go_wp2_with (first | (go_at_call 42; refine (monthLength_any _ _ _ hl (by omega) (by omega) (by omega) (by omega)).mono ?_; rintro e w' ⟨rfl, rfl⟩) | go_in)
  go_ret2
  exact ⟨rfl, rfl⟩

set_option maxHeartbeats 400000 in
theorem length_no (y m : Int) (w : World) (h : ¬ (1600 ≤ y ∧ y ≤ 2399 ∧ 1 ≤ m ∧ m ≤ 12)) :
    Calls Tryd.prog 22 #[.int .i64 y, .int .i64 m] w fun e w' => e = two 0 1 ∧ w = w' := by
  by_cases h1 : 1600 ≤ y
  · by_cases h2 : y ≤ 2399
    · by_cases h3 : 1 ≤ m
      · have h4 : decide (m ≤ 12) = false := by simp; omega
        clear h
        go_enter Tryd.func22, Tryd.ntmps22
        go_wp2
        go_ret2
        exact ⟨rfl, rfl⟩
      · clear h
        go_enter Tryd.func22, Tryd.ntmps22
        go_wp2
        go_ret2
        exact ⟨rfl, rfl⟩
    · clear h
      go_enter Tryd.func22, Tryd.ntmps22
      go_wp2
      go_ret2
      exact ⟨rfl, rfl⟩
  · clear h
    go_enter Tryd.func22, Tryd.ntmps22
    go_wp2
    go_ret2
    exact ⟨rfl, rfl⟩

set_option maxHeartbeats 1000000 in
theorem days_yes (y m d : Int) (w : World) (hl : HasLen w) (hv : Cal.Valid y m d) :
    Calls Tryd.prog 33 #[.int .i64 y, .int .i64 m, .int .i64 d] w fun e w' => e = two (Cal.days y m d) 0 ∧ w = w' := by
  obtain ⟨h1, h2, h3, h4, h5, h6⟩ := hv
  have h7 := Cal.ml_bd y h3 h4
  have h8 := Cal.ys_bd h1 (by omega : y ≤ 2400)
  go_enter Tryd.func33, Tryd.ntmps33
  go_wp2_with (first | (go_at_call 42; refine (monthLength_any _ _ _ hl (by omega) (by omega) (by omega) (by omega)).mono ?_; rintro e w' ⟨rfl, rfl⟩) | (go_at_call 49; refine (yearStart_any _ _ (by omega) (by omega)).mono ?_; rintro e w' ⟨rfl, rfl⟩) | go_in)
  go_loop [8, 9] (fun n i => ∃ k : Int, 1 ≤ k ∧ k ≤ m ∧ i = .int .i64 k ∧ n = .int .i64 (Cal.ys y + Cal.cum y k)) (fun _ i => (m - intOf i).toNat)
  case atStart => exact ⟨1, by omega, by omega, rfl, by rw [Cal.cum_one]; simp⟩
  case round =>
    obtain ⟨k, hk1, hk2, rfl, rfl⟩ := hrel
    have hb := Cal.cum_bd y hk1 (by omega : k ≤ 13)
    have hm := Cal.ml_bd y hk1 (by omega : k ≤ 12)
    by_cases hlt : k < m
    · go_wp2_with (first | (go_at_call 42; refine (monthLength_any _ _ _ hl (by omega) (by omega) (by omega) (by omega)).mono ?_; rintro e w' ⟨rfl, rfl⟩) | go_in)
      go_round
      case rel => exact ⟨k + 1, by omega, by omega, by go_num, by rw [Cal.cum_succ y hk1 (by omega)]; go_num⟩
      case measure => simp [intOf]; omega
    · obtain rfl : k = m := by omega
      go_wp2
      go_ret2
      exact ⟨two_eq (by unfold Cal.days; omega) rfl, rfl⟩

theorem guess {n y : Int} (h1 : 1600 ≤ y) (h : n < Cal.ys (y + 1)) : 1600 + (n + 135140) / 366 ≤ y := by
  unfold Cal.ys at h; omega

set_option maxHeartbeats 1000000 in
theorem yearOf_any (n y : Int) (w : World) (h1 : 1600 ≤ y) (h2 : y ≤ 2399) (h3 : Cal.ys y ≤ n) (h4 : n < Cal.ys (y + 1)) :
    Calls Tryd.prog 66 #[.int .i64 n] w fun e w' => e = .returned (.int .i64 y) ∧ w = w' := by
  have g := guess h1 h4
  have b1 := Cal.ys_bd h1 (by omega : y ≤ 2400)
  have b2 := Cal.ys_bd (by omega : 1600 ≤ y + 1) (by omega : y + 1 ≤ 2400)
  go_enter Tryd.func66, Tryd.ntmps66
  go_wp2
  go_loop [3] (fun t => ∃ k : Int, 1600 ≤ k ∧ k ≤ y ∧ t = .int .i64 k) (fun t => (y - intOf t).toNat)
  case atStart => exact ⟨_, by omega, by omega, rfl⟩
  case round =>
    obtain ⟨k, hk1, hk2, rfl⟩ := hrel
    by_cases hlt : k < y
    · have hy : Cal.ys (k + 1) ≤ n := by have := Cal.ys_mono (a := k + 1) (b := y) (by omega); omega
      clear h4 g
      go_wp2_with (go_at_call 49; refine (yearStart_any _ _ (by omega) (by omega)).mono ?_; rintro e w' ⟨rfl, rfl⟩)
      go_round
      case rel => exact ⟨k + 1, by omega, by omega, rfl⟩
      case measure => simp [intOf]; omega
    · obtain rfl : k = y := by omega
      go_wp2_with (go_at_call 49; refine (yearStart_any _ _ (by omega) (by omega)).mono ?_; rintro e w' ⟨rfl, rfl⟩)
      go_ret
      exact ⟨rfl, rfl⟩

set_option maxHeartbeats 1000000 in
theorem date_yes (n y m d : Int) (w : World) (hl : HasLen w) (hv : Cal.Valid y m d) (hn : Cal.days y m d = n) :
    Calls Tryd.prog 59 #[.int .i64 n] w fun e w' => e = four y m d 0 ∧ w = w' := by
  have hi := Cal.days_in hv
  have hb := Cal.days_bd hv
  have hd : n - Cal.ys y - Cal.cum y m + 1 = d := by unfold Cal.days at hn; omega
  rw [hn] at hi hb
  have HD : Hid (n - Cal.ys y - Cal.cum y m + 1 = d) := hd
  obtain ⟨h1, h2, h3, h4, h5, h6⟩ := hv
  obtain ⟨i1, i2, i3, i4⟩ := hi
  obtain ⟨b1, b2⟩ := hb
  have b3 := Cal.ys_bd h1 (by omega : y ≤ 2400)
  clear hd hn h5 h6
  go_enter Tryd.func59, Tryd.ntmps59
  go_wp2_with (first | (go_at_call 66; refine (yearOf_any _ y _ h1 h2 i3 i4).mono ?_; rintro e w' ⟨rfl, rfl⟩) | (go_at_call 49; refine (yearStart_any _ _ (by omega) (by omega)).mono ?_; rintro e w' ⟨rfl, rfl⟩) | go_in)
  go_loop [7, 8] (fun i r => ∃ k : Int, 1 ≤ k ∧ k ≤ m ∧ i = .int .i64 k ∧ r = .int .i64 (n - Cal.ys y - Cal.cum y k)) (fun i _ => (m - intOf i).toNat)
  case atStart => exact ⟨1, by omega, by omega, rfl, by rw [Cal.cum_one]; simp⟩
  case round =>
    obtain ⟨k, hk1, hk2, rfl, rfl⟩ := hrel
    have cb := Cal.cum_bd y hk1 (by omega : k ≤ 13)
    have hm := Cal.ml_bd y hk1 (by omega : k ≤ 12)
    by_cases hlt : k < m
    · have hc := Cal.cum_mono y hk1 hlt (by omega)
      have hge : Cal.ml y k ≤ n - Cal.ys y - Cal.cum y k := by omega
      clear i4
      go_wp2_with (go_at_call 42; refine (monthLength_any _ _ _ hl (by omega) (by omega) (by omega) (by omega)).mono ?_; rintro e w' ⟨rfl, rfl⟩)
      go_round
      case rel => exact ⟨k + 1, by omega, by omega, by go_num, by rw [Cal.cum_succ y hk1 (by omega)]; go_num⟩
      case measure => simp [intOf]; omega
    · obtain rfl : k = m := by omega
      have hge : n - Cal.ys y - Cal.cum y k < Cal.ml y k := by omega
      clear i4
      go_wp2_with (go_at_call 42; refine (monthLength_any _ _ _ hl (by omega) (by omega) (by omega) (by omega)).mono ?_; rintro e w' ⟨rfl, rfl⟩)
      ((try simp only [Exit.inBlock, Exit.then]); refine bodyPost_ret (results_tmp4 rfl _ _ _) rfl ?_)
      exact ⟨four_eq rfl rfl HD.out rfl, rfl⟩

set_option maxHeartbeats 400000 in
theorem date_no (n : Int) (w : World) (h : ¬ (-135140 ≤ n ∧ n ≤ 157053)) :
    Calls Tryd.prog 59 #[.int .i64 n] w fun e w' => e = four 0 0 0 1 ∧ w = w' := by
  by_cases h1 : -135140 ≤ n
  · have h2 : decide (n ≤ 157053) = false := by simp; omega
    clear h
    go_enter Tryd.func59, Tryd.ntmps59
    go_wp2
    ((try simp only [Exit.inBlock, Exit.then]); refine bodyPost_ret (results_tmp4 rfl _ _ _) rfl ?_)
    exact ⟨rfl, rfl⟩
  · clear h
    go_enter Tryd.func59, Tryd.ntmps59
    go_wp2
    ((try simp only [Exit.inBlock, Exit.then]); refine bodyPost_ret (results_tmp4 rfl _ _ _) rfl ?_)
    exact ⟨rfl, rfl⟩

set_option maxHeartbeats 400000 in
theorem weekday_yes (n : Int) (w : World) (h1 : -135140 ≤ n) (h2 : n ≤ 157053) :
    Calls Tryd.prog 34 #[.int .i64 n] w fun e w' => e = two ((n + 135146) % 7) 0 ∧ w = w' := by
  go_enter Tryd.func34, Tryd.ntmps34
  go_wp2
  go_ret2
  exact ⟨two_eq (by omega) rfl, rfl⟩

set_option maxHeartbeats 400000 in
theorem weekday_no (n : Int) (w : World) (h : ¬ (-135140 ≤ n ∧ n ≤ 157053)) :
    Calls Tryd.prog 34 #[.int .i64 n] w fun e w' => e = two 0 1 ∧ w = w' := by
  by_cases h1 : -135140 ≤ n
  · have h2 : decide (n ≤ 157053) = false := by simp; omega
    clear h
    go_enter Tryd.func34, Tryd.ntmps34
    go_wp2
    go_ret2
    exact ⟨rfl, rfl⟩
  · clear h
    go_enter Tryd.func34, Tryd.ntmps34
    go_wp2
    go_ret2
    exact ⟨rfl, rfl⟩
end Go.Proofs.YtkbegommjlmfmaaDoor
namespace Go.Proofs.YtkbegommjlmfmaaDoor
set_option linter.unusedVariables false
set_option linter.unusedSimpArgs false
open Go.RowKit
/-- a day of a month as a value -/
abbrev dayV (k d n : Int) : Value := .agg #[.int .i64 k, .int .i64 d, .int .i64 n]
def DayOk (k d n : Int) : Prop := (1 ≤ k ∧ k ≤ 4) ∧ (0 ≤ d ∧ d ≤ 6) ∧ (k = 1 → d = 0) ∧ (k = 2 → n = 0) ∧ (k ≠ 2 → 1 ≤ n ∧ n ≤ 31)
instance (k d n : Int) : Decidable (DayOk k d n) := by unfold DayOk; infer_instance
/-- what DayCheck answers -/
def dchk (k d n : Int) : Int := if DayOk k d n then 0 else 1

theorem dchk_yes {k d n : Int} (h : DayOk k d n) : dchk k d n = 0 := by unfold dchk; exact if_pos h
theorem dchk_no {k d n : Int} (h : ¬ DayOk k d n) : dchk k d n = 1 := by unfold dchk; exact if_neg h
end Go.Proofs.YtkbegommjlmfmaaDoor
namespace Go.Proofs.YtkbegommjlmfmaaDoor
set_option linter.unusedVariables false
set_option linter.unusedSimpArgs false
open Go.RowKit
/-- a rule as a value -/
abbrev ruleV (nm : ByteArray) (fr tto mo k d n at' by' sv : Int) (lt : ByteArray) : Value :=
  .agg #[.string nm, .int .i64 fr, .int .i64 tto, .int .i64 mo, .int .i64 k, .int .i64 d, .int .i64 n, .int .i64 at', .int .i64 by', .int .i64 sv, .string lt]
/-- its words can be read -/
def RuleSyn (nm lt : List UInt8) : Prop := isNameB nm = true ∧ (lt = [45] ∨ isAbbrB lt = true)
def RuleNum (fr tto mo : Int) : Prop := (1900 ≤ fr ∧ fr ≤ 2100) ∧ (1900 ≤ tto ∧ tto ≤ 2100) ∧ fr ≤ tto ∧ 1 ≤ mo ∧ mo ≤ 12
def RuleRest (mo n at' by' sv : Int) : Prop := n ≤ Cal.ml 1999 mo ∧ (-604800 ≤ at' ∧ at' ≤ 604800) ∧ (0 ≤ by' ∧ by' ≤ 2) ∧ 0 ≤ sv ∧ sv ≤ 10800
instance (nm lt : List UInt8) : Decidable (RuleSyn nm lt) := by unfold RuleSyn; infer_instance
instance (fr tto mo : Int) : Decidable (RuleNum fr tto mo) := by unfold RuleNum; infer_instance
instance (mo n at' by' sv : Int) : Decidable (RuleRest mo n at' by' sv) := by unfold RuleRest; infer_instance
/-- what RuleCheck answers -/
def ruleC (nm lt : List UInt8) (fr tto mo k d n at' by' sv : Int) : Int :=
  if RuleSyn nm lt then (if RuleNum fr tto mo then (if DayOk k d n then (if RuleRest mo n at' by' sv then 0 else 1) else 1) else 1) else 3

/-- a rule lies in a block of its own -/
def RuleAt (w W : World) (b : Nat) (nm : ByteArray) (fr tto mo k d n at' by' sv : Int) (lt : ByteArray) : Prop :=
  W.cell? ⟨b, 0, none⟩ = some (.string nm) ∧ W.cell? ⟨b, 1, none⟩ = some (.int .i64 fr) ∧ W.cell? ⟨b, 2, none⟩ = some (.int .i64 tto) ∧ W.cell? ⟨b, 3, none⟩ = some (.int .i64 mo) ∧ W.cell? ⟨b, 4, none⟩ = some (.int .i64 k) ∧
  W.cell? ⟨b, 5, none⟩ = some (.int .i64 d) ∧ W.cell? ⟨b, 6, none⟩ = some (.int .i64 n) ∧ W.cell? ⟨b, 7, none⟩ = some (.int .i64 at') ∧ W.cell? ⟨b, 8, none⟩ = some (.int .i64 by') ∧ W.cell? ⟨b, 9, none⟩ = some (.int .i64 sv) ∧
  W.cell? ⟨b, 10, none⟩ = some (.string lt) ∧ Gr w W
theorem RuleAt.gr {w W W' : World} {b : Nat} {nm : ByteArray} {fr tto mo k d n at' by' sv : Int} {lt : ByteArray} (h : RuleAt w W b nm fr tto mo k d n at' by' sv lt) (g : Gr W W') : RuleAt w W' b nm fr tto mo k d n at' by' sv lt := by
  obtain ⟨h0, h1, h2, h3, h4, h5, h6, h7, h8, h9, h10, hg⟩ := h
  exact ⟨g.holds h0, g.holds h1, g.holds h2, g.holds h3, g.holds h4, g.holds h5, g.holds h6, g.holds h7, g.holds h8, g.holds h9, g.holds h10, hg.trans g⟩
theorem RuleAt.new (w : World) (T : TypeId) (nm : ByteArray) (fr tto mo k d n at' by' sv : Int) (lt : ByteArray) :
    RuleAt w (w.alloc (.cells #[.string nm, .int .i64 fr, .int .i64 tto, .int .i64 mo, .int .i64 k, .int .i64 d, .int .i64 n, .int .i64 at', .int .i64 by', .int .i64 sv, .string lt] T)) w.heap.size nm fr tto mo k d n at' by' sv lt := by
  refine ⟨?_, ?_, ?_, ?_, ?_, ?_, ?_, ?_, ?_, ?_, ?_, Gr.alloc _ _⟩ <;> (rw [World.cell?_alloc_new]; rfl)
end Go.Proofs.YtkbegommjlmfmaaDoor
namespace Go.Proofs.YtkbegommjlmfmaaDoor
set_option linter.unusedVariables false
set_option linter.unusedSimpArgs false
open Go.RowKit
/-- the first day from one on that is a given weekday -/
def nd (a d : Int) : Int := a + (d - (a + 135146)) % 7
theorem nd_bd (a d : Int) : a ≤ nd a d ∧ nd a d ≤ a + 6 := by unfold nd; omega
/-- the day that is looked for -/
def dayT (y m k d n : Int) : Int := if k = 1 then Cal.days y m 1 + n - 1 else if k = 2 then nd (Cal.days y m 1 + Cal.ml y m - 7) d else if k = 3 then nd (Cal.days y m 1 + n - 1) d else nd (Cal.days y m 1 + n - 1 - 6) d
/-- what DayOf answers -/
def dayA (y m k d n : Int) : Ending := if DayOk k d n then (if 1600 ≤ y ∧ y ≤ 2399 ∧ 1 ≤ m ∧ m ≤ 12 then (if Cal.ml y m < n then two 0 6 else if -135140 ≤ dayT y m k d n ∧ dayT y m k d n ≤ 157053 then two (dayT y m k d n) 0 else two 0 1) else two 0 1) else two 0 1

theorem dayA_ok {y m k d n : Int} (h : DayOk k d n) (h1 : 1600 ≤ y) (h2 : y ≤ 2399) (h3 : 1 ≤ m) (h4 : m ≤ 12) (hl : ¬ Cal.ml y m < n) : dayA y m k d n = if -135140 ≤ dayT y m k d n ∧ dayT y m k d n ≤ 157053 then two (dayT y m k d n) 0 else two 0 1 := by
  unfold dayA; rw [if_pos h, if_pos ⟨h1, h2, h3, h4⟩, if_neg hl]
end Go.Proofs.YtkbegommjlmfmaaDoor
