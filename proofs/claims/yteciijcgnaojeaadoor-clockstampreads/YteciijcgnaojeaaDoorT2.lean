/- What the reference's Stamp returns, for every input. -/
import Derived.Test.YteciijcgnaojeaaDoorT1
import Derived.Test.YteciijcgnaojeaaDoorW5
namespace Go.Proofs.YteciijcgnaojeaaDoor
set_option linter.unusedVariables false
set_option linter.unusedSimpArgs false
open Go.RowKit

theorem whole_day {n r : Int} (h1 : 0 ≤ r) (h2 : r < 86400) : (86400 * n + r) % 86400 = r := by omega

set_option maxHeartbeats 1000000 in
theorem rstamp_yes (t y m d r : Int) (w : World) (hv : Cal.Valid y m d) (h1 : 0 ≤ r) (h2 : r < 86400) (ht : 86400 * Cal.days y m d + r = t) :
    Calls Tryd.prog 19 #[.int .i64 t] w fun e w' => e = strInt (S (stampL y m d r)) 0 ∧ Gr w w' := by
  have hb := Cal.days_bd hv
  have hr : t % 86400 = r := by rw [← ht]; exact whole_day h1 h2
  have hd : (t - r).tdiv 86400 = Cal.days y m d := by
    have : t - r = 86400 * Cal.days y m d := by omega
    rw [this]; exact Int.mul_tdiv_cancel_left _ (by omega)
  have t1 : -11676096000 ≤ t := by omega
  have t2 : t ≤ 13569465600 := by omega
  have HT := Lib.hid ht
  have c1 := rest_any t 86400 w (by omega) (by omega) (by omega) (by omega)
  rw [hr] at c1
  have v1 := hv.1
  have v2 := hv.2.1
  have v3 := hv.2.2.1
  have v4 := hv.2.2.2.1
  have v5 := hv.2.2.2.2.1
  have v6 : d ≤ 31 := by have := (Cal.ml_bd y v3 v4).2; have := hv.2.2.2.2.2; omega
  have HD := Lib.hid hd
  clear hr ht hd hb
  go_enter Tryd.func19, Tryd.ntmps19
  go_wp2_with fail
  refine c1.mono ?_
  rintro e w1 ⟨rfl, rfl⟩
  clear c1
  go_wp2_with fail
  rw [HD.out]
  refine (rdate_yes (Cal.days y m d) y m d w hv rfl).mono ?_
  rintro e w1 ⟨rfl, hg1⟩
  go_wp2_with fail
  refine (fixed_four y w1 (by omega) (by omega)).mono ?_
  rintro e w2 ⟨rfl, hg2⟩
  go_wp2_with fail
  refine (fixed_two m w2 (by omega) (by omega)).mono ?_
  rintro e w3 ⟨rfl, hg3⟩
  go_wp2_with fail
  refine (fixed_two d w3 (by omega) (by omega)).mono ?_
  rintro e w4 ⟨rfl, hg4⟩
  go_wp2_with fail
  refine (fixed_two (r / 3600) w4 (by omega) (by omega)).mono ?_
  rintro e w5 ⟨rfl, hg5⟩
  go_wp2_with fail
  refine (fixed_two (r / 60 % 60) w5 (by omega) (by omega)).mono ?_
  rintro e w6 ⟨rfl, hg6⟩
  go_wp2_with fail
  refine (fixed_two (r % 60) w6 (by omega) (by omega)).mono ?_
  rintro e w7 ⟨rfl, hg7⟩
  go_wp2_with fail
  go_ret2
  exact ⟨strInt_eq (by unfold stampL; simp) rfl, (((((hg1.trans hg2).trans hg3).trans hg4).trans hg5).trans hg6).trans hg7⟩

theorem stamp_far {t : Int} (t1 : -9223372036854775808 ≤ t) (t2 : t ≤ 9223372036854775807) (h : ¬ (-135140 ≤ t / 86400 ∧ t / 86400 ≤ 157053)) :
    ¬ (-135140 ≤ wrap64 ((wrap64 (t - t % 86400)).tdiv 86400) ∧ wrap64 ((wrap64 (t - t % 86400)).tdiv 86400) ≤ 157053) := by
  have e : t - t % 86400 = 86400 * (t / 86400) := by omega
  by_cases c : -9223372036854775808 ≤ t - t % 86400
  · have e1 : wrap64 (t - t % 86400) = t - t % 86400 := IntWalk.wrap64_in _ ⟨by omega, by omega⟩
    rw [e1, e, Int.mul_tdiv_cancel_left _ (by omega : (86400 : Int) ≠ 0), IntWalk.wrap64_in _ ⟨by omega, by omega⟩]
    exact h
  · have e1 : wrap64 (t - t % 86400) = t - t % 86400 + 18446744073709551616 := by unfold wrap64; omega
    rw [e1, Int.tdiv_eq_ediv_of_nonneg (by omega), IntWalk.wrap64_in _ ⟨by omega, by omega⟩]
    omega

set_option maxHeartbeats 1000000 in
theorem rstamp_no (t : Int) (w : World) (t1 : -9223372036854775808 ≤ t) (t2 : t ≤ 9223372036854775807) (h : ¬ (-135140 ≤ t / 86400 ∧ t / 86400 ≤ 157053)) :
    Calls Tryd.prog 19 #[.int .i64 t] w fun e w' => e = strInt (S []) 1 ∧ w = w' := by
  have r1 : 0 ≤ t % 86400 := by omega
  have r2 : t % 86400 < 86400 := by omega
  go_enter Tryd.func19, Tryd.ntmps19
  go_wp2_with fail
  refine (rest_any t 86400 w t1 t2 (by omega) (by omega)).mono ?_
  rintro e w1 ⟨rfl, rfl⟩
  go_wp2_with fail
  refine (rdate_no _ w (stamp_far t1 t2 h)).mono ?_
  rintro e w1 ⟨rfl, rfl⟩
  go_wp2_with fail
  go_ret2
  exact ⟨rfl, rfl⟩
end Go.Proofs.YteciijcgnaojeaaDoor
