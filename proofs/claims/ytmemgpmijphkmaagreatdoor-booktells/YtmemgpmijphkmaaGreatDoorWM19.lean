/- What the reference's Date returns, for every input. What the reference's Stamp returns, for every input. What the reference's StampRead returns, for every input. -/
import Derived.Test.YtmemgpmijphkmaaGreatDoorWM05
import Derived.Test.YtmemgpmijphkmaaGreatDoorWM02
import Derived.Deep.QuietTactic
import Derived.BigQuiet
import Derived.Lib.Strings
import Derived.Test.YtmemgpmijphkmaaGreatDoorWM06
namespace Go.Proofs.YtmemgpmijphkmaaGreatDoor
set_option linter.unusedVariables false
set_option linter.unusedSimpArgs false
open Go.RowKit
theorem guess_pos {n y : Int} (h : n < Cal.ys (y + 1)) (hn : 0 ≤ n) (h2 : y ≤ 2399) : 1970 + n / 366 ≤ y := by
  unfold Cal.ys at h; omega
theorem guess_neg {n y : Int} (h : n < Cal.ys (y + 1)) (hn : n < 0) (h0 : -135140 ≤ n) (h1 : 1600 ≤ y) : 1970 - -n / 365 - 1 ≤ y ∧ 1599 ≤ 1970 - -n / 365 - 1 := by
  unfold Cal.ys at h; omega
theorem tdiv_neg {n : Int} (hn : n < 0) : n.tdiv 365 = - (-n / 365) := by
  have h1 : (-n).tdiv 365 = -n / 365 := Int.tdiv_eq_ediv_of_nonneg (by omega)
  have h2 : (-n).tdiv 365 = - n.tdiv 365 := Int.neg_tdiv n 365
  omega

set_option maxHeartbeats 2000000 in
theorem rdate_yes (n y m d : Int) (w : World) (hv : Cal.Valid y m d) (hn : Cal.days y m d = n) :
    Calls Tryz.prog 71 #[.int .i64 n] w fun e w' => e = four y m d 0 ∧ Gr w w' := by
  have hi := Cal.days_in hv
  have hb := Cal.days_bd hv
  have hd : n - Cal.ys y - Cal.cum y m + 1 = d := by unfold Cal.days at hn; omega
  rw [hn] at hi hb
  have HD : Hid (n - Cal.ys y - Cal.cum y m + 1 = d) := hd
  obtain ⟨h1, h2, h3, h4, h5, h6⟩ := hv
  obtain ⟨i1, i2, i3, i4⟩ := hi
  obtain ⟨b1, b2⟩ := hb
  have b3 := Cal.ys_bd h1 (by omega : y ≤ 2400)
  have E1 : Hid (Cal.ys 1600 = -135140) := Cal.ys_1600
  have E2 : Hid (Cal.ys 2400 = 157054) := Cal.ys_2400
  have gp := guess_pos (y := y) i4
  have gn := guess_neg (y := y) i4
  have GP : Hid (0 ≤ n → y ≤ 2399 → 1970 + n / 366 ≤ y) := gp
  have GN : Hid (n < 0 → -135140 ≤ n → 1600 ≤ y → 1970 - -n / 365 - 1 ≤ y ∧ 1599 ≤ 1970 - -n / 365 - 1) := gn
  clear hd hn h5 h6 gp gn
  have n1 : ¬ n < Cal.ys 1600 := by rw [E1.out]; omega
  have n2 : n < Cal.ys 2400 := by rw [E2.out]; omega
  have n1' : decide (n < Cal.ys 1600) = false := by simpa using n1
  have n2' : decide (Cal.ys 2400 ≤ n) = false := by simpa using n2
  by_cases hs : n < 0
  · have t1 : -371 ≤ n.tdiv 365 := by rw [tdiv_neg hs]; omega
    have t2 : n.tdiv 365 ≤ 0 := by rw [tdiv_neg hs]; omega
    have g1 : 1970 + n.tdiv 365 - 1 ≤ y := by rw [tdiv_neg hs]; have := (GN.out hs b1 h1).1; omega
    have g2 : 1599 ≤ 1970 + n.tdiv 365 - 1 := by rw [tdiv_neg hs]; have := (GN.out hs b1 h1).2; omega
    go_enter Tryz.func71, Tryz.ntmps71
    go_wp2_with (go_at_call 116; refine (yearDay_any _ _ (by omega) (by omega)).mono ?_; rintro e w' ⟨rfl, rfl⟩)
    go_loop [6] (fun t => ∃ k : Int, 1599 ≤ k ∧ k ≤ y ∧ t = .int .i64 k) (fun t => (y - intOf t).toNat)
    case atStart => exact ⟨_, g2, g1, rfl⟩
    case round =>
      obtain ⟨k, hk1, hk2, rfl⟩ := hrel
      by_cases hlt : k < y
      · have hy : Cal.ys (k + 1) ≤ n := by have := Cal.ys_mono (a := k + 1) (b := y) (by omega); omega
        clear i4
        go_wp2_with (go_at_call 116; refine (yearDay_any _ _ (by omega) (by omega)).mono ?_; rintro e w' ⟨rfl, rfl⟩)
        go_round
        case rel => exact ⟨k + 1, by omega, by omega, rfl⟩
        case measure => simp [intOf]; omega
      · obtain rfl : k = y := by omega
        clear hlt hk2
        go_wp2_with (go_at_call 116; refine (yearDay_any _ _ (by omega) (by omega)).mono ?_; rintro e w' ⟨rfl, rfl⟩)
        refine wp_loop_rounds 1 ?_
        rw [rounds_succ]
        go_wp2_with (go_at_call 116; refine (yearDay_any _ _ (by omega) (by omega)).mono ?_; rintro e w' ⟨rfl, rfl⟩)
        go_loopw [0, 7] (fun r i wr => ∃ j : Int, 1 ≤ j ∧ j ≤ m ∧ i = .int .i64 j ∧ r = .int .i64 (n - Cal.ys k - Cal.cum k j) ∧ Gr w wr) (fun _ i _ => (m - intOf i).toNat)
        case atStart => exact ⟨1, by omega, by omega, rfl, by rw [Cal.cum_one]; simp, Gr.refl _⟩
        case round =>
          obtain ⟨j, hj1, hj2, rfl, rfl, hgr⟩ := hrel
          have cb := Cal.cum_bd k hj1 (by omega : j ≤ 13)
          have hm := Cal.ml_bd k hj1 (by omega : j ≤ 12)
          by_cases hlt : j < m
          · have hc := Cal.cum_mono k hj1 hlt (by omega)
            have hge : Cal.ml k j ≤ n - Cal.ys k - Cal.cum k j := by omega
            clear i4
            go_wp2_with (go_at_call 110; refine (rlength_yes _ _ _ (by omega) (by omega) (by omega) (by omega)).mono ?_; rintro e w2 ⟨rfl, hg2⟩)
            go_roundw
            case rel => exact ⟨j + 1, by omega, by omega, by go_num, by rw [Cal.cum_succ k hj1 (by omega)]; go_num, hgr.trans hg2⟩
            case measure => simp [intOf]; omega
          · obtain rfl : j = m := by omega
            have hge : n - Cal.ys k - Cal.cum k j < Cal.ml k j := by omega
            clear i4
            go_wp2_with (go_at_call 110; refine (rlength_yes _ _ _ (by omega) (by omega) (by omega) (by omega)).mono ?_; rintro e w2 ⟨rfl, hg2⟩)
            ((try simp only [Exit.inBlock, Exit.then]); refine bodyPost_ret (results_tmp4 rfl _ _ _) rfl ?_)
            exact ⟨four_eq rfl rfl HD.out rfl, hgr.trans hg2⟩
  · have g1 := GP.out (by omega) h2
    go_enter Tryz.func71, Tryz.ntmps71
    go_wp2_with (go_at_call 116; refine (yearDay_any _ _ (by omega) (by omega)).mono ?_; rintro e w' ⟨rfl, rfl⟩)
    go_loop [6] (fun t => ∃ k : Int, 1599 ≤ k ∧ k ≤ y ∧ t = .int .i64 k) (fun t => (y - intOf t).toNat)
    case atStart => exact ⟨_, by omega, g1, rfl⟩
    case round =>
      obtain ⟨k, hk1, hk2, rfl⟩ := hrel
      by_cases hlt : k < y
      · have hy : Cal.ys (k + 1) ≤ n := by have := Cal.ys_mono (a := k + 1) (b := y) (by omega); omega
        clear i4
        go_wp2_with (go_at_call 116; refine (yearDay_any _ _ (by omega) (by omega)).mono ?_; rintro e w' ⟨rfl, rfl⟩)
        go_round
        case rel => exact ⟨k + 1, by omega, by omega, rfl⟩
        case measure => simp [intOf]; omega
      · obtain rfl : k = y := by omega
        clear hlt hk2
        go_wp2_with (go_at_call 116; refine (yearDay_any _ _ (by omega) (by omega)).mono ?_; rintro e w' ⟨rfl, rfl⟩)
        refine wp_loop_rounds 1 ?_
        rw [rounds_succ]
        go_wp2_with (go_at_call 116; refine (yearDay_any _ _ (by omega) (by omega)).mono ?_; rintro e w' ⟨rfl, rfl⟩)
        go_loopw [0, 7] (fun r i wr => ∃ j : Int, 1 ≤ j ∧ j ≤ m ∧ i = .int .i64 j ∧ r = .int .i64 (n - Cal.ys k - Cal.cum k j) ∧ Gr w wr) (fun _ i _ => (m - intOf i).toNat)
        case atStart => exact ⟨1, by omega, by omega, rfl, by rw [Cal.cum_one]; simp, Gr.refl _⟩
        case round =>
          obtain ⟨j, hj1, hj2, rfl, rfl, hgr⟩ := hrel
          have cb := Cal.cum_bd k hj1 (by omega : j ≤ 13)
          have hm := Cal.ml_bd k hj1 (by omega : j ≤ 12)
          by_cases hlt : j < m
          · have hc := Cal.cum_mono k hj1 hlt (by omega)
            have hge : Cal.ml k j ≤ n - Cal.ys k - Cal.cum k j := by omega
            clear i4
            go_wp2_with (go_at_call 110; refine (rlength_yes _ _ _ (by omega) (by omega) (by omega) (by omega)).mono ?_; rintro e w2 ⟨rfl, hg2⟩)
            go_roundw
            case rel => exact ⟨j + 1, by omega, by omega, by go_num, by rw [Cal.cum_succ k hj1 (by omega)]; go_num, hgr.trans hg2⟩
            case measure => simp [intOf]; omega
          · obtain rfl : j = m := by omega
            have hge : n - Cal.ys k - Cal.cum k j < Cal.ml k j := by omega
            clear i4
            go_wp2_with (go_at_call 110; refine (rlength_yes _ _ _ (by omega) (by omega) (by omega) (by omega)).mono ?_; rintro e w2 ⟨rfl, hg2⟩)
            ((try simp only [Exit.inBlock, Exit.then]); refine bodyPost_ret (results_tmp4 rfl _ _ _) rfl ?_)
            exact ⟨four_eq rfl rfl HD.out rfl, hgr.trans hg2⟩

set_option maxHeartbeats 400000 in
theorem rdate_no (n : Int) (w : World) (h : ¬ (-135140 ≤ n ∧ n ≤ 157053)) :
    Calls Tryz.prog 71 #[.int .i64 n] w fun e w' => e = four 0 0 0 1 ∧ w = w' := by
  have e1 := Cal.ys_1600
  have e2 := Cal.ys_2400
  by_cases h1 : n < Cal.ys 1600
  · clear h e1 e2
    go_enter Tryz.func71, Tryz.ntmps71
    go_wp2_with (go_at_call 116; refine (yearDay_any _ _ (by omega) (by omega)).mono ?_; rintro e w' ⟨rfl, rfl⟩)
    ((try simp only [Exit.inBlock, Exit.then]); refine bodyPost_ret (results_tmp4 rfl _ _ _) rfl ?_)
    exact ⟨rfl, rfl⟩
  · have h2 : Cal.ys 2400 ≤ n := by omega
    clear h e1 e2
    go_enter Tryz.func71, Tryz.ntmps71
    go_wp2_with (go_at_call 116; refine (yearDay_any _ _ (by omega) (by omega)).mono ?_; rintro e w' ⟨rfl, rfl⟩)
    ((try simp only [Exit.inBlock, Exit.then]); refine bodyPost_ret (results_tmp4 rfl _ _ _) rfl ?_)
    exact ⟨rfl, rfl⟩
end Go.Proofs.YtmemgpmijphkmaaGreatDoor
namespace Go.Proofs.YtmemgpmijphkmaaGreatDoor
set_option linter.unusedVariables false
set_option linter.unusedSimpArgs false
open Go.RowKit
theorem whole_day {n r : Int} (h1 : 0 ≤ r) (h2 : r < 86400) : (86400 * n + r) % 86400 = r := by omega

set_option maxHeartbeats 1000000 in
theorem rstamp_yes (t y m d r : Int) (w : World) (hv : Cal.Valid y m d) (h1 : 0 ≤ r) (h2 : r < 86400) (ht : 86400 * Cal.days y m d + r = t) :
    Calls Tryz.prog 31 #[.int .i64 t] w fun e w' => e = strInt (S (stampL y m d r)) 0 ∧ Gr w w' := by
  have hb := Cal.days_bd hv
  have hr : t % 86400 = r := by rw [← ht]; exact whole_day h1 h2
  have hd : (t - r).tdiv 86400 = Cal.days y m d := by
    have : t - r = 86400 * Cal.days y m d := by omega
    rw [this]; exact Int.mul_tdiv_cancel_left _ (by omega)
  have t1 : -11676096000 ≤ t := by omega
  have t2 : t ≤ 13569465600 := by omega
  have HT := Lib.hid ht
  have c1 := rest_any t 86400 w (by omega) (by omega) (by omega) (by omega)
  rw [hr] at c1
  have v1 := hv.1
  have v2 := hv.2.1
  have v3 := hv.2.2.1
  have v4 := hv.2.2.2.1
  have v5 := hv.2.2.2.2.1
  have v6 : d ≤ 31 := by have := (Cal.ml_bd y v3 v4).2; have := hv.2.2.2.2.2; omega
  have HD := Lib.hid hd
  clear hr ht hd hb
  go_enter Tryz.func31, Tryz.ntmps31
  go_wp2_with fail
  refine c1.mono ?_
  rintro e w1 ⟨rfl, rfl⟩
  clear c1
  go_wp2_with fail
  rw [HD.out]
  refine (rdate_yes (Cal.days y m d) y m d w hv rfl).mono ?_
  rintro e w1 ⟨rfl, hg1⟩
  go_wp2_with fail
  refine (fixed_four y w1 (by omega) (by omega)).mono ?_
  rintro e w2 ⟨rfl, hg2⟩
  go_wp2_with fail
  refine (fixed_two m w2 (by omega) (by omega)).mono ?_
  rintro e w3 ⟨rfl, hg3⟩
  go_wp2_with fail
  refine (fixed_two d w3 (by omega) (by omega)).mono ?_
  rintro e w4 ⟨rfl, hg4⟩
  go_wp2_with fail
  refine (fixed_two (r / 3600) w4 (by omega) (by omega)).mono ?_
  rintro e w5 ⟨rfl, hg5⟩
  go_wp2_with fail
  refine (fixed_two (r / 60 % 60) w5 (by omega) (by omega)).mono ?_
  rintro e w6 ⟨rfl, hg6⟩
  go_wp2_with fail
  refine (fixed_two (r % 60) w6 (by omega) (by omega)).mono ?_
  rintro e w7 ⟨rfl, hg7⟩
  go_wp2_with fail
  go_ret2
  exact ⟨strInt_eq (by unfold stampL; simp) rfl, (((((hg1.trans hg2).trans hg3).trans hg4).trans hg5).trans hg6).trans hg7⟩

theorem stamp_far {t : Int} (t1 : -9223372036854775808 ≤ t) (t2 : t ≤ 9223372036854775807) (h : ¬ (-135140 ≤ t / 86400 ∧ t / 86400 ≤ 157053)) :
    ¬ (-135140 ≤ wrap64 ((wrap64 (t - t % 86400)).tdiv 86400) ∧ wrap64 ((wrap64 (t - t % 86400)).tdiv 86400) ≤ 157053) := by
  have e : t - t % 86400 = 86400 * (t / 86400) := by omega
  by_cases c : -9223372036854775808 ≤ t - t % 86400
  · have e1 : wrap64 (t - t % 86400) = t - t % 86400 := IntWalk.wrap64_in _ ⟨by omega, by omega⟩
    rw [e1, e, Int.mul_tdiv_cancel_left _ (by omega : (86400 : Int) ≠ 0), IntWalk.wrap64_in _ ⟨by omega, by omega⟩]
    exact h
  · have e1 : wrap64 (t - t % 86400) = t - t % 86400 + 18446744073709551616 := by unfold wrap64; omega
    rw [e1, Int.tdiv_eq_ediv_of_nonneg (by omega), IntWalk.wrap64_in _ ⟨by omega, by omega⟩]
    omega

set_option maxHeartbeats 1000000 in
theorem rstamp_no (t : Int) (w : World) (t1 : -9223372036854775808 ≤ t) (t2 : t ≤ 9223372036854775807) (h : ¬ (-135140 ≤ t / 86400 ∧ t / 86400 ≤ 157053)) :
    Calls Tryz.prog 31 #[.int .i64 t] w fun e w' => e = strInt (S []) 1 ∧ w = w' := by
  have r1 : 0 ≤ t % 86400 := by omega
  have r2 : t % 86400 < 86400 := by omega
  go_enter Tryz.func31, Tryz.ntmps31
  go_wp2_with fail
  refine (rest_any t 86400 w t1 t2 (by omega) (by omega)).mono ?_
  rintro e w1 ⟨rfl, rfl⟩
  go_wp2_with fail
  refine (rdate_no _ w (stamp_far t1 t2 h)).mono ?_
  rintro e w1 ⟨rfl, rfl⟩
  go_wp2_with fail
  go_ret2
  exact ⟨rfl, rfl⟩
end Go.Proofs.YtmemgpmijphkmaaGreatDoor
namespace Go.Proofs.YtmemgpmijphkmaaGreatDoor
set_option linter.unusedVariables false
set_option linter.unusedSimpArgs false
open Go.RowKit
/-- the form of a timestamp -/
def stampForm : List UInt8 := [48, 48, 48, 48, 45, 48, 48, 45, 48, 48, 84, 48, 48, 58, 48, 48, 58, 48, 48]
/-- does the text fit the form at this place? -/
def fits (l : List UInt8) (k : Nat) : Prop := if bt stampForm k = 48 then 48 ≤ bt l k ∧ bt l k ≤ 57 else bt l k = bt stampForm k

/-- Is the text a timestamp? place by place -/
def Stamped (l : List UInt8) : Prop := l.length = 19 ∧ (∀ j, j < 19 → fits l j) ∧ Cal.Valid (numv l 0 4) (numv l 5 2) (numv l 8 2) ∧ numv l 11 2 ≤ 23 ∧ numv l 14 2 ≤ 59 ∧ numv l 17 2 ≤ 59
/-- the time that it tells -/
def stampV (l : List UInt8) : Int := 86400 * Cal.days (numv l 0 4) (numv l 5 2) (numv l 8 2) + 3600 * numv l 11 2 + 60 * numv l 14 2 + numv l 17 2
end Go.Proofs.YtmemgpmijphkmaaGreatDoor
