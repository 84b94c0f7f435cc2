/- What the functions of package civil return (Length, Days, Date, Weekday), for every input. -/
import Derived.Test.YtbagdlafpahgdaaGreatDoorRM02
namespace Go.Proofs.YtbagdlafpahgdaaGreatDoor
set_option linter.unusedVariables false
set_option linter.unusedSimpArgs false
open Go.RowKit
set_option maxHeartbeats 400000 in
theorem length_yes (y m : Int) (w : World) (hl : HasLen w) (h1 : 1600 ≤ y) (h2 : y ≤ 2399) (h3 : 1 ≤ m) (h4 : m ≤ 12) :
    Calls Tryz.prog 83 #[.int .i64 y, .int .i64 m] w fun e w' => e = two (Cal.ml y m) 0 ∧ w = w' := by
  go_enter Tryz.func83, Tryz.ntmps83
  go_wp2_with (first | (go_at_call 67; refine (monthLength_any _ _ _ hl (by omega) (by omega) (by omega) (by omega)).mono ?_; rintro e w' ⟨rfl, rfl⟩) | go_in)
  go_ret2
  exact ⟨rfl, rfl⟩

set_option maxHeartbeats 400000 in
theorem length_no (y m : Int) (w : World) (h : ¬ (1600 ≤ y ∧ y ≤ 2399 ∧ 1 ≤ m ∧ m ≤ 12)) :
    Calls Tryz.prog 83 #[.int .i64 y, .int .i64 m] w fun e w' => e = two 0 1 ∧ w = w' := by
  by_cases h1 : 1600 ≤ y
  · by_cases h2 : y ≤ 2399
    · by_cases h3 : 1 ≤ m
      · have h4 : decide (m ≤ 12) = false := by simp; omega
        clear h
        go_enter Tryz.func83, Tryz.ntmps83
        go_wp2
        go_ret2
        exact ⟨rfl, rfl⟩
      · clear h
        go_enter Tryz.func83, Tryz.ntmps83
        go_wp2
        go_ret2
        exact ⟨rfl, rfl⟩
    · clear h
      go_enter Tryz.func83, Tryz.ntmps83
      go_wp2
      go_ret2
      exact ⟨rfl, rfl⟩
  · clear h
    go_enter Tryz.func83, Tryz.ntmps83
    go_wp2
    go_ret2
    exact ⟨rfl, rfl⟩

set_option maxHeartbeats 1000000 in
theorem days_yes (y m d : Int) (w : World) (hl : HasLen w) (hv : Cal.Valid y m d) :
    Calls Tryz.prog 94 #[.int .i64 y, .int .i64 m, .int .i64 d] w fun e w' => e = two (Cal.days y m d) 0 ∧ w = w' := by
  obtain ⟨h1, h2, h3, h4, h5, h6⟩ := hv
  have h7 := Cal.ml_bd y h3 h4
  have h8 := Cal.ys_bd h1 (by omega : y ≤ 2400)
  go_enter Tryz.func94, Tryz.ntmps94
  go_wp2_with (first | (go_at_call 67; refine (monthLength_any _ _ _ hl (by omega) (by omega) (by omega) (by omega)).mono ?_; rintro e w' ⟨rfl, rfl⟩) | (go_at_call 66; refine (yearStart_any _ _ (by omega) (by omega)).mono ?_; rintro e w' ⟨rfl, rfl⟩) | go_in)
  go_loop [8, 9] (fun n i => ∃ k : Int, 1 ≤ k ∧ k ≤ m ∧ i = .int .i64 k ∧ n = .int .i64 (Cal.ys y + Cal.cum y k)) (fun _ i => (m - intOf i).toNat)
  case atStart => exact ⟨1, by omega, by omega, rfl, by rw [Cal.cum_one]; simp⟩
  case round =>
    obtain ⟨k, hk1, hk2, rfl, rfl⟩ := hrel
    have hb := Cal.cum_bd y hk1 (by omega : k ≤ 13)
    have hm := Cal.ml_bd y hk1 (by omega : k ≤ 12)
    by_cases hlt : k < m
    · go_wp2_with (first | (go_at_call 67; refine (monthLength_any _ _ _ hl (by omega) (by omega) (by omega) (by omega)).mono ?_; rintro e w' ⟨rfl, rfl⟩) | go_in)
      go_round
      case rel => exact ⟨k + 1, by omega, by omega, by go_num, by rw [Cal.cum_succ y hk1 (by omega)]; go_num⟩
      case measure => simp [intOf]; omega
    · obtain rfl : k = m := by omega
      go_wp2
      go_ret2
      exact ⟨two_eq (by unfold Cal.days; omega) rfl, rfl⟩

theorem guess {n y : Int} (h1 : 1600 ≤ y) (h : n < Cal.ys (y + 1)) : 1600 + (n + 135140) / 366 ≤ y := by
  unfold Cal.ys at h; omega

set_option maxHeartbeats 1000000 in
theorem yearOf_any (n y : Int) (w : World) (h1 : 1600 ≤ y) (h2 : y ≤ 2399) (h3 : Cal.ys y ≤ n) (h4 : n < Cal.ys (y + 1)) :
    Calls Tryz.prog 65 #[.int .i64 n] w fun e w' => e = .returned (.int .i64 y) ∧ w = w' := by
  have g := guess h1 h4
  have b1 := Cal.ys_bd h1 (by omega : y ≤ 2400)
  have b2 := Cal.ys_bd (by omega : 1600 ≤ y + 1) (by omega : y + 1 ≤ 2400)
  go_enter Tryz.func65, Tryz.ntmps65
  go_wp2
  go_loop [3] (fun t => ∃ k : Int, 1600 ≤ k ∧ k ≤ y ∧ t = .int .i64 k) (fun t => (y - intOf t).toNat)
  case atStart => exact ⟨_, by omega, by omega, rfl⟩
  case round =>
    obtain ⟨k, hk1, hk2, rfl⟩ := hrel
    by_cases hlt : k < y
    · have hy : Cal.ys (k + 1) ≤ n := by have := Cal.ys_mono (a := k + 1) (b := y) (by omega); omega
      clear h4 g
      go_wp2_with (go_at_call 66; refine (yearStart_any _ _ (by omega) (by omega)).mono ?_; rintro e w' ⟨rfl, rfl⟩)
      go_round
      case rel => exact ⟨k + 1, by omega, by omega, rfl⟩
      case measure => simp [intOf]; omega
    · obtain rfl : k = y := by omega
      go_wp2_with (go_at_call 66; refine (yearStart_any _ _ (by omega) (by omega)).mono ?_; rintro e w' ⟨rfl, rfl⟩)
      go_ret
      exact ⟨rfl, rfl⟩

set_option maxHeartbeats 1000000 in
theorem date_yes (n y m d : Int) (w : World) (hl : HasLen w) (hv : Cal.Valid y m d) (hn : Cal.days y m d = n) :
    Calls Tryz.prog 37 #[.int .i64 n] w fun e w' => e = four y m d 0 ∧ w = w' := by
  have hi := Cal.days_in hv
  have hb := Cal.days_bd hv
  have hd : n - Cal.ys y - Cal.cum y m + 1 = d := by unfold Cal.days at hn; omega
  rw [hn] at hi hb
  have HD : Hid (n - Cal.ys y - Cal.cum y m + 1 = d) := hd
  obtain ⟨h1, h2, h3, h4, h5, h6⟩ := hv
  obtain ⟨i1, i2, i3, i4⟩ := hi
  obtain ⟨b1, b2⟩ := hb
  have b3 := Cal.ys_bd h1 (by omega : y ≤ 2400)
  clear hd hn h5 h6
  go_enter Tryz.func37, Tryz.ntmps37
  go_wp2_with (first | (go_at_call 65; refine (yearOf_any _ y _ h1 h2 i3 i4).mono ?_; rintro e w' ⟨rfl, rfl⟩) | (go_at_call 66; refine (yearStart_any _ _ (by omega) (by omega)).mono ?_; rintro e w' ⟨rfl, rfl⟩) | go_in)
  go_loop [7, 8] (fun i r => ∃ k : Int, 1 ≤ k ∧ k ≤ m ∧ i = .int .i64 k ∧ r = .int .i64 (n - Cal.ys y - Cal.cum y k)) (fun i _ => (m - intOf i).toNat)
  case atStart => exact ⟨1, by omega, by omega, rfl, by rw [Cal.cum_one]; simp⟩
  case round =>
    obtain ⟨k, hk1, hk2, rfl, rfl⟩ := hrel
    have cb := Cal.cum_bd y hk1 (by omega : k ≤ 13)
    have hm := Cal.ml_bd y hk1 (by omega : k ≤ 12)
    by_cases hlt : k < m
    · have hc := Cal.cum_mono y hk1 hlt (by omega)
      have hge : Cal.ml y k ≤ n - Cal.ys y - Cal.cum y k := by omega
      clear i4
      go_wp2_with (go_at_call 67; refine (monthLength_any _ _ _ hl (by omega) (by omega) (by omega) (by omega)).mono ?_; rintro e w' ⟨rfl, rfl⟩)
      go_round
      case rel => exact ⟨k + 1, by omega, by omega, by go_num, by rw [Cal.cum_succ y hk1 (by omega)]; go_num⟩
      case measure => simp [intOf]; omega
    · obtain rfl : k = m := by omega
      have hge : n - Cal.ys y - Cal.cum y k < Cal.ml y k := by omega
      clear i4
      go_wp2_with (go_at_call 67; refine (monthLength_any _ _ _ hl (by omega) (by omega) (by omega) (by omega)).mono ?_; rintro e w' ⟨rfl, rfl⟩)
      ((try simp only [Exit.inBlock, Exit.then]); refine bodyPost_ret (results_tmp4 rfl _ _ _) rfl ?_)
      exact ⟨four_eq rfl rfl HD.out rfl, rfl⟩

set_option maxHeartbeats 400000 in
theorem date_no (n : Int) (w : World) (h : ¬ (-135140 ≤ n ∧ n ≤ 157053)) :
    Calls Tryz.prog 37 #[.int .i64 n] w fun e w' => e = four 0 0 0 1 ∧ w = w' := by
  by_cases h1 : -135140 ≤ n
  · have h2 : decide (n ≤ 157053) = false := by simp; omega
    clear h
    go_enter Tryz.func37, Tryz.ntmps37
    go_wp2
    ((try simp only [Exit.inBlock, Exit.then]); refine bodyPost_ret (results_tmp4 rfl _ _ _) rfl ?_)
    exact ⟨rfl, rfl⟩
  · clear h
    go_enter Tryz.func37, Tryz.ntmps37
    go_wp2
    ((try simp only [Exit.inBlock, Exit.then]); refine bodyPost_ret (results_tmp4 rfl _ _ _) rfl ?_)
    exact ⟨rfl, rfl⟩

set_option maxHeartbeats 400000 in
theorem weekday_yes (n : Int) (w : World) (h1 : -135140 ≤ n) (h2 : n ≤ 157053) :
    Calls Tryz.prog 95 #[.int .i64 n] w fun e w' => e = two ((n + 135146) % 7) 0 ∧ w = w' := by
  go_enter Tryz.func95, Tryz.ntmps95
  go_wp2
  go_ret2
  exact ⟨two_eq (by omega) rfl, rfl⟩

set_option maxHeartbeats 400000 in
theorem weekday_no (n : Int) (w : World) (h : ¬ (-135140 ≤ n ∧ n ≤ 157053)) :
    Calls Tryz.prog 95 #[.int .i64 n] w fun e w' => e = two 0 1 ∧ w = w' := by
  by_cases h1 : -135140 ≤ n
  · have h2 : decide (n ≤ 157053) = false := by simp; omega
    clear h
    go_enter Tryz.func95, Tryz.ntmps95
    go_wp2
    go_ret2
    exact ⟨rfl, rfl⟩
  · clear h
    go_enter Tryz.func95, Tryz.ntmps95
    go_wp2
    go_ret2
    exact ⟨rfl, rfl⟩
end Go.Proofs.YtbagdlafpahgdaaGreatDoor
