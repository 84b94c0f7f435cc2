/- What the reference's Date returns, for every input. -/
import Derived.Test.YteciijcgnaojeaaDoorW4
namespace Go.Proofs.YteciijcgnaojeaaDoor
set_option linter.unusedVariables false
set_option linter.unusedSimpArgs false
open Go.RowKit

theorem guess_pos {n y : Int} (h : n < Cal.ys (y + 1)) (hn : 0 ≤ n) (h2 : y ≤ 2399) : 1970 + n / 366 ≤ y := by
  unfold Cal.ys at h; omega
theorem guess_neg {n y : Int} (h : n < Cal.ys (y + 1)) (hn : n < 0) (h0 : -135140 ≤ n) (h1 : 1600 ≤ y) : 1970 - -n / 365 - 1 ≤ y ∧ 1599 ≤ 1970 - -n / 365 - 1 := by
  unfold Cal.ys at h; omega
theorem tdiv_neg {n : Int} (hn : n < 0) : n.tdiv 365 = - (-n / 365) := by
  have h1 : (-n).tdiv 365 = -n / 365 := Int.tdiv_eq_ediv_of_nonneg (by omega)
  have h2 : (-n).tdiv 365 = - n.tdiv 365 := Int.neg_tdiv n 365
  omega

set_option maxHeartbeats 2000000 in
theorem rdate_yes (n y m d : Int) (w : World) (hv : Cal.Valid y m d) (hn : Cal.days y m d = n) :
    Calls Tryd.prog 41 #[.int .i64 n] w fun e w' => e = four y m d 0 ∧ Gr w w' := by
  have hi := Cal.days_in hv
  have hb := Cal.days_bd hv
  have hd : n - Cal.ys y - Cal.cum y m + 1 = d := by unfold Cal.days at hn; omega
  rw [hn] at hi hb
  have HD : Hid (n - Cal.ys y - Cal.cum y m + 1 = d) := hd
  obtain ⟨h1, h2, h3, h4, h5, h6⟩ := hv
  obtain ⟨i1, i2, i3, i4⟩ := hi
  obtain ⟨b1, b2⟩ := hb
  have b3 := Cal.ys_bd h1 (by omega : y ≤ 2400)
  have E1 : Hid (Cal.ys 1600 = -135140) := Cal.ys_1600
  have E2 : Hid (Cal.ys 2400 = 157054) := Cal.ys_2400
  have gp := guess_pos (y := y) i4
  have gn := guess_neg (y := y) i4
  have GP : Hid (0 ≤ n → y ≤ 2399 → 1970 + n / 366 ≤ y) := gp
  have GN : Hid (n < 0 → -135140 ≤ n → 1600 ≤ y → 1970 - -n / 365 - 1 ≤ y ∧ 1599 ≤ 1970 - -n / 365 - 1) := gn
  clear hd hn h5 h6 gp gn
  have n1 : ¬ n < Cal.ys 1600 := by rw [E1.out]; omega
  have n2 : n < Cal.ys 2400 := by rw [E2.out]; omega
  have n1' : decide (n < Cal.ys 1600) = false := by simpa using n1
  have n2' : decide (Cal.ys 2400 ≤ n) = false := by simpa using n2
  by_cases hs : n < 0
  · have t1 : -371 ≤ n.tdiv 365 := by rw [tdiv_neg hs]; omega
    have t2 : n.tdiv 365 ≤ 0 := by rw [tdiv_neg hs]; omega
    have g1 : 1970 + n.tdiv 365 - 1 ≤ y := by rw [tdiv_neg hs]; have := (GN.out hs b1 h1).1; omega
    have g2 : 1599 ≤ 1970 + n.tdiv 365 - 1 := by rw [tdiv_neg hs]; have := (GN.out hs b1 h1).2; omega
    go_enter Tryd.func41, Tryd.ntmps41
    go_wp2_with (go_at_call 61; refine (yearDay_any _ _ (by omega) (by omega)).mono ?_; rintro e w' ⟨rfl, rfl⟩)
    go_loop [6] (fun t => ∃ k : Int, 1599 ≤ k ∧ k ≤ y ∧ t = .int .i64 k) (fun t => (y - intOf t).toNat)
    case atStart => exact ⟨_, g2, g1, rfl⟩
    case round =>
      obtain ⟨k, hk1, hk2, rfl⟩ := hrel
      by_cases hlt : k < y
      · have hy : Cal.ys (k + 1) ≤ n := by have := Cal.ys_mono (a := k + 1) (b := y) (by omega); omega
        clear i4
        go_wp2_with (go_at_call 61; refine (yearDay_any _ _ (by omega) (by omega)).mono ?_; rintro e w' ⟨rfl, rfl⟩)
        go_round
        case rel => exact ⟨k + 1, by omega, by omega, rfl⟩
        case measure => simp [intOf]; omega
      · obtain rfl : k = y := by omega
        clear hlt hk2
        go_wp2_with (go_at_call 61; refine (yearDay_any _ _ (by omega) (by omega)).mono ?_; rintro e w' ⟨rfl, rfl⟩)
        refine wp_loop_rounds 1 ?_
        rw [rounds_succ]
        go_wp2_with (go_at_call 61; refine (yearDay_any _ _ (by omega) (by omega)).mono ?_; rintro e w' ⟨rfl, rfl⟩)
        go_loopw [0, 7] (fun r i wr => ∃ j : Int, 1 ≤ j ∧ j ≤ m ∧ i = .int .i64 j ∧ r = .int .i64 (n - Cal.ys k - Cal.cum k j) ∧ Gr w wr) (fun _ i _ => (m - intOf i).toNat)
        case atStart => exact ⟨1, by omega, by omega, rfl, by rw [Cal.cum_one]; simp, Gr.refl _⟩
        case round =>
          obtain ⟨j, hj1, hj2, rfl, rfl, hgr⟩ := hrel
          have cb := Cal.cum_bd k hj1 (by omega : j ≤ 13)
          have hm := Cal.ml_bd k hj1 (by omega : j ≤ 12)
          by_cases hlt : j < m
          · have hc := Cal.cum_mono k hj1 hlt (by omega)
            have hge : Cal.ml k j ≤ n - Cal.ys k - Cal.cum k j := by omega
            clear i4
            go_wp2_with (go_at_call 48; refine (rlength_yes _ _ _ (by omega) (by omega) (by omega) (by omega)).mono ?_; rintro e w2 ⟨rfl, hg2⟩)
            go_roundw
            case rel => exact ⟨j + 1, by omega, by omega, by go_num, by rw [Cal.cum_succ k hj1 (by omega)]; go_num, hgr.trans hg2⟩
            case measure => simp [intOf]; omega
          · obtain rfl : j = m := by omega
            have hge : n - Cal.ys k - Cal.cum k j < Cal.ml k j := by omega
            clear i4
            go_wp2_with (go_at_call 48; refine (rlength_yes _ _ _ (by omega) (by omega) (by omega) (by omega)).mono ?_; rintro e w2 ⟨rfl, hg2⟩)
            ((try simp only [Exit.inBlock, Exit.then]); refine bodyPost_ret (results_tmp4 rfl _ _ _) rfl ?_)
            exact ⟨four_eq rfl rfl HD.out rfl, hgr.trans hg2⟩
  · have g1 := GP.out (by omega) h2
    go_enter Tryd.func41, Tryd.ntmps41
    go_wp2_with (go_at_call 61; refine (yearDay_any _ _ (by omega) (by omega)).mono ?_; rintro e w' ⟨rfl, rfl⟩)
    go_loop [6] (fun t => ∃ k : Int, 1599 ≤ k ∧ k ≤ y ∧ t = .int .i64 k) (fun t => (y - intOf t).toNat)
    case atStart => exact ⟨_, by omega, g1, rfl⟩
    case round =>
      obtain ⟨k, hk1, hk2, rfl⟩ := hrel
      by_cases hlt : k < y
      · have hy : Cal.ys (k + 1) ≤ n := by have := Cal.ys_mono (a := k + 1) (b := y) (by omega); omega
        clear i4
        go_wp2_with (go_at_call 61; refine (yearDay_any _ _ (by omega) (by omega)).mono ?_; rintro e w' ⟨rfl, rfl⟩)
        go_round
        case rel => exact ⟨k + 1, by omega, by omega, rfl⟩
        case measure => simp [intOf]; omega
      · obtain rfl : k = y := by omega
        clear hlt hk2
        go_wp2_with (go_at_call 61; refine (yearDay_any _ _ (by omega) (by omega)).mono ?_; rintro e w' ⟨rfl, rfl⟩)
        refine wp_loop_rounds 1 ?_
        rw [rounds_succ]
        go_wp2_with (go_at_call 61; refine (yearDay_any _ _ (by omega) (by omega)).mono ?_; rintro e w' ⟨rfl, rfl⟩)
        go_loopw [0, 7] (fun r i wr => ∃ j : Int, 1 ≤ j ∧ j ≤ m ∧ i = .int .i64 j ∧ r = .int .i64 (n - Cal.ys k - Cal.cum k j) ∧ Gr w wr) (fun _ i _ => (m - intOf i).toNat)
        case atStart => exact ⟨1, by omega, by omega, rfl, by rw [Cal.cum_one]; simp, Gr.refl _⟩
        case round =>
          obtain ⟨j, hj1, hj2, rfl, rfl, hgr⟩ := hrel
          have cb := Cal.cum_bd k hj1 (by omega : j ≤ 13)
          have hm := Cal.ml_bd k hj1 (by omega : j ≤ 12)
          by_cases hlt : j < m
          · have hc := Cal.cum_mono k hj1 hlt (by omega)
            have hge : Cal.ml k j ≤ n - Cal.ys k - Cal.cum k j := by omega
            clear i4
            go_wp2_with (go_at_call 48; refine (rlength_yes _ _ _ (by omega) (by omega) (by omega) (by omega)).mono ?_; rintro e w2 ⟨rfl, hg2⟩)
            go_roundw
            case rel => exact ⟨j + 1, by omega, by omega, by go_num, by rw [Cal.cum_succ k hj1 (by omega)]; go_num, hgr.trans hg2⟩
            case measure => simp [intOf]; omega
          · obtain rfl : j = m := by omega
            have hge : n - Cal.ys k - Cal.cum k j < Cal.ml k j := by omega
            clear i4
            go_wp2_with (go_at_call 48; refine (rlength_yes _ _ _ (by omega) (by omega) (by omega) (by omega)).mono ?_; rintro e w2 ⟨rfl, hg2⟩)
            ((try simp only [Exit.inBlock, Exit.then]); refine bodyPost_ret (results_tmp4 rfl _ _ _) rfl ?_)
            exact ⟨four_eq rfl rfl HD.out rfl, hgr.trans hg2⟩

set_option maxHeartbeats 400000 in
theorem rdate_no (n : Int) (w : World) (h : ¬ (-135140 ≤ n ∧ n ≤ 157053)) :
    Calls Tryd.prog 41 #[.int .i64 n] w fun e w' => e = four 0 0 0 1 ∧ w = w' := by
  have e1 := Cal.ys_1600
  have e2 := Cal.ys_2400
  by_cases h1 : n < Cal.ys 1600
  · clear h e1 e2
    go_enter Tryd.func41, Tryd.ntmps41
    go_wp2_with (go_at_call 61; refine (yearDay_any _ _ (by omega) (by omega)).mono ?_; rintro e w' ⟨rfl, rfl⟩)
    ((try simp only [Exit.inBlock, Exit.then]); refine bodyPost_ret (results_tmp4 rfl _ _ _) rfl ?_)
    exact ⟨rfl, rfl⟩
  · have h2 : Cal.ys 2400 ≤ n := by omega
    clear h e1 e2
    go_enter Tryd.func41, Tryd.ntmps41
    go_wp2_with (go_at_call 61; refine (yearDay_any _ _ (by omega) (by omega)).mono ?_; rintro e w' ⟨rfl, rfl⟩)
    ((try simp only [Exit.inBlock, Exit.then]); refine bodyPost_ret (results_tmp4 rfl _ _ _) rfl ?_)
    exact ⟨rfl, rfl⟩
end Go.Proofs.YteciijcgnaojeaaDoor
