/- What the functions of package civil return (Length, Days, Date, Weekday), for every input. What the reference's small functions return (Long, yearDay, Length, Days, Date, Weekday, Rest), for every input in their range, and that they change no memory that was there. What the reference's Days, Date and Weekday return, for every input, and the statements' own small helpers dated, date and some. -/
import Derived.Test.YtkmgildnhnjepaaGreatDoorTM01
namespace Go.Proofs.YtkmgildnhnjepaaGreatDoor
set_option linter.unusedVariables false
set_option linter.unusedSimpArgs false
open Go.RowKit
set_option maxHeartbeats 400000 in
theorem length_yes (y m : Int) (w : World) (hl : HasLen w) (h1 : 1600 ≤ y) (h2 : y ≤ 2399) (h3 : 1 ≤ m) (h4 : m ≤ 12) :
    Calls Tryz.prog 101 #[.int .i64 y, .int .i64 m] w fun e w' => e = two (Cal.ml y m) 0 ∧ w = w' := by
  go_enter Tryz.func101, Tryz.ntmps101
  go_wp2_with (first | (go_at_call 95; refine (monthLength_any _ _ _ hl (by omega) (by omega) (by omega) (by omega)).mono ?_; rintro e w' ⟨rfl, rfl⟩) | go_in)
  go_ret2
  exact ⟨rfl, rfl⟩

set_option maxHeartbeats 400000 in
theorem length_no (y m : Int) (w : World) (h : ¬ (1600 ≤ y ∧ y ≤ 2399 ∧ 1 ≤ m ∧ m ≤ 12)) :
    Calls Tryz.prog 101 #[.int .i64 y, .int .i64 m] w fun e w' => e = two 0 1 ∧ w = w' := by
  by_cases h1 : 1600 ≤ y
  · by_cases h2 : y ≤ 2399
    · by_cases h3 : 1 ≤ m
      · have h4 : decide (m ≤ 12) = false := by simp; omega
        clear h
        go_enter Tryz.func101, Tryz.ntmps101
        go_wp2
        go_ret2
        exact ⟨rfl, rfl⟩
      · clear h
        go_enter Tryz.func101, Tryz.ntmps101
        go_wp2
        go_ret2
        exact ⟨rfl, rfl⟩
    · clear h
      go_enter Tryz.func101, Tryz.ntmps101
      go_wp2
      go_ret2
      exact ⟨rfl, rfl⟩
  · clear h
    go_enter Tryz.func101, Tryz.ntmps101
    go_wp2
    go_ret2
    exact ⟨rfl, rfl⟩

set_option maxHeartbeats 1000000 in
theorem days_yes (y m d : Int) (w : World) (hl : HasLen w) (hv : Cal.Valid y m d) :
    Calls Tryz.prog 129 #[.int .i64 y, .int .i64 m, .int .i64 d] w fun e w' => e = two (Cal.days y m d) 0 ∧ w = w' := by
  obtain ⟨h1, h2, h3, h4, h5, h6⟩ := hv
  have h7 := Cal.ml_bd y h3 h4
  have h8 := Cal.ys_bd h1 (by omega : y ≤ 2400)
  go_enter Tryz.func129, Tryz.ntmps129
  go_wp2_with (first | (go_at_call 95; refine (monthLength_any _ _ _ hl (by omega) (by omega) (by omega) (by omega)).mono ?_; rintro e w' ⟨rfl, rfl⟩) | (go_at_call 94; refine (yearStart_any _ _ (by omega) (by omega)).mono ?_; rintro e w' ⟨rfl, rfl⟩) | go_in)
  go_loop [8, 9] (fun n i => ∃ k : Int, 1 ≤ k ∧ k ≤ m ∧ i = .int .i64 k ∧ n = .int .i64 (Cal.ys y + Cal.cum y k)) (fun _ i => (m - intOf i).toNat)
  case atStart => exact ⟨1, by omega, by omega, rfl, by rw [Cal.cum_one]; simp⟩
  case round =>
    obtain ⟨k, hk1, hk2, rfl, rfl⟩ := hrel
    have hb := Cal.cum_bd y hk1 (by omega : k ≤ 13)
    have hm := Cal.ml_bd y hk1 (by omega : k ≤ 12)
    by_cases hlt : k < m
    · go_wp2_with (first | (go_at_call 95; refine (monthLength_any _ _ _ hl (by omega) (by omega) (by omega) (by omega)).mono ?_; rintro e w' ⟨rfl, rfl⟩) | go_in)
      go_round
      case rel => exact ⟨k + 1, by omega, by omega, by go_num, by rw [Cal.cum_succ y hk1 (by omega)]; go_num⟩
      case measure => simp [intOf]; omega
    · obtain rfl : k = m := by omega
      go_wp2
      go_ret2
      exact ⟨two_eq (by unfold Cal.days; omega) rfl, rfl⟩

theorem guess {n y : Int} (h1 : 1600 ≤ y) (h : n < Cal.ys (y + 1)) : 1600 + (n + 135140) / 366 ≤ y := by
  unfold Cal.ys at h; omega

set_option maxHeartbeats 1000000 in
theorem yearOf_any (n y : Int) (w : World) (h1 : 1600 ≤ y) (h2 : y ≤ 2399) (h3 : Cal.ys y ≤ n) (h4 : n < Cal.ys (y + 1)) :
    Calls Tryz.prog 93 #[.int .i64 n] w fun e w' => e = .returned (.int .i64 y) ∧ w = w' := by
  have g := guess h1 h4
  have b1 := Cal.ys_bd h1 (by omega : y ≤ 2400)
  have b2 := Cal.ys_bd (by omega : 1600 ≤ y + 1) (by omega : y + 1 ≤ 2400)
  go_enter Tryz.func93, Tryz.ntmps93
  go_wp2
  go_loop [3] (fun t => ∃ k : Int, 1600 ≤ k ∧ k ≤ y ∧ t = .int .i64 k) (fun t => (y - intOf t).toNat)
  case atStart => exact ⟨_, by omega, by omega, rfl⟩
  case round =>
    obtain ⟨k, hk1, hk2, rfl⟩ := hrel
    by_cases hlt : k < y
    · have hy : Cal.ys (k + 1) ≤ n := by have := Cal.ys_mono (a := k + 1) (b := y) (by omega); omega
      clear h4 g
      go_wp2_with (go_at_call 94; refine (yearStart_any _ _ (by omega) (by omega)).mono ?_; rintro e w' ⟨rfl, rfl⟩)
      go_round
      case rel => exact ⟨k + 1, by omega, by omega, rfl⟩
      case measure => simp [intOf]; omega
    · obtain rfl : k = y := by omega
      go_wp2_with (go_at_call 94; refine (yearStart_any _ _ (by omega) (by omega)).mono ?_; rintro e w' ⟨rfl, rfl⟩)
      go_ret
      exact ⟨rfl, rfl⟩

set_option maxHeartbeats 1000000 in
theorem date_yes (n y m d : Int) (w : World) (hl : HasLen w) (hv : Cal.Valid y m d) (hn : Cal.days y m d = n) :
    Calls Tryz.prog 67 #[.int .i64 n] w fun e w' => e = four y m d 0 ∧ w = w' := by
  have hi := Cal.days_in hv
  have hb := Cal.days_bd hv
  have hd : n - Cal.ys y - Cal.cum y m + 1 = d := by unfold Cal.days at hn; omega
  rw [hn] at hi hb
  have HD : Hid (n - Cal.ys y - Cal.cum y m + 1 = d) := hd
  obtain ⟨h1, h2, h3, h4, h5, h6⟩ := hv
  obtain ⟨i1, i2, i3, i4⟩ := hi
  obtain ⟨b1, b2⟩ := hb
  have b3 := Cal.ys_bd h1 (by omega : y ≤ 2400)
  clear hd hn h5 h6
  go_enter Tryz.func67, Tryz.ntmps67
  go_wp2_with (first | (go_at_call 93; refine (yearOf_any _ y _ h1 h2 i3 i4).mono ?_; rintro e w' ⟨rfl, rfl⟩) | (go_at_call 94; refine (yearStart_any _ _ (by omega) (by omega)).mono ?_; rintro e w' ⟨rfl, rfl⟩) | go_in)
  go_loop [7, 8] (fun i r => ∃ k : Int, 1 ≤ k ∧ k ≤ m ∧ i = .int .i64 k ∧ r = .int .i64 (n - Cal.ys y - Cal.cum y k)) (fun i _ => (m - intOf i).toNat)
  case atStart => exact ⟨1, by omega, by omega, rfl, by rw [Cal.cum_one]; simp⟩
  case round =>
    obtain ⟨k, hk1, hk2, rfl, rfl⟩ := hrel
    have cb := Cal.cum_bd y hk1 (by omega : k ≤ 13)
    have hm := Cal.ml_bd y hk1 (by omega : k ≤ 12)
    by_cases hlt : k < m
    · have hc := Cal.cum_mono y hk1 hlt (by omega)
      have hge : Cal.ml y k ≤ n - Cal.ys y - Cal.cum y k := by omega
      clear i4
      go_wp2_with (go_at_call 95; refine (monthLength_any _ _ _ hl (by omega) (by omega) (by omega) (by omega)).mono ?_; rintro e w' ⟨rfl, rfl⟩)
      go_round
      case rel => exact ⟨k + 1, by omega, by omega, by go_num, by rw [Cal.cum_succ y hk1 (by omega)]; go_num⟩
      case measure => simp [intOf]; omega
    · obtain rfl : k = m := by omega
      have hge : n - Cal.ys y - Cal.cum y k < Cal.ml y k := by omega
      clear i4
      go_wp2_with (go_at_call 95; refine (monthLength_any _ _ _ hl (by omega) (by omega) (by omega) (by omega)).mono ?_; rintro e w' ⟨rfl, rfl⟩)
      ((try simp only [Exit.inBlock, Exit.then]); refine bodyPost_ret (results_tmp4 rfl _ _ _) rfl ?_)
      exact ⟨four_eq rfl rfl HD.out rfl, rfl⟩

set_option maxHeartbeats 400000 in
theorem date_no (n : Int) (w : World) (h : ¬ (-135140 ≤ n ∧ n ≤ 157053)) :
    Calls Tryz.prog 67 #[.int .i64 n] w fun e w' => e = four 0 0 0 1 ∧ w = w' := by
  by_cases h1 : -135140 ≤ n
  · have h2 : decide (n ≤ 157053) = false := by simp; omega
    clear h
    go_enter Tryz.func67, Tryz.ntmps67
    go_wp2
    ((try simp only [Exit.inBlock, Exit.then]); refine bodyPost_ret (results_tmp4 rfl _ _ _) rfl ?_)
    exact ⟨rfl, rfl⟩
  · clear h
    go_enter Tryz.func67, Tryz.ntmps67
    go_wp2
    ((try simp only [Exit.inBlock, Exit.then]); refine bodyPost_ret (results_tmp4 rfl _ _ _) rfl ?_)
    exact ⟨rfl, rfl⟩

set_option maxHeartbeats 400000 in
theorem weekday_yes (n : Int) (w : World) (h1 : -135140 ≤ n) (h2 : n ≤ 157053) :
    Calls Tryz.prog 130 #[.int .i64 n] w fun e w' => e = two ((n + 135146) % 7) 0 ∧ w = w' := by
  go_enter Tryz.func130, Tryz.ntmps130
  go_wp2
  go_ret2
  exact ⟨two_eq (by omega) rfl, rfl⟩

set_option maxHeartbeats 400000 in
theorem weekday_no (n : Int) (w : World) (h : ¬ (-135140 ≤ n ∧ n ≤ 157053)) :
    Calls Tryz.prog 130 #[.int .i64 n] w fun e w' => e = two 0 1 ∧ w = w' := by
  by_cases h1 : -135140 ≤ n
  · have h2 : decide (n ≤ 157053) = false := by simp; omega
    clear h
    go_enter Tryz.func130, Tryz.ntmps130
    go_wp2
    go_ret2
    exact ⟨rfl, rfl⟩
  · clear h
    go_enter Tryz.func130, Tryz.ntmps130
    go_wp2
    go_ret2
    exact ⟨rfl, rfl⟩
end Go.Proofs.YtkmgildnhnjepaaGreatDoor
namespace Go.Proofs.YtkmgildnhnjepaaGreatDoor
set_option linter.unusedVariables false
set_option linter.unusedSimpArgs false
open Go.RowKit
set_option maxHeartbeats 400000 in
theorem Long_any (y : Int) (w : World) (h1 : 0 ≤ y) (h2 : y ≤ 10000) :
    Calls Tryz.prog 84 #[.int .i64 y] w fun e w' => e = .returned (.bool (Cal.leap y)) ∧ w = w' := by
  by_cases a : y % 4 = 0
  · by_cases b : y % 100 = 0
    · by_cases c : y % 400 = 0
      · have e : Cal.leap y = true := by simp [Cal.leap, a, c]
        rw [e]
        go_enter Tryz.func84, Tryz.ntmps84
        go_wp2
        all_goals go_ret
        all_goals exact ⟨rfl, rfl⟩
      · have e : Cal.leap y = false := by simp [Cal.leap, a, b, c]
        have c' : (y % 400 == 0) = false := by simp [c]
        rw [e]
        go_enter Tryz.func84, Tryz.ntmps84
        go_wp2
        all_goals go_ret
        all_goals exact ⟨rfl, rfl⟩
    · have e : Cal.leap y = true := by simp [Cal.leap, a, b]
      rw [e]
      go_enter Tryz.func84, Tryz.ntmps84
      go_wp2
      all_goals go_ret
      all_goals exact ⟨rfl, rfl⟩
  · have e : Cal.leap y = false := by simp [Cal.leap, a]
    rw [e]
    go_enter Tryz.func84, Tryz.ntmps84
    go_wp2
    all_goals go_ret
    all_goals exact ⟨rfl, rfl⟩

theorem yd_end {k y : Int} (z : Cal.ys 1970 = 0) (hk1 : 1970 ≤ k) (hk2 : k ≤ y ∨ k = 1970) (hlt : ¬ k < y) : Cal.ys k = if y < 1970 then 0 else Cal.ys y := by
  by_cases hy : y < 1970
  · obtain rfl : k = 1970 := by omega
    rw [if_pos hy]; exact z
  · obtain rfl : k = y := by omega
    rw [if_neg hy]
theorem tmod_neg {n m : Int} (h1 : 0 < m) (hk : n.tmod m < 0) : n.tmod m + m = n % m := by
  have e := Int.tmod_eq_emod (a := n) (b := m)
  have h3 := Int.emod_nonneg n (by omega : m ≠ 0)
  by_cases c : 0 ≤ n ∨ m ∣ n
  · rw [if_pos c] at e; omega
  · rw [if_neg c] at e; omega
theorem tmod_nonneg {n m : Int} (h1 : 0 < m) (hk : ¬ n.tmod m < 0) : n.tmod m = n % m := by
  have e := Int.tmod_eq_emod (a := n) (b := m)
  have h3 := Int.emod_lt_of_pos n h1
  by_cases c : 0 ≤ n ∨ m ∣ n
  · rw [if_pos c] at e; omega
  · rw [if_neg c] at e; omega

set_option maxHeartbeats 1000000 in
theorem yearDay_any (y : Int) (w : World) (h1 : 1500 ≤ y) (h2 : y ≤ 2400) :
    Calls Tryz.prog 58 #[.int .i64 y] w fun e w' => e = .returned (.int .i64 (Cal.ys y)) ∧ w = w' := by
  have z0 : Cal.ys 1970 = 0 := by decide
  have Z : Hid (Cal.ys 1970 = 0) := z0
  clear z0
  go_enter Tryz.func58, Tryz.ntmps58
  go_wp2
  go_loop [3, 4] (fun n i => ∃ k : Int, 1970 ≤ k ∧ (k ≤ y ∨ k = 1970) ∧ i = .int .i64 k ∧ n = .int .i64 (Cal.ys k)) (fun _ i => (y - intOf i).toNat)
  case atStart => exact ⟨1970, by omega, Or.inr rfl, rfl, by rw [Z.out]⟩
  case round =>
    obtain ⟨k, hk1, hk2, rfl, rfl⟩ := hrel
    by_cases hlt : k < y
    · have hb := Cal.ys_bd (by omega : 1600 ≤ k) (by omega : k ≤ 2400)
      have hs : Hid (Cal.ys (k + 1) = Cal.ys k + 365 + Cal.lp k) := Cal.ys_succ k
      cases hlp : Cal.leap k
      · have HL : Hid (Cal.lp k = 0) := Cal.lp_false hlp
        go_wp2_with (go_at_call 84; refine (Long_any _ _ (by omega) (by omega)).mono ?_; rintro e w' ⟨rfl, rfl⟩)
        go_round
        case rel => exact ⟨k + 1, by omega, by omega, by go_num, by rw [hs.out, HL.out]; go_num⟩
        case measure => simp [intOf]; omega
      · have HL : Hid (Cal.lp k = 1) := Cal.lp_true hlp
        go_wp2_with (go_at_call 84; refine (Long_any _ _ (by omega) (by omega)).mono ?_; rintro e w' ⟨rfl, rfl⟩)
        go_round
        case rel => exact ⟨k + 1, by omega, by omega, by go_num, by rw [hs.out, HL.out]⟩
        case measure => simp [intOf]; omega
    · have hk : Hid (Cal.ys k = if y < 1970 then 0 else Cal.ys y) := yd_end Z.out hk1 hk2 hlt
      go_wp2
      go_loop [3, 5] (fun n i => ∃ j : Int, y ≤ j ∧ (j ≤ 1970 ∨ j = y) ∧ i = .int .i64 j ∧ n = .int .i64 (if y < 1970 then Cal.ys y - Cal.ys j else Cal.ys y)) (fun _ i => (1970 - intOf i).toNat)
      case atStart => exact ⟨y, by omega, Or.inr rfl, rfl, by rw [hk.out]; by_cases hy : y < 1970 <;> simp [hy]⟩
      case round =>
        obtain ⟨j, hj1, hj2, rfl, rfl⟩ := hrel
        by_cases hy : y < 1970
        · rw [if_pos hy]
          by_cases hjt : j < 1970
          · have hb := Cal.ys_mono hj1
            have hb2 : -200000 ≤ Cal.ys y := by have := Cal.ys_mono h1; have e : Cal.ys 1500 = -171664 := by decide
                                                omega
            have hb3 : Cal.ys j ≤ 0 := by have := Cal.ys_mono (a := j) (b := 1970) (by omega); have := Z.out; omega
            have hs : Hid (Cal.ys (j + 1) = Cal.ys j + 365 + Cal.lp j) := Cal.ys_succ j
            cases hlp : Cal.leap j
            · have HL : Hid (Cal.lp j = 0) := Cal.lp_false hlp
              go_wp2_with (go_at_call 84; refine (Long_any _ _ (by omega) (by omega)).mono ?_; rintro e w' ⟨rfl, rfl⟩)
              go_round
              case rel => exact ⟨j + 1, by omega, by omega, by go_num, by rw [if_pos hy, hs.out, HL.out]; go_num⟩
              case measure => simp [intOf]; omega
            · have HL : Hid (Cal.lp j = 1) := Cal.lp_true hlp
              go_wp2_with (go_at_call 84; refine (Long_any _ _ (by omega) (by omega)).mono ?_; rintro e w' ⟨rfl, rfl⟩)
              go_round
              case rel => exact ⟨j + 1, by omega, by omega, by go_num, by rw [if_pos hy, hs.out, HL.out]; go_num⟩
              case measure => simp [intOf]; omega
          · obtain rfl : j = 1970 := by omega
            have e0 : Cal.ys y - Cal.ys 1970 = Cal.ys y := by rw [Z.out]; omega
            rw [e0]
            clear e0
            go_wp2
            go_ret
            exact ⟨rfl, rfl⟩
        · rw [if_neg hy]
          obtain rfl : j = y := by omega
          go_wp2
          go_ret
          exact ⟨rfl, rfl⟩

set_option maxHeartbeats 1000000 in
theorem rest_any (n m : Int) (w : World) (b1 : -9223372036854775808 ≤ n) (b2 : n ≤ 9223372036854775807) (h1 : 0 < m) (h2 : m ≤ 1099511627776) :
    Calls Tryz.prog 15 #[.int .i64 n, .int .i64 m] w fun e w' => e = .returned (.int .i64 (n % m)) ∧ w = w' := by
  have t1 := Int.tmod_lt_of_pos n h1
  have t2 := Int.lt_tmod_of_pos n h1
  by_cases hn : 0 ≤ n
  · have e : n.tmod m = n % m := Int.tmod_eq_emod_of_nonneg hn
    rw [e] at t1 t2
    have t3 := Int.emod_nonneg n (by omega : m ≠ 0)
    clear e
    go_enter Tryz.func15, Tryz.ntmps15
    go_wp2
    go_ret
    exact ⟨rfl, rfl⟩
  · by_cases hk : n.tmod m < 0
    · have E : Hid (n.tmod m + m = n % m) := tmod_neg h1 hk
      go_enter Tryz.func15, Tryz.ntmps15
      go_wp2
      go_ret
      exact ⟨ret_int E.out, rfl⟩
    · have E : Hid (n.tmod m = n % m) := tmod_nonneg h1 hk
      go_enter Tryz.func15, Tryz.ntmps15
      go_wp2
      go_ret
      exact ⟨ret_int E.out, rfl⟩

theorem lens_at (k : Nat) (h : k < 12) : (#[.int .i64 31, .int .i64 28, .int .i64 31, .int .i64 30, .int .i64 31, .int .i64 30, .int .i64 31, .int .i64 31, .int .i64 30, .int .i64 31, .int .i64 30, .int .i64 31] : Array Value)[k]? = some (.int .i64 (Cal.tab.getD k 0)) := by
  have : k = 0 ∨ k = 1 ∨ k = 2 ∨ k = 3 ∨ k = 4 ∨ k = 5 ∨ k = 6 ∨ k = 7 ∨ k = 8 ∨ k = 9 ∨ k = 10 ∨ k = 11 := by omega
  rcases this with h | h | h | h | h | h | h | h | h | h | h | h <;> subst h <;> rfl

set_option maxHeartbeats 2000000 in
theorem rlength_yes (y m : Int) (w : World) (h1 : 1600 ≤ y) (h2 : y ≤ 2399) (h3 : 1 ≤ m) (h4 : m ≤ 12) :
    Calls Tryz.prog 86 #[.int .i64 y, .int .i64 m] w fun e w' => e = two (Cal.ml y m) 0 ∧ Gr w w' := by
  by_cases hm : m = 2
  · subst hm
    cases hlp : Cal.leap y
    · have e0 : Cal.lp y = 0 := Cal.lp_false hlp
      have E := Lib.hid (show Cal.ml y 2 = 28 by simp [Cal.ml, e0])
      clear e0
      go_enter Tryz.func86, Tryz.ntmps86
      go_wp2_with (first | (go_at_call 84; refine (Long_any _ _ (by omega) (by omega)).mono ?_; rintro e w' ⟨rfl, rfl⟩) | go_in)
      go_ret2
      exact ⟨two_eq E.out.symm rfl, Gr.alloc _ _⟩
    · have e0 : Cal.lp y = 1 := Cal.lp_true hlp
      have E := Lib.hid (show Cal.ml y 2 = 29 by simp [Cal.ml, e0])
      clear e0
      go_enter Tryz.func86, Tryz.ntmps86
      go_wp2_with (first | (go_at_call 84; refine (Long_any _ _ (by omega) (by omega)).mono ?_; rintro e w' ⟨rfl, rfl⟩) | go_in)
      go_ret2
      exact ⟨two_eq E.out.symm rfl, Gr.alloc _ _⟩
  · have E := Lib.hid (show Cal.ml y m = Cal.tab.getD (m.toNat - 1) 0 by simp only [Cal.ml, if_neg hm]; congr 1; omega)
    cases hlp : Cal.leap y
    · go_enter Tryz.func86, Tryz.ntmps86
      go_wp2_with (go_at_call 91; go_in)
      have hc : (w.alloc (.cells #[.int .i64 31, .int .i64 28, .int .i64 31, .int .i64 30, .int .i64 31, .int .i64 30, .int .i64 31, .int .i64 31, .int .i64 30, .int .i64 31, .int .i64 30, .int .i64 31] 3)).cell? ⟨w.heap.size, m.toNat - 1, none⟩ = some (.int .i64 (Cal.tab.getD (m.toNat - 1) 0)) := by
        rw [World.cell?_alloc_new]; exact lens_at _ (by omega)
      have hg := Gr.alloc w (.cells #[.int .i64 31, .int .i64 28, .int .i64 31, .int .i64 30, .int .i64 31, .int .i64 30, .int .i64 31, .int .i64 31, .int .i64 30, .int .i64 31, .int .i64 30, .int .i64 31] 3)
      generalize w.alloc (.cells #[.int .i64 31, .int .i64 28, .int .i64 31, .int .i64 30, .int .i64 31, .int .i64 30, .int .i64 31, .int .i64 31, .int .i64 30, .int .i64 31, .int .i64 30, .int .i64 31] 3) = w1 at hc hg ⊢
      generalize w.heap.size = b at hc ⊢
      generalize Cal.tab.getD (m.toNat - 1) 0 = t at hc E
      refine (Long_any y w1 (by omega) (by omega)).mono ?_
      rintro e w' ⟨rfl, rfl⟩
      go_wp2
      go_ret2
      exact ⟨two_eq E.out.symm rfl, hg⟩
    · go_enter Tryz.func86, Tryz.ntmps86
      go_wp2_with (go_at_call 91; go_in)
      have hc : (w.alloc (.cells #[.int .i64 31, .int .i64 28, .int .i64 31, .int .i64 30, .int .i64 31, .int .i64 30, .int .i64 31, .int .i64 31, .int .i64 30, .int .i64 31, .int .i64 30, .int .i64 31] 3)).cell? ⟨w.heap.size, m.toNat - 1, none⟩ = some (.int .i64 (Cal.tab.getD (m.toNat - 1) 0)) := by
        rw [World.cell?_alloc_new]; exact lens_at _ (by omega)
      have hc1 : (w.alloc (.cells #[.int .i64 31, .int .i64 28, .int .i64 31, .int .i64 30, .int .i64 31, .int .i64 30, .int .i64 31, .int .i64 31, .int .i64 30, .int .i64 31, .int .i64 30, .int .i64 31] 3)).cell? ⟨w.heap.size, 1, none⟩ = some (.int .i64 28) := by
        rw [World.cell?_alloc_new]; rfl
      have hf : (w.alloc (.cells #[.int .i64 31, .int .i64 28, .int .i64 31, .int .i64 30, .int .i64 31, .int .i64 30, .int .i64 31, .int .i64 31, .int .i64 30, .int .i64 31, .int .i64 30, .int .i64 31] 3)).frozen? ⟨w.heap.size, 1, none⟩ = false := by go_simp
      have hg := Gr.alloc w (.cells #[.int .i64 31, .int .i64 28, .int .i64 31, .int .i64 30, .int .i64 31, .int .i64 30, .int .i64 31, .int .i64 31, .int .i64 30, .int .i64 31, .int .i64 30, .int .i64 31] 3)
      have hgs : Gr w ((w.alloc (.cells #[.int .i64 31, .int .i64 28, .int .i64 31, .int .i64 30, .int .i64 31, .int .i64 30, .int .i64 31, .int .i64 31, .int .i64 30, .int .i64 31, .int .i64 30, .int .i64 31] 3)).setCell ⟨w.heap.size, 1, none⟩ (.int .i64 29)) := Below.setCell hg (Nat.le_refl _) _
      generalize w.alloc (.cells #[.int .i64 31, .int .i64 28, .int .i64 31, .int .i64 30, .int .i64 31, .int .i64 30, .int .i64 31, .int .i64 31, .int .i64 30, .int .i64 31, .int .i64 30, .int .i64 31] 3) = w1 at hc hc1 hf hg hgs ⊢
      generalize w.heap.size = b at hc hc1 hf hgs ⊢
      generalize Cal.tab.getD (m.toNat - 1) 0 = t at hc E
      have hne : ¬ m.toNat - 1 = 1 := by omega
      refine (Long_any y w1 (by omega) (by omega)).mono ?_
      rintro e w' ⟨rfl, rfl⟩
      go_wp2
      go_ret2
      exact ⟨two_eq E.out.symm rfl, hgs⟩

set_option maxHeartbeats 400000 in
theorem rlength_no (y m : Int) (w : World) (h : ¬ (1600 ≤ y ∧ y ≤ 2399 ∧ 1 ≤ m ∧ m ≤ 12)) :
    Calls Tryz.prog 86 #[.int .i64 y, .int .i64 m] w fun e w' => e = two 0 1 ∧ w = w' := by
  by_cases h1 : y < 1600
  · clear h
    go_enter Tryz.func86, Tryz.ntmps86
    go_wp2
    go_ret2
    exact ⟨rfl, rfl⟩
  · by_cases h2 : 2399 < y
    · clear h
      go_enter Tryz.func86, Tryz.ntmps86
      go_wp2
      go_ret2
      exact ⟨rfl, rfl⟩
    · by_cases h3 : m < 1
      · clear h
        go_enter Tryz.func86, Tryz.ntmps86
        go_wp2
        go_ret2
        exact ⟨rfl, rfl⟩
      · have h4 : 12 < m := by omega
        have h4' : decide (12 < m) = true := by simpa using h4
        clear h
        go_enter Tryz.func86, Tryz.ntmps86
        go_wp2
        go_ret2
        exact ⟨rfl, rfl⟩
end Go.Proofs.YtkmgildnhnjepaaGreatDoor
namespace Go.Proofs.YtkmgildnhnjepaaGreatDoor
set_option linter.unusedVariables false
set_option linter.unusedSimpArgs false
open Go.RowKit
set_option maxHeartbeats 1000000 in
theorem rdays_yes (y m d : Int) (w : World) (hv : Cal.Valid y m d) :
    Calls Tryz.prog 64 #[.int .i64 y, .int .i64 m, .int .i64 d] w fun e w' => e = two (Cal.days y m d) 0 ∧ Gr w w' := by
  obtain ⟨h1, h2, h3, h4, h5, h6⟩ := hv
  have h7 := Cal.ml_bd y h3 h4
  have h8 := Cal.ys_bd h1 (by omega : y ≤ 2400)
  go_enter Tryz.func64, Tryz.ntmps64
  go_wp2_with fail
  refine (rlength_yes y m w h1 h2 h3 h4).mono ?_
  rintro e w1 ⟨rfl, hg⟩
  go_wp2_with (first | (go_at_call 58; refine (yearDay_any _ _ (by omega) (by omega)).mono ?_; rintro e w' ⟨rfl, rfl⟩) | go_in)
  go_loopw [10, 11] (fun n i wr => ∃ k : Int, 1 ≤ k ∧ k ≤ m ∧ i = .int .i64 k ∧ n = .int .i64 (Cal.ys y + d - 1 + Cal.cum y k) ∧ Gr w wr) (fun _ i _ => (m - intOf i).toNat)
  case atStart => exact ⟨1, by omega, by omega, rfl, by rw [Cal.cum_one]; simp, hg⟩
  case round =>
    obtain ⟨k, hk1, hk2, rfl, rfl, hgr⟩ := hrel
    have hb := Cal.cum_bd y hk1 (by omega : k ≤ 13)
    have hm := Cal.ml_bd y hk1 (by omega : k ≤ 12)
    by_cases hlt : k < m
    · go_wp2_with (go_at_call 86; refine (rlength_yes _ _ _ (by omega) (by omega) (by omega) (by omega)).mono ?_; rintro e w2 ⟨rfl, hg2⟩)
      go_roundw
      case rel => exact ⟨k + 1, by omega, by omega, by go_num, by rw [Cal.cum_succ y hk1 (by omega)]; go_num, hgr.trans hg2⟩
      case measure => simp [intOf]; omega
    · obtain rfl : k = m := by omega
      go_wp2
      go_ret2
      exact ⟨two_eq (by unfold Cal.days; omega) rfl, hgr⟩

end Go.Proofs.YtkmgildnhnjepaaGreatDoor
