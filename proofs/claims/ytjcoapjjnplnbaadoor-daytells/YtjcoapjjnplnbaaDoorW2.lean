/- What the functions of package civil return (Length, Days, Date, Weekday), for every input. -/
import Derived.Test.YtjcoapjjnplnbaaDoorW1
namespace Go.Proofs.YtjcoapjjnplnbaaDoor
set_option linter.unusedVariables false
set_option linter.unusedSimpArgs false
open Go.RowKit

set_option maxHeartbeats 400000 in
theorem length_yes (y m : Int) (w : World) (hl : HasLen w) (h1 : 1600 ≤ y) (h2 : y ≤ 2399) (h3 : 1 ≤ m) (h4 : m ≤ 12) :
    Calls Tryd.prog 21 #[.int .i64 y, .int .i64 m] w fun e w' => e = two (Cal.ml y m) 0 ∧ w = w' := by
  go_enter Tryd.func21, Tryd.ntmps21
  go_wp2_with (first | (go_at_call 39; refine (monthLength_any _ _ _ hl (by omega) (by omega) (by omega) (by omega)).mono ?_; rintro e w' ⟨rfl, rfl⟩) | go_in)
  go_ret2
  exact ⟨rfl, rfl⟩

set_option maxHeartbeats 400000 in
theorem length_no (y m : Int) (w : World) (h : ¬ (1600 ≤ y ∧ y ≤ 2399 ∧ 1 ≤ m ∧ m ≤ 12)) :
    Calls Tryd.prog 21 #[.int .i64 y, .int .i64 m] w fun e w' => e = two 0 1 ∧ w = w' := by
  by_cases h1 : 1600 ≤ y
  · by_cases h2 : y ≤ 2399
    · by_cases h3 : 1 ≤ m
      · have h4 : decide (m ≤ 12) = false := by simp; omega
        clear h
        go_enter Tryd.func21, Tryd.ntmps21
        go_wp2
        go_ret2
        exact ⟨rfl, rfl⟩
      · clear h
        go_enter Tryd.func21, Tryd.ntmps21
        go_wp2
        go_ret2
        exact ⟨rfl, rfl⟩
    · clear h
      go_enter Tryd.func21, Tryd.ntmps21
      go_wp2
      go_ret2
      exact ⟨rfl, rfl⟩
  · clear h
    go_enter Tryd.func21, Tryd.ntmps21
    go_wp2
    go_ret2
    exact ⟨rfl, rfl⟩

set_option maxHeartbeats 1000000 in
theorem days_yes (y m d : Int) (w : World) (hl : HasLen w) (hv : Cal.Valid y m d) :
    Calls Tryd.prog 22 #[.int .i64 y, .int .i64 m, .int .i64 d] w fun e w' => e = two (Cal.days y m d) 0 ∧ w = w' := by
  obtain ⟨h1, h2, h3, h4, h5, h6⟩ := hv
  have h7 := Cal.ml_bd y h3 h4
  have h8 := Cal.ys_bd h1 (by omega : y ≤ 2400)
  go_enter Tryd.func22, Tryd.ntmps22
  go_wp2_with (first | (go_at_call 39; refine (monthLength_any _ _ _ hl (by omega) (by omega) (by omega) (by omega)).mono ?_; rintro e w' ⟨rfl, rfl⟩) | (go_at_call 40; refine (yearStart_any _ _ (by omega) (by omega)).mono ?_; rintro e w' ⟨rfl, rfl⟩) | go_in)
  go_loop [8, 9] (fun n i => ∃ k : Int, 1 ≤ k ∧ k ≤ m ∧ i = .int .i64 k ∧ n = .int .i64 (Cal.ys y + Cal.cum y k)) (fun _ i => (m - intOf i).toNat)
  case atStart => exact ⟨1, by omega, by omega, rfl, by rw [Cal.cum_one]; simp⟩
  case round =>
    obtain ⟨k, hk1, hk2, rfl, rfl⟩ := hrel
    have hb := Cal.cum_bd y hk1 (by omega : k ≤ 13)
    have hm := Cal.ml_bd y hk1 (by omega : k ≤ 12)
    by_cases hlt : k < m
    · go_wp2_with (first | (go_at_call 39; refine (monthLength_any _ _ _ hl (by omega) (by omega) (by omega) (by omega)).mono ?_; rintro e w' ⟨rfl, rfl⟩) | go_in)
      go_round
      case rel => exact ⟨k + 1, by omega, by omega, by go_num, by rw [Cal.cum_succ y hk1 (by omega)]; go_num⟩
      case measure => simp [intOf]; omega
    · obtain rfl : k = m := by omega
      go_wp2
      go_ret2
      exact ⟨two_eq (by unfold Cal.days; omega) rfl, rfl⟩

set_option maxHeartbeats 1000000 in
theorem days_no (y m d : Int) (w : World) (hl : HasLen w) (h : ¬ Cal.Valid y m d) :
    Calls Tryd.prog 22 #[.int .i64 y, .int .i64 m, .int .i64 d] w fun e w' => e = two 0 1 ∧ w = w' := by
  unfold Cal.Valid at h
  by_cases h1 : 1600 ≤ y
  · by_cases h2 : y ≤ 2399
    · by_cases h3 : 1 ≤ m
      · by_cases h4 : m ≤ 12
        · by_cases h5 : 1 ≤ d
          · have h6 : Cal.ml y m < d := by omega
            clear h
            go_enter Tryd.func22, Tryd.ntmps22
            go_wp2_with (first | (go_at_call 39; refine (monthLength_any _ _ _ hl (by omega) (by omega) (by omega) (by omega)).mono ?_; rintro e w' ⟨rfl, rfl⟩) | go_in)
            go_ret2
            exact ⟨rfl, rfl⟩
          · clear h
            go_enter Tryd.func22, Tryd.ntmps22
            go_wp2
            go_ret2
            exact ⟨rfl, rfl⟩
        · clear h
          go_enter Tryd.func22, Tryd.ntmps22
          go_wp2
          go_ret2
          exact ⟨rfl, rfl⟩
      · clear h
        go_enter Tryd.func22, Tryd.ntmps22
        go_wp2
        go_ret2
        exact ⟨rfl, rfl⟩
    · clear h
      go_enter Tryd.func22, Tryd.ntmps22
      go_wp2
      go_ret2
      exact ⟨rfl, rfl⟩
  · clear h
    go_enter Tryd.func22, Tryd.ntmps22
    go_wp2
    go_ret2
    exact ⟨rfl, rfl⟩

theorem guess {n y : Int} (h1 : 1600 ≤ y) (h : n < Cal.ys (y + 1)) : 1600 + (n + 135140) / 366 ≤ y := by
  unfold Cal.ys at h; omega

set_option maxHeartbeats 400000 in
theorem weekday_yes (n : Int) (w : World) (h1 : -135140 ≤ n) (h2 : n ≤ 157053) :
    Calls Tryd.prog 23 #[.int .i64 n] w fun e w' => e = two ((n + 135146) % 7) 0 ∧ w = w' := by
  go_enter Tryd.func23, Tryd.ntmps23
  go_wp2
  go_ret2
  exact ⟨two_eq (by omega) rfl, rfl⟩

set_option maxHeartbeats 400000 in
theorem weekday_no (n : Int) (w : World) (h : ¬ (-135140 ≤ n ∧ n ≤ 157053)) :
    Calls Tryd.prog 23 #[.int .i64 n] w fun e w' => e = two 0 1 ∧ w = w' := by
  by_cases h1 : -135140 ≤ n
  · have h2 : decide (n ≤ 157053) = false := by simp; omega
    clear h
    go_enter Tryd.func23, Tryd.ntmps23
    go_wp2
    go_ret2
    exact ⟨rfl, rfl⟩
  · clear h
    go_enter Tryd.func23, Tryd.ntmps23
    go_wp2
    go_ret2
    exact ⟨rfl, rfl⟩
end Go.Proofs.YtjcoapjjnplnbaaDoor
