/- What the reference's Days, Date and Weekday return, for every input, and the statements' own small helpers dated, date and some. -/
import Derived.Test.YtjcoapjjnplnbaaDoorW3
namespace Go.Proofs.YtjcoapjjnplnbaaDoor
set_option linter.unusedVariables false
set_option linter.unusedSimpArgs false
open Go.RowKit

set_option maxHeartbeats 1000000 in
theorem rdays_yes (y m d : Int) (w : World) (hv : Cal.Valid y m d) :
    Calls Tryd.prog 28 #[.int .i64 y, .int .i64 m, .int .i64 d] w fun e w' => e = two (Cal.days y m d) 0 ∧ Gr w w' := by
  obtain ⟨h1, h2, h3, h4, h5, h6⟩ := hv
  have h7 := Cal.ml_bd y h3 h4
  have h8 := Cal.ys_bd h1 (by omega : y ≤ 2400)
  go_enter Tryd.func28, Tryd.ntmps28
  go_wp2_with fail
  refine (rlength_yes y m w h1 h2 h3 h4).mono ?_
  rintro e w1 ⟨rfl, hg⟩
  go_wp2_with (first | (go_at_call 43; refine (yearDay_any _ _ (by omega) (by omega)).mono ?_; rintro e w' ⟨rfl, rfl⟩) | go_in)
  go_loopw [10, 11] (fun n i wr => ∃ k : Int, 1 ≤ k ∧ k ≤ m ∧ i = .int .i64 k ∧ n = .int .i64 (Cal.ys y + d - 1 + Cal.cum y k) ∧ Gr w wr) (fun _ i _ => (m - intOf i).toNat)
  case atStart => exact ⟨1, by omega, by omega, rfl, by rw [Cal.cum_one]; simp, hg⟩
  case round =>
    obtain ⟨k, hk1, hk2, rfl, rfl, hgr⟩ := hrel
    have hb := Cal.cum_bd y hk1 (by omega : k ≤ 13)
    have hm := Cal.ml_bd y hk1 (by omega : k ≤ 12)
    by_cases hlt : k < m
    · go_wp2_with (go_at_call 27; refine (rlength_yes _ _ _ (by omega) (by omega) (by omega) (by omega)).mono ?_; rintro e w2 ⟨rfl, hg2⟩)
      go_roundw
      case rel => exact ⟨k + 1, by omega, by omega, by go_num, by rw [Cal.cum_succ y hk1 (by omega)]; go_num, hgr.trans hg2⟩
      case measure => simp [intOf]; omega
    · obtain rfl : k = m := by omega
      go_wp2
      go_ret2
      exact ⟨two_eq (by unfold Cal.days; omega) rfl, hgr⟩

set_option maxHeartbeats 1000000 in
theorem rdays_no (y m d : Int) (w : World) (h : ¬ Cal.Valid y m d) :
    Calls Tryd.prog 28 #[.int .i64 y, .int .i64 m, .int .i64 d] w fun e w' => e = two 0 1 ∧ Gr w w' := by
  unfold Cal.Valid at h
  by_cases hlen : 1600 ≤ y ∧ y ≤ 2399 ∧ 1 ≤ m ∧ m ≤ 12
  · obtain ⟨h1, h2, h3, h4⟩ := hlen
    by_cases h5 : d < 1
    · clear h
      go_enter Tryd.func28, Tryd.ntmps28
      go_wp2_with fail
      refine (rlength_yes y m w h1 h2 h3 h4).mono ?_
      rintro e w1 ⟨rfl, hg⟩
      go_wp2
      go_ret2
      exact ⟨rfl, hg⟩
    · have h6 : Cal.ml y m < d := by omega
      clear h
      go_enter Tryd.func28, Tryd.ntmps28
      go_wp2_with fail
      refine (rlength_yes y m w h1 h2 h3 h4).mono ?_
      rintro e w1 ⟨rfl, hg⟩
      go_wp2
      go_ret2
      exact ⟨rfl, hg⟩
  · clear h
    go_enter Tryd.func28, Tryd.ntmps28
    go_wp2_with fail
    refine (rlength_no y m w hlen).mono ?_
    rintro e w1 ⟨rfl, rfl⟩
    go_wp2
    go_ret2
    exact ⟨rfl, Gr.refl _⟩

set_option maxHeartbeats 400000 in
theorem rweekday_any (n : Int) (w : World) (h1 : -135140 ≤ n) (h2 : n ≤ 157053) :
    Calls Tryd.prog 29 #[.int .i64 n] w fun e w' => e = .returned (.int .i64 ((n + 135146) % 7)) ∧ w = w' := by
  go_enter Tryd.func29, Tryd.ntmps29
  go_wp2_with fail
  refine (rest_any (n + 4) 7 w (by omega) (by omega) (by omega) (by omega)).mono ?_
  rintro e w1 ⟨rfl, rfl⟩
  go_wp2
  go_ret
  exact ⟨ret_int (by omega), rfl⟩


set_option maxHeartbeats 400000 in
theorem date_any (y m d : Int) (w : World) (y1 : -9223372036854775808 ≤ y) (y2 : y ≤ 9223372036854775807) (m1 : -9223372036854775808 ≤ m) (m2 : m ≤ 9223372036854775807)
    (d1 : -9223372036854775808 ≤ d) (d2 : d ≤ 9223372036854775807) :
    Calls Tryd.prog 24 #[.int .i64 y, .int .i64 m, .int .i64 d] w fun e w' => e = three (y % 800 + 1600) (m % 12 + 1) (d % Cal.ml (y % 800 + 1600) (m % 12 + 1) + 1) ∧ Gr w w' := by
  have a1 := Int.emod_nonneg y (by omega : (800 : Int) ≠ 0)
  have a2 := Int.emod_lt_of_pos y (by omega : (0 : Int) < 800)
  have b1 := Int.emod_nonneg m (by omega : (12 : Int) ≠ 0)
  have b2 := Int.emod_lt_of_pos m (by omega : (0 : Int) < 12)
  have hml := Cal.ml_bd (y % 800 + 1600) (m := m % 12 + 1) (by omega) (by omega)
  have c1 := Int.emod_nonneg d (by omega : Cal.ml (y % 800 + 1600) (m % 12 + 1) ≠ 0)
  have c2 := Int.emod_lt_of_pos d (by omega : 0 < Cal.ml (y % 800 + 1600) (m % 12 + 1))
  go_enter Tryd.func24, Tryd.ntmps24
  go_wp2_with fail
  refine (rest_any y 800 w y1 y2 (by omega) (by omega)).mono ?_
  rintro e w1 ⟨rfl, rfl⟩
  go_wp2_with fail
  refine (rest_any m 12 w m1 m2 (by omega) (by omega)).mono ?_
  rintro e w1 ⟨rfl, rfl⟩
  go_wp2_with fail
  refine (rlength_yes (y % 800 + 1600) (m % 12 + 1) w (by omega) (by omega) (by omega) (by omega)).mono ?_
  rintro e w1 ⟨rfl, hg⟩
  go_wp2_with fail
  refine (rest_any d (Cal.ml (y % 800 + 1600) (m % 12 + 1)) w1 d1 d2 (by omega) (by omega)).mono ?_
  rintro e w1 ⟨rfl, rfl⟩
  go_wp2
  go_ret3
  exact ⟨rfl, hg⟩

theorem date_valid (y m d : Int) : Cal.Valid (y % 800 + 1600) (m % 12 + 1) (d % Cal.ml (y % 800 + 1600) (m % 12 + 1) + 1) := by
  have hml := Cal.ml_bd (y % 800 + 1600) (m := m % 12 + 1) (by omega) (by omega)
  have c1 := Int.emod_nonneg d (by omega : Cal.ml (y % 800 + 1600) (m % 12 + 1) ≠ 0)
  have c2 := Int.emod_lt_of_pos d (by omega : 0 < Cal.ml (y % 800 + 1600) (m % 12 + 1))
  exact ⟨by omega, by omega, by omega, by omega, by omega, by omega⟩
end Go.Proofs.YtjcoapjjnplnbaaDoor
