/- What the project's Span and Stamp return, for every input. -/
import Derived.Test.YteljpjhjoclkfaaGreatDoorK1
import Derived.Test.YteljpjhjoclkfaaGreatDoorWA
namespace Go.Proofs.YteljpjhjoclkfaaGreatDoor
set_option linter.unusedVariables false
set_option linter.unusedSimpArgs false
open Go.RowKit

set_option maxHeartbeats 1000000 in
theorem span_pos (n : Int) (w : World) (hp : HasPow w) (h1 : 0 ≤ n) (h2 : n ≤ 604800) :
    Calls Tryz.prog 28 #[.int .i64 n] w fun e w' => e = strInt (S (spanL0 n)) 0 ∧ Gr w w' := by
  have hl := (dz_len 8 (n / 3600) (by omega) (by omega)).2
  have q : Hid (n % 3600 / 60 = n / 60 % 60) := by unfold Hid; omega
  by_cases h : n % 60 = 0
  · have t := bneF h
    have E : Hid (spanL0 n = dz (n / 3600) ++ 58 :: d2 (n / 60 % 60)) := by simp [Hid, spanL0, h]
    clear h
    go_enter Tryz.func28, Tryz.ntmps28
    go_wp2_with fail
    refine (itoa_any (n / 3600) w (by omega) (by omega) hp).mono ?_
    rintro e w1 ⟨rfl, hg⟩
    go_wp2_with fail
    refine (twoDigits_any (n % 3600 / 60) w1 (by omega) (by omega)).mono ?_
    rintro e w2 ⟨rfl, hg2⟩
    go_wp2_with fail
    go_ret2
    exact ⟨strInt_eq (by rw [E.out, q.out]) rfl, hg.trans hg2⟩
  · have t := bneT h
    have E : Hid (spanL0 n = dz (n / 3600) ++ 58 :: (d2 (n / 60 % 60) ++ 58 :: d2 (n % 60))) := by simp [Hid, spanL0, h]
    clear h
    go_enter Tryz.func28, Tryz.ntmps28
    go_wp2_with fail
    refine (itoa_any (n / 3600) w (by omega) (by omega) hp).mono ?_
    rintro e w1 ⟨rfl, hg⟩
    go_wp2_with fail
    refine (twoDigits_any (n % 3600 / 60) w1 (by omega) (by omega)).mono ?_
    rintro e w2 ⟨rfl, hg2⟩
    go_wp2_with fail
    refine (twoDigits_any (n % 60) w2 (by omega) (by omega)).mono ?_
    rintro e w3 ⟨rfl, hg3⟩
    go_wp2_with fail
    go_ret2
    exact ⟨strInt_eq (by rw [E.out, q.out]) rfl, (hg.trans hg2).trans hg3⟩

set_option maxHeartbeats 1000000 in
theorem span_neg (n : Int) (w : World) (hp : HasPow w) (h1 : 0 < n) (h2 : n ≤ 604800) :
    Calls Tryz.prog 28 #[.int .i64 (-n)] w fun e w' => e = strInt (S (45 :: spanL0 n)) 0 ∧ Gr w w' := by
  have hl := (dz_len 8 (n / 3600) (by omega) (by omega)).2
  have q : Hid (n % 3600 / 60 = n / 60 % 60) := by unfold Hid; omega
  by_cases h : n % 60 = 0
  · have t := bneF h
    have E : Hid (spanL0 n = dz (n / 3600) ++ 58 :: d2 (n / 60 % 60)) := by simp [Hid, spanL0, h]
    clear h
    go_enter Tryz.func28, Tryz.ntmps28
    go_wp2_with fail
    refine (itoa_any (n / 3600) w (by omega) (by omega) hp).mono ?_
    rintro e w1 ⟨rfl, hg⟩
    go_wp2_with fail
    refine (twoDigits_any (n % 3600 / 60) w1 (by omega) (by omega)).mono ?_
    rintro e w2 ⟨rfl, hg2⟩
    go_wp2_with fail
    go_ret2
    exact ⟨strInt_eq (by rw [E.out, q.out]) rfl, hg.trans hg2⟩
  · have t := bneT h
    have E : Hid (spanL0 n = dz (n / 3600) ++ 58 :: (d2 (n / 60 % 60) ++ 58 :: d2 (n % 60))) := by simp [Hid, spanL0, h]
    clear h
    go_enter Tryz.func28, Tryz.ntmps28
    go_wp2_with fail
    refine (itoa_any (n / 3600) w (by omega) (by omega) hp).mono ?_
    rintro e w1 ⟨rfl, hg⟩
    go_wp2_with fail
    refine (twoDigits_any (n % 3600 / 60) w1 (by omega) (by omega)).mono ?_
    rintro e w2 ⟨rfl, hg2⟩
    go_wp2_with fail
    refine (twoDigits_any (n % 60) w2 (by omega) (by omega)).mono ?_
    rintro e w3 ⟨rfl, hg3⟩
    go_wp2_with fail
    go_ret2
    exact ⟨strInt_eq (by rw [E.out, q.out]) rfl, (hg.trans hg2).trans hg3⟩

theorem span_yes (n : Int) (w : World) (hp : HasPow w) (h1 : -604800 ≤ n) (h2 : n ≤ 604800) :
    Calls Tryz.prog 28 #[.int .i64 n] w fun e w' => e = strInt (S (spanL n)) 0 ∧ Gr w w' := by
  by_cases h : n < 0
  · have e : spanL n = 45 :: spanL0 (-n) := by simp [spanL, h]
    rw [e]
    have := span_neg (-n) w hp (by omega) (by omega)
    rw [Int.neg_neg] at this
    exact this
  · have e : spanL n = spanL0 n := by simp [spanL, h]
    rw [e]
    exact span_pos n w hp (by omega) h2

set_option maxHeartbeats 400000 in
theorem span_no (n : Int) (w : World) (h : ¬ (-604800 ≤ n ∧ n ≤ 604800)) :
    Calls Tryz.prog 28 #[.int .i64 n] w fun e w' => e = strInt (S []) 1 ∧ Gr w w' := by
  by_cases h1 : n < -604800
  · clear h
    go_enter Tryz.func28, Tryz.ntmps28
    go_wp2
    go_ret2
    exact ⟨rfl, Gr.refl _⟩
  · have h2 : 604800 < n := by omega
    have h1' := ltF h1
    clear h
    go_enter Tryz.func28, Tryz.ntmps28
    go_wp2
    go_ret2
    exact ⟨rfl, Gr.refl _⟩
end Go.Proofs.YteljpjhjoclkfaaGreatDoor
