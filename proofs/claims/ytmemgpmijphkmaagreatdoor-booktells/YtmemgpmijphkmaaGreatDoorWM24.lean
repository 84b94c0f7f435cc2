/- What the project's Span and Stamp return, for every input. -/
import Derived.Test.YtmemgpmijphkmaaGreatDoorWM23
import Derived.Test.YtmemgpmijphkmaaGreatDoorWM04
namespace Go.Proofs.YtmemgpmijphkmaaGreatDoor
set_option linter.unusedVariables false
set_option linter.unusedSimpArgs false
open Go.RowKit
set_option maxHeartbeats 1000000 in
theorem span_pos (n : Int) (w : World) (hp : HasPow w) (h1 : 0 ≤ n) (h2 : n ≤ 604800) :
    Calls Tryz.prog 56 #[.int .i64 n] w fun e w' => e = strInt (S (spanL0 n)) 0 ∧ Gr w w' := by
  have hl := (dz_len 8 (n / 3600) (by omega) (by omega)).2
  have q : Hid (n % 3600 / 60 = n / 60 % 60) := by unfold Hid; omega
  by_cases h : n % 60 = 0
  · have t := bneF h
    have E : Hid (spanL0 n = dz (n / 3600) ++ 58 :: d2 (n / 60 % 60)) := by simp [Hid, spanL0, h]
    clear h
    go_enter Tryz.func56, Tryz.ntmps56
    go_wp2_with fail
    refine (itoa_any (n / 3600) w (by omega) (by omega) hp).mono ?_
    rintro e w1 ⟨rfl, hg⟩
    go_wp2_with fail
    refine (twoDigits_any (n % 3600 / 60) w1 (by omega) (by omega)).mono ?_
    rintro e w2 ⟨rfl, hg2⟩
    go_wp2_with fail
    go_ret2
    exact ⟨strInt_eq (by rw [E.out, q.out]) rfl, hg.trans hg2⟩
  · have t := bneT h
    have E : Hid (spanL0 n = dz (n / 3600) ++ 58 :: (d2 (n / 60 % 60) ++ 58 :: d2 (n % 60))) := by simp [Hid, spanL0, h]
    clear h
    go_enter Tryz.func56, Tryz.ntmps56
    go_wp2_with fail
    refine (itoa_any (n / 3600) w (by omega) (by omega) hp).mono ?_
    rintro e w1 ⟨rfl, hg⟩
    go_wp2_with fail
    refine (twoDigits_any (n % 3600 / 60) w1 (by omega) (by omega)).mono ?_
    rintro e w2 ⟨rfl, hg2⟩
    go_wp2_with fail
    refine (twoDigits_any (n % 60) w2 (by omega) (by omega)).mono ?_
    rintro e w3 ⟨rfl, hg3⟩
    go_wp2_with fail
    go_ret2
    exact ⟨strInt_eq (by rw [E.out, q.out]) rfl, (hg.trans hg2).trans hg3⟩

set_option maxHeartbeats 1000000 in
theorem span_neg (n : Int) (w : World) (hp : HasPow w) (h1 : 0 < n) (h2 : n ≤ 604800) :
    Calls Tryz.prog 56 #[.int .i64 (-n)] w fun e w' => e = strInt (S (45 :: spanL0 n)) 0 ∧ Gr w w' := by
  have hl := (dz_len 8 (n / 3600) (by omega) (by omega)).2
  have q : Hid (n % 3600 / 60 = n / 60 % 60) := by unfold Hid; omega
  by_cases h : n % 60 = 0
  · have t := bneF h
    have E : Hid (spanL0 n = dz (n / 3600) ++ 58 :: d2 (n / 60 % 60)) := by simp [Hid, spanL0, h]
    clear h
    go_enter Tryz.func56, Tryz.ntmps56
    go_wp2_with fail
    refine (itoa_any (n / 3600) w (by omega) (by omega) hp).mono ?_
    rintro e w1 ⟨rfl, hg⟩
    go_wp2_with fail
    refine (twoDigits_any (n % 3600 / 60) w1 (by omega) (by omega)).mono ?_
    rintro e w2 ⟨rfl, hg2⟩
    go_wp2_with fail
    go_ret2
    exact ⟨strInt_eq (by rw [E.out, q.out]) rfl, hg.trans hg2⟩
  · have t := bneT h
    have E : Hid (spanL0 n = dz (n / 3600) ++ 58 :: (d2 (n / 60 % 60) ++ 58 :: d2 (n % 60))) := by simp [Hid, spanL0, h]
    clear h
    go_enter Tryz.func56, Tryz.ntmps56
    go_wp2_with fail
    refine (itoa_any (n / 3600) w (by omega) (by omega) hp).mono ?_
    rintro e w1 ⟨rfl, hg⟩
    go_wp2_with fail
    refine (twoDigits_any (n % 3600 / 60) w1 (by omega) (by omega)).mono ?_
    rintro e w2 ⟨rfl, hg2⟩
    go_wp2_with fail
    refine (twoDigits_any (n % 60) w2 (by omega) (by omega)).mono ?_
    rintro e w3 ⟨rfl, hg3⟩
    go_wp2_with fail
    go_ret2
    exact ⟨strInt_eq (by rw [E.out, q.out]) rfl, (hg.trans hg2).trans hg3⟩

theorem span_yes (n : Int) (w : World) (hp : HasPow w) (h1 : -604800 ≤ n) (h2 : n ≤ 604800) :
    Calls Tryz.prog 56 #[.int .i64 n] w fun e w' => e = strInt (S (spanL n)) 0 ∧ Gr w w' := by
  by_cases h : n < 0
  · have e : spanL n = 45 :: spanL0 (-n) := by simp [spanL, h]
    rw [e]
    have := span_neg (-n) w hp (by omega) (by omega)
    rw [Int.neg_neg] at this
    exact this
  · have e : spanL n = spanL0 n := by simp [spanL, h]
    rw [e]
    exact span_pos n w hp (by omega) h2

set_option maxHeartbeats 1000000 in
theorem stamp_yes (t y m d r : Int) (w : World) (hl : HasLen w) (hp : HasPow w) (hv : Cal.Valid y m d) (h1 : 0 ≤ r) (h2 : r < 86400) (ht : 86400 * Cal.days y m d + r = t) :
    Calls Tryz.prog 24 #[.int .i64 t] w fun e w' => e = strInt (S (stampL y m d r)) 0 ∧ Gr w w' := by
  have hb := Cal.days_bd hv
  have hr : t % 86400 = r := by omega
  have hd : t / 86400 = Cal.days y m d := by omega
  have c1 := splitDay_any t w (by omega) (by omega)
  rw [hr, hd] at c1
  have v1 := hv.1
  have v2 := hv.2.1
  have v3 := hv.2.2.1
  have v4 := hv.2.2.2.1
  have v5 := hv.2.2.2.2.1
  have v6 : d ≤ 31 := by have := (Cal.ml_bd y v3 v4).2; have := hv.2.2.2.2.2; omega
  have q : Hid (r % 3600 / 60 = r / 60 % 60) := by unfold Hid; omega
  have hy := dz_d4 (n := y) (by omega) (by omega)
  have HY := Lib.hid hy
  have hyl : (dz y).length = 4 := by rw [hy]; rfl
  clear hr ht hd hb hy
  go_enter Tryz.func24, Tryz.ntmps24
  go_wp2_with fail
  refine c1.mono ?_
  rintro e w1 ⟨rfl, hg1⟩
  clear c1
  go_wp2_with fail
  refine (date_yes (Cal.days y m d) y m d w1 (hg1.len hl) hv rfl).mono ?_
  rintro e w2 ⟨rfl, rfl⟩
  go_wp2_with fail
  refine (itoa_any y w1 (by omega) (by omega) (hg1.pow hp)).mono ?_
  rintro e w3 ⟨rfl, hg3⟩
  go_wp2_with fail
  refine (twoDigits_any m w3 (by omega) (by omega)).mono ?_
  rintro e w4 ⟨rfl, hg4⟩
  go_wp2_with fail
  refine (twoDigits_any d w4 (by omega) (by omega)).mono ?_
  rintro e w5 ⟨rfl, hg5⟩
  go_wp2_with fail
  refine (twoDigits_any (r / 3600) w5 (by omega) (by omega)).mono ?_
  rintro e w6 ⟨rfl, hg6⟩
  go_wp2_with fail
  refine (twoDigits_any (r % 3600 / 60) w6 (by omega) (by omega)).mono ?_
  rintro e w7 ⟨rfl, hg7⟩
  go_wp2_with fail
  refine (twoDigits_any (r % 60) w7 (by omega) (by omega)).mono ?_
  rintro e w8 ⟨rfl, hg8⟩
  go_wp2_with fail
  go_ret2
  exact ⟨strInt_eq (by rw [HY.out, q.out]; unfold stampL; simp) rfl, (((((hg1.trans hg3).trans hg4).trans hg5).trans hg6).trans hg7).trans hg8⟩

set_option maxHeartbeats 400000 in
theorem stamp_no (t : Int) (w : World) (t1 : -9223372036854775808 ≤ t) (t2 : t ≤ 9223372036854775807) (h : ¬ (-135140 ≤ t / 86400 ∧ t / 86400 ≤ 157053)) :
    Calls Tryz.prog 24 #[.int .i64 t] w fun e w' => e = strInt (S []) 1 ∧ Gr w w' := by
  have c1 := splitDay_any t w t1 t2
  have c2 := fun w => date_no (t / 86400) w h
  have C2 := Lib.hid c2
  clear h c2
  generalize t / 86400 = q at c1 C2
  generalize t % 86400 = r at c1
  go_enter Tryz.func24, Tryz.ntmps24
  go_wp2_with fail
  refine c1.mono ?_
  rintro e w1 ⟨rfl, hg1⟩
  clear c1
  go_wp2_with fail
  refine (C2.out w1).mono ?_
  rintro e w2 ⟨rfl, hg2⟩
  go_wp2_with fail
  go_ret2
  exact ⟨rfl, by first | exact hg1.trans hg2 | (subst hg2; exact hg1)⟩
end Go.Proofs.YtmemgpmijphkmaaGreatDoor
