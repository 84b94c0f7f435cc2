/- What the project's Span and Stamp return, for every input. -/
import Derived.Test.YtmemgpmijphkmaaDoorK1
import Derived.Test.YtmemgpmijphkmaaDoorW2
namespace Go.Proofs.YtmemgpmijphkmaaDoor
set_option linter.unusedVariables false
set_option linter.unusedSimpArgs false
open Go.RowKit

set_option maxHeartbeats 1000000 in
theorem stamp_yes (t y m d r : Int) (w : World) (hl : HasLen w) (hp : HasPow w) (hv : Cal.Valid y m d) (h1 : 0 ≤ r) (h2 : r < 86400) (ht : 86400 * Cal.days y m d + r = t) :
    Calls Tryd.prog 60 #[.int .i64 t] w fun e w' => e = strInt (S (stampL y m d r)) 0 ∧ Gr w w' := by
  have hb := Cal.days_bd hv
  have hr : t % 86400 = r := by omega
  have hd : t / 86400 = Cal.days y m d := by omega
  have c1 := splitDay_any t w (by omega) (by omega)
  rw [hr, hd] at c1
  have v1 := hv.1
  have v2 := hv.2.1
  have v3 := hv.2.2.1
  have v4 := hv.2.2.2.1
  have v5 := hv.2.2.2.2.1
  have v6 : d ≤ 31 := by have := (Cal.ml_bd y v3 v4).2; have := hv.2.2.2.2.2; omega
  have q : Hid (r % 3600 / 60 = r / 60 % 60) := by unfold Hid; omega
  have hy := dz_d4 (n := y) (by omega) (by omega)
  have HY := Lib.hid hy
  have hyl : (dz y).length = 4 := by rw [hy]; rfl
  clear hr ht hd hb hy
  go_enter Tryd.func60, Tryd.ntmps60
  go_wp2_with fail
  refine c1.mono ?_
  rintro e w1 ⟨rfl, hg1⟩
  clear c1
  go_wp2_with fail
  refine (date_yes (Cal.days y m d) y m d w1 (hg1.len hl) hv rfl).mono ?_
  rintro e w2 ⟨rfl, rfl⟩
  go_wp2_with fail
  refine (itoa_any y w1 (by omega) (by omega) (hg1.pow hp)).mono ?_
  rintro e w3 ⟨rfl, hg3⟩
  go_wp2_with fail
  refine (twoDigits_any m w3 (by omega) (by omega)).mono ?_
  rintro e w4 ⟨rfl, hg4⟩
  go_wp2_with fail
  refine (twoDigits_any d w4 (by omega) (by omega)).mono ?_
  rintro e w5 ⟨rfl, hg5⟩
  go_wp2_with fail
  refine (twoDigits_any (r / 3600) w5 (by omega) (by omega)).mono ?_
  rintro e w6 ⟨rfl, hg6⟩
  go_wp2_with fail
  refine (twoDigits_any (r % 3600 / 60) w6 (by omega) (by omega)).mono ?_
  rintro e w7 ⟨rfl, hg7⟩
  go_wp2_with fail
  refine (twoDigits_any (r % 60) w7 (by omega) (by omega)).mono ?_
  rintro e w8 ⟨rfl, hg8⟩
  go_wp2_with fail
  go_ret2
  exact ⟨strInt_eq (by rw [HY.out, q.out]; unfold stampL; simp) rfl, (((((hg1.trans hg3).trans hg4).trans hg5).trans hg6).trans hg7).trans hg8⟩

set_option maxHeartbeats 400000 in
theorem stamp_no (t : Int) (w : World) (t1 : -9223372036854775808 ≤ t) (t2 : t ≤ 9223372036854775807) (h : ¬ (-135140 ≤ t / 86400 ∧ t / 86400 ≤ 157053)) :
    Calls Tryd.prog 60 #[.int .i64 t] w fun e w' => e = strInt (S []) 1 ∧ Gr w w' := by
  have c1 := splitDay_any t w t1 t2
  have c2 := fun w => date_no (t / 86400) w h
  have C2 := Lib.hid c2
  clear h c2
  generalize t / 86400 = q at c1 C2
  generalize t % 86400 = r at c1
  go_enter Tryd.func60, Tryd.ntmps60
  go_wp2_with fail
  refine c1.mono ?_
  rintro e w1 ⟨rfl, hg1⟩
  clear c1
  go_wp2_with fail
  refine (C2.out w1).mono ?_
  rintro e w2 ⟨rfl, hg2⟩
  go_wp2_with fail
  go_ret2
  exact ⟨rfl, by first | exact hg1.trans hg2 | (subst hg2; exact hg1)⟩
end Go.Proofs.YtmemgpmijphkmaaDoor
