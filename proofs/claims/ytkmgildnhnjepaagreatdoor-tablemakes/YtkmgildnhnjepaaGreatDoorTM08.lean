/- What the reference's DayOf returns, for every input. What the project's Check and move of package day return, for every input. -/
import Derived.Deep.QuietTactic
import Derived.BigQuiet
import Derived.Test.YtkmgildnhnjepaaGreatDoorTM07
namespace Go.Proofs.YtkmgildnhnjepaaGreatDoor
set_option linter.unusedVariables false
set_option linter.unusedSimpArgs false
open Go.RowKit
set_option maxHeartbeats 400000 in
theorem rweekday_wide (n : Int) (w : World) (h1 : -1000000 ≤ n) (h2 : n ≤ 1000000) :
    Calls Tryz.prog 87 #[.int .i64 n] w fun e w' => e = .returned (.int .i64 ((n + 135146) % 7)) ∧ w' = w := by
  go_enter Tryz.func87, Tryz.ntmps87
  go_wp2_with fail
  refine (rest_any (n + 4) 7 w (by omega) (by omega) (by omega) (by omega)).mono ?_
  rintro e w1 ⟨rfl, rfl⟩
  go_wp2
  go_ret
  exact ⟨ret_int (by omega), rfl⟩

/-- the first day from one on that is a given weekday -/
def nd (a d : Int) : Int := a + (d - (a + 135146)) % 7
theorem nd_bd (a d : Int) : a ≤ nd a d ∧ nd a d ≤ a + 6 := by unfold nd; omega
theorem nd_is {a d : Int} (h1 : 0 ≤ d) (h2 : d ≤ 6) : (nd a d + 135146) % 7 = d := by unfold nd; omega
theorem nd_not {a d j : Int} (h1 : 0 ≤ d) (h2 : d ≤ 6) (h3 : a ≤ j) (h4 : j < nd a d) : ¬ (j + 135146) % 7 = d := by unfold nd at h4; omega
/-- the day that is looked for -/
def dayT (y m k d n : Int) : Int := if k = 1 then Cal.days y m 1 + n - 1 else if k = 2 then nd (Cal.days y m 1 + Cal.ml y m - 7) d else if k = 3 then nd (Cal.days y m 1 + n - 1) d else nd (Cal.days y m 1 + n - 1 - 6) d
/-- what DayOf answers -/
def dayA (y m k d n : Int) : Ending := if DayOk k d n then (if 1600 ≤ y ∧ y ≤ 2399 ∧ 1 ≤ m ∧ m ≤ 12 then (if Cal.ml y m < n then two 0 6 else if -135140 ≤ dayT y m k d n ∧ dayT y m k d n ≤ 157053 then two (dayT y m k d n) 0 else two 0 1) else two 0 1) else two 0 1

set_option maxHeartbeats 2000000 in
theorem rdayOf_bad (y m k d n : Int) (w : World) (h : ¬ DayOk k d n) :
    Calls Tryz.prog 60 #[.int .i64 y, .int .i64 m, dayV k d n] w fun e w' => e = dayA y m k d n ∧ Gr w w' := by
  have E := Lib.hid (show two 0 1 = dayA y m k d n by unfold dayA; rw [if_neg h])
  have c := rdayCheck k d n (w.alloc (.cells #[.int .i64 k, .int .i64 d, .int .i64 n] 116))
  rw [dchk_no h] at c
  clear h
  go_enter Tryz.func60, Tryz.ntmps60
  go_wp2_with fail
  refine c.mono ?_
  rintro e w1 ⟨rfl, hg⟩
  go_wp2_with fail
  go_ret2
  exact ⟨E.out, (Gr.alloc _ _).trans hg⟩

set_option maxHeartbeats 2000000 in
theorem rdayOf_month (y m k d n : Int) (w : World) (h : DayOk k d n) (hm : ¬ (1600 ≤ y ∧ y ≤ 2399 ∧ 1 ≤ m ∧ m ≤ 12)) :
    Calls Tryz.prog 60 #[.int .i64 y, .int .i64 m, dayV k d n] w fun e w' => e = dayA y m k d n ∧ Gr w w' := by
  have E := Lib.hid (show two 0 1 = dayA y m k d n by unfold dayA; rw [if_pos h, if_neg hm])
  have c := rdayCheck k d n (w.alloc (.cells #[.int .i64 k, .int .i64 d, .int .i64 n] 116))
  rw [dchk_yes h] at c
  clear h
  go_enter Tryz.func60, Tryz.ntmps60
  go_wp2_with fail
  refine c.mono ?_
  rintro e w1 ⟨rfl, hg⟩
  go_wp2_with fail
  refine (rlength_no y m w1 hm).mono ?_
  rintro e w2 ⟨rfl, rfl⟩
  go_wp2_with fail
  go_ret2
  exact ⟨E.out, (Gr.alloc _ _).trans hg⟩

set_option maxHeartbeats 2000000 in
theorem rdayOf_long (y m k d n : Int) (w : World) (h : DayOk k d n) (h1 : 1600 ≤ y) (h2 : y ≤ 2399) (h3 : 1 ≤ m) (h4 : m ≤ 12) (hl : Cal.ml y m < n) :
    Calls Tryz.prog 60 #[.int .i64 y, .int .i64 m, dayV k d n] w fun e w' => e = dayA y m k d n ∧ Gr w w' := by
  have E := Lib.hid (show two 0 6 = dayA y m k d n by unfold dayA; rw [if_pos h, if_pos ⟨h1, h2, h3, h4⟩, if_pos hl])
  have c := rdayCheck k d n (w.alloc (.cells #[.int .i64 k, .int .i64 d, .int .i64 n] 116))
  rw [dchk_yes h] at c
  have hc : (w.alloc (.cells #[.int .i64 k, .int .i64 d, .int .i64 n] 116)).cell? ⟨w.heap.size, 2, none⟩ = some (.int .i64 n) := by rw [World.cell?_alloc_new]; rfl
  clear h
  go_enter Tryz.func60, Tryz.ntmps60
  go_wp2_with fail
  refine c.mono ?_
  rintro e w1 ⟨rfl, hg⟩
  have hc1 := hg.holds hc
  have hgw := (Gr.alloc w _).trans hg
  clear c hc hg
  generalize w.heap.size = b at hc1 ⊢
  go_wp2_with fail
  refine (rlength_yes y m w1 h1 h2 h3 h4).mono ?_
  rintro e w2 ⟨rfl, hg2⟩
  have hc2 := hg2.holds hc1
  clear hc1
  go_wp2_with fail
  go_ret2
  exact ⟨E.out, hgw.trans hg2⟩

theorem first_valid {y m : Int} (h1 : 1600 ≤ y) (h2 : y ≤ 2399) (h3 : 1 ≤ m) (h4 : m ≤ 12) : Cal.Valid y m 1 := ⟨h1, h2, h3, h4, by omega, by have := (Cal.ml_bd y h3 h4).1; omega⟩
theorem dayA_ok {y m k d n : Int} (h : DayOk k d n) (h1 : 1600 ≤ y) (h2 : y ≤ 2399) (h3 : 1 ≤ m) (h4 : m ≤ 12) (hl : ¬ Cal.ml y m < n) : dayA y m k d n = if -135140 ≤ dayT y m k d n ∧ dayT y m k d n ≤ 157053 then two (dayT y m k d n) 0 else two 0 1 := by
  unfold dayA; rw [if_pos h, if_pos ⟨h1, h2, h3, h4⟩, if_neg hl]

set_option maxHeartbeats 4000000 in
theorem rdayOf_1 (y m d n : Int) (w : World) (h : DayOk 1 d n) (h1 : 1600 ≤ y) (h2 : y ≤ 2399) (h3 : 1 ≤ m) (h4 : m ≤ 12) (hl : ¬ Cal.ml y m < n) :
    Calls Tryz.prog 60 #[.int .i64 y, .int .i64 m, dayV 1 d n] w fun e w' => e = dayA y m 1 d n ∧ Gr w w' := by
  have hA := dayA_ok h h1 h2 h3 h4 hl
  have c := rdayCheck 1 d n (w.alloc (.cells #[.int .i64 1, .int .i64 d, .int .i64 n] 116))
  rw [dchk_yes h] at c
  have hc0 : (w.alloc (.cells #[.int .i64 1, .int .i64 d, .int .i64 n] 116)).cell? ⟨w.heap.size, 0, none⟩ = some (.int .i64 1) := by rw [World.cell?_alloc_new]; rfl
  have hc1 : (w.alloc (.cells #[.int .i64 1, .int .i64 d, .int .i64 n] 116)).cell? ⟨w.heap.size, 1, none⟩ = some (.int .i64 d) := by rw [World.cell?_alloc_new]; rfl
  have hc2 : (w.alloc (.cells #[.int .i64 1, .int .i64 d, .int .i64 n] 116)).cell? ⟨w.heap.size, 2, none⟩ = some (.int .i64 n) := by rw [World.cell?_alloc_new]; rfl
  have hv := first_valid h1 h2 h3 h4
  have fb := Cal.days_bd hv
  have mb := Cal.ml_bd y h3 h4
  have dn : 0 ≤ d ∧ d ≤ 6 ∧ 0 ≤ n ∧ n ≤ 31 := by
    obtain ⟨_, a, _, b, c⟩ := h
    refine ⟨a.1, a.2, ?_, ?_⟩
    · have := c (by omega); omega
    · have := c (by omega); omega
  obtain ⟨d1, d2, n1, n2⟩ := dn
  obtain ⟨fb1, fb2⟩ := fb
  obtain ⟨mb1, mb2⟩ := mb
  have L := rlength_yes y m
  have D := rdays_yes y m 1
  have hT : dayT y m 1 d n = Cal.days y m 1 + n - 1 := by simp [dayT]
  rw [hT] at hA
  clear hT h
  go_enter Tryz.func60, Tryz.ntmps60
  go_wp2_with fail
  refine c.mono ?_
  rintro e w1 ⟨rfl, hg⟩
  have g0 := hg.holds hc0
  have g1 := hg.holds hc1
  have g2 := hg.holds hc2
  have hgw := (Gr.alloc w _).trans hg
  clear c hc0 hc1 hc2 hg
  generalize w.heap.size = b at g0 g1 g2 ⊢
  have L1 := L w1 h1 h2 h3 h4
  clear L
  go_wp2_with fail
  refine L1.mono ?_
  rintro e w2 ⟨rfl, hg2⟩
  have k0 := hg2.holds g0
  have k1 := hg2.holds g1
  have k2 := hg2.holds g2
  have hgw2 := hgw.trans hg2
  clear L1 g0 g1 g2 hgw hg2
  have D1 := D w2 hv
  clear D
  go_wp2_with fail
  refine D1.mono ?_
  rintro e w3 ⟨rfl, hg3⟩
  have q0 := hg3.holds k0
  have q1 := hg3.holds k1
  have q2 := hg3.holds k2
  have hgw3 := hgw2.trans hg3
  clear D1 k0 k1 k2 hgw2 hg3 hv
  generalize Cal.days y m 1 = f at fb1 fb2 hA ⊢
  generalize Cal.ml y m = ml at mb1 mb2 hl hA ⊢
  have HA := Lib.hid hA
  clear hA
  have r1 : -135140 ≤ f + n - 1 ∨ f + n - 1 < -135140 := by omega
  go_wp2_with fail
  refine wp_loop_rounds 1 ?_
  rw [rounds_succ]
  go_wp2_with fail
  go_quiet (fail)
  by_cases hr : -135140 ≤ f + n - 1 ∧ f + n - 1 ≤ 157053
  · have E := Lib.hid (HA.out.trans (if_pos hr))
    go_wp2_with fail
    refine (risTime_yes (f + n - 1) _ hr.1 hr.2).mono ?_
    rintro e w4 ⟨rfl, hw4⟩
    subst hw4
    clear hr
    go_wp2_with fail
    go_ret2
    exact ⟨E.out.symm, hgw3.drewN _⟩
  · have E := Lib.hid (HA.out.trans (if_neg hr))
    go_wp2_with fail
    refine (risTime_no (f + n - 1) _ (by omega) (by omega) hr).mono ?_
    rintro e w4 ⟨rfl, hw4⟩
    subst hw4
    clear hr
    go_wp2_with fail
    go_ret2
    exact ⟨E.out.symm, hgw3.drewN _⟩

set_option maxHeartbeats 4000000 in
theorem rdayOf_2 (y m d n : Int) (w : World) (h : DayOk 2 d n) (h1 : 1600 ≤ y) (h2 : y ≤ 2399) (h3 : 1 ≤ m) (h4 : m ≤ 12) (hl : ¬ Cal.ml y m < n) :
    Calls Tryz.prog 60 #[.int .i64 y, .int .i64 m, dayV 2 d n] w fun e w' => e = dayA y m 2 d n ∧ Gr w w' := by
  have hA := dayA_ok h h1 h2 h3 h4 hl
  have c := rdayCheck 2 d n (w.alloc (.cells #[.int .i64 2, .int .i64 d, .int .i64 n] 116))
  rw [dchk_yes h] at c
  have hc0 : (w.alloc (.cells #[.int .i64 2, .int .i64 d, .int .i64 n] 116)).cell? ⟨w.heap.size, 0, none⟩ = some (.int .i64 2) := by rw [World.cell?_alloc_new]; rfl
  have hc1 : (w.alloc (.cells #[.int .i64 2, .int .i64 d, .int .i64 n] 116)).cell? ⟨w.heap.size, 1, none⟩ = some (.int .i64 d) := by rw [World.cell?_alloc_new]; rfl
  have hc2 : (w.alloc (.cells #[.int .i64 2, .int .i64 d, .int .i64 n] 116)).cell? ⟨w.heap.size, 2, none⟩ = some (.int .i64 n) := by rw [World.cell?_alloc_new]; rfl
  have hv := first_valid h1 h2 h3 h4
  have fb := Cal.days_bd hv
  have mb := Cal.ml_bd y h3 h4
  have dn : 0 ≤ d ∧ d ≤ 6 ∧ 0 ≤ n ∧ n ≤ 31 := by
    obtain ⟨_, a, _, b, c⟩ := h
    refine ⟨a.1, a.2, ?_, ?_⟩
    · have := b rfl; omega
    · have := b rfl; omega
  obtain ⟨d1, d2, n1, n2⟩ := dn
  obtain ⟨fb1, fb2⟩ := fb
  obtain ⟨mb1, mb2⟩ := mb
  have L := rlength_yes y m
  have D := rdays_yes y m 1
  have hT : dayT y m 2 d n = nd (Cal.days y m 1 + Cal.ml y m - 7) d := by simp [dayT]
  rw [hT] at hA
  clear hT h
  go_enter Tryz.func60, Tryz.ntmps60
  go_wp2_with fail
  refine c.mono ?_
  rintro e w1 ⟨rfl, hg⟩
  have g0 := hg.holds hc0
  have g1 := hg.holds hc1
  have g2 := hg.holds hc2
  have hgw := (Gr.alloc w _).trans hg
  clear c hc0 hc1 hc2 hg
  generalize w.heap.size = b at g0 g1 g2 ⊢
  have L1 := L w1 h1 h2 h3 h4
  clear L
  go_wp2_with fail
  refine L1.mono ?_
  rintro e w2 ⟨rfl, hg2⟩
  have k0 := hg2.holds g0
  have k1 := hg2.holds g1
  have k2 := hg2.holds g2
  have hgw2 := hgw.trans hg2
  clear L1 g0 g1 g2 hgw hg2
  have D1 := D w2 hv
  clear D
  go_wp2_with fail
  refine D1.mono ?_
  rintro e w3 ⟨rfl, hg3⟩
  have q0 := hg3.holds k0
  have q1 := hg3.holds k1
  have q2 := hg3.holds k2
  have hgw3 := hgw2.trans hg3
  clear D1 k0 k1 k2 hgw2 hg3 hv
  generalize Cal.days y m 1 = f at fb1 fb2 hA ⊢
  generalize Cal.ml y m = ml at mb1 mb2 hl hA ⊢
  have HA := Lib.hid hA
  clear hA
  obtain ⟨a, ha⟩ : ∃ a, f + ml - 7 = a := ⟨_, rfl⟩
  rw [ha] at HA
  have a1 : -150000 ≤ a := by omega
  have a2 : a ≤ 160000 := by omega
  have HAA := Lib.hid ha
  have tb := nd_bd a d
  have TI := Lib.hid (nd_is (a := a) d1 d2)
  have TN : Hid (∀ j, a ≤ j → j < nd a d → ¬ (j + 135146) % 7 = d) := fun j x y => nd_not d1 d2 x y
  obtain ⟨t, ht⟩ : ∃ t, nd a d = t := ⟨_, rfl⟩
  rw [ht] at HA tb TI TN
  obtain ⟨tb1, tb2⟩ := tb
  clear ht ha
  go_wp2_with fail
  go_loopw [16] (fun i wr => ∃ j : Int, a ≤ j ∧ j ≤ t ∧ i = .int .i64 j ∧ Gr w wr ∧ wr.cell? ⟨b, 0, none⟩ = some (.int .i64 2) ∧ wr.cell? ⟨b, 1, none⟩ = some (.int .i64 d)) (fun i _ => (t - intOf i).toNat)
  case atStart => exact ⟨a, by omega, by omega, by rw [← HAA.out], hgw3, q0, q1⟩
  case round =>
    obtain ⟨j, j1, j2, rfl, hg, c0, c1⟩ := hrel
    clear q0 q1 q2 hgw3
    have aa := HAA.out
    by_cases hlt : j < t
    · have nt : ((j + 135146) % 7 == d) = false := beqF (TN.out j j1 hlt)
      have jr : j ≤ f + ml - 1 := by omega
      clear aa
      go_wp2_with fail
      go_quiet ((go_at_call 87; exact Calls.quiet_of_same (rweekday_wide _ _ (by omega) (by omega))))
      go_wp2_with fail
      go_roundw
      case rel => exact ⟨j + 1, by omega, by omega, by go_num, hg.drewN _, c0, c1⟩
      case measure => simp [intOf]; omega
    · obtain rfl : j = t := by omega
      have nt : ((j + 135146) % 7 == d) = true := beqT TI.out
      have jr : j ≤ f + ml - 1 := by omega
      clear aa
      go_wp2_with fail
      go_quiet ((go_at_call 87; exact Calls.quiet_of_same (rweekday_wide _ _ (by omega) (by omega))))
      by_cases hr : -135140 ≤ j ∧ j ≤ 157053
      · have E := Lib.hid (HA.out.trans (if_pos hr))
        go_wp2_with fail
        refine (risTime_yes j _ hr.1 hr.2).mono ?_
        rintro e w4 ⟨rfl, hw4⟩
        subst hw4
        clear hr
        go_wp2_with fail
        go_ret2
        exact ⟨E.out.symm, hg.drewN _⟩
      · have E := Lib.hid (HA.out.trans (if_neg hr))
        go_wp2_with fail
        refine (risTime_no j _ (by omega) (by omega) hr).mono ?_
        rintro e w4 ⟨rfl, hw4⟩
        subst hw4
        clear hr
        go_wp2_with fail
        go_ret2
        exact ⟨E.out.symm, hg.drewN _⟩

set_option maxHeartbeats 4000000 in
theorem rdayOf_3 (y m d n : Int) (w : World) (h : DayOk 3 d n) (h1 : 1600 ≤ y) (h2 : y ≤ 2399) (h3 : 1 ≤ m) (h4 : m ≤ 12) (hl : ¬ Cal.ml y m < n) :
    Calls Tryz.prog 60 #[.int .i64 y, .int .i64 m, dayV 3 d n] w fun e w' => e = dayA y m 3 d n ∧ Gr w w' := by
  have hA := dayA_ok h h1 h2 h3 h4 hl
  have c := rdayCheck 3 d n (w.alloc (.cells #[.int .i64 3, .int .i64 d, .int .i64 n] 116))
  rw [dchk_yes h] at c
  have hc0 : (w.alloc (.cells #[.int .i64 3, .int .i64 d, .int .i64 n] 116)).cell? ⟨w.heap.size, 0, none⟩ = some (.int .i64 3) := by rw [World.cell?_alloc_new]; rfl
  have hc1 : (w.alloc (.cells #[.int .i64 3, .int .i64 d, .int .i64 n] 116)).cell? ⟨w.heap.size, 1, none⟩ = some (.int .i64 d) := by rw [World.cell?_alloc_new]; rfl
  have hc2 : (w.alloc (.cells #[.int .i64 3, .int .i64 d, .int .i64 n] 116)).cell? ⟨w.heap.size, 2, none⟩ = some (.int .i64 n) := by rw [World.cell?_alloc_new]; rfl
  have hv := first_valid h1 h2 h3 h4
  have fb := Cal.days_bd hv
  have mb := Cal.ml_bd y h3 h4
  have dn : 0 ≤ d ∧ d ≤ 6 ∧ 0 ≤ n ∧ n ≤ 31 := by
    obtain ⟨_, a, _, b, c⟩ := h
    refine ⟨a.1, a.2, ?_, ?_⟩
    · have := c (by omega); omega
    · have := c (by omega); omega
  obtain ⟨d1, d2, n1, n2⟩ := dn
  obtain ⟨fb1, fb2⟩ := fb
  obtain ⟨mb1, mb2⟩ := mb
  have L := rlength_yes y m
  have D := rdays_yes y m 1
  have hT : dayT y m 3 d n = nd (Cal.days y m 1 + n - 1) d := by simp [dayT]
  rw [hT] at hA
  clear hT h
  go_enter Tryz.func60, Tryz.ntmps60
  go_wp2_with fail
  refine c.mono ?_
  rintro e w1 ⟨rfl, hg⟩
  have g0 := hg.holds hc0
  have g1 := hg.holds hc1
  have g2 := hg.holds hc2
  have hgw := (Gr.alloc w _).trans hg
  clear c hc0 hc1 hc2 hg
  generalize w.heap.size = b at g0 g1 g2 ⊢
  have L1 := L w1 h1 h2 h3 h4
  clear L
  go_wp2_with fail
  refine L1.mono ?_
  rintro e w2 ⟨rfl, hg2⟩
  have k0 := hg2.holds g0
  have k1 := hg2.holds g1
  have k2 := hg2.holds g2
  have hgw2 := hgw.trans hg2
  clear L1 g0 g1 g2 hgw hg2
  have D1 := D w2 hv
  clear D
  go_wp2_with fail
  refine D1.mono ?_
  rintro e w3 ⟨rfl, hg3⟩
  have q0 := hg3.holds k0
  have q1 := hg3.holds k1
  have q2 := hg3.holds k2
  have hgw3 := hgw2.trans hg3
  clear D1 k0 k1 k2 hgw2 hg3 hv
  generalize Cal.days y m 1 = f at fb1 fb2 hA ⊢
  generalize Cal.ml y m = ml at mb1 mb2 hl hA ⊢
  have HA := Lib.hid hA
  clear hA
  obtain ⟨a, ha⟩ : ∃ a, f + n - 1 = a := ⟨_, rfl⟩
  rw [ha] at HA
  have a1 : -150000 ≤ a := by omega
  have a2 : a ≤ 160000 := by omega
  have HAA := Lib.hid ha
  have tb := nd_bd a d
  have TI := Lib.hid (nd_is (a := a) d1 d2)
  have TN : Hid (∀ j, a ≤ j → j < nd a d → ¬ (j + 135146) % 7 = d) := fun j x y => nd_not d1 d2 x y
  obtain ⟨t, ht⟩ : ∃ t, nd a d = t := ⟨_, rfl⟩
  rw [ht] at HA tb TI TN
  obtain ⟨tb1, tb2⟩ := tb
  clear ht ha
  go_wp2_with fail
  go_loopw [16] (fun i wr => ∃ j : Int, a ≤ j ∧ j ≤ t ∧ i = .int .i64 j ∧ Gr w wr ∧ wr.cell? ⟨b, 0, none⟩ = some (.int .i64 3) ∧ wr.cell? ⟨b, 1, none⟩ = some (.int .i64 d)) (fun i _ => (t - intOf i).toNat)
  case atStart => exact ⟨a, by omega, by omega, by rw [← HAA.out], hgw3, q0, q1⟩
  case round =>
    obtain ⟨j, j1, j2, rfl, hg, c0, c1⟩ := hrel
    clear q0 q1 q2 hgw3
    have aa := HAA.out
    by_cases hlt : j < t
    · have nt : ((j + 135146) % 7 == d) = false := beqF (TN.out j j1 hlt)
      have jr : j ≤ f + n - 1 + 6 := by omega
      clear aa
      go_wp2_with fail
      go_quiet ((go_at_call 87; exact Calls.quiet_of_same (rweekday_wide _ _ (by omega) (by omega))))
      go_wp2_with fail
      go_roundw
      case rel => exact ⟨j + 1, by omega, by omega, by go_num, hg.drewN _, c0, c1⟩
      case measure => simp [intOf]; omega
    · obtain rfl : j = t := by omega
      have nt : ((j + 135146) % 7 == d) = true := beqT TI.out
      have jr : j ≤ f + n - 1 + 6 := by omega
      clear aa
      go_wp2_with fail
      go_quiet ((go_at_call 87; exact Calls.quiet_of_same (rweekday_wide _ _ (by omega) (by omega))))
      by_cases hr : -135140 ≤ j ∧ j ≤ 157053
      · have E := Lib.hid (HA.out.trans (if_pos hr))
        go_wp2_with fail
        refine (risTime_yes j _ hr.1 hr.2).mono ?_
        rintro e w4 ⟨rfl, hw4⟩
        subst hw4
        clear hr
        go_wp2_with fail
        go_ret2
        exact ⟨E.out.symm, hg.drewN _⟩
      · have E := Lib.hid (HA.out.trans (if_neg hr))
        go_wp2_with fail
        refine (risTime_no j _ (by omega) (by omega) hr).mono ?_
        rintro e w4 ⟨rfl, hw4⟩
        subst hw4
        clear hr
        go_wp2_with fail
        go_ret2
        exact ⟨E.out.symm, hg.drewN _⟩

set_option maxHeartbeats 4000000 in
theorem rdayOf_4 (y m d n : Int) (w : World) (h : DayOk 4 d n) (h1 : 1600 ≤ y) (h2 : y ≤ 2399) (h3 : 1 ≤ m) (h4 : m ≤ 12) (hl : ¬ Cal.ml y m < n) :
    Calls Tryz.prog 60 #[.int .i64 y, .int .i64 m, dayV 4 d n] w fun e w' => e = dayA y m 4 d n ∧ Gr w w' := by
  have hA := dayA_ok h h1 h2 h3 h4 hl
  have c := rdayCheck 4 d n (w.alloc (.cells #[.int .i64 4, .int .i64 d, .int .i64 n] 116))
  rw [dchk_yes h] at c
  have hc0 : (w.alloc (.cells #[.int .i64 4, .int .i64 d, .int .i64 n] 116)).cell? ⟨w.heap.size, 0, none⟩ = some (.int .i64 4) := by rw [World.cell?_alloc_new]; rfl
  have hc1 : (w.alloc (.cells #[.int .i64 4, .int .i64 d, .int .i64 n] 116)).cell? ⟨w.heap.size, 1, none⟩ = some (.int .i64 d) := by rw [World.cell?_alloc_new]; rfl
  have hc2 : (w.alloc (.cells #[.int .i64 4, .int .i64 d, .int .i64 n] 116)).cell? ⟨w.heap.size, 2, none⟩ = some (.int .i64 n) := by rw [World.cell?_alloc_new]; rfl
  have hv := first_valid h1 h2 h3 h4
  have fb := Cal.days_bd hv
  have mb := Cal.ml_bd y h3 h4
  have dn : 0 ≤ d ∧ d ≤ 6 ∧ 0 ≤ n ∧ n ≤ 31 := by
    obtain ⟨_, a, _, b, c⟩ := h
    refine ⟨a.1, a.2, ?_, ?_⟩
    · have := c (by omega); omega
    · have := c (by omega); omega
  obtain ⟨d1, d2, n1, n2⟩ := dn
  obtain ⟨fb1, fb2⟩ := fb
  obtain ⟨mb1, mb2⟩ := mb
  have L := rlength_yes y m
  have D := rdays_yes y m 1
  have hT : dayT y m 4 d n = nd (Cal.days y m 1 + n - 1 - 6) d := by simp [dayT]
  rw [hT] at hA
  clear hT h
  go_enter Tryz.func60, Tryz.ntmps60
  go_wp2_with fail
  refine c.mono ?_
  rintro e w1 ⟨rfl, hg⟩
  have g0 := hg.holds hc0
  have g1 := hg.holds hc1
  have g2 := hg.holds hc2
  have hgw := (Gr.alloc w _).trans hg
  clear c hc0 hc1 hc2 hg
  generalize w.heap.size = b at g0 g1 g2 ⊢
  have L1 := L w1 h1 h2 h3 h4
  clear L
  go_wp2_with fail
  refine L1.mono ?_
  rintro e w2 ⟨rfl, hg2⟩
  have k0 := hg2.holds g0
  have k1 := hg2.holds g1
  have k2 := hg2.holds g2
  have hgw2 := hgw.trans hg2
  clear L1 g0 g1 g2 hgw hg2
  have D1 := D w2 hv
  clear D
  go_wp2_with fail
  refine D1.mono ?_
  rintro e w3 ⟨rfl, hg3⟩
  have q0 := hg3.holds k0
  have q1 := hg3.holds k1
  have q2 := hg3.holds k2
  have hgw3 := hgw2.trans hg3
  clear D1 k0 k1 k2 hgw2 hg3 hv
  generalize Cal.days y m 1 = f at fb1 fb2 hA ⊢
  generalize Cal.ml y m = ml at mb1 mb2 hl hA ⊢
  have HA := Lib.hid hA
  clear hA
  obtain ⟨a, ha⟩ : ∃ a, f + n - 1 - 6 = a := ⟨_, rfl⟩
  rw [ha] at HA
  have a1 : -150000 ≤ a := by omega
  have a2 : a ≤ 160000 := by omega
  have HAA := Lib.hid ha
  have tb := nd_bd a d
  have TI := Lib.hid (nd_is (a := a) d1 d2)
  have TN : Hid (∀ j, a ≤ j → j < nd a d → ¬ (j + 135146) % 7 = d) := fun j x y => nd_not d1 d2 x y
  obtain ⟨t, ht⟩ : ∃ t, nd a d = t := ⟨_, rfl⟩
  rw [ht] at HA tb TI TN
  obtain ⟨tb1, tb2⟩ := tb
  clear ht ha
  go_wp2_with fail
  go_loopw [16] (fun i wr => ∃ j : Int, a ≤ j ∧ j ≤ t ∧ i = .int .i64 j ∧ Gr w wr ∧ wr.cell? ⟨b, 0, none⟩ = some (.int .i64 4) ∧ wr.cell? ⟨b, 1, none⟩ = some (.int .i64 d)) (fun i _ => (t - intOf i).toNat)
  case atStart => exact ⟨a, by omega, by omega, by rw [← HAA.out], hgw3, q0, q1⟩
  case round =>
    obtain ⟨j, j1, j2, rfl, hg, c0, c1⟩ := hrel
    clear q0 q1 q2 hgw3
    have aa := HAA.out
    by_cases hlt : j < t
    · have nt : ((j + 135146) % 7 == d) = false := beqF (TN.out j j1 hlt)
      have jr : j ≤ f + n - 1 := by omega
      clear aa
      go_wp2_with fail
      go_quiet ((go_at_call 87; exact Calls.quiet_of_same (rweekday_wide _ _ (by omega) (by omega))))
      go_wp2_with fail
      go_roundw
      case rel => exact ⟨j + 1, by omega, by omega, by go_num, hg.drewN _, c0, c1⟩
      case measure => simp [intOf]; omega
    · obtain rfl : j = t := by omega
      have nt : ((j + 135146) % 7 == d) = true := beqT TI.out
      have jr : j ≤ f + n - 1 := by omega
      clear aa
      go_wp2_with fail
      go_quiet ((go_at_call 87; exact Calls.quiet_of_same (rweekday_wide _ _ (by omega) (by omega))))
      by_cases hr : -135140 ≤ j ∧ j ≤ 157053
      · have E := Lib.hid (HA.out.trans (if_pos hr))
        go_wp2_with fail
        refine (risTime_yes j _ hr.1 hr.2).mono ?_
        rintro e w4 ⟨rfl, hw4⟩
        subst hw4
        clear hr
        go_wp2_with fail
        go_ret2
        exact ⟨E.out.symm, hg.drewN _⟩
      · have E := Lib.hid (HA.out.trans (if_neg hr))
        go_wp2_with fail
        refine (risTime_no j _ (by omega) (by omega) hr).mono ?_
        rintro e w4 ⟨rfl, hw4⟩
        subst hw4
        clear hr
        go_wp2_with fail
        go_ret2
        exact ⟨E.out.symm, hg.drewN _⟩

theorem rdayOf (y m k d n : Int) (w : World) :
    Calls Tryz.prog 60 #[.int .i64 y, .int .i64 m, dayV k d n] w fun e w' => e = dayA y m k d n ∧ Gr w w' := by
  by_cases h : DayOk k d n
  · by_cases hm : 1600 ≤ y ∧ y ≤ 2399 ∧ 1 ≤ m ∧ m ≤ 12
    · obtain ⟨h1, h2, h3, h4⟩ := hm
      by_cases hl : Cal.ml y m < n
      · exact rdayOf_long y m k d n w h h1 h2 h3 h4 hl
      · have hk : k = 1 ∨ k = 2 ∨ k = 3 ∨ k = 4 := by have := h.1; omega
        rcases hk with e | e | e | e <;> subst e
        · exact rdayOf_1 y m d n w h h1 h2 h3 h4 hl
        · exact rdayOf_2 y m d n w h h1 h2 h3 h4 hl
        · exact rdayOf_3 y m d n w h h1 h2 h3 h4 hl
        · exact rdayOf_4 y m d n w h h1 h2 h3 h4 hl
    · exact rdayOf_month y m k d n w h hm
  · exact rdayOf_bad y m k d n w h
end Go.Proofs.YtkmgildnhnjepaaGreatDoor
namespace Go.Proofs.YtkmgildnhnjepaaGreatDoor
set_option linter.unusedVariables false
set_option linter.unusedSimpArgs false
open Go.RowKit
theorem leT {a b : Int} (h : a ≤ b) : decide (a ≤ b) = true := by simp [h]
theorem leF {a b : Int} (h : ¬ a ≤ b) : decide (a ≤ b) = false := by simp at h ⊢; exact h
set_option maxHeartbeats 2000000 in
theorem check_walk (k d n : Int) (w : World) (p1 p2 p3 p4 p5 p6 q1 q2 q3 q4 : Bool)
    (e1 : decide (0 ≤ d) = p1) (e2 : decide (d < 7) = p2) (e3 : decide (1 ≤ n) = p3) (e4 : decide (n ≤ 31) = p4) (e5 : (d == 0) = p5) (e6 : (n == 0) = p6)
    (f1 : (k == 1) = q1) (f2 : (k == 2) = q2) (f3 : (k == 3) = q3) (f4 : (k == 4) = q4) (r : Int)
    (hr : r = if q1 || q2 || q3 || q4 then (if (if q1 then p5 else p1 && p2) && (if q2 && !q1 then p6 else p3 && p4) then 0 else 1) else 1) :
    Calls Tryz.prog 102 #[dayV k d n] w fun e w' => e = .returned (.int .i64 r) ∧ Gr w w' := by
  have HR := Lib.hid hr
  clear hr
  cases p1 <;> cases p3 <;> cases q1 <;> cases q2
  all_goals
    go_enter Tryz.func102, Tryz.ntmps102
    go_wp2
  all_goals go_ret
  all_goals (refine ⟨ret_int ?_, Gr.alloc _ _⟩; rw [HR.out]; clear HR; simp_all)

theorem dayCheck (k d n : Int) (w : World) :
    Calls Tryz.prog 102 #[dayV k d n] w fun e w' => e = .returned (.int .i64 (dchk k d n)) ∧ Gr w w' := by
  refine check_walk k d n w _ _ _ _ _ _ _ _ _ _ rfl rfl rfl rfl rfl rfl rfl rfl rfl rfl (dchk k d n) ?_
  have x : (k == 1 || k == 2 || k == 3 || k == 4) = decide (1 ≤ k ∧ k ≤ 4) := by rw [Bool.eq_iff_iff]; simp; omega
  rw [x]
  by_cases c : 1 ≤ k ∧ k ≤ 4
  · rw [if_pos (by simpa using c)]
    unfold dchk
    by_cases h : DayOk k d n
    · rw [if_pos h, if_pos]
      unfold DayOk at h
      by_cases a : k = 1
      · subst a; simp; omega
      · by_cases b : k = 2
        · subst b; simp; omega
        · simp [a, b]; omega
    · rw [if_neg h, if_neg]
      intro hh
      apply h
      unfold DayOk
      by_cases a : k = 1
      · subst a; simp at hh ⊢; omega
      · by_cases b : k = 2
        · subst b; simp at hh ⊢; omega
        · simp [a, b] at hh ⊢; omega
  · rw [if_neg (by simpa using c)]
    exact dchk_no (by unfold DayOk; omega)

/-- how far the looked-for day is from day N -/
def mv (k d wd : Int) : Int := if k = 3 then (d - wd + 7) % 7 else if k = 4 then -((wd - d + 7) % 7) else 0

set_option maxHeartbeats 400000 in
theorem move_any (k d n wd : Int) (w : World) (d1 : 0 ≤ d) (d2 : d ≤ 6) (w1 : 0 ≤ wd) (w2 : wd ≤ 6) :
    Calls Tryz.prog 131 #[dayV k d n, .int .i64 wd] w fun e w' => e = .returned (.int .i64 (mv k d wd)) ∧ Gr w w' := by
  by_cases a : k = 3
  · subst a
    have E := Lib.hid (show mv 3 d wd = (d - wd + 7) % 7 by simp [mv])
    go_enter Tryz.func131, Tryz.ntmps131
    go_wp2
    go_ret
    exact ⟨ret_int (by have := E.out; omega), by first | exact Gr.alloc _ _ | exact (Gr.alloc _ _).drewN _⟩
  · by_cases b : k = 4
    · subst b
      have E := Lib.hid (show mv 4 d wd = -((wd - d + 7) % 7) by simp [mv])
      go_enter Tryz.func131, Tryz.ntmps131
      go_wp2
      go_ret
      exact ⟨ret_int (by have := E.out; omega), by first | exact Gr.alloc _ _ | exact (Gr.alloc _ _).drewN _⟩
    · have E := Lib.hid (show mv k d wd = 0 by simp [mv, a, b])
      have a' : (k == 3) = false := beqF a
      have b' : (k == 4) = false := beqF b
      clear a b
      go_enter Tryz.func131, Tryz.ntmps131
      go_wp2
      go_ret
      exact ⟨ret_int (by have := E.out; omega), by first | exact Gr.alloc _ _ | exact (Gr.alloc _ _).drewN _⟩
end Go.Proofs.YtkmgildnhnjepaaGreatDoor
