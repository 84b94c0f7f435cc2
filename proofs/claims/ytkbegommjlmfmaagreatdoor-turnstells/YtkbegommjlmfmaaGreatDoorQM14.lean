/- What the reference's Days, Date and Weekday return, for every input, and the statements' own small helpers dated, date and some. What the reference's functions on days of months return: DayCheck, IsTime, DayOf. -/
import Derived.Test.YtkbegommjlmfmaaGreatDoorQM13
namespace Go.Proofs.YtkbegommjlmfmaaGreatDoor
set_option linter.unusedVariables false
set_option linter.unusedSimpArgs false
open Go.RowKit
set_option maxHeartbeats 1000000 in
theorem rdays_yes (y m d : Int) (w : World) (hv : Cal.Valid y m d) :
    Calls Tryz.prog 49 #[.int .i64 y, .int .i64 m, .int .i64 d] w fun e w' => e = two (Cal.days y m d) 0 ∧ Gr w w' := by
  obtain ⟨h1, h2, h3, h4, h5, h6⟩ := hv
  have h7 := Cal.ml_bd y h3 h4
  have h8 := Cal.ys_bd h1 (by omega : y ≤ 2400)
  go_enter Tryz.func49, Tryz.ntmps49
  go_wp2_with fail
  refine (rlength_yes y m w h1 h2 h3 h4).mono ?_
  rintro e w1 ⟨rfl, hg⟩
  go_wp2_with (first | (go_at_call 72; refine (yearDay_any _ _ (by omega) (by omega)).mono ?_; rintro e w' ⟨rfl, rfl⟩) | go_in)
  go_loopw [10, 11] (fun n i wr => ∃ k : Int, 1 ≤ k ∧ k ≤ m ∧ i = .int .i64 k ∧ n = .int .i64 (Cal.ys y + d - 1 + Cal.cum y k) ∧ Gr w wr) (fun _ i _ => (m - intOf i).toNat)
  case atStart => exact ⟨1, by omega, by omega, rfl, by rw [Cal.cum_one]; simp, hg⟩
  case round =>
    obtain ⟨k, hk1, hk2, rfl, rfl, hgr⟩ := hrel
    have hb := Cal.cum_bd y hk1 (by omega : k ≤ 13)
    have hm := Cal.ml_bd y hk1 (by omega : k ≤ 12)
    by_cases hlt : k < m
    · go_wp2_with (go_at_call 45; refine (rlength_yes _ _ _ (by omega) (by omega) (by omega) (by omega)).mono ?_; rintro e w2 ⟨rfl, hg2⟩)
      go_roundw
      case rel => exact ⟨k + 1, by omega, by omega, by go_num, by rw [Cal.cum_succ y hk1 (by omega)]; go_num, hgr.trans hg2⟩
      case measure => simp [intOf]; omega
    · obtain rfl : k = m := by omega
      go_wp2
      go_ret2
      exact ⟨two_eq (by unfold Cal.days; omega) rfl, hgr⟩

end Go.Proofs.YtkbegommjlmfmaaGreatDoor
namespace Go.Proofs.YtkbegommjlmfmaaGreatDoor
set_option linter.unusedVariables false
set_option linter.unusedSimpArgs false
open Go.RowKit
/-- a day of a month as a value -/
abbrev dayV (k d n : Int) : Value := .agg #[.int .i64 k, .int .i64 d, .int .i64 n]
def DayOk (k d n : Int) : Prop := (1 ≤ k ∧ k ≤ 4) ∧ (0 ≤ d ∧ d ≤ 6) ∧ (k = 1 → d = 0) ∧ (k = 2 → n = 0) ∧ (k ≠ 2 → 1 ≤ n ∧ n ≤ 31)
instance (k d n : Int) : Decidable (DayOk k d n) := by unfold DayOk; infer_instance
/-- what DayCheck answers -/
def dchk (k d n : Int) : Int := if DayOk k d n then 0 else 1

theorem dchk_yes {k d n : Int} (h : DayOk k d n) : dchk k d n = 0 := by unfold dchk; exact if_pos h
theorem dchk_no {k d n : Int} (h : ¬ DayOk k d n) : dchk k d n = 1 := by unfold dchk; exact if_neg h

set_option maxHeartbeats 4000000 in
theorem rdayCheck (k d n : Int) (w : World) :
    Calls Tryz.prog 44 #[dayV k d n] w fun e w' => e = .returned (.int .i64 (dchk k d n)) ∧ Gr w w' := by
  by_cases k1 : k < 1
  · have k1' : decide (k < 1) = true := ltT k1
    have E := Lib.hid (dchk_no (k := k) (d := d) (n := n) (by unfold DayOk; omega))
    go_enter Tryz.func44, Tryz.ntmps44
    go_wp2
    go_ret
    exact ⟨ret_int E.out.symm, Gr.alloc _ _⟩
  · have k1' : decide (k < 1) = false := ltF k1
    by_cases k4 : 4 < k
    · have k4' : decide (4 < k) = true := ltT k4
      have E := Lib.hid (dchk_no (k := k) (d := d) (n := n) (by unfold DayOk; omega))
      go_enter Tryz.func44, Tryz.ntmps44
      go_wp2
      go_ret
      exact ⟨ret_int E.out.symm, Gr.alloc _ _⟩
    · have k4' : decide (4 < k) = false := ltF k4
      by_cases d0 : d < 0
      · have d0' : decide (d < 0) = true := ltT d0
        have E := Lib.hid (dchk_no (k := k) (d := d) (n := n) (by unfold DayOk; omega))
        go_enter Tryz.func44, Tryz.ntmps44
        go_wp2
        go_ret
        exact ⟨ret_int E.out.symm, Gr.alloc _ _⟩
      · have d0' : decide (d < 0) = false := ltF d0
        by_cases d6 : 6 < d
        · have d6' : decide (6 < d) = true := ltT d6
          have E := Lib.hid (dchk_no (k := k) (d := d) (n := n) (by unfold DayOk; omega))
          go_enter Tryz.func44, Tryz.ntmps44
          go_wp2
          go_ret
          exact ⟨ret_int E.out.symm, Gr.alloc _ _⟩
        · have d6' : decide (6 < d) = false := ltF d6
          by_cases e1 : k = 1
          · have e1' : (k == 1) = true := beqT e1
            by_cases z : d = 0
            · have z' : (d != 0) = false := bneF z
              have e2' : (k == 2) = false := beqF (by omega)
              have e3' : (k != 2) = true := bneT (by omega)
              by_cases n1 : n < 1
              · have n1' : decide (n < 1) = true := ltT n1
                have E := Lib.hid (dchk_no (k := k) (d := d) (n := n) (by unfold DayOk; omega))
                clear e1 z
                go_enter Tryz.func44, Tryz.ntmps44
                go_wp2
                go_ret
                exact ⟨ret_int E.out.symm, Gr.alloc _ _⟩
              · have n1' : decide (n < 1) = false := ltF n1
                by_cases n31 : 31 < n
                · have n31' : decide (31 < n) = true := ltT n31
                  have E := Lib.hid (dchk_no (k := k) (d := d) (n := n) (by unfold DayOk; omega))
                  clear e1 z
                  go_enter Tryz.func44, Tryz.ntmps44
                  go_wp2
                  go_ret
                  exact ⟨ret_int E.out.symm, Gr.alloc _ _⟩
                · have n31' : decide (31 < n) = false := ltF n31
                  have E := Lib.hid (dchk_yes (k := k) (d := d) (n := n) (by unfold DayOk; omega))
                  clear e1 z
                  go_enter Tryz.func44, Tryz.ntmps44
                  go_wp2
                  go_ret
                  exact ⟨ret_int E.out.symm, Gr.alloc _ _⟩
            · have z' : (d != 0) = true := bneT z
              have E := Lib.hid (dchk_no (k := k) (d := d) (n := n) (by unfold DayOk; omega))
              clear e1 z
              go_enter Tryz.func44, Tryz.ntmps44
              go_wp2
              go_ret
              exact ⟨ret_int E.out.symm, Gr.alloc _ _⟩
          · have e1' : (k == 1) = false := beqF e1
            by_cases e2 : k = 2
            · have e2' : (k == 2) = true := beqT e2
              have e3' : (k != 2) = false := bneF e2
              by_cases z : n = 0
              · have z' : (n != 0) = false := bneF z
                have E := Lib.hid (dchk_yes (k := k) (d := d) (n := n) (by unfold DayOk; omega))
                clear e1 e2 z
                go_enter Tryz.func44, Tryz.ntmps44
                go_wp2
                go_ret
                exact ⟨ret_int E.out.symm, Gr.alloc _ _⟩
              · have z' : (n != 0) = true := bneT z
                have E := Lib.hid (dchk_no (k := k) (d := d) (n := n) (by unfold DayOk; omega))
                clear e1 e2 z
                go_enter Tryz.func44, Tryz.ntmps44
                go_wp2
                go_ret
                exact ⟨ret_int E.out.symm, Gr.alloc _ _⟩
            · have e2' : (k == 2) = false := beqF e2
              have e3' : (k != 2) = true := bneT e2
              by_cases n1 : n < 1
              · have n1' : decide (n < 1) = true := ltT n1
                have E := Lib.hid (dchk_no (k := k) (d := d) (n := n) (by unfold DayOk; omega))
                clear e1 e2
                go_enter Tryz.func44, Tryz.ntmps44
                go_wp2
                go_ret
                exact ⟨ret_int E.out.symm, Gr.alloc _ _⟩
              · have n1' : decide (n < 1) = false := ltF n1
                by_cases n31 : 31 < n
                · have n31' : decide (31 < n) = true := ltT n31
                  have E := Lib.hid (dchk_no (k := k) (d := d) (n := n) (by unfold DayOk; omega))
                  clear e1 e2
                  go_enter Tryz.func44, Tryz.ntmps44
                  go_wp2
                  go_ret
                  exact ⟨ret_int E.out.symm, Gr.alloc _ _⟩
                · have n31' : decide (31 < n) = false := ltF n31
                  have E := Lib.hid (dchk_yes (k := k) (d := d) (n := n) (by unfold DayOk; omega))
                  clear e1 e2
                  go_enter Tryz.func44, Tryz.ntmps44
                  go_wp2
                  go_ret
                  exact ⟨ret_int E.out.symm, Gr.alloc _ _⟩

set_option maxHeartbeats 400000 in
theorem risTime_yes (n : Int) (w : World) (h1 : -135140 ≤ n) (h2 : n ≤ 157053) :
    Calls Tryz.prog 48 #[.int .i64 (86400 * n)] w fun e w' => e = .returned (.bool true) ∧ w = w' := by
  have e1 := Cal.ys_1600
  have e2 := Cal.ys_2400
  have y1 : Cal.ys 1600 ≤ n := by omega
  have y2 : -135140 ≤ Cal.ys 1600 := by omega
  have y3 : n < Cal.ys 2400 := by omega
  have y3' : decide (n < Cal.ys 2400) = true := ltT y3
  have y4 : Cal.ys 2400 ≤ 157054 := by omega
  clear e1 e2
  go_enter Tryz.func48, Tryz.ntmps48
  go_wp2_with (go_at_call 72; refine (yearDay_any _ _ (by omega) (by omega)).mono ?_; rintro e w' ⟨rfl, rfl⟩)
  go_ret
  exact ⟨rfl, rfl⟩

set_option maxHeartbeats 400000 in
theorem risTime_no (n : Int) (w : World) (b1 : -200000 ≤ n) (b2 : n ≤ 200000) (h : ¬ (-135140 ≤ n ∧ n ≤ 157053)) :
    Calls Tryz.prog 48 #[.int .i64 (86400 * n)] w fun e w' => e = .returned (.bool false) ∧ w = w' := by
  have e1 := Cal.ys_1600
  have e2 := Cal.ys_2400
  have y2 : -135140 ≤ Cal.ys 1600 := by omega
  have y5 : Cal.ys 1600 ≤ 0 := by omega
  have y4 : Cal.ys 2400 ≤ 157054 := by omega
  have y6 : 0 ≤ Cal.ys 2400 := by omega
  by_cases a : n < -135140
  · have y1 : ¬ Cal.ys 1600 ≤ n := by omega
    clear e1 e2 h
    go_enter Tryz.func48, Tryz.ntmps48
    go_wp2_with (go_at_call 72; refine (yearDay_any _ _ (by omega) (by omega)).mono ?_; rintro e w' ⟨rfl, rfl⟩)
    go_ret
    exact ⟨rfl, rfl⟩
  · have y1 : Cal.ys 1600 ≤ n := by omega
    have y3' : decide (n < Cal.ys 2400) = false := ltF (by omega)
    clear e1 e2 h
    go_enter Tryz.func48, Tryz.ntmps48
    go_wp2_with (go_at_call 72; refine (yearDay_any _ _ (by omega) (by omega)).mono ?_; rintro e w' ⟨rfl, rfl⟩)
    go_ret
    exact ⟨rfl, rfl⟩
end Go.Proofs.YtkbegommjlmfmaaGreatDoor
