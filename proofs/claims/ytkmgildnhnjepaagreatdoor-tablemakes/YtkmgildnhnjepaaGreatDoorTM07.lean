/- What the reference's functions on days of months return: DayCheck, IsTime, DayOf. What the reference's RuleCheck returns, for every rule. -/
import Derived.Test.YtkmgildnhnjepaaGreatDoorTM06
import Derived.Test.YtkmgildnhnjepaaGreatDoorTM04
namespace Go.Proofs.YtkmgildnhnjepaaGreatDoor
set_option linter.unusedVariables false
set_option linter.unusedSimpArgs false
open Go.RowKit
/-- a day of a month as a value -/
abbrev dayV (k d n : Int) : Value := .agg #[.int .i64 k, .int .i64 d, .int .i64 n]
def DayOk (k d n : Int) : Prop := (1 ≤ k ∧ k ≤ 4) ∧ (0 ≤ d ∧ d ≤ 6) ∧ (k = 1 → d = 0) ∧ (k = 2 → n = 0) ∧ (k ≠ 2 → 1 ≤ n ∧ n ≤ 31)
instance (k d n : Int) : Decidable (DayOk k d n) := by unfold DayOk; infer_instance
/-- what DayCheck answers -/
def dchk (k d n : Int) : Int := if DayOk k d n then 0 else 1

theorem dchk_yes {k d n : Int} (h : DayOk k d n) : dchk k d n = 0 := by unfold dchk; exact if_pos h
theorem dchk_no {k d n : Int} (h : ¬ DayOk k d n) : dchk k d n = 1 := by unfold dchk; exact if_neg h

set_option maxHeartbeats 4000000 in
theorem rdayCheck (k d n : Int) (w : World) :
    Calls Tryz.prog 85 #[dayV k d n] w fun e w' => e = .returned (.int .i64 (dchk k d n)) ∧ Gr w w' := by
  by_cases k1 : k < 1
  · have k1' : decide (k < 1) = true := ltT k1
    have E := Lib.hid (dchk_no (k := k) (d := d) (n := n) (by unfold DayOk; omega))
    go_enter Tryz.func85, Tryz.ntmps85
    go_wp2
    go_ret
    exact ⟨ret_int E.out.symm, Gr.alloc _ _⟩
  · have k1' : decide (k < 1) = false := ltF k1
    by_cases k4 : 4 < k
    · have k4' : decide (4 < k) = true := ltT k4
      have E := Lib.hid (dchk_no (k := k) (d := d) (n := n) (by unfold DayOk; omega))
      go_enter Tryz.func85, Tryz.ntmps85
      go_wp2
      go_ret
      exact ⟨ret_int E.out.symm, Gr.alloc _ _⟩
    · have k4' : decide (4 < k) = false := ltF k4
      by_cases d0 : d < 0
      · have d0' : decide (d < 0) = true := ltT d0
        have E := Lib.hid (dchk_no (k := k) (d := d) (n := n) (by unfold DayOk; omega))
        go_enter Tryz.func85, Tryz.ntmps85
        go_wp2
        go_ret
        exact ⟨ret_int E.out.symm, Gr.alloc _ _⟩
      · have d0' : decide (d < 0) = false := ltF d0
        by_cases d6 : 6 < d
        · have d6' : decide (6 < d) = true := ltT d6
          have E := Lib.hid (dchk_no (k := k) (d := d) (n := n) (by unfold DayOk; omega))
          go_enter Tryz.func85, Tryz.ntmps85
          go_wp2
          go_ret
          exact ⟨ret_int E.out.symm, Gr.alloc _ _⟩
        · have d6' : decide (6 < d) = false := ltF d6
          by_cases e1 : k = 1
          · have e1' : (k == 1) = true := beqT e1
            by_cases z : d = 0
            · have z' : (d != 0) = false := bneF z
              have e2' : (k == 2) = false := beqF (by omega)
              have e3' : (k != 2) = true := bneT (by omega)
              by_cases n1 : n < 1
              · have n1' : decide (n < 1) = true := ltT n1
                have E := Lib.hid (dchk_no (k := k) (d := d) (n := n) (by unfold DayOk; omega))
                clear e1 z
                go_enter Tryz.func85, Tryz.ntmps85
                go_wp2
                go_ret
                exact ⟨ret_int E.out.symm, Gr.alloc _ _⟩
              · have n1' : decide (n < 1) = false := ltF n1
                by_cases n31 : 31 < n
                · have n31' : decide (31 < n) = true := ltT n31
                  have E := Lib.hid (dchk_no (k := k) (d := d) (n := n) (by unfold DayOk; omega))
                  clear e1 z
                  go_enter Tryz.func85, Tryz.ntmps85
                  go_wp2
                  go_ret
                  exact ⟨ret_int E.out.symm, Gr.alloc _ _⟩
                · have n31' : decide (31 < n) = false := ltF n31
                  have E := Lib.hid (dchk_yes (k := k) (d := d) (n := n) (by unfold DayOk; omega))
                  clear e1 z
                  go_enter Tryz.func85, Tryz.ntmps85
                  go_wp2
                  go_ret
                  exact ⟨ret_int E.out.symm, Gr.alloc _ _⟩
            · have z' : (d != 0) = true := bneT z
              have E := Lib.hid (dchk_no (k := k) (d := d) (n := n) (by unfold DayOk; omega))
              clear e1 z
              go_enter Tryz.func85, Tryz.ntmps85
              go_wp2
              go_ret
              exact ⟨ret_int E.out.symm, Gr.alloc _ _⟩
          · have e1' : (k == 1) = false := beqF e1
            by_cases e2 : k = 2
            · have e2' : (k == 2) = true := beqT e2
              have e3' : (k != 2) = false := bneF e2
              by_cases z : n = 0
              · have z' : (n != 0) = false := bneF z
                have E := Lib.hid (dchk_yes (k := k) (d := d) (n := n) (by unfold DayOk; omega))
                clear e1 e2 z
                go_enter Tryz.func85, Tryz.ntmps85
                go_wp2
                go_ret
                exact ⟨ret_int E.out.symm, Gr.alloc _ _⟩
              · have z' : (n != 0) = true := bneT z
                have E := Lib.hid (dchk_no (k := k) (d := d) (n := n) (by unfold DayOk; omega))
                clear e1 e2 z
                go_enter Tryz.func85, Tryz.ntmps85
                go_wp2
                go_ret
                exact ⟨ret_int E.out.symm, Gr.alloc _ _⟩
            · have e2' : (k == 2) = false := beqF e2
              have e3' : (k != 2) = true := bneT e2
              by_cases n1 : n < 1
              · have n1' : decide (n < 1) = true := ltT n1
                have E := Lib.hid (dchk_no (k := k) (d := d) (n := n) (by unfold DayOk; omega))
                clear e1 e2
                go_enter Tryz.func85, Tryz.ntmps85
                go_wp2
                go_ret
                exact ⟨ret_int E.out.symm, Gr.alloc _ _⟩
              · have n1' : decide (n < 1) = false := ltF n1
                by_cases n31 : 31 < n
                · have n31' : decide (31 < n) = true := ltT n31
                  have E := Lib.hid (dchk_no (k := k) (d := d) (n := n) (by unfold DayOk; omega))
                  clear e1 e2
                  go_enter Tryz.func85, Tryz.ntmps85
                  go_wp2
                  go_ret
                  exact ⟨ret_int E.out.symm, Gr.alloc _ _⟩
                · have n31' : decide (31 < n) = false := ltF n31
                  have E := Lib.hid (dchk_yes (k := k) (d := d) (n := n) (by unfold DayOk; omega))
                  clear e1 e2
                  go_enter Tryz.func85, Tryz.ntmps85
                  go_wp2
                  go_ret
                  exact ⟨ret_int E.out.symm, Gr.alloc _ _⟩

set_option maxHeartbeats 400000 in
theorem risTime_yes (n : Int) (w : World) (h1 : -135140 ≤ n) (h2 : n ≤ 157053) :
    Calls Tryz.prog 24 #[.int .i64 (86400 * n)] w fun e w' => e = .returned (.bool true) ∧ w = w' := by
  have e1 := Cal.ys_1600
  have e2 := Cal.ys_2400
  have y1 : Cal.ys 1600 ≤ n := by omega
  have y2 : -135140 ≤ Cal.ys 1600 := by omega
  have y3 : n < Cal.ys 2400 := by omega
  have y3' : decide (n < Cal.ys 2400) = true := ltT y3
  have y4 : Cal.ys 2400 ≤ 157054 := by omega
  clear e1 e2
  go_enter Tryz.func24, Tryz.ntmps24
  go_wp2_with (go_at_call 58; refine (yearDay_any _ _ (by omega) (by omega)).mono ?_; rintro e w' ⟨rfl, rfl⟩)
  go_ret
  exact ⟨rfl, rfl⟩

set_option maxHeartbeats 400000 in
theorem risTime_no (n : Int) (w : World) (b1 : -200000 ≤ n) (b2 : n ≤ 200000) (h : ¬ (-135140 ≤ n ∧ n ≤ 157053)) :
    Calls Tryz.prog 24 #[.int .i64 (86400 * n)] w fun e w' => e = .returned (.bool false) ∧ w = w' := by
  have e1 := Cal.ys_1600
  have e2 := Cal.ys_2400
  have y2 : -135140 ≤ Cal.ys 1600 := by omega
  have y5 : Cal.ys 1600 ≤ 0 := by omega
  have y4 : Cal.ys 2400 ≤ 157054 := by omega
  have y6 : 0 ≤ Cal.ys 2400 := by omega
  by_cases a : n < -135140
  · have y1 : ¬ Cal.ys 1600 ≤ n := by omega
    clear e1 e2 h
    go_enter Tryz.func24, Tryz.ntmps24
    go_wp2_with (go_at_call 58; refine (yearDay_any _ _ (by omega) (by omega)).mono ?_; rintro e w' ⟨rfl, rfl⟩)
    go_ret
    exact ⟨rfl, rfl⟩
  · have y1 : Cal.ys 1600 ≤ n := by omega
    have y3' : decide (n < Cal.ys 2400) = false := ltF (by omega)
    clear e1 e2 h
    go_enter Tryz.func24, Tryz.ntmps24
    go_wp2_with (go_at_call 58; refine (yearDay_any _ _ (by omega) (by omega)).mono ?_; rintro e w' ⟨rfl, rfl⟩)
    go_ret
    exact ⟨rfl, rfl⟩
end Go.Proofs.YtkmgildnhnjepaaGreatDoor
namespace Go.Proofs.YtkmgildnhnjepaaGreatDoor
set_option linter.unusedVariables false
set_option linter.unusedSimpArgs false
open Go.RowKit
/-- a rule as a value -/
abbrev ruleV (nm : ByteArray) (fr tto mo k d n at' by' sv : Int) (lt : ByteArray) : Value :=
  .agg #[.string nm, .int .i64 fr, .int .i64 tto, .int .i64 mo, .int .i64 k, .int .i64 d, .int .i64 n, .int .i64 at', .int .i64 by', .int .i64 sv, .string lt]
/-- its words can be read -/
def RuleSyn (nm lt : List UInt8) : Prop := isNameB nm = true ∧ (lt = [45] ∨ isAbbrB lt = true)
def RuleNum (fr tto mo : Int) : Prop := (1900 ≤ fr ∧ fr ≤ 2100) ∧ (1900 ≤ tto ∧ tto ≤ 2100) ∧ fr ≤ tto ∧ 1 ≤ mo ∧ mo ≤ 12
def RuleRest (mo n at' by' sv : Int) : Prop := n ≤ Cal.ml 1999 mo ∧ (-604800 ≤ at' ∧ at' ≤ 604800) ∧ (0 ≤ by' ∧ by' ≤ 2) ∧ 0 ≤ sv ∧ sv ≤ 10800
instance (nm lt : List UInt8) : Decidable (RuleSyn nm lt) := by unfold RuleSyn; infer_instance
instance (fr tto mo : Int) : Decidable (RuleNum fr tto mo) := by unfold RuleNum; infer_instance
instance (mo n at' by' sv : Int) : Decidable (RuleRest mo n at' by' sv) := by unfold RuleRest; infer_instance
/-- what RuleCheck answers -/
def ruleC (nm lt : List UInt8) (fr tto mo k d n at' by' sv : Int) : Int :=
  if RuleSyn nm lt then (if RuleNum fr tto mo then (if DayOk k d n then (if RuleRest mo n at' by' sv then 0 else 1) else 1) else 1) else 3

/-- a rule lies in a block of its own -/
def RuleAt (w W : World) (b : Nat) (nm : ByteArray) (fr tto mo k d n at' by' sv : Int) (lt : ByteArray) : Prop :=
  W.cell? ⟨b, 0, none⟩ = some (.string nm) ∧ W.cell? ⟨b, 1, none⟩ = some (.int .i64 fr) ∧ W.cell? ⟨b, 2, none⟩ = some (.int .i64 tto) ∧ W.cell? ⟨b, 3, none⟩ = some (.int .i64 mo) ∧ W.cell? ⟨b, 4, none⟩ = some (.int .i64 k) ∧
  W.cell? ⟨b, 5, none⟩ = some (.int .i64 d) ∧ W.cell? ⟨b, 6, none⟩ = some (.int .i64 n) ∧ W.cell? ⟨b, 7, none⟩ = some (.int .i64 at') ∧ W.cell? ⟨b, 8, none⟩ = some (.int .i64 by') ∧ W.cell? ⟨b, 9, none⟩ = some (.int .i64 sv) ∧
  W.cell? ⟨b, 10, none⟩ = some (.string lt) ∧ Gr w W
theorem RuleAt.gr {w W W' : World} {b : Nat} {nm : ByteArray} {fr tto mo k d n at' by' sv : Int} {lt : ByteArray} (h : RuleAt w W b nm fr tto mo k d n at' by' sv lt) (g : Gr W W') : RuleAt w W' b nm fr tto mo k d n at' by' sv lt := by
  obtain ⟨h0, h1, h2, h3, h4, h5, h6, h7, h8, h9, h10, hg⟩ := h
  exact ⟨g.holds h0, g.holds h1, g.holds h2, g.holds h3, g.holds h4, g.holds h5, g.holds h6, g.holds h7, g.holds h8, g.holds h9, g.holds h10, hg.trans g⟩
theorem RuleAt.new (w : World) (T : TypeId) (nm : ByteArray) (fr tto mo k d n at' by' sv : Int) (lt : ByteArray) :
    RuleAt w (w.alloc (.cells #[.string nm, .int .i64 fr, .int .i64 tto, .int .i64 mo, .int .i64 k, .int .i64 d, .int .i64 n, .int .i64 at', .int .i64 by', .int .i64 sv, .string lt] T)) w.heap.size nm fr tto mo k d n at' by' sv lt := by
  refine ⟨?_, ?_, ?_, ?_, ?_, ?_, ?_, ?_, ?_, ?_, ?_, Gr.alloc _ _⟩ <;> (rw [World.cell?_alloc_new]; rfl)

set_option maxHeartbeats 400000 in
theorem routside (x lo hi : Int) (w : World) :
    Calls Tryz.prog 91 #[.int .i64 x, .int .i64 lo, .int .i64 hi] w fun e w' => e = .returned (.bool (decide (¬ (lo ≤ x ∧ x ≤ hi)))) ∧ w = w' := by
  by_cases h1 : x < lo
  · have E : Hid (decide (¬ (lo ≤ x ∧ x ≤ hi)) = true) := by unfold Hid; simp; omega
    generalize decide (¬ (lo ≤ x ∧ x ≤ hi)) = q at E ⊢
    go_enter Tryz.func91, Tryz.ntmps91
    go_wp2
    go_ret
    exact ⟨ret_bool E.out.symm, rfl⟩
  · have h1' := ltF h1
    by_cases h2 : hi < x
    · have E : Hid (decide (¬ (lo ≤ x ∧ x ≤ hi)) = true) := by unfold Hid; simp; omega
      generalize decide (¬ (lo ≤ x ∧ x ≤ hi)) = q at E ⊢
      go_enter Tryz.func91, Tryz.ntmps91
      go_wp2
      go_ret
      exact ⟨ret_bool E.out.symm, rfl⟩
    · have h2' := ltF h2
      have E : Hid (decide (¬ (lo ≤ x ∧ x ≤ hi)) = false) := by unfold Hid; simp; omega
      generalize decide (¬ (lo ≤ x ∧ x ≤ hi)) = q at E ⊢
      go_enter Tryz.func91, Tryz.ntmps91
      go_wp2
      go_ret
      exact ⟨ret_bool E.out.symm, rfl⟩
theorem routside_in {x lo hi : Int} (h : lo ≤ x ∧ x ≤ hi) (w : World) : Calls Tryz.prog 91 #[.int .i64 x, .int .i64 lo, .int .i64 hi] w fun e w' => e = .returned (.bool false) ∧ w = w' := by
  have := routside x lo hi w
  rw [show decide (¬ (lo ≤ x ∧ x ≤ hi)) = false by simp; omega] at this
  exact this
theorem routside_out {x lo hi : Int} (h : ¬ (lo ≤ x ∧ x ≤ hi)) (w : World) : Calls Tryz.prog 91 #[.int .i64 x, .int .i64 lo, .int .i64 hi] w fun e w' => e = .returned (.bool true) ∧ w = w' := by
  have := routside x lo hi w
  rw [show decide (¬ (lo ≤ x ∧ x ≤ hi)) = true by simp; omega] at this
  exact this
end Go.Proofs.YtkmgildnhnjepaaGreatDoor
