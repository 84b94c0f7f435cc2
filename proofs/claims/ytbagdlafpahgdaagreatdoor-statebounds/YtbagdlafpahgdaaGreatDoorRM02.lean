/- Plain arithmetic of the calendar, no program in it: leap years, lengths of months, the number of a day, that each day number of the supported years has exactly one date. What the small functions of package civil return, for every input in their range: isLeap, monthLength, yearStart. -/
import Derived.Test.YtbagdlafpahgdaaGreatDoorProg
import Derived.Test.YtbagdlafpahgdaaGreatDoorRM01
namespace Go.Proofs.YtbagdlafpahgdaaGreatDoor.Cal
set_option linter.unusedVariables false
set_option linter.unusedSimpArgs false
def leap (y : Int) : Bool := y % 4 == 0 && (y % 100 != 0 || y % 400 == 0)
def lp (y : Int) : Int := if leap y then 1 else 0
def tab : List Int := [31, 28, 31, 30, 31, 30, 31, 31, 30, 31, 30, 31]
def ml (y m : Int) : Int := if m = 2 then 28 + lp y else tab.getD (m - 1).toNat 0
def ys (y : Int) : Int := 365 * (y - 1) + (y - 1) / 4 - (y - 1) / 100 + (y - 1) / 400 - 719162
def acc : List Int := [0, 31, 59, 90, 120, 151, 181, 212, 243, 273, 304, 334, 365]
def cum (y m : Int) : Int := acc.getD (m - 1).toNat 0 + (if m ≤ 2 then 0 else lp y)
def days (y m d : Int) : Int := ys y + cum y m + d - 1
def Valid (y m d : Int) : Prop := 1600 ≤ y ∧ y ≤ 2399 ∧ 1 ≤ m ∧ m ≤ 12 ∧ 1 ≤ d ∧ d ≤ ml y m

theorem leap_iff (y : Int) : leap y = true ↔ y % 4 = 0 ∧ (y % 100 ≠ 0 ∨ y % 400 = 0) := by
  unfold leap; simp
theorem lp_cases (y : Int) : (lp y = 1 ∧ y % 4 = 0 ∧ (y % 100 ≠ 0 ∨ y % 400 = 0)) ∨ (lp y = 0 ∧ ¬ (y % 4 = 0 ∧ (y % 100 ≠ 0 ∨ y % 400 = 0))) := by
  unfold lp
  cases h : leap y
  · right; refine ⟨by simp, fun hh => ?_⟩; rw [(leap_iff y).2 hh] at h; cases h
  · left; exact ⟨by simp, (leap_iff y).1 h⟩
theorem lp_true {y : Int} (h : leap y = true) : lp y = 1 := by unfold lp; simp [h]
theorem lp_false {y : Int} (h : leap y = false) : lp y = 0 := by unfold lp; simp [h]
theorem lp_bd (y : Int) : 0 ≤ lp y ∧ lp y ≤ 1 := by rcases lp_cases y with h | h <;> omega
theorem ys_succ (y : Int) : ys (y + 1) = ys y + 365 + lp y := by
  unfold ys; rcases lp_cases y with h | h <;> omega
theorem ys_mono {a b : Int} (h : a ≤ b) : ys a ≤ ys b := by unfold ys; omega
theorem ys_bd {y : Int} (h1 : 1600 ≤ y) (h2 : y ≤ 2400) : -135140 ≤ ys y ∧ ys y ≤ 157054 := by unfold ys; omega
theorem ys_2400 : ys 2400 = 157054 := by decide
theorem twelve {m : Int} (h1 : 1 ≤ m) (h2 : m ≤ 12) : m = 1 ∨ m = 2 ∨ m = 3 ∨ m = 4 ∨ m = 5 ∨ m = 6 ∨ m = 7 ∨ m = 8 ∨ m = 9 ∨ m = 10 ∨ m = 11 ∨ m = 12 := by omega
theorem ml_bd (y : Int) {m : Int} (h1 : 1 ≤ m) (h2 : m ≤ 12) : 28 ≤ ml y m ∧ ml y m ≤ 31 := by
  have := lp_bd y
  rcases twelve h1 h2 with h | h | h | h | h | h | h | h | h | h | h | h <;> subst h <;> simp [ml, tab] <;> omega
theorem cum_one (y : Int) : cum y 1 = 0 := by simp [cum, acc]
theorem cum_13 (y : Int) : cum y 13 = 365 + lp y := by simp [cum, acc]
theorem cum_succ (y : Int) {m : Int} (h1 : 1 ≤ m) (h2 : m ≤ 12) : cum y (m + 1) = cum y m + ml y m := by
  have := lp_bd y
  rcases twelve h1 h2 with h | h | h | h | h | h | h | h | h | h | h | h <;> subst h <;> simp [cum, ml, tab, acc] <;> omega
theorem cum_bd (y : Int) {m : Int} (h1 : 1 ≤ m) (h2 : m ≤ 13) : 0 ≤ cum y m ∧ cum y m ≤ 366 := by
  have := lp_bd y
  by_cases h : m = 13
  · subst h; rw [cum_13]; omega
  · rcases twelve h1 (by omega) with h | h | h | h | h | h | h | h | h | h | h | h <;> subst h <;> simp [cum, acc] <;> omega
theorem cum_mono (y : Int) {a b : Int} (h1 : 1 ≤ a) (h : a < b) (h2 : b ≤ 13) : cum y a + ml y a ≤ cum y b := by
  have key : ∀ k : Nat, a + 1 + k ≤ 13 → cum y a + ml y a ≤ cum y (a + 1 + k) := by
    intro k
    induction k with
    | zero => intro _; have := cum_succ y h1 (by omega); simp; omega
    | succ k ih =>
      intro hk
      have h3 := ih (by omega)
      have h4 := cum_succ y (m := a + 1 + k) (by omega) (by omega)
      have h5 := ml_bd y (m := a + 1 + k) (by omega) (by omega)
      have e : a + 1 + ((k + 1 : Nat) : Int) = a + 1 + k + 1 := by omega
      rw [e]; omega
  have e : a + 1 + ((b - a - 1).toNat : Int) = b := by omega
  have := key (b - a - 1).toNat (by omega)
  rw [e] at this; exact this

/-- The days of a valid date lie in its year. -/
theorem days_in {y m d : Int} (h : Valid y m d) : ys y + cum y m ≤ days y m d ∧ days y m d < ys y + cum y m + ml y m ∧ ys y ≤ days y m d ∧ days y m d < ys (y + 1) := by
  obtain ⟨a, b, c, e, f, g⟩ := h
  have h1 := cum_bd y c (by omega : m ≤ 13)
  have h2 := cum_mono y (a := m) (b := 13) c (by omega) (by omega)
  have h3 := cum_13 y
  have h4 := ys_succ y
  unfold days; omega
theorem days_bd {y m d : Int} (h : Valid y m d) : -135140 ≤ days y m d ∧ days y m d ≤ 157053 := by
  obtain ⟨_, _, h1, h2⟩ := days_in h
  have h3 := ys_bd h.1 (by have := h.2.1; omega : y ≤ 2400)
  have h4 : ys (y + 1) ≤ ys 2400 := ys_mono (by have := h.2.1; omega)
  have h5 := ys_2400
  omega
/-- The date behind a valid date, where there is one. -/
theorem next_day {y m d : Int} (h : Valid y m d) : (d < ml y m ∧ Valid y m (d + 1) ∧ days y m (d + 1) = days y m d + 1) ∨
    (d = ml y m ∧ m < 12 ∧ Valid y (m + 1) 1 ∧ days y (m + 1) 1 = days y m d + 1) ∨
    (d = ml y m ∧ m = 12 ∧ y < 2399 ∧ Valid (y + 1) 1 1 ∧ days (y + 1) 1 1 = days y m d + 1) ∨
    (d = ml y m ∧ m = 12 ∧ y = 2399 ∧ days y m d = 157053) := by
  obtain ⟨a, b, c, e, f, g⟩ := h
  by_cases h1 : d < ml y m
  · left; exact ⟨h1, ⟨a, b, c, e, by omega, by omega⟩, by unfold days; omega⟩
  · have hd : d = ml y m := by omega
    right
    by_cases h2 : m < 12
    · left
      have h3 := ml_bd y (m := m + 1) (by omega) (by omega)
      have h4 := cum_succ y c e
      exact ⟨hd, h2, ⟨a, b, by omega, by omega, by omega, by omega⟩, by unfold days; omega⟩
    · right
      have hm : m = 12 := by omega
      subst hm
      have h4 := cum_succ y (m := 12) (by omega) (by omega)
      have h5 := cum_13 y
      have h6 := ys_succ y
      have h7 := cum_one (y + 1)
      have h8 := ml_bd (y + 1) (m := 1) (by omega) (by omega)
      have e13 : cum y (12 + 1) = cum y 13 := rfl
      by_cases h3 : y < 2399
      · left
        exact ⟨hd, rfl, h3, ⟨by omega, by omega, by omega, by omega, by omega, by omega⟩, by unfold days; omega⟩
      · right
        have hy : y = 2399 := by omega
        subst hy
        have h9 := ys_2400
        have e24 : ys (2399 + 1) = ys 2400 := rfl
        exact ⟨hd, rfl, rfl, by unfold days; omega⟩

/-- Every day number of the supported years has a date. -/
theorem has_date {n : Int} (h1 : -135140 ≤ n) (h2 : n ≤ 157053) : ∃ y m d, Valid y m d ∧ days y m d = n := by
  have key : ∀ k : Nat, (k : Int) ≤ 292193 → ∃ y m d, Valid y m d ∧ days y m d = -135140 + k := by
    intro k
    induction k with
    | zero => intro _; exact ⟨1600, 1, 1, ⟨by decide, by decide, by decide, by decide, by decide, by decide⟩, by decide⟩
    | succ k ih =>
      intro hk
      obtain ⟨y, m, d, hv, hd⟩ := ih (by omega)
      rcases next_day hv with ⟨_, h, e⟩ | ⟨_, _, h, e⟩ | ⟨_, _, _, h, e⟩ | ⟨_, _, _, e⟩
      · exact ⟨_, _, _, h, by omega⟩
      · exact ⟨_, _, _, h, by omega⟩
      · exact ⟨_, _, _, h, by omega⟩
      · omega
  obtain ⟨y, m, d, hv, hd⟩ := key (n + 135140).toNat (by omega)
  exact ⟨y, m, d, hv, by omega⟩

end Go.Proofs.YtbagdlafpahgdaaGreatDoor.Cal
namespace Go.Proofs.YtbagdlafpahgdaaGreatDoor
set_option linter.unusedVariables false
set_option linter.unusedSimpArgs false
open Go.RowKit
/-- The table of the months' lengths lies in the world as its initialiser lays it. -/
def HasLen (w : World) : Prop := 0 < w.heap.size ∧ ∀ i : Nat, i < 12 → w.cell? ⟨0, i, none⟩ = some (.int .i64 (Cal.tab.getD i 0))

theorem Gr.len {w w' : World} (h : Gr w w') (hl : HasLen w) : HasLen w' :=
  ⟨Nat.lt_of_lt_of_le hl.1 h.size, fun i hi => (h.cell hl.1).trans (hl.2 i hi)⟩

set_option maxHeartbeats 400000 in
theorem isLeap_any (y : Int) (w : World) (h1 : 0 ≤ y) (h2 : y ≤ 10000) :
    Calls Tryz.prog 99 #[.int .i64 y] w fun e w' => e = .returned (.bool (Cal.leap y)) ∧ w = w' := by
  by_cases a : y % 4 = 0
  · by_cases b : y % 100 = 0
    · by_cases c : y % 400 = 0
      · have e : Cal.leap y = true := by simp [Cal.leap, a, c]
        rw [e]
        go_enter Tryz.func99, Tryz.ntmps99
        go_wp2
        all_goals go_ret
        all_goals exact ⟨rfl, rfl⟩
      · have e : Cal.leap y = false := by simp [Cal.leap, a, b, c]
        have c' : (y % 400 == 0) = false := by simp [c]
        rw [e]
        go_enter Tryz.func99, Tryz.ntmps99
        go_wp2
        all_goals go_ret
        all_goals exact ⟨rfl, rfl⟩
    · have e : Cal.leap y = true := by simp [Cal.leap, a, b]
      rw [e]
      go_enter Tryz.func99, Tryz.ntmps99
      go_wp2
      all_goals go_ret
      all_goals exact ⟨rfl, rfl⟩
  · have e : Cal.leap y = false := by simp [Cal.leap, a]
    rw [e]
    go_enter Tryz.func99, Tryz.ntmps99
    go_wp2
    all_goals go_ret
    all_goals exact ⟨rfl, rfl⟩

set_option maxHeartbeats 400000 in
theorem yearStart_any (y : Int) (w : World) (h1 : 1 ≤ y) (h2 : y ≤ 10000) :
    Calls Tryz.prog 66 #[.int .i64 y] w fun e w' => e = .returned (.int .i64 (Cal.ys y)) ∧ w = w' := by
  go_enter Tryz.func66, Tryz.ntmps66
  go_wp2
  go_ret
  exact ⟨rfl, rfl⟩

set_option maxHeartbeats 400000 in
theorem monthLength_any (y m : Int) (w : World) (hl : HasLen w) (h1 : 0 ≤ y) (h2 : y ≤ 10000) (h3 : 1 ≤ m) (h4 : m ≤ 12) :
    Calls Tryz.prog 67 #[.int .i64 y, .int .i64 m] w fun e w' => e = .returned (.int .i64 (Cal.ml y m)) ∧ w = w' := by
  have hc : w.cell? ⟨0, (m - 1).toNat, none⟩ = some (.int .i64 (Cal.tab.getD (m - 1).toNat 0)) := hl.2 _ (by omega)
  by_cases a : m = 2
  · subst a
    cases hlp : Cal.leap y
    · have e : Cal.ml y 2 = 28 := by simp [Cal.ml, Cal.lp, hlp]
      have hc2 : w.cell? ⟨0, 1, none⟩ = some (.int .i64 28) := hl.2 1 (by omega)
      clear hc
      rw [e]
      clear e hl
      go_enter Tryz.func67, Tryz.ntmps67
      go_wp2_with (go_at_call 99; refine (isLeap_any _ _ (by omega) (by omega)).mono ?_; rintro e w' ⟨rfl, rfl⟩)
      go_ret
      exact ⟨rfl, rfl⟩
    · have e : Cal.ml y 2 = 29 := by simp [Cal.ml, Cal.lp, hlp]
      rw [e]
      clear e hc hl
      go_enter Tryz.func67, Tryz.ntmps67
      go_wp2_with (go_at_call 99; refine (isLeap_any _ _ (by omega) (by omega)).mono ?_; rintro e w' ⟨rfl, rfl⟩)
      go_ret
      exact ⟨rfl, rfl⟩
  · have e : Cal.ml y m = Cal.tab.getD (m - 1).toNat 0 := by simp [Cal.ml, a]
    rw [e]
    clear e hl
    generalize Cal.tab.getD (m - 1).toNat 0 = t at hc
    rw [show (m - 1).toNat = m.toNat - 1 by omega] at hc
    go_enter Tryz.func67, Tryz.ntmps67
    go_wp2
    go_ret
    exact ⟨rfl, rfl⟩
end Go.Proofs.YtbagdlafpahgdaaGreatDoor
