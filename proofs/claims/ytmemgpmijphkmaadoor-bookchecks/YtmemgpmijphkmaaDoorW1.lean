/- What the small functions of package civil return, for every input in their range: isLeap, monthLength, yearStart. -/
import Derived.Test.YtmemgpmijphkmaaDoorProg
import Derived.Test.YtmemgpmijphkmaaDoorCal
import Derived.Test.YtmemgpmijphkmaaDoorG0
namespace Go.Proofs.YtmemgpmijphkmaaDoor
set_option linter.unusedVariables false
set_option linter.unusedSimpArgs false
open Go.RowKit

/-- The table of the months' lengths lies in the world as its initialiser lays it. -/
def HasLen (w : World) : Prop := 1 < w.heap.size ∧ ∀ i : Nat, i < 12 → w.cell? ⟨1, i, none⟩ = some (.int .i64 (Cal.tab.getD i 0))

theorem Gr.len {w w' : World} (h : Gr w w') (hl : HasLen w) : HasLen w' :=
  ⟨Nat.lt_of_lt_of_le hl.1 h.size, fun i hi => (h.cell hl.1).trans (hl.2 i hi)⟩

set_option maxHeartbeats 400000 in
theorem isLeap_any (y : Int) (w : World) (h1 : 0 ≤ y) (h2 : y ≤ 10000) :
    Calls Tryd.prog 71 #[.int .i64 y] w fun e w' => e = .returned (.bool (Cal.leap y)) ∧ w = w' := by
  by_cases a : y % 4 = 0
  · by_cases b : y % 100 = 0
    · by_cases c : y % 400 = 0
      · have e : Cal.leap y = true := by simp [Cal.leap, a, c]
        rw [e]
        go_enter Tryd.func71, Tryd.ntmps71
        go_wp2
        all_goals go_ret
        all_goals exact ⟨rfl, rfl⟩
      · have e : Cal.leap y = false := by simp [Cal.leap, a, b, c]
        have c' : (y % 400 == 0) = false := by simp [c]
        rw [e]
        go_enter Tryd.func71, Tryd.ntmps71
        go_wp2
        all_goals go_ret
        all_goals exact ⟨rfl, rfl⟩
    · have e : Cal.leap y = true := by simp [Cal.leap, a, b]
      rw [e]
      go_enter Tryd.func71, Tryd.ntmps71
      go_wp2
      all_goals go_ret
      all_goals exact ⟨rfl, rfl⟩
  · have e : Cal.leap y = false := by simp [Cal.leap, a]
    rw [e]
    go_enter Tryd.func71, Tryd.ntmps71
    go_wp2
    all_goals go_ret
    all_goals exact ⟨rfl, rfl⟩

set_option maxHeartbeats 400000 in
theorem yearStart_any (y : Int) (w : World) (h1 : 1 ≤ y) (h2 : y ≤ 10000) :
    Calls Tryd.prog 85 #[.int .i64 y] w fun e w' => e = .returned (.int .i64 (Cal.ys y)) ∧ w = w' := by
  go_enter Tryd.func85, Tryd.ntmps85
  go_wp2
  go_ret
  exact ⟨rfl, rfl⟩

set_option maxHeartbeats 400000 in
theorem monthLength_any (y m : Int) (w : World) (hl : HasLen w) (h1 : 0 ≤ y) (h2 : y ≤ 10000) (h3 : 1 ≤ m) (h4 : m ≤ 12) :
    Calls Tryd.prog 57 #[.int .i64 y, .int .i64 m] w fun e w' => e = .returned (.int .i64 (Cal.ml y m)) ∧ w = w' := by
  have hc : w.cell? ⟨1, (m - 1).toNat, none⟩ = some (.int .i64 (Cal.tab.getD (m - 1).toNat 0)) := hl.2 _ (by omega)
  by_cases a : m = 2
  · subst a
    cases hlp : Cal.leap y
    · have e : Cal.ml y 2 = 28 := by simp [Cal.ml, Cal.lp, hlp]
      have hc2 : w.cell? ⟨1, 1, none⟩ = some (.int .i64 28) := hl.2 1 (by omega)
      clear hc
      rw [e]
      clear e hl
      go_enter Tryd.func57, Tryd.ntmps57
      go_wp2_with (go_at_call 71; refine (isLeap_any _ _ (by omega) (by omega)).mono ?_; rintro e w' ⟨rfl, rfl⟩)
      go_ret
      exact ⟨rfl, rfl⟩
    · have e : Cal.ml y 2 = 29 := by simp [Cal.ml, Cal.lp, hlp]
      rw [e]
      clear e hc hl
      go_enter Tryd.func57, Tryd.ntmps57
      go_wp2_with (go_at_call 71; refine (isLeap_any _ _ (by omega) (by omega)).mono ?_; rintro e w' ⟨rfl, rfl⟩)
      go_ret
      exact ⟨rfl, rfl⟩
  · have e : Cal.ml y m = Cal.tab.getD (m - 1).toNat 0 := by simp [Cal.ml, a]
    rw [e]
    clear e hl
    generalize Cal.tab.getD (m - 1).toNat 0 = t at hc
    rw [show (m - 1).toNat = m.toNat - 1 by omega] at hc
    go_enter Tryd.func57, Tryd.ntmps57
    go_wp2
    go_ret
    exact ⟨rfl, rfl⟩
end Go.Proofs.YtmemgpmijphkmaaDoor
