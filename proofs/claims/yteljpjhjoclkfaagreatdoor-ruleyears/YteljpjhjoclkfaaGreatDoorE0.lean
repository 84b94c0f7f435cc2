/- Days of months: facts on what Of, Text and Read answer; no walk in it. -/
import Derived.Test.YteljpjhjoclkfaaGreatDoorD2
import Derived.Test.YteljpjhjoclkfaaGreatDoorD3
import Derived.Test.YteljpjhjoclkfaaGreatDoorD4
import Derived.Test.YteljpjhjoclkfaaGreatDoorT0
namespace Go.Proofs.YteljpjhjoclkfaaGreatDoor
set_option linter.unusedVariables false
set_option linter.unusedSimpArgs false
open Go.RowKit

theorem dayA_two (y m k d n : Int) : ∃ a b : Int, dayA y m k d n = two a b := by
  unfold dayA
  (repeat' split) <;> exact ⟨_, _, rfl⟩
theorem dayTextA_two (k d n : Int) : ∃ (l : List UInt8) (b : Int), dayTextA k d n = strInt (S l) b := by
  unfold dayTextA
  split <;> exact ⟨_, _, rfl⟩
/-- a struct of three ints, newly laid -/
theorem laid3 (w : World) (k d n : Int) (T : TypeId) : (w.alloc (.cells #[.int .i64 k, .int .i64 d, .int .i64 n] T)).cell? ⟨w.heap.size, 0, none⟩ = some (.int .i64 k) ∧ (w.alloc (.cells #[.int .i64 k, .int .i64 d, .int .i64 n] T)).cell? ⟨w.heap.size, 1, none⟩ = some (.int .i64 d) ∧
    (w.alloc (.cells #[.int .i64 k, .int .i64 d, .int .i64 n] T)).cell? ⟨w.heap.size, 2, none⟩ = some (.int .i64 n) ∧ Gr w (w.alloc (.cells #[.int .i64 k, .int .i64 d, .int .i64 n] T)) :=
  ⟨by rw [World.cell?_alloc_new]; rfl, by rw [World.cell?_alloc_new]; rfl, by rw [World.cell?_alloc_new]; rfl, Gr.alloc _ _⟩
/-- but for the last month of all the next month lies in the supported years, too -/
theorem after_bd {y m : Int} (h1 : 1600 ≤ y) (h2 : y ≤ 2399) (h3 : 1 ≤ m) (h4 : m ≤ 12) (h : ¬ (y = 2399 ∧ m = 12)) : Cal.days y m 1 + Cal.ml y m + 27 ≤ 157053 := by
  by_cases c : m < 12
  · have v : Cal.Valid y (m + 1) 28 := ⟨h1, h2, by omega, by omega, by omega, by have := Cal.ml_bd y (m := m + 1) (by omega) (by omega); omega⟩
    have b := (Cal.days_bd v).2
    have e := Cal.cum_succ y h3 h4
    unfold Cal.days at b ⊢
    omega
  · have e : m = 12 := by omega
    subst e
    have v : Cal.Valid (y + 1) 1 28 := ⟨by omega, by omega, by omega, by omega, by omega, by have := Cal.ml_bd (y + 1) (m := 1) (by omega) (by omega); omega⟩
    have b := (Cal.days_bd v).2
    have e1 := Cal.cum_succ y (m := 12) (by omega) (by omega)
    have e2 := Cal.cum_13 y
    have e3 := Cal.cum_one (y + 1)
    have e4 := Cal.ys_succ y
    simp only [Int.reduceAdd] at e1
    unfold Cal.days at b ⊢
    omega
/-- Of answers, in the supported years, for a day that is in the month -/
theorem dayA_yes {y m k d n : Int} (h : DayOk k d n) (h1 : 1600 ≤ y) (h2 : y ≤ 2399) (h3 : 1 ≤ m) (h4 : m ≤ 12) (hl : ¬ Cal.ml y m < n) (r1 : -135140 ≤ dayT y m k d n) (r2 : dayT y m k d n ≤ 157053) : dayA y m k d n = two (dayT y m k d n) 0 := by
  rw [dayA_ok h h1 h2 h3 h4 hl, if_pos ⟨r1, r2⟩]
/-- when Of answers no error -/
theorem dayA_inv {y m k d n a : Int} (h : dayA y m k d n = two a 0) : DayOk k d n ∧ (1600 ≤ y ∧ y ≤ 2399 ∧ 1 ≤ m ∧ m ≤ 12) ∧ ¬ Cal.ml y m < n ∧ a = dayT y m k d n ∧ -135140 ≤ a ∧ a ≤ 157053 := by
  unfold dayA at h
  by_cases c1 : DayOk k d n
  · rw [if_pos c1] at h
    by_cases c2 : 1600 ≤ y ∧ y ≤ 2399 ∧ 1 ≤ m ∧ m ≤ 12
    · rw [if_pos c2] at h
      by_cases c3 : Cal.ml y m < n
      · rw [if_pos c3] at h; simp at h
      · rw [if_neg c3] at h
        by_cases c4 : -135140 ≤ dayT y m k d n ∧ dayT y m k d n ≤ 157053
        · rw [if_pos c4] at h
          have e : dayT y m k d n = a := by simpa using h
          exact ⟨c1, c2, c3, e.symm, by omega, by omega⟩
        · rw [if_neg c4] at h; simp at h
    · rw [if_neg c2] at h; simp at h
  · rw [if_neg c1] at h; simp at h
theorem dayA_zero {y m k d n a b : Int} (h : dayA y m k d n = two a b) (hb : ¬ b = 0) : a = 0 := by
  unfold dayA at h
  split at h
  · split at h
    · split at h
      · have e : (0 : Int) = a ∧ (6 : Int) = b := by simpa using h
        exact e.1.symm
      · split at h
        · have e : dayT y m k d n = a ∧ (0 : Int) = b := by simpa using h
          exact absurd e.2.symm hb
        · have e : (0 : Int) = a ∧ (1 : Int) = b := by simpa using h
          exact e.1.symm
    · have e : (0 : Int) = a ∧ (1 : Int) = b := by simpa using h
      exact e.1.symm
  · have e : (0 : Int) = a ∧ (1 : Int) = b := by simpa using h
    exact e.1.symm
theorem wk_inj {a b : Int} (a1 : 0 ≤ a) (a2 : a ≤ 6) (b1 : 0 ≤ b) (b2 : b ≤ 6) (h : wk a = wk b) : a = b := by
  have x : a = 0 ∨ a = 1 ∨ a = 2 ∨ a = 3 ∨ a = 4 ∨ a = 5 ∨ a = 6 := by omega
  have y : b = 0 ∨ b = 1 ∨ b = 2 ∨ b = 3 ∨ b = 4 ∨ b = 5 ∨ b = 6 := by omega
  rcases x with rfl | rfl | rfl | rfl | rfl | rfl | rfl <;> rcases y with rfl | rfl | rfl | rfl | rfl | rfl | rfl <;> first | rfl | (exfalso; revert h; decide)
theorem wk_head {d : Int} (h1 : 0 ≤ d) (h2 : d ≤ 6) : ∃ c r, wk d = c :: r ∧ (57 : Int) < c.toNat ∧ ¬ c = 108 := by
  have x : d = 0 ∨ d = 1 ∨ d = 2 ∨ d = 3 ∨ d = 4 ∨ d = 5 ∨ d = 6 := by omega
  rcases x with rfl | rfl | rfl | rfl | rfl | rfl | rfl <;> exact ⟨_, _, rfl, by decide, by decide⟩
theorem dz_head {n : Int} (h1 : 0 ≤ n) (h2 : n < 1000) : ∃ c r, dz n = c :: r ∧ (c.toNat : Int) ≤ 57 := by
  obtain ⟨t, l1, _⟩ := tells_dz h1 h2
  cases hd : dz n with
  | nil => rw [hd] at l1; simp at l1
  | cons c r =>
    have := t.1 0 (by omega)
    rw [hd] at this
    simp [bt] at this
    exact ⟨c, r, rfl, by omega⟩
/-- a text tells one day -/
theorem dayL_inj {k d n a b c : Int} (h : DayOk k d n) (g : DayOk a b c) (e : dayL k d n = dayL a b c) : k = a ∧ d = b ∧ n = c := by
  have hb := dayOk_bd h
  have gb := dayOk_bd g
  obtain ⟨hk, hd, h1, h2, h3⟩ := h
  obtain ⟨gk, gd, g1, g2, g3⟩ := g
  obtain ⟨c0, r0, w0, v0, u0⟩ := wk_head (d := d) (by omega) (by omega)
  obtain ⟨c1, r1, w1, v1, u1⟩ := wk_head (d := b) (by omega) (by omega)
  obtain ⟨e0, s0, z0, y0⟩ := dz_head (n := n) (by omega) (by omega)
  obtain ⟨e1, s1, z1, y1⟩ := dz_head (n := c) (by omega) (by omega)
  have hl := wk_length d
  have gl := wk_length b
  have hk' : k = 1 ∨ k = 2 ∨ k = 3 ∨ k = 4 := by omega
  have gk' : a = 1 ∨ a = 2 ∨ a = 3 ∨ a = 4 := by omega
  have n108 : ((108 : UInt8).toNat : Int) = 108 := rfl
  have ww : ∀ x y : List UInt8, wk d ++ x = wk b ++ y → d = b ∧ x = y := fun x y q => by
    have := List.append_inj q (by rw [hl, gl])
    exact ⟨wk_inj (by omega) (by omega) (by omega) (by omega) this.1, this.2⟩
  rcases hk' with rfl | rfl | rfl | rfl <;> rcases gk' with rfl | rfl | rfl | rfl <;> simp only [dayL] at e <;> simp only [if_true, if_false, Int.reduceEq] at e
  · exact ⟨rfl, by omega, dz_inj (by omega) (by omega) (by omega) (by omega) e⟩
  · exfalso; rw [z0] at e; simp at e; rw [e.1] at y0; omega
  · exfalso; rw [z0, w1] at e; simp at e; rw [e.1] at y0; omega
  · exfalso; rw [z0, w1] at e; simp at e; rw [e.1] at y0; omega
  · exfalso; rw [z1] at e; simp at e; rw [← e.1] at y1; omega
  · have := ww [] [] (by simpa using e)
    exact ⟨rfl, this.1, by omega⟩
  · exfalso; rw [w1] at e; simp at e; exact u1 e.1.symm
  · exfalso; rw [w1] at e; simp at e; exact u1 e.1.symm
  · exfalso; rw [z1, w0] at e; simp at e; rw [← e.1] at y1; omega
  · exfalso; rw [w0] at e; simp at e; exact u0 e.1
  · have := ww _ _ e
    simp only [List.cons.injEq, true_and] at this
    exact ⟨rfl, this.1, dz_inj (by omega) (by omega) (by omega) (by omega) this.2⟩
  · exfalso
    have := (ww _ _ e).2
    simp at this
  · exfalso; rw [z1, w0] at e; simp at e; rw [← e.1] at y1; omega
  · exfalso; rw [w0] at e; simp at e; exact u0 e.1
  · exfalso
    have := (ww _ _ e).2
    simp at this
  · have := ww _ _ e
    simp only [List.cons.injEq, true_and] at this
    exact ⟨rfl, this.1, dz_inj (by omega) (by omega) (by omega) (by omega) this.2⟩
/-- Read's answer is one -/
theorem dayReadA_yes {l : List UInt8} {e : Ending} (h : DayReadA l e) {k d n : Int} (ok : DayOk k d n) (hl : dayL k d n = l) : e = dayInt k d n 0 := by
  rcases h with ⟨k', d', n', ok', hl', he⟩ | ⟨no, _⟩
  · obtain ⟨rfl, rfl, rfl⟩ := dayL_inj ok ok' (hl.trans hl'.symm)
    exact he
  · exact absurd ⟨k, d, n, ok, hl⟩ no
theorem dayReadA_no {l : List UInt8} {e : Ending} (h : DayReadA l e) (no : ¬ ∃ k d n, DayOk k d n ∧ dayL k d n = l) : e = dayInt 0 0 0 3 := by
  rcases h with ⟨k', d', n', ok', hl', he⟩ | ⟨_, he⟩
  · exact absurd ⟨k', d', n', ok', hl'⟩ no
  · exact he
theorem dayReadA_one {l : List UInt8} : ∃ k d n b : Int, ∀ e, DayReadA l e → e = dayInt k d n b := by
  by_cases h : ∃ k d n, DayOk k d n ∧ dayL k d n = l
  · obtain ⟨k, d, n, ok, hl⟩ := h
    exact ⟨k, d, n, 0, fun e he => dayReadA_yes he ok hl⟩
  · exact ⟨0, 0, 0, 3, fun e he => dayReadA_no he h⟩
end Go.Proofs.YteljpjhjoclkfaaGreatDoor
