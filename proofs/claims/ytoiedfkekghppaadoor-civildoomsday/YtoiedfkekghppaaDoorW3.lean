/- What the reference's small functions return (Long, yearDay, Length, Days, Date, Weekday, Rest), for every input in their range, and that they change no memory that was there. -/
import Derived.Test.YtoiedfkekghppaaDoorW2
namespace Go.Proofs.YtoiedfkekghppaaDoor
open Go.RowKit

/-- Nothing that lay in the world has changed; new blocks may lie behind it. -/
def Gr (w w' : World) : Prop := Below w.heap.size w w' ∧ ∀ a, w'.frozen? a = w.frozen? a
theorem Gr.refl (w : World) : Gr w w := ⟨Below.refl _ _, fun _ => rfl⟩
theorem Gr.trans {a b c : World} (h : Gr a b) (k : Gr b c) : Gr a c := ⟨h.1.trans (k.1.mono h.1.size), fun x => (k.2 x).trans (h.2 x)⟩
theorem Gr.grown {w w' : World} (h : Gr w w') : Grown w w' := ⟨h.1.frame _, h.2, h.1.size⟩
theorem Gr.len {w w' : World} (h : Gr w w') (hl : HasLen w) : HasLen w' :=
  ⟨Nat.lt_of_lt_of_le hl.1 h.1.size, fun i hi => (h.1.cell (p := ⟨0, i, none⟩) hl.1).trans (hl.2 i hi)⟩
theorem Gr.alloc (w : World) (c : Array Value) (t : TypeId) : Gr w (w.alloc (.cells c t)) :=
  ⟨(Below.refl _ _).alloc (Nat.le_refl _) _, fun a => frozen?_alloc_cells w c t a⟩

set_option maxHeartbeats 400000 in
theorem Long_any (y : Int) (w : World) (h1 : 0 ≤ y) (h2 : y ≤ 10000) :
    Calls Tryd.prog 30 #[.int .i64 y] w fun e w' => e = .returned (.bool (Cal.leap y)) ∧ w = w' := by
  by_cases a : y % 4 = 0
  · by_cases b : y % 100 = 0
    · by_cases c : y % 400 = 0
      · have e : Cal.leap y = true := by simp [Cal.leap, a, c]
        rw [e]
        go_enter Tryd.func30, Tryd.ntmps30
        go_wp2
        all_goals go_ret
        all_goals exact ⟨rfl, rfl⟩
      · have e : Cal.leap y = false := by simp [Cal.leap, a, b, c]
        have c' : (y % 400 == 0) = false := by simp [c]
        rw [e]
        go_enter Tryd.func30, Tryd.ntmps30
        go_wp2
        all_goals go_ret
        all_goals exact ⟨rfl, rfl⟩
    · have e : Cal.leap y = true := by simp [Cal.leap, a, b]
      rw [e]
      go_enter Tryd.func30, Tryd.ntmps30
      go_wp2
      all_goals go_ret
      all_goals exact ⟨rfl, rfl⟩
  · have e : Cal.leap y = false := by simp [Cal.leap, a]
    rw [e]
    go_enter Tryd.func30, Tryd.ntmps30
    go_wp2
    all_goals go_ret
    all_goals exact ⟨rfl, rfl⟩

theorem yd_end {k y : Int} (z : Cal.ys 1970 = 0) (hk1 : 1970 ≤ k) (hk2 : k ≤ y ∨ k = 1970) (hlt : ¬ k < y) : Cal.ys k = if y < 1970 then 0 else Cal.ys y := by
  by_cases hy : y < 1970
  · obtain rfl : k = 1970 := by omega
    rw [if_pos hy]; exact z
  · obtain rfl : k = y := by omega
    rw [if_neg hy]
theorem tmod_neg {n m : Int} (h1 : 0 < m) (hk : n.tmod m < 0) : n.tmod m + m = n % m := by
  have e := Int.tmod_eq_emod (a := n) (b := m)
  have h3 := Int.emod_nonneg n (by omega : m ≠ 0)
  by_cases c : 0 ≤ n ∨ m ∣ n
  · rw [if_pos c] at e; omega
  · rw [if_neg c] at e; omega
theorem tmod_nonneg {n m : Int} (h1 : 0 < m) (hk : ¬ n.tmod m < 0) : n.tmod m = n % m := by
  have e := Int.tmod_eq_emod (a := n) (b := m)
  have h3 := Int.emod_lt_of_pos n h1
  by_cases c : 0 ≤ n ∨ m ∣ n
  · rw [if_pos c] at e; omega
  · rw [if_neg c] at e; omega

set_option maxHeartbeats 1000000 in
theorem yearDay_any (y : Int) (w : World) (h1 : 1500 ≤ y) (h2 : y ≤ 2400) :
    Calls Tryd.prog 32 #[.int .i64 y] w fun e w' => e = .returned (.int .i64 (Cal.ys y)) ∧ w = w' := by
  have z0 : Cal.ys 1970 = 0 := by decide
  have Z : Hid (Cal.ys 1970 = 0) := z0
  clear z0
  go_enter Tryd.func32, Tryd.ntmps32
  go_wp2
  go_loop [3, 4] (fun n i => ∃ k : Int, 1970 ≤ k ∧ (k ≤ y ∨ k = 1970) ∧ i = .int .i64 k ∧ n = .int .i64 (Cal.ys k)) (fun _ i => (y - intOf i).toNat)
  case atStart => exact ⟨1970, by omega, Or.inr rfl, rfl, by rw [Z.out]⟩
  case round =>
    obtain ⟨k, hk1, hk2, rfl, rfl⟩ := hrel
    by_cases hlt : k < y
    · have hb := Cal.ys_bd (by omega : 1600 ≤ k) (by omega : k ≤ 2400)
      have hs : Hid (Cal.ys (k + 1) = Cal.ys k + 365 + Cal.lp k) := Cal.ys_succ k
      cases hlp : Cal.leap k
      · have HL : Hid (Cal.lp k = 0) := Cal.lp_false hlp
        go_wp2_with (go_at_call 30; refine (Long_any _ _ (by omega) (by omega)).mono ?_; rintro e w' ⟨rfl, rfl⟩)
        go_round
        case rel => exact ⟨k + 1, by omega, by omega, by go_num, by rw [hs.out, HL.out]; go_num⟩
        case measure => simp [intOf]; omega
      · have HL : Hid (Cal.lp k = 1) := Cal.lp_true hlp
        go_wp2_with (go_at_call 30; refine (Long_any _ _ (by omega) (by omega)).mono ?_; rintro e w' ⟨rfl, rfl⟩)
        go_round
        case rel => exact ⟨k + 1, by omega, by omega, by go_num, by rw [hs.out, HL.out]⟩
        case measure => simp [intOf]; omega
    · have hk : Hid (Cal.ys k = if y < 1970 then 0 else Cal.ys y) := yd_end Z.out hk1 hk2 hlt
      go_wp2
      go_loop [3, 5] (fun n i => ∃ j : Int, y ≤ j ∧ (j ≤ 1970 ∨ j = y) ∧ i = .int .i64 j ∧ n = .int .i64 (if y < 1970 then Cal.ys y - Cal.ys j else Cal.ys y)) (fun _ i => (1970 - intOf i).toNat)
      case atStart => exact ⟨y, by omega, Or.inr rfl, rfl, by rw [hk.out]; by_cases hy : y < 1970 <;> simp [hy]⟩
      case round =>
        obtain ⟨j, hj1, hj2, rfl, rfl⟩ := hrel
        by_cases hy : y < 1970
        · rw [if_pos hy]
          by_cases hjt : j < 1970
          · have hb := Cal.ys_mono hj1
            have hb2 : -200000 ≤ Cal.ys y := by have := Cal.ys_mono h1; have e : Cal.ys 1500 = -171664 := by decide
                                                omega
            have hb3 : Cal.ys j ≤ 0 := by have := Cal.ys_mono (a := j) (b := 1970) (by omega); have := Z.out; omega
            have hs : Hid (Cal.ys (j + 1) = Cal.ys j + 365 + Cal.lp j) := Cal.ys_succ j
            cases hlp : Cal.leap j
            · have HL : Hid (Cal.lp j = 0) := Cal.lp_false hlp
              go_wp2_with (go_at_call 30; refine (Long_any _ _ (by omega) (by omega)).mono ?_; rintro e w' ⟨rfl, rfl⟩)
              go_round
              case rel => exact ⟨j + 1, by omega, by omega, by go_num, by rw [if_pos hy, hs.out, HL.out]; go_num⟩
              case measure => simp [intOf]; omega
            · have HL : Hid (Cal.lp j = 1) := Cal.lp_true hlp
              go_wp2_with (go_at_call 30; refine (Long_any _ _ (by omega) (by omega)).mono ?_; rintro e w' ⟨rfl, rfl⟩)
              go_round
              case rel => exact ⟨j + 1, by omega, by omega, by go_num, by rw [if_pos hy, hs.out, HL.out]; go_num⟩
              case measure => simp [intOf]; omega
          · obtain rfl : j = 1970 := by omega
            have e0 : Cal.ys y - Cal.ys 1970 = Cal.ys y := by rw [Z.out]; omega
            rw [e0]
            clear e0
            go_wp2
            go_ret
            exact ⟨rfl, rfl⟩
        · rw [if_neg hy]
          obtain rfl : j = y := by omega
          go_wp2
          go_ret
          exact ⟨rfl, rfl⟩

set_option maxHeartbeats 1000000 in
theorem rest_any (n m : Int) (w : World) (b1 : -9223372036854775808 ≤ n) (b2 : n ≤ 9223372036854775807) (h1 : 0 < m) (h2 : m ≤ 1099511627776) :
    Calls Tryd.prog 25 #[.int .i64 n, .int .i64 m] w fun e w' => e = .returned (.int .i64 (n % m)) ∧ w = w' := by
  have t1 := Int.tmod_lt_of_pos n h1
  have t2 := Int.lt_tmod_of_pos n h1
  by_cases hn : 0 ≤ n
  · have e : n.tmod m = n % m := Int.tmod_eq_emod_of_nonneg hn
    rw [e] at t1 t2
    have t3 := Int.emod_nonneg n (by omega : m ≠ 0)
    clear e
    go_enter Tryd.func25, Tryd.ntmps25
    go_wp2
    go_ret
    exact ⟨rfl, rfl⟩
  · by_cases hk : n.tmod m < 0
    · have E : Hid (n.tmod m + m = n % m) := tmod_neg h1 hk
      go_enter Tryd.func25, Tryd.ntmps25
      go_wp2
      go_ret
      exact ⟨ret_int E.out, rfl⟩
    · have E : Hid (n.tmod m = n % m) := tmod_nonneg h1 hk
      go_enter Tryd.func25, Tryd.ntmps25
      go_wp2
      go_ret
      exact ⟨ret_int E.out, rfl⟩

set_option maxHeartbeats 2000000 in
theorem rlength_yes (y m : Int) (w : World) (h1 : 1600 ≤ y) (h2 : y ≤ 2399) (h3 : 1 ≤ m) (h4 : m ≤ 12) :
    Calls Tryd.prog 15 #[.int .i64 y, .int .i64 m] w fun e w' => e = two (Cal.ml y m) 0 ∧ Gr w w' := by
  cases hlp : Cal.leap y
  · have e0 : Cal.lp y = 0 := Cal.lp_false hlp
    rcases Cal.twelve h3 h4 with h | h | h | h | h | h | h | h | h | h | h | h
    all_goals
      subst h
      simp only [Cal.ml, Cal.tab, e0]
      clear h3 h4 e0
      go_enter Tryd.func15, Tryd.ntmps15
      go_wp2_with (first | (go_at_call 30; refine (Long_any _ _ (by omega) (by omega)).mono ?_; rintro e w' ⟨rfl, rfl⟩) | go_in)
      go_ret2
      exact ⟨rfl, Gr.alloc _ _ _⟩
  · have e0 : Cal.lp y = 1 := Cal.lp_true hlp
    rcases Cal.twelve h3 h4 with h | h | h | h | h | h | h | h | h | h | h | h
    all_goals
      subst h
      simp only [Cal.ml, Cal.tab, e0]
      clear h3 h4 e0
      go_enter Tryd.func15, Tryd.ntmps15
      go_wp2_with (first | (go_at_call 30; refine (Long_any _ _ (by omega) (by omega)).mono ?_; rintro e w' ⟨rfl, rfl⟩) | go_in)
      go_ret2
      exact ⟨rfl, Gr.alloc _ _ _⟩

set_option maxHeartbeats 400000 in
theorem rlength_no (y m : Int) (w : World) (h : ¬ (1600 ≤ y ∧ y ≤ 2399 ∧ 1 ≤ m ∧ m ≤ 12)) :
    Calls Tryd.prog 15 #[.int .i64 y, .int .i64 m] w fun e w' => e = two 0 1 ∧ w = w' := by
  by_cases h1 : y < 1600
  · clear h
    go_enter Tryd.func15, Tryd.ntmps15
    go_wp2
    go_ret2
    exact ⟨rfl, rfl⟩
  · by_cases h2 : 2399 < y
    · clear h
      go_enter Tryd.func15, Tryd.ntmps15
      go_wp2
      go_ret2
      exact ⟨rfl, rfl⟩
    · by_cases h3 : m < 1
      · clear h
        go_enter Tryd.func15, Tryd.ntmps15
        go_wp2
        go_ret2
        exact ⟨rfl, rfl⟩
      · have h4 : 12 < m := by omega
        have h4' : decide (12 < m) = true := by simpa using h4
        clear h
        go_enter Tryd.func15, Tryd.ntmps15
        go_wp2
        go_ret2
        exact ⟨rfl, rfl⟩
end Go.Proofs.YtoiedfkekghppaaDoor
