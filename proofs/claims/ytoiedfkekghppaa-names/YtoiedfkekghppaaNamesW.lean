/- What the law Names returns, in whatever memory: true, and nothing that was there has changed. -/
import Derived.Test.YtoiedfkekghppaaProg
import Derived.WalkKit
import Derived.WalkSpells
import Derived.WalkLawsBesides
namespace Go.Proofs.Ytoiedfkekghppaa
open Go.RowKit

theorem ret_bool {a b : Bool} (h : a = b) : Ending.returned (.bool a) = .returned (.bool b) := by rw [h]

set_option maxHeartbeats 400000 in
theorem eq_any (n : Nat) (z : Nat → Int) (a b : Nat) (w : World) (hn : n ≤ 1000) (ha : ∀ k, k < n → w.cell? ⟨a, k, none⟩ = some (.int .i64 (z k))) (hb : ∀ k, k < n → w.cell? ⟨b, k, none⟩ = some (.int .i64 (z k))) :
    Calls Try.prog 4 #[.slice (some ⟨a, 0, none⟩) n n, .slice (some ⟨b, 0, none⟩) n n] w fun e w' => e = .returned (.bool true) ∧ w = w' := by
  have HA : Hid (∀ k, k < n → w.cell? ⟨a, k, none⟩ = some (.int .i64 (z k))) := ha
  have HB : Hid (∀ k, k < n → w.cell? ⟨b, k, none⟩ = some (.int .i64 (z k))) := hb
  clear ha hb
  go_enter Try.func4, Try.ntmps4
  go_wp2
  go_loop [14] (fun i => ∃ k : Nat, k ≤ n ∧ i = .int .i64 k) (fun i => n - (intOf i).toNat)
  case atStart => exact ⟨0, Nat.zero_le _, rfl⟩
  case round =>
    obtain ⟨k, hk, rfl⟩ := hrel
    by_cases hlt : k < n
    · have h1 := HA.out k hlt
      have h2 := HB.out k hlt
      go_wp2
      go_round
      case rel => exact ⟨k + 1, by omega, by go_num⟩
      case measure => simp [intOf]; omega
    · go_wp2
      go_ret
      exact ⟨rfl, rfl⟩
theorem nine_at (k : Nat) (h : k < 9) : (#[.int .i64 0, .int .i64 1, .int .i64 2, .int .i64 3, .int .i64 4, .int .i64 5, .int .i64 6, .int .i64 7, .int .i64 8] : Array Value)[k]? = some (.int .i64 k) := by
  have : k = 0 ∨ k = 1 ∨ k = 2 ∨ k = 3 ∨ k = 4 ∨ k = 5 ∨ k = 6 ∨ k = 7 ∨ k = 8 := by omega
  rcases this with h | h | h | h | h | h | h | h | h <;> subst h <;> rfl
def consts : List Int := [1600, 2399, 1900, 2100, 64800, 10800, 604800, 1099511627776, 40, 20, 700, 20, 20, 12, 8, 60000, 1000, 250, 8, 40, 60, 200, 1, 2, 3, 4, 0, 1, 2]
theorem map_at (l : List Int) (k : Nat) (h : k < l.length) : (l.map (fun z => Value.int .i64 z)).toArray[k]? = some (.int .i64 (l.getD k 0)) := by
  simp [List.getElem?_eq_getElem h]
theorem consts_at (k : Nat) (h : k < 29) : (#[.int .i64 1600, .int .i64 2399, .int .i64 1900, .int .i64 2100, .int .i64 64800, .int .i64 10800, .int .i64 604800, .int .i64 1099511627776, .int .i64 40, .int .i64 20, .int .i64 700, .int .i64 20, .int .i64 20, .int .i64 12, .int .i64 8, .int .i64 60000, .int .i64 1000, .int .i64 250, .int .i64 8, .int .i64 40, .int .i64 60, .int .i64 200, .int .i64 1, .int .i64 2, .int .i64 3, .int .i64 4, .int .i64 0, .int .i64 1, .int .i64 2] : Array Value)[k]? = some (.int .i64 (consts.getD k 0)) :=
  map_at consts k h

set_option maxHeartbeats 1000000 in
theorem names_any (w : World) :
    Calls Try.prog 3 #[] w fun e w' => e = .returned (.bool true) ∧ Grown w w' := by
  go_enter Try.func3, Try.ntmps3
  go_wp2
  have hc0 : ∀ k, k < 9 → (w.alloc (.cells #[.int .i64 0, .int .i64 1, .int .i64 2, .int .i64 3, .int .i64 4, .int .i64 5, .int .i64 6, .int .i64 7, .int .i64 8] 22)).cell? ⟨w.heap.size, k, none⟩ = some (.int .i64 k) := by
    intro k hk; rw [World.cell?_alloc_new]; exact nine_at k hk
  have hg0 := (Grown.refl w).alloc #[.int .i64 0, .int .i64 1, .int .i64 2, .int .i64 3, .int .i64 4, .int .i64 5, .int .i64 6, .int .i64 7, .int .i64 8] 22
  generalize w.alloc (.cells #[.int .i64 0, .int .i64 1, .int .i64 2, .int .i64 3, .int .i64 4, .int .i64 5, .int .i64 6, .int .i64 7, .int .i64 8] 22) = w1 at hc0 hg0 ⊢
  generalize w.heap.size = b at hc0 ⊢
  have HC : Hid (∀ k, k < 9 → w1.cell? ⟨b, k, none⟩ = some (.int .i64 k)) := hc0
  clear hc0
  go_loop [5] (fun i => ∃ k : Nat, k ≤ 9 ∧ i = .int .i64 k) (fun i => 9 - (intOf i).toNat)
  case atStart => exact ⟨0, Nat.zero_le _, rfl⟩
  case round =>
    obtain ⟨k, hk, rfl⟩ := hrel
    by_cases hlt : k < 9
    · have h1 := HC.out k hlt
      go_wp2
      go_round
      case rel => exact ⟨k + 1, by omega, by go_num⟩
      case measure => simp [intOf]; omega
    · clear HC
      go_wp2_with fail
      refine (eq_any 29 (fun k => consts.getD k 0) w1.heap.size (w1.heap.size + 1) _ (by omega) ?_ ?_).mono ?_
      · intro k hk; rw [World.cell?_alloc2_first]; exact consts_at k hk
      · intro k hk; rw [World.cell?_alloc2_new]; exact consts_at k hk
      rintro e w2 ⟨rfl, rfl⟩
      go_wp2
      go_ret
      exact ⟨rfl, (hg0.alloc _ _).alloc _ _⟩
end Go.Proofs.Ytoiedfkekghppaa
