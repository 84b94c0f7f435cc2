/- Slices of numbers that a law makes; the reference's Has at numbers. -/
import Derived.Test.YtkmgildnhnjepaaGreatDoorRM46
namespace Go.Proofs.YtkmgildnhnjepaaGreatDoor
set_option linter.unusedVariables false
set_option linter.unusedSimpArgs false
open Go.RowKit
theorem in_len (x : Int) : (inC x).length = 1 := rfl
theorem in_one (x : Int) : ∀ u ∈ inC x, u.oneCell' = true := fun u hu => by simp [inC] at hu; subst hu; rfl
theorem own_blk {α : Type} {w : World} {base g k n : Nat} {T : TypeId} {enc : α → List Value} {l : List α} {cs : Array Value} (hb : base ≤ g) (h : w.heap[g]? = some (.cells cs T (0, 0))) (hc : cs.toList = l.flatMap enc) (hk : (l.flatMap enc).length = n * k) (hn : l.length = n) (hm : n ≤ maxLen) : Own w base T k enc (.slice (some ⟨g, 0, none⟩) n n) l := by
  subst hn
  refine ⟨hk, Or.inr ⟨g, l.length, cs, rfl, hb, h, Nat.le_refl _, hm, ?_, ?_⟩⟩
  · rw [← Array.length_toList, hc, hk]
  · rw [hc]
    exact List.take_of_length_le (Nat.le_of_eq hk)
theorem own_two {α : Type} {w : World} {base k : Nat} {e : TypeId} {enc : α → List Value} {v : Value} {l : List α} {x y : α} (h : w.ownsRow base e k v (l.length + 2) (l.flatMap enc ++ (enc x ++ enc y))) : Own w base e k enc v (l ++ [x, y]) := by
  unfold Own
  rw [List.length_append, List.flatMap_append]
  simpa using h

theorem infoI : (Tryz.prog.info? 3).map (fun i => (i.zero, i.size, i.bytes)) = some (some (.int .i64 0), 1, 8) := by kernel_rfl

set_option maxRecDepth 100000 in
set_option maxHeartbeats 4000000 in
theorem rhasInt (A : Option Addr) (c : Nat) (l : List Int) (x : Int) (n' : Nat) (w : World) (hn : n' = l.length) (hr : Row w 1 inC A l) (hl : l.length ≤ 1000000) :
    Calls Tryz.prog 18 #[.slice A n' c, .int .i64 x] w fun e w' => e = .returned (.bool (l.contains x)) ∧ w = w' := by
  subst hn
  have HR := Lib.hid hr
  obtain ⟨R, hR⟩ : ∃ R, l.contains x = R := ⟨_, rfl⟩
  rw [hR]
  have ER := Lib.hid hR
  clear hr hR
  go_enter Tryz.func18, Tryz.ntmps18
  go_wp2_with fail
  go_loop [9] (fun i => ∃ k : Nat, k ≤ l.length ∧ i = .int .i64 k ∧ Hid (∀ (j : Nat) (y : Int), j < k → l[j]? = some y → y ≠ x)) (fun i => l.length - (intOf i).toNat)
  case atStart => exact ⟨0, Nat.zero_le _, rfl, fun j y hj _ => by omega⟩
  case round =>
    obtain ⟨k, hk, rfl, hno⟩ := hrel
    by_cases hlt : k < l.length
    · obtain ⟨y, hy⟩ := get_lt hlt
      obtain ⟨b, off, hA, _, hc⟩ := HR.out k y hy
      have c0 : w.cell? ⟨b, off + k, none⟩ = some (.int .i64 y) := by simpa using hc 0 (.int .i64 y) rfl
      have HY := Lib.hid hy
      clear hy hc
      subst hA
      by_cases e : x = y
      · have t1 : (x == y) = true := beqT e
        have RR : Hid (R = true) := by unfold Hid; rw [← ER.out, List.contains_iff_mem, e]; exact List.mem_of_getElem? HY.out
        clear e
        go_wp2_with fail
        go_ret
        exact ⟨by rw [RR.out]; rfl, rfl⟩
      · have t1 : (x == y) = false := beqF e
        have NO : Hid (∀ (j : Nat) (z : Int), j < k + 1 → l[j]? = some z → z ≠ x) := fun j z hj hz => by
          by_cases q : j = k
          · subst q; rw [HY.out] at hz; injection hz with hz; subst hz; exact fun r => e r.symm
          · exact hno.out j z (by omega) hz
        clear e
        go_wp2_with fail
        go_round
        case rel => exact ⟨k + 1, by omega, by go_num, NO.out⟩
        case measure => simp [intOf]; omega
    · obtain rfl : k = l.length := by omega
      have RR : Hid (R = false) := by
        unfold Hid
        rw [← ER.out]
        cases q : l.contains x with
        | false => rfl
        | true =>
          exfalso
          have hm := List.contains_iff_mem.1 q
          obtain ⟨j, hj⟩ := List.getElem?_of_mem hm
          exact hno.out j x (List.getElem?_eq_some_iff.1 hj).1 hj rfl
      go_wp2_with fail
      go_ret
      exact ⟨by rw [RR.out]; rfl, rfl⟩
end Go.Proofs.YtkmgildnhnjepaaGreatDoor
