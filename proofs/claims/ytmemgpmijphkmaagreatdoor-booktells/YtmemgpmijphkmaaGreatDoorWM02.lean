/- What the reference's small functions on texts return: chr, Digits, fixed. -/
import Derived.Lib.Hide
import Derived.Test.YtmemgpmijphkmaaGreatDoorProg
import Derived.Test.YtmemgpmijphkmaaGreatDoorWM01
namespace Go.Proofs.YtmemgpmijphkmaaGreatDoor
set_option linter.unusedVariables false
set_option linter.unusedSimpArgs false
open Go.RowKit
theorem conv_one (n : Int) (w : World) (h1 : 0 ≤ n) (h2 : n ≤ 255) :
    (convert 95 9 (.slice (some ⟨w.heap.size, 0, none⟩) 1 1)).run Tryz.prog (w.alloc (.cells #[.int .u8 n] 5)) = .ok (.string (S [u n])) (w.alloc (.cells #[.int .u8 n] 5)) := by
  refine run_convert_bytes_back (P := Tryz.prog) (w.alloc (.cells #[.int .u8 n] 5)) 95 9 5 ⟨w.heap.size, 0, none⟩ 1 [u n] Tryz.underlying95 Tryz.underlying5 Tryz.underlying9 ?_
  intro j hj
  obtain rfl : j = 0 := by simpa using hj
  have : (Addr.add ⟨w.heap.size, 0, none⟩ 0) = ⟨w.heap.size, 0, none⟩ := rfl
  rw [this, World.cell?_alloc_new]
  simp [u_toNat h1 h2]

set_option maxHeartbeats 400000 in
theorem chr_any (n : Int) (w : World) (h1 : 0 ≤ n) (h2 : n ≤ 255) :
    Calls Tryz.prog 115 #[.int .i64 n] w fun e w' => e = .returned (.string (S [u n])) ∧ Gr w w' := by
  have hc := conv_one n w h1 h2
  go_enter Tryz.func115, Tryz.ntmps115
  go_wp2
  go_ret
  exact ⟨rfl, Gr.alloc _ _⟩

/-- the decimal digits of a number -/
def dg (n : Nat) : List UInt8 := if n < 10 then [u (n + 48)] else dg (n / 10) ++ [u ((n % 10 : Nat) + 48)]
/-- the same of an integer that is not below 0 -/
def dz (n : Int) : List UInt8 := dg n.toNat
theorem dz_small {n : Int} (h0 : 0 ≤ n) (h : n < 10) : dz n = [u (48 + n)] := by
  unfold dz; rw [dg, if_pos (by omega)]; congr 2; omega
theorem dz_big {n : Int} (h0 : 0 ≤ n) (h : ¬ n < 10) : dz n = dz (n / 10) ++ [u (48 + n % 10)] := by
  unfold dz; rw [dg, if_neg (by omega)]
  have e1 : n.toNat / 10 = (n / 10).toNat := by omega
  have e2 : ((n.toNat % 10 : Nat) : Int) + 48 = 48 + n % 10 := by omega
  rw [e1, e2]
theorem dz_len : ∀ (k : Nat) (n : Int), 0 ≤ n → n < 10 ^ (k + 1) → 1 ≤ (dz n).length ∧ (dz n).length ≤ k + 1 := by
  intro k
  induction k with
  | zero => intro n h0 h; rw [dz_small h0 (by simpa using h)]; simp
  | succ k ih =>
    intro n h0 h
    by_cases c : n < 10
    · rw [dz_small h0 c]; simp
    · rw [dz_big h0 c]
      have := ih (n / 10) (by omega) (by rw [Int.pow_succ] at h; omega)
      simp; omega

theorem pow_bd {k : Nat} (h : k ≤ 17) : (10 : Int) ^ (k + 1) ≤ 1000000000000000000 := by
  have : (10 : Nat) ^ (k + 1) ≤ 10 ^ 18 := Nat.pow_le_pow_right (by omega) (by omega)
  have e : ((10 : Nat) ^ (k + 1) : Nat) = ((10 : Int) ^ (k + 1)) := by simp
  omega

set_option maxHeartbeats 400000 in
theorem digits_any (k : Nat) : ∀ (n : Int) (w : World), 0 ≤ n → n < 10 ^ (k + 1) → k ≤ 17 →
    Calls Tryz.prog 69 #[.int .i64 n] w fun e w' => e = .returned (.string (S (dz n))) ∧ Gr w w' := by
  induction k with
  | zero =>
    intro n w h0 h _
    have h10 : n < 10 := by simpa using h
    rw [dz_small h0 h10]
    clear h
    go_enter Tryz.func69, Tryz.ntmps69
    go_wp2_with fail
    refine (chr_any (48 + n) w (by omega) (by omega)).mono ?_
    rintro e w1 ⟨rfl, hg⟩
    go_wp2_with fail
    go_ret
    exact ⟨rfl, hg⟩
  | succ k ih =>
    intro n w h0 h hk
    by_cases h10 : n < 10
    · rw [dz_small h0 h10]
      clear h ih
      go_enter Tryz.func69, Tryz.ntmps69
      go_wp2_with fail
      refine (chr_any (48 + n) w (by omega) (by omega)).mono ?_
      rintro e w1 ⟨rfl, hg⟩
      go_wp2_with fail
      go_ret
      exact ⟨rfl, hg⟩
    · rw [dz_big h0 h10]
      have hlt : n / 10 < 10 ^ (k + 1) := by rw [Int.pow_succ] at h; omega
      have hlen := (dz_len k (n / 10) (by omega) hlt).2
      have hN : n ≤ 1000000000000000000 := by have := pow_bd hk; omega
      have c := ih (n / 10) w (by omega) hlt (by omega)
      clear h ih hlt
      go_enter Tryz.func69, Tryz.ntmps69
      go_wp2_with fail
      refine c.mono ?_
      rintro e w1 ⟨rfl, hg⟩
      clear c
      go_wp2_with fail
      refine (chr_any (48 + n % 10) w1 (by omega) (by omega)).mono ?_
      rintro e w2 ⟨rfl, hg2⟩
      go_wp2_with fail
      go_ret
      exact ⟨rfl, hg.trans hg2⟩

/-- two digits -/
def d2 (n : Int) : List UInt8 := [u (48 + n / 10), u (48 + n % 10)]
/-- four digits -/
def d4 (n : Int) : List UInt8 := [u (48 + n / 1000), u (48 + n / 100 % 10), u (48 + n / 10 % 10), u (48 + n % 10)]
@[go_sem] theorem d2_length (n : Int) : (d2 n).length = 2 := rfl
@[go_sem] theorem d4_length (n : Int) : (d4 n).length = 4 := rfl
theorem dz_d2 {n : Int} (h1 : 10 ≤ n) (h2 : n < 100) : dz n = d2 n := by
  rw [dz_big (by omega) (by omega), dz_small (by omega) (by omega)]; rfl
theorem dz_d4 {n : Int} (h1 : 1000 ≤ n) (h2 : n < 10000) : dz n = d4 n := by
  rw [dz_big (by omega) (by omega), dz_big (by omega) (by omega), dz_big (by omega) (by omega), dz_small (by omega) (by omega)]
  have e1 : n / 10 / 10 / 10 = n / 1000 := by omega
  have e2 : n / 10 / 10 % 10 = n / 100 % 10 := by omega
  rw [e1, e2]; rfl
theorem d2_small {n : Int} (h1 : 0 ≤ n) (h2 : n < 10) : d2 n = 48 :: dz n := by
  rw [dz_small h1 h2]
  have e1 : n / 10 = 0 := by omega
  have e2 : n % 10 = n := by omega
  simp only [d2, e1, e2]; rfl

set_option maxHeartbeats 400000 in
theorem fixed_two (n : Int) (w : World) (h1 : 0 ≤ n) (h2 : n < 100) :
    Calls Tryz.prog 70 #[.int .i64 n, .int .i64 2] w fun e w' => e = .returned (.string (S (d2 n))) ∧ Gr w w' := by
  by_cases h : n < 10
  · rw [d2_small h1 h]
    have hl : (dz n).length = 1 := by rw [dz_small h1 h]; rfl
    have l1 : (dz n).length < 2 := by omega
    have l2 : ¬ (dz n).length + 1 < 2 := by omega
    clear hl
    go_enter Tryz.func70, Tryz.ntmps70
    go_wp2_with fail
    refine (digits_any 8 n w h1 (by omega) (by omega)).mono ?_
    rintro e w1 ⟨rfl, hg⟩
    go_wp2_with fail
    refine wp_loop_rounds 2 ?_
    rw [rounds_succ]
    go_wp2
    rw [rounds_succ]
    go_wp2
    go_ret
    exact ⟨rfl, hg⟩
  · rw [← dz_d2 (by omega) h2]
    have hl : (dz n).length = 2 := by rw [dz_d2 (by omega) h2]; rfl
    have l2 : ¬ (dz n).length < 2 := by omega
    clear hl
    go_enter Tryz.func70, Tryz.ntmps70
    go_wp2_with fail
    refine (digits_any 8 n w h1 (by omega) (by omega)).mono ?_
    rintro e w1 ⟨rfl, hg⟩
    go_wp2_with fail
    refine wp_loop_rounds 1 ?_
    rw [rounds_succ]
    go_wp2
    go_ret
    exact ⟨rfl, hg⟩

set_option maxHeartbeats 400000 in
theorem fixed_four (n : Int) (w : World) (h1 : 1000 ≤ n) (h2 : n < 10000) :
    Calls Tryz.prog 70 #[.int .i64 n, .int .i64 4] w fun e w' => e = .returned (.string (S (d4 n))) ∧ Gr w w' := by
  rw [← dz_d4 h1 h2]
  have hl : (dz n).length = 4 := by rw [dz_d4 h1 h2]; rfl
  have l2 : ¬ (dz n).length < 4 := by omega
  clear hl
  go_enter Tryz.func70, Tryz.ntmps70
  go_wp2_with fail
  refine (digits_any 8 n w (by omega) (by omega) (by omega)).mono ?_
  rintro e w1 ⟨rfl, hg⟩
  go_wp2_with fail
  refine wp_loop_rounds 1 ?_
  rw [rounds_succ]
  go_wp2
  go_ret
  exact ⟨rfl, hg⟩

/-- a duration that is not below 0 as text -/
def spanL0 (n : Int) : List UInt8 := dz (n / 3600) ++ 58 :: (d2 (n / 60 % 60) ++ (if n % 60 = 0 then [] else 58 :: d2 (n % 60)))
/-- a duration as text -/
def spanL (n : Int) : List UInt8 := if n < 0 then 45 :: spanL0 (-n) else spanL0 n

theorem spanL0_len (n : Int) (h1 : 0 ≤ n) (h2 : n ≤ 604800) : (spanL0 n).length ≤ 20 := by
  have hl := (dz_len 8 (n / 3600) (by omega) (by omega)).2
  unfold spanL0; split <;> simp [d2] <;> omega

set_option maxHeartbeats 1000000 in
theorem rspan_pos (n : Int) (w : World) (h1 : 0 ≤ n) (h2 : n ≤ 604800) :
    Calls Tryz.prog 30 #[.int .i64 n] w fun e w' => e = strInt (S (spanL0 n)) 0 ∧ Gr w w' := by
  have hl := (dz_len 8 (n / 3600) (by omega) (by omega)).2
  by_cases h : n % 60 = 0
  · have t : ¬ 0 < n % 60 := by omega
    have E : Hid (spanL0 n = dz (n / 3600) ++ 58 :: d2 (n / 60 % 60)) := by simp [Hid, spanL0, h]
    clear h
    go_enter Tryz.func30, Tryz.ntmps30
    go_wp2_with (go_at_call 39; go_in)
    refine (digits_any 8 (n / 3600) w (by omega) (by omega) (by omega)).mono ?_
    rintro e w1 ⟨rfl, hg⟩
    go_wp2_with fail
    refine (fixed_two (n / 60 % 60) w1 (by omega) (by omega)).mono ?_
    rintro e w2 ⟨rfl, hg2⟩
    go_wp2_with fail
    go_ret2
    exact ⟨strInt_eq (by rw [E.out]) rfl, hg.trans hg2⟩
  · have t : 0 < n % 60 := by omega
    have E : Hid (spanL0 n = dz (n / 3600) ++ 58 :: (d2 (n / 60 % 60) ++ 58 :: d2 (n % 60))) := by simp [Hid, spanL0, h]
    clear h
    go_enter Tryz.func30, Tryz.ntmps30
    go_wp2_with (go_at_call 39; go_in)
    refine (digits_any 8 (n / 3600) w (by omega) (by omega) (by omega)).mono ?_
    rintro e w1 ⟨rfl, hg⟩
    go_wp2_with fail
    refine (fixed_two (n / 60 % 60) w1 (by omega) (by omega)).mono ?_
    rintro e w2 ⟨rfl, hg2⟩
    go_wp2_with fail
    refine (fixed_two (n % 60) w2 (by omega) (by omega)).mono ?_
    rintro e w3 ⟨rfl, hg3⟩
    go_wp2_with fail
    go_ret2
    exact ⟨strInt_eq (by rw [E.out]) rfl, (hg.trans hg2).trans hg3⟩

set_option maxHeartbeats 1000000 in
theorem rspan_yes (n : Int) (w : World) (h1 : -604800 ≤ n) (h2 : n ≤ 604800) :
    Calls Tryz.prog 30 #[.int .i64 n] w fun e w' => e = strInt (S (spanL n)) 0 ∧ Gr w w' := by
  by_cases h : n < 0
  · have E : Hid (spanL n = 45 :: spanL0 (-n)) := by simp [Hid, spanL, h]
    have hl := spanL0_len (-n) (by omega) (by omega)
    have c := rspan_pos (-n) w (by omega) (by omega)
    go_enter Tryz.func30, Tryz.ntmps30
    go_wp2_with (go_at_call 39; go_in)
    refine c.mono ?_
    rintro e w1 ⟨rfl, hg⟩
    clear c
    go_wp2_with fail
    go_ret2
    exact ⟨strInt_eq (by rw [E.out]) rfl, hg⟩
  · have e : spanL n = spanL0 n := by simp [spanL, h]
    rw [e]
    exact rspan_pos n w (by omega) h2

/-- a time as text -/
def stampL (y m d r : Int) : List UInt8 := d4 y ++ 45 :: (d2 m ++ 45 :: (d2 d ++ 84 :: (d2 (r / 3600) ++ 58 :: (d2 (r / 60 % 60) ++ 58 :: d2 (r % 60)))))
end Go.Proofs.YtmemgpmijphkmaaGreatDoor
