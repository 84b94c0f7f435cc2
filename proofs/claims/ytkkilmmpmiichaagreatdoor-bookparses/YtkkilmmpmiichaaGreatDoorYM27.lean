/- The project's number and cutClock of package rule, and what the words of a rule's text tell. -/
import Derived.Lib.AtoiTie
import Derived.Test.YtkkilmmpmiichaaGreatDoorYM20
import Derived.Test.YtkkilmmpmiichaaGreatDoorYM22
import Derived.Test.YtkkilmmpmiichaaGreatDoorYM24
import Derived.Test.YtkkilmmpmiichaaGreatDoorYM26
namespace Go.Proofs.YtkkilmmpmiichaaGreatDoor
set_option linter.unusedVariables false
set_option linter.unusedSimpArgs false
open Go.RowKit
theorem decFrom_snoc (b : UInt8) (d : Nat) (hd : Lib.digitVal b = some d) : ∀ (l : List UInt8) (acc m : Nat), Lib.decFrom acc l = some m → Lib.decFrom acc (l ++ [b]) = some (m * 10 + d)
  | [], acc, m, h => by
    simp only [Lib.decFrom, Option.some.injEq] at h
    subst h
    simp [Lib.decFrom, hd]
  | x :: l, acc, m, h => by
    simp only [Lib.decFrom, List.cons_append] at h ⊢
    cases hx : Lib.digitVal x with
    | none => rw [hx] at h; cases h
    | some e => rw [hx] at h; exact decFrom_snoc b d hd l _ m h
theorem digit_u {r : Int} (h0 : 0 ≤ r) (h9 : r < 10) : Lib.digitVal (u (48 + r)) = some r.toNat := by
  have k := u_toNat (n := 48 + r) (by omega) (by omega)
  unfold Lib.digitVal
  rw [if_pos (by omega)]
  congr 1
  omega
theorem dec_dz : ∀ (k : Nat) (n : Int), 0 ≤ n → n < 10 ^ (k + 1) → Lib.decFrom 0 (dz n) = some n.toNat := by
  intro k
  induction k with
  | zero =>
    intro n h0 h
    have c : n < 10 := by simpa using h
    rw [dz_small h0 c]
    have := decFrom_snoc _ _ (digit_u h0 c) [] 0 0 rfl
    simpa using this
  | succ k ih =>
    intro n h0 h
    by_cases c : n < 10
    · rw [dz_small h0 c]
      have := decFrom_snoc _ _ (digit_u h0 c) [] 0 0 rfl
      simpa using this
    · rw [dz_big h0 c]
      have := decFrom_snoc _ _ (digit_u (r := n % 10) (by omega) (by omega)) (dz (n / 10)) 0 _ (ih (n / 10) (by omega) (by rw [Int.pow_succ] at h; omega))
      rw [this]
      congr 1
      omega
theorem atoi_dz9 {v : Int} (h1 : 0 ≤ v) (h2 : v < 1000000000) : Lib.atoiAll (dz v) = .ok v := by
  have hl := dz_len 8 v h1 (by omega)
  rw [Lib.atoiAll_short _ (by omega)]
  have hd := dec_dz 8 v h1 (by omega)
  have ht := ((tells_all 8 v h1 (by omega)).1 0 (by omega)).1
  cases h : dz v with
  | nil => rw [h] at hl; simp at hl
  | cons b r =>
    rw [h] at hd ht
    have hb : 48 ≤ (b.toNat : Int) := by simpa [bt] using ht
    have n45 : ¬ b = 45 := fun e => by subst e; revert hb; decide
    have n43 : ¬ b = 43 := fun e => by subst e; revert hb; decide
    simp [Lib.atoi, n45, n43, Lib.decNat, hd, Lib.NumEnd.ofOption]
    omega
/-- what number returns: the number that is told, if one is -/
def NrA (l : List UInt8) (w : World) (e : Ending) (w' : World) : Prop := ∃ n : Int, e = .returned (.int .i64 n) ∧ (∀ v : Int, 0 ≤ v → v < 1000000000 → l = dz v → n = v) ∧ Gr w w'
theorem nrA_ok {s : ByteArray} {w : World} {v : Int} (hc : Lib.atoiAll s.data.toList = .ok v) (w' : World) (g : Gr w w') : NrA s.toList w (.returned (.int .i64 v)) w' :=
  ⟨v, rfl, fun v0 a b e => by rw [ByteArray.toList_eq] at e; rw [e, atoi_dz9 a b] at hc; injection hc with x; exact x.symm, g⟩
theorem nrA_no {s : ByteArray} {w : World} (hc : ∀ v, ¬ Lib.atoiAll s.data.toList = .ok v) (w' : World) (g : Gr w w') : NrA s.toList w (.returned (.int .i64 0)) w' :=
  ⟨0, rfl, fun v0 a b e => by rw [ByteArray.toList_eq] at e; rw [e] at hc; exact absurd (atoi_dz9 a b) (hc v0), g⟩

set_option maxHeartbeats 1000000 in
theorem rnum_any (s : ByteArray) (w : World) (hm : s.size ≤ 1048576) (ht : ErrTab w) : Calls Tryz.prog 113 #[.string s] w (NrA s.toList w) := by
  cases hc : Lib.atoiAll s.data.toList with
  | ok v =>
    have K := Tryz.strconv_Atoi_ok s (by omega) v hc w
    have A := Lib.hid (nrA_ok (w := w) hc)
    clear hc
    go_enter Tryz.func113, Tryz.ntmps113
    go_wp2_with fail
    refine K.mono ?_
    rintro e w1 ⟨rfl, hw⟩
    have hg : Gr w w1 := by
      rcases hw with rfl | ⟨t, rfl⟩
      · exact Gr.refl _
      · exact gr_bytes
    clear K hw
    go_wp2_with fail
    go_ret
    exact A.out _ hg
  | «syntax» =>
    obtain ⟨⟨tp, p, hv⟩, _⟩ := ht
    have K := Tryz.strconv_Atoi_syntax s (by omega) hc _ w hv (Or.inr ⟨_, _, rfl⟩)
    have A := Lib.hid (nrA_no (s := s) (w := w) (fun v e => by rw [hc] at e; cases e))
    clear hc hv
    go_enter Tryz.func113, Tryz.ntmps113
    go_wp2_with fail
    refine K.mono ?_
    rintro e w1 ⟨N, rfl, _, _, hg⟩
    clear K
    go_wp2_with fail
    go_ret
    exact A.out _ hg
  | range =>
    obtain ⟨_, ⟨tp, p, hv⟩, _⟩ := ht
    have K := Tryz.strconv_Atoi_range s (by omega) hc _ w hv (Or.inr ⟨_, _, rfl⟩)
    have A := Lib.hid (nrA_no (s := s) (w := w) (fun v e => by rw [hc] at e; cases e))
    clear hc hv
    generalize Lib.atoiSat s.data.toList = z at K
    go_enter Tryz.func113, Tryz.ntmps113
    go_wp2_with fail
    refine K.mono ?_
    rintro e w1 ⟨N, rfl, _, _, hg⟩
    clear K
    go_wp2_with fail
    go_ret
    exact A.out _ hg

/-- the time of a rule without the letter of its clock, and the clock -/
def cutC (l : List UInt8) : List UInt8 × Int := if Lib.hasSuffix l [115] = true then (Lib.trimSuffix l [115], 1) else if Lib.hasSuffix l [117] = true then (Lib.trimSuffix l [117], 2) else (l, 0)
theorem cutC_len (l : List UInt8) : (cutC l).1.length ≤ l.length := by
  unfold cutC
  split
  · exact Lib.trimSuffix_le _ _
  · split
    · exact Lib.trimSuffix_le _ _
    · exact Nat.le_refl _
theorem trim_last (l : List UInt8) (c : UInt8) : Lib.trimSuffix (l ++ [c]) [c] = l := by
  unfold Lib.trimSuffix
  rw [if_pos (by rw [suffix_last]; simp)]
  simp
theorem cutC_word {n by' : Int} (h1 : -604800 ≤ n) (h2 : n ≤ 604800) (b1 : 0 ≤ by') (b2 : by' ≤ 2) : cutC (spanL n ++ suf by') = (spanL n, by') := by
  obtain ⟨x, y⟩ := clock_word h1 h2 b1 b2
  have c : by' = 0 ∨ by' = 1 ∨ by' = 2 := by omega
  unfold cutC
  rw [x, y]
  rcases c with rfl | rfl | rfl
  · have e : suf 0 = [] := rfl
    simp [e]
  · have e : suf 1 = [115] := rfl
    rw [e, if_pos (by decide), trim_last]
  · have e : suf 2 = [117] := rfl
    rw [e, if_neg (by decide), if_pos (by decide), trim_last]
theorem cutSuf (s : ByteArray) (c : UInt8) (w : World) (hs : s.size ≤ maxLen) :
    Calls Tryz.prog 136 #[.string s, .string (S [c])] w fun e w' => e = .returned (.tuple #[.string (S (Lib.trimSuffix s.toList [c])), .bool (Lib.hasSuffix s.toList [c])]) ∧ w = w' := by
  refine (Tryz.strings_CutSuffix s (S [c]) w (by unfold maxLen at hs; omega)).mono ?_
  rintro e w' ⟨rfl, rfl⟩
  have sd : (S [c]).data.toList = [c] := by simp [S]
  rw [sd, ByteArray.toList_eq]
  exact ⟨rfl, rfl⟩

set_option maxHeartbeats 1000000 in
theorem cutClock_any (s : ByteArray) (w : World) (hs : s.size ≤ maxLen) (hcl : HasCl w) :
    Calls Tryz.prog 112 #[.string s] w fun e w' => e = strInt (S (cutC s.toList).1) (cutC s.toList).2 ∧ Gr w w' := by
  have KS := Lib.hid (fun w => cutSuf s 115 w hs)
  have KU := Lib.hid (fun w => cutSuf s 117 w hs)
  have E1 : Hid (Lib.hasSuffix s.toList [115] = true → strInt (S (cutC s.toList).1) (cutC s.toList).2 = strInt (S (Lib.trimSuffix s.toList [115])) 1) := fun h => by unfold cutC; rw [if_pos h]
  have E2 : Hid (Lib.hasSuffix s.toList [115] = false → Lib.hasSuffix s.toList [117] = true → strInt (S (cutC s.toList).1) (cutC s.toList).2 = strInt (S (Lib.trimSuffix s.toList [117])) 2) := fun h g => by
    unfold cutC; rw [if_neg (by rw [h]; simp), if_pos g]
  have E0 : Hid (Lib.hasSuffix s.toList [115] = false → Lib.hasSuffix s.toList [117] = false → strInt (S (cutC s.toList).1) (cutC s.toList).2 = strInt s 0) := fun h g => by
    unfold cutC; rw [if_neg (by rw [h]; simp), if_neg (by rw [g]; simp), ← S_of]
  generalize strInt (S (cutC s.toList).1) (cutC s.toList).2 = R at E1 E2 E0 ⊢
  generalize Lib.hasSuffix s.toList [115] = h1 at KS E1 E2 E0
  generalize Lib.hasSuffix s.toList [117] = h2 at KU E2 E0
  generalize Lib.trimSuffix s.toList [115] = t1 at KS E1
  generalize Lib.trimSuffix s.toList [117] = t2 at KU E2
  have HC := Lib.hid hcl
  have hz : (w.alloc (.cells #[.int .i64 1, .int .i64 2] 3)).cell? ⟨w.heap.size, 0, none⟩ = some (.int .i64 1) ∧ (w.alloc (.cells #[.int .i64 1, .int .i64 2] 3)).cell? ⟨w.heap.size, 1, none⟩ = some (.int .i64 2) ∧ Gr w (w.alloc (.cells #[.int .i64 1, .int .i64 2] 3)) := ⟨by rw [World.cell?_alloc_new]; rfl, by rw [World.cell?_alloc_new]; rfl, Gr.alloc _ _⟩
  have HZ := Lib.hid hz
  clear hz hcl hs
  go_enter Tryz.func112, Tryz.ntmps112
  go_wp2_with fail
  generalize w.alloc (.cells #[.int .i64 1, .int .i64 2] 3) = w1 at HZ ⊢
  generalize w.heap.size = sb at HZ ⊢
  have z0 := HZ.out.1
  have z1 := HZ.out.2.1
  have HG := Lib.hid HZ.out.2.2
  have k1 : w1.cell? ⟨1, 1, none⟩ = some (.string (S [115])) := (HG.out.clT HC.out).2 1 (by omega)
  have k2 : w1.cell? ⟨1, 2, none⟩ = some (.string (S [117])) := (HG.out.clT HC.out).2 2 (by omega)
  clear HZ HC
  go_loop [10] (fun i => ∃ k : Nat, k ≤ 2 ∧ i = .int .i64 k ∧ (1 ≤ k → h1 = false) ∧ (2 ≤ k → h2 = false)) (fun i => 2 - (intOf i).toNat)
  case atStart => exact ⟨0, by omega, rfl, fun x => absurd x (by omega), fun x => absurd x (by omega)⟩
  case round =>
    obtain ⟨k, hk, rfl, n1, n2⟩ := hrel
    have N1 := Lib.hid n1
    have N2 := Lib.hid n2
    clear n1 n2
    have : k = 0 ∨ k = 1 ∨ k = 2 := by omega
    rcases this with rfl | rfl | rfl
    · go_wp2_with fail
      refine (KS.out w1).mono ?_
      rintro e w2 ⟨rfl, rfl⟩
      cases h1 with
      | true =>
        have E := Lib.hid (E1.out rfl)
        clear E1 E2 E0
        go_wp2_with fail
        go_ret2
        exact ⟨E.out.symm, HG.out⟩
      | false =>
        go_wp2_with fail
        go_round
        case rel => exact ⟨1, by omega, by go_num, fun _ => by simp, fun x => absurd x (by omega)⟩
        case measure => simp [intOf]
    · go_wp2_with fail
      refine (KU.out w1).mono ?_
      rintro e w2 ⟨rfl, rfl⟩
      cases h2 with
      | true =>
        have E := Lib.hid (E2.out (N1.out (by omega)) rfl)
        clear E1 E2 E0
        go_wp2_with fail
        go_ret2
        exact ⟨E.out.symm, HG.out⟩
      | false =>
        go_wp2_with fail
        go_round
        case rel => exact ⟨2, by omega, by go_num, fun _ => N1.out (by omega), fun _ => by simp⟩
        case measure => simp [intOf]
    · have E := Lib.hid (E0.out (N1.out (by omega)) (N2.out (by omega)))
      clear E1 E2 E0
      go_wp2_with fail
      go_ret2
      exact ⟨E.out.symm, HG.out⟩
end Go.Proofs.YtkkilmmpmiichaaGreatDoor
