/- The project's number and cutClock of package rule, and what the words of a rule's text tell. What the project's guess of package rule returns: the only rule that may have these words. What the project's Parse of package rule returns, for every text of a length up to 1048576. -/
import Derived.Test.YteljpjhjoclkfaaGreatDoorFA
import Derived.Test.YteljpjhjoclkfaaGreatDoorP3
import Derived.Test.YteljpjhjoclkfaaGreatDoorEA
import Derived.Test.YteljpjhjoclkfaaGreatDoorKB
import Derived.Lib.AtoiTie
namespace Go.Proofs.YteljpjhjoclkfaaGreatDoor
set_option linter.unusedVariables false
set_option linter.unusedSimpArgs false
open Go.RowKit

theorem decFrom_snoc (b : UInt8) (d : Nat) (hd : Lib.digitVal b = some d) : ∀ (l : List UInt8) (acc m : Nat), Lib.decFrom acc l = some m → Lib.decFrom acc (l ++ [b]) = some (m * 10 + d)
  | [], acc, m, h => by
    simp only [Lib.decFrom, Option.some.injEq] at h
    subst h
    simp [Lib.decFrom, hd]
  | x :: l, acc, m, h => by
    simp only [Lib.decFrom, List.cons_append] at h ⊢
    cases hx : Lib.digitVal x with
    | none => rw [hx] at h; cases h
    | some e => rw [hx] at h; exact decFrom_snoc b d hd l _ m h
theorem digit_u {r : Int} (h0 : 0 ≤ r) (h9 : r < 10) : Lib.digitVal (u (48 + r)) = some r.toNat := by
  have k := u_toNat (n := 48 + r) (by omega) (by omega)
  unfold Lib.digitVal
  rw [if_pos (by omega)]
  congr 1
  omega
theorem dec_dz : ∀ (k : Nat) (n : Int), 0 ≤ n → n < 10 ^ (k + 1) → Lib.decFrom 0 (dz n) = some n.toNat := by
  intro k
  induction k with
  | zero =>
    intro n h0 h
    have c : n < 10 := by simpa using h
    rw [dz_small h0 c]
    have := decFrom_snoc _ _ (digit_u h0 c) [] 0 0 rfl
    simpa using this
  | succ k ih =>
    intro n h0 h
    by_cases c : n < 10
    · rw [dz_small h0 c]
      have := decFrom_snoc _ _ (digit_u h0 c) [] 0 0 rfl
      simpa using this
    · rw [dz_big h0 c]
      have := decFrom_snoc _ _ (digit_u (r := n % 10) (by omega) (by omega)) (dz (n / 10)) 0 _ (ih (n / 10) (by omega) (by rw [Int.pow_succ] at h; omega))
      rw [this]
      congr 1
      omega
theorem atoi_dz9 {v : Int} (h1 : 0 ≤ v) (h2 : v < 1000000000) : Lib.atoiAll (dz v) = .ok v := by
  have hl := dz_len 8 v h1 (by omega)
  rw [Lib.atoiAll_short _ (by omega)]
  have hd := dec_dz 8 v h1 (by omega)
  have ht := ((tells_all 8 v h1 (by omega)).1 0 (by omega)).1
  cases h : dz v with
  | nil => rw [h] at hl; simp at hl
  | cons b r =>
    rw [h] at hd ht
    have hb : 48 ≤ (b.toNat : Int) := by simpa [bt] using ht
    have n45 : ¬ b = 45 := fun e => by subst e; revert hb; decide
    have n43 : ¬ b = 43 := fun e => by subst e; revert hb; decide
    simp [Lib.atoi, n45, n43, Lib.decNat, hd, Lib.NumEnd.ofOption]
    omega
/-- what number returns: the number that is told, if one is -/
def NrA (l : List UInt8) (w : World) (e : Ending) (w' : World) : Prop := ∃ n : Int, e = .returned (.int .i64 n) ∧ (∀ v : Int, 0 ≤ v → v < 1000000000 → l = dz v → n = v) ∧ Gr w w'
theorem nrA_ok {s : ByteArray} {w : World} {v : Int} (hc : Lib.atoiAll s.data.toList = .ok v) (w' : World) (g : Gr w w') : NrA s.toList w (.returned (.int .i64 v)) w' :=
  ⟨v, rfl, fun v0 a b e => by rw [ByteArray.toList_eq] at e; rw [e, atoi_dz9 a b] at hc; injection hc with x; exact x.symm, g⟩
theorem nrA_no {s : ByteArray} {w : World} (hc : ∀ v, ¬ Lib.atoiAll s.data.toList = .ok v) (w' : World) (g : Gr w w') : NrA s.toList w (.returned (.int .i64 0)) w' :=
  ⟨0, rfl, fun v0 a b e => by rw [ByteArray.toList_eq] at e; rw [e] at hc; exact absurd (atoi_dz9 a b) (hc v0), g⟩

set_option maxHeartbeats 1000000 in
theorem rnum_any (s : ByteArray) (w : World) (hm : s.size ≤ 1048576) (ht : ErrTab w) : Calls Tryz.prog 38 #[.string s] w (NrA s.toList w) := by
  cases hc : Lib.atoiAll s.data.toList with
  | ok v =>
    have K := Tryz.strconv_Atoi_ok s (by omega) v hc w
    have A := Lib.hid (nrA_ok (w := w) hc)
    clear hc
    go_enter Tryz.func38, Tryz.ntmps38
    go_wp2_with fail
    refine K.mono ?_
    rintro e w1 ⟨rfl, hw⟩
    have hg : Gr w w1 := by
      rcases hw with rfl | ⟨t, rfl⟩
      · exact Gr.refl _
      · exact gr_bytes
    clear K hw
    go_wp2_with fail
    go_ret
    exact A.out _ hg
  | «syntax» =>
    obtain ⟨⟨tp, p, hv⟩, _⟩ := ht
    have K := Tryz.strconv_Atoi_syntax s (by omega) hc _ w hv (Or.inr ⟨_, _, rfl⟩)
    have A := Lib.hid (nrA_no (s := s) (w := w) (fun v e => by rw [hc] at e; cases e))
    clear hc hv
    go_enter Tryz.func38, Tryz.ntmps38
    go_wp2_with fail
    refine K.mono ?_
    rintro e w1 ⟨N, rfl, _, _, hg⟩
    clear K
    go_wp2_with fail
    go_ret
    exact A.out _ hg
  | range =>
    obtain ⟨_, ⟨tp, p, hv⟩, _⟩ := ht
    have K := Tryz.strconv_Atoi_range s (by omega) hc _ w hv (Or.inr ⟨_, _, rfl⟩)
    have A := Lib.hid (nrA_no (s := s) (w := w) (fun v e => by rw [hc] at e; cases e))
    clear hc hv
    generalize Lib.atoiSat s.data.toList = z at K
    go_enter Tryz.func38, Tryz.ntmps38
    go_wp2_with fail
    refine K.mono ?_
    rintro e w1 ⟨N, rfl, _, _, hg⟩
    clear K
    go_wp2_with fail
    go_ret
    exact A.out _ hg

/-- the time of a rule without the letter of its clock, and the clock -/
def cutC (l : List UInt8) : List UInt8 × Int := if Lib.hasSuffix l [115] = true then (Lib.trimSuffix l [115], 1) else if Lib.hasSuffix l [117] = true then (Lib.trimSuffix l [117], 2) else (l, 0)
theorem cutC_len (l : List UInt8) : (cutC l).1.length ≤ l.length := by
  unfold cutC
  split
  · exact Lib.trimSuffix_le _ _
  · split
    · exact Lib.trimSuffix_le _ _
    · exact Nat.le_refl _
theorem trim_last (l : List UInt8) (c : UInt8) : Lib.trimSuffix (l ++ [c]) [c] = l := by
  unfold Lib.trimSuffix
  rw [if_pos (by rw [suffix_last]; simp)]
  simp
theorem cutC_word {n by' : Int} (h1 : -604800 ≤ n) (h2 : n ≤ 604800) (b1 : 0 ≤ by') (b2 : by' ≤ 2) : cutC (spanL n ++ suf by') = (spanL n, by') := by
  obtain ⟨x, y⟩ := clock_word h1 h2 b1 b2
  have c : by' = 0 ∨ by' = 1 ∨ by' = 2 := by omega
  unfold cutC
  rw [x, y]
  rcases c with rfl | rfl | rfl
  · have e : suf 0 = [] := rfl
    simp [e]
  · have e : suf 1 = [115] := rfl
    rw [e, if_pos (by decide), trim_last]
  · have e : suf 2 = [117] := rfl
    rw [e, if_neg (by decide), if_pos (by decide), trim_last]
theorem cutSuf (s : ByteArray) (c : UInt8) (w : World) (hs : s.size ≤ maxLen) :
    Calls Tryz.prog 67 #[.string s, .string (S [c])] w fun e w' => e = .returned (.tuple #[.string (S (Lib.trimSuffix s.toList [c])), .bool (Lib.hasSuffix s.toList [c])]) ∧ w = w' := by
  refine (Tryz.strings_CutSuffix s (S [c]) w (by unfold maxLen at hs; omega)).mono ?_
  rintro e w' ⟨rfl, rfl⟩
  have sd : (S [c]).data.toList = [c] := by simp [S]
  rw [sd, ByteArray.toList_eq]
  exact ⟨rfl, rfl⟩

set_option maxHeartbeats 1000000 in
theorem cutClock_any (s : ByteArray) (w : World) (hs : s.size ≤ maxLen) (hcl : HasCl w) :
    Calls Tryz.prog 36 #[.string s] w fun e w' => e = strInt (S (cutC s.toList).1) (cutC s.toList).2 ∧ Gr w w' := by
  have KS := Lib.hid (fun w => cutSuf s 115 w hs)
  have KU := Lib.hid (fun w => cutSuf s 117 w hs)
  have E1 : Hid (Lib.hasSuffix s.toList [115] = true → strInt (S (cutC s.toList).1) (cutC s.toList).2 = strInt (S (Lib.trimSuffix s.toList [115])) 1) := fun h => by unfold cutC; rw [if_pos h]
  have E2 : Hid (Lib.hasSuffix s.toList [115] = false → Lib.hasSuffix s.toList [117] = true → strInt (S (cutC s.toList).1) (cutC s.toList).2 = strInt (S (Lib.trimSuffix s.toList [117])) 2) := fun h g => by
    unfold cutC; rw [if_neg (by rw [h]; simp), if_pos g]
  have E0 : Hid (Lib.hasSuffix s.toList [115] = false → Lib.hasSuffix s.toList [117] = false → strInt (S (cutC s.toList).1) (cutC s.toList).2 = strInt s 0) := fun h g => by
    unfold cutC; rw [if_neg (by rw [h]; simp), if_neg (by rw [g]; simp), ← S_of]
  generalize strInt (S (cutC s.toList).1) (cutC s.toList).2 = R at E1 E2 E0 ⊢
  generalize Lib.hasSuffix s.toList [115] = h1 at KS E1 E2 E0
  generalize Lib.hasSuffix s.toList [117] = h2 at KU E2 E0
  generalize Lib.trimSuffix s.toList [115] = t1 at KS E1
  generalize Lib.trimSuffix s.toList [117] = t2 at KU E2
  have HC := Lib.hid hcl
  have hz : (w.alloc (.cells #[.int .i64 1, .int .i64 2] 3)).cell? ⟨w.heap.size, 0, none⟩ = some (.int .i64 1) ∧ (w.alloc (.cells #[.int .i64 1, .int .i64 2] 3)).cell? ⟨w.heap.size, 1, none⟩ = some (.int .i64 2) ∧ Gr w (w.alloc (.cells #[.int .i64 1, .int .i64 2] 3)) := ⟨by rw [World.cell?_alloc_new]; rfl, by rw [World.cell?_alloc_new]; rfl, Gr.alloc _ _⟩
  have HZ := Lib.hid hz
  clear hz hcl hs
  go_enter Tryz.func36, Tryz.ntmps36
  go_wp2_with fail
  generalize w.alloc (.cells #[.int .i64 1, .int .i64 2] 3) = w1 at HZ ⊢
  generalize w.heap.size = sb at HZ ⊢
  have z0 := HZ.out.1
  have z1 := HZ.out.2.1
  have HG := Lib.hid HZ.out.2.2
  have k1 : w1.cell? ⟨0, 1, none⟩ = some (.string (S [115])) := (HG.out.clT HC.out).2 1 (by omega)
  have k2 : w1.cell? ⟨0, 2, none⟩ = some (.string (S [117])) := (HG.out.clT HC.out).2 2 (by omega)
  clear HZ HC
  go_loop [10] (fun i => ∃ k : Nat, k ≤ 2 ∧ i = .int .i64 k ∧ (1 ≤ k → h1 = false) ∧ (2 ≤ k → h2 = false)) (fun i => 2 - (intOf i).toNat)
  case atStart => exact ⟨0, by omega, rfl, fun x => absurd x (by omega), fun x => absurd x (by omega)⟩
  case round =>
    obtain ⟨k, hk, rfl, n1, n2⟩ := hrel
    have N1 := Lib.hid n1
    have N2 := Lib.hid n2
    clear n1 n2
    have : k = 0 ∨ k = 1 ∨ k = 2 := by omega
    rcases this with rfl | rfl | rfl
    · go_wp2_with fail
      refine (KS.out w1).mono ?_
      rintro e w2 ⟨rfl, rfl⟩
      cases h1 with
      | true =>
        have E := Lib.hid (E1.out rfl)
        clear E1 E2 E0
        go_wp2_with fail
        go_ret2
        exact ⟨E.out.symm, HG.out⟩
      | false =>
        go_wp2_with fail
        go_round
        case rel => exact ⟨1, by omega, by go_num, fun _ => by simp, fun x => absurd x (by omega)⟩
        case measure => simp [intOf]
    · go_wp2_with fail
      refine (KU.out w1).mono ?_
      rintro e w2 ⟨rfl, rfl⟩
      cases h2 with
      | true =>
        have E := Lib.hid (E2.out (N1.out (by omega)) rfl)
        clear E1 E2 E0
        go_wp2_with fail
        go_ret2
        exact ⟨E.out.symm, HG.out⟩
      | false =>
        go_wp2_with fail
        go_round
        case rel => exact ⟨2, by omega, by go_num, fun _ => N1.out (by omega), fun _ => by simp⟩
        case measure => simp [intOf]
    · have E := Lib.hid (E0.out (N1.out (by omega)) (N2.out (by omega)))
      clear E1 E2 E0
      go_wp2_with fail
      go_ret2
      exact ⟨E.out.symm, HG.out⟩
end Go.Proofs.YteljpjhjoclkfaaGreatDoor

namespace Go.Proofs.YteljpjhjoclkfaaGreatDoor
set_option linter.unusedVariables false
set_option linter.unusedSimpArgs false
open Go.RowKit

/-- the words are those of this rule -/
def WordsF (ws : Nat → ByteArray) (nm lt : List UInt8) (fr tt mo k d n at' by' sv : Int) : Prop :=
  (ws 1).toList = nm ∧ (ws 2).toList = dz fr ∧ (ws 3).toList = dz tt ∧ (ws 4).toList = dz mo ∧ (ws 5).toList = dayL k d n ∧ (ws 6).toList = spanL at' ++ suf by' ∧ (ws 7).toList = spanL sv ∧ (ws 8).toList = lt
/-- whatever rule has these words is this one -/
def OnlyRule (ws : Nat → ByteArray) (fr tt mo k d n at' by' sv : Int) : Prop :=
  ∀ (nm lt : List UInt8) (fr' tt' mo' k' d' n' at2 by2 sv' : Int), ruleC nm lt fr' tt' mo' k' d' n' at2 by2 sv' = 0 → WordsF ws nm lt fr' tt' mo' k' d' n' at2 by2 sv' →
    fr = fr' ∧ tt = tt' ∧ mo = mo' ∧ k = k' ∧ d = d' ∧ n = n' ∧ at' = at2 ∧ by' = by2 ∧ sv = sv'
/-- what guess returns -/
def GuessR (ws : Nat → ByteArray) (w : World) (e : Ending) (w' : World) : Prop :=
  ∃ fr tt mo k d n at' by' sv : Int, e = .returned (ruleV (ws 1) fr tt mo k d n at' by' sv (ws 8)) ∧ OnlyRule ws fr tt mo k d n at' by' sv ∧ Gr w w'
theorem guess_word {ws : Nat → ByteArray} {fr tt mo k d n at' sv : Int} (hd : ∀ k' d' n', DayOk k' d' n' → dayL k' d' n' = (ws 5).toList → k = k' ∧ d = d' ∧ n = n')
    (ha : ∀ v, IsSpan (cutC (ws 6).toList).1 v → at' = v) (hs : ∀ v, IsSpan (ws 7).toList v → sv = v)
    (h2 : ∀ v : Int, 0 ≤ v → v < 1000000000 → (ws 2).toList = dz v → fr = v) (h3 : ∀ v : Int, 0 ≤ v → v < 1000000000 → (ws 3).toList = dz v → tt = v) (h4 : ∀ v : Int, 0 ≤ v → v < 1000000000 → (ws 4).toList = dz v → mo = v) :
    OnlyRule ws fr tt mo k d n at' (cutC (ws 6).toList).2 sv := by
  intro nm lt fr' tt' mo' k' d' n' at2 by2 sv' hc hw
  obtain ⟨a, b, c, r⟩ := ruleC_zero.1 hc
  obtain ⟨⟨f1, f2⟩, ⟨t1, t2⟩, ft, o1, o2⟩ := b
  obtain ⟨_, ⟨a1, a2⟩, ⟨b1, b2⟩, s1, s2⟩ := r
  obtain ⟨w1, w2, w3, w4, w5, w6, w7, w8⟩ := hw
  have cw := cutC_word a1 a2 b1 b2
  rw [← w6] at cw
  obtain ⟨e1, e2, e3⟩ := hd k' d' n' c w5.symm
  refine ⟨h2 _ (by omega) (by omega) w2, h3 _ (by omega) (by omega) w3, h4 _ (by omega) (by omega) w4, e1, e2, e3, ha _ ⟨⟨a1, a2⟩, by rw [cw]⟩, by rw [cw], hs _ ⟨⟨by omega, by omega⟩, w7.symm⟩⟩
theorem day_only {l : List UInt8} {k d n : Int} (h : (DayOk k d n ∧ dayL k d n = l) ∨ ¬ ∃ k d n, DayOk k d n ∧ dayL k d n = l) : ∀ k' d' n', DayOk k' d' n' → dayL k' d' n' = l → k = k' ∧ d = d' ∧ n = n' := by
  intro k' d' n' ok e
  rcases h with ⟨a, b⟩ | h
  · exact dayL_inj a ok (b.trans e.symm)
  · exact absurd ⟨k', d', n', ok, e⟩ h
theorem span_only {l : List UInt8} {v : Int} (h : IsSpan l v ∨ ¬ ∃ n, IsSpan l n) : ∀ v', IsSpan l v' → v = v' := by
  intro v' hv
  rcases h with a | h
  · exact spanL_inj a.1 hv.1 (a.2.trans hv.2.symm)
  · exact absurd ⟨v', hv⟩ h
theorem keepG {w W W' : World} {g b : Nat} {x1 x2 x3 x4 x8 y0 y1 y2 : Value} (h : W.cell? ⟨g, 1, none⟩ = some x1 ∧ W.cell? ⟨g, 2, none⟩ = some x2 ∧ W.cell? ⟨g, 3, none⟩ = some x3 ∧ W.cell? ⟨g, 4, none⟩ = some x4 ∧ W.cell? ⟨g, 8, none⟩ = some x8 ∧ W.cell? ⟨b, 0, none⟩ = some y0 ∧ W.cell? ⟨b, 1, none⟩ = some y1 ∧ W.cell? ⟨b, 2, none⟩ = some y2 ∧ Gr w W) (hg : Gr W W') :
    W'.cell? ⟨g, 1, none⟩ = some x1 ∧ W'.cell? ⟨g, 2, none⟩ = some x2 ∧ W'.cell? ⟨g, 3, none⟩ = some x3 ∧ W'.cell? ⟨g, 4, none⟩ = some x4 ∧ W'.cell? ⟨g, 8, none⟩ = some x8 ∧ W'.cell? ⟨b, 0, none⟩ = some y0 ∧ W'.cell? ⟨b, 1, none⟩ = some y1 ∧ W'.cell? ⟨b, 2, none⟩ = some y2 ∧ Gr w W' := by
  obtain ⟨h1, h2, h3, h4, h8, k0, k1, k2, hw⟩ := h
  exact ⟨hg.holds h1, hg.holds h2, hg.holds h3, hg.holds h4, hg.holds h8, hg.holds k0, hg.holds k1, hg.holds k2, hw.trans hg⟩
theorem store11_cell (W : World) {p b : Nat} (i : Nat) (h : b ≠ p) (v0 v1 v2 v3 v4 v5 v6 v7 v8 v9 v10 : Value) : (((((((((((W.setCell ⟨p, 0, none⟩ v0).setCell ⟨p, 1, none⟩ v1).setCell ⟨p, 2, none⟩ v2).setCell ⟨p, 3, none⟩ v3).setCell ⟨p, 4, none⟩ v4).setCell ⟨p, 5, none⟩ v5).setCell ⟨p, 6, none⟩ v6).setCell ⟨p, 7, none⟩ v7).setCell ⟨p, 8, none⟩ v8).setCell ⟨p, 9, none⟩ v9).setCell ⟨p, 10, none⟩ v10).cell? ⟨b, i, none⟩ = W.cell? ⟨b, i, none⟩ := by
  have ne : ∀ j : Nat, (⟨p, j, none⟩ : Addr) ≠ ⟨b, i, none⟩ := fun j x => h (congrArg Addr.block x).symm
  rw [World.cell?_setCell_other _ _ _ _ (ne 10), World.cell?_setCell_other _ _ _ _ (ne 9), World.cell?_setCell_other _ _ _ _ (ne 8), World.cell?_setCell_other _ _ _ _ (ne 7), World.cell?_setCell_other _ _ _ _ (ne 6), World.cell?_setCell_other _ _ _ _ (ne 5), World.cell?_setCell_other _ _ _ _ (ne 4), World.cell?_setCell_other _ _ _ _ (ne 3), World.cell?_setCell_other _ _ _ _ (ne 2), World.cell?_setCell_other _ _ _ _ (ne 1), World.cell?_setCell_other _ _ _ _ (ne 0)]
theorem keepGS {w W : World} {g b p : Nat} {x1 x2 x3 x4 x8 y0 y1 y2 : Value} (h : W.cell? ⟨g, 1, none⟩ = some x1 ∧ W.cell? ⟨g, 2, none⟩ = some x2 ∧ W.cell? ⟨g, 3, none⟩ = some x3 ∧ W.cell? ⟨g, 4, none⟩ = some x4 ∧ W.cell? ⟨g, 8, none⟩ = some x8 ∧ W.cell? ⟨b, 0, none⟩ = some y0 ∧ W.cell? ⟨b, 1, none⟩ = some y1 ∧ W.cell? ⟨b, 2, none⟩ = some y2 ∧ Gr w W) (hg : g ≠ p) (hb : b ≠ p) (hp : w.heap.size ≤ p) (v0 v1 v2 v3 v4 v5 v6 v7 v8 v9 v10 : Value) :
    (((((((((((W.setCell ⟨p, 0, none⟩ v0).setCell ⟨p, 1, none⟩ v1).setCell ⟨p, 2, none⟩ v2).setCell ⟨p, 3, none⟩ v3).setCell ⟨p, 4, none⟩ v4).setCell ⟨p, 5, none⟩ v5).setCell ⟨p, 6, none⟩ v6).setCell ⟨p, 7, none⟩ v7).setCell ⟨p, 8, none⟩ v8).setCell ⟨p, 9, none⟩ v9).setCell ⟨p, 10, none⟩ v10).cell? ⟨g, 1, none⟩ = some x1 ∧ (((((((((((W.setCell ⟨p, 0, none⟩ v0).setCell ⟨p, 1, none⟩ v1).setCell ⟨p, 2, none⟩ v2).setCell ⟨p, 3, none⟩ v3).setCell ⟨p, 4, none⟩ v4).setCell ⟨p, 5, none⟩ v5).setCell ⟨p, 6, none⟩ v6).setCell ⟨p, 7, none⟩ v7).setCell ⟨p, 8, none⟩ v8).setCell ⟨p, 9, none⟩ v9).setCell ⟨p, 10, none⟩ v10).cell? ⟨g, 2, none⟩ = some x2 ∧ (((((((((((W.setCell ⟨p, 0, none⟩ v0).setCell ⟨p, 1, none⟩ v1).setCell ⟨p, 2, none⟩ v2).setCell ⟨p, 3, none⟩ v3).setCell ⟨p, 4, none⟩ v4).setCell ⟨p, 5, none⟩ v5).setCell ⟨p, 6, none⟩ v6).setCell ⟨p, 7, none⟩ v7).setCell ⟨p, 8, none⟩ v8).setCell ⟨p, 9, none⟩ v9).setCell ⟨p, 10, none⟩ v10).cell? ⟨g, 3, none⟩ = some x3 ∧ (((((((((((W.setCell ⟨p, 0, none⟩ v0).setCell ⟨p, 1, none⟩ v1).setCell ⟨p, 2, none⟩ v2).setCell ⟨p, 3, none⟩ v3).setCell ⟨p, 4, none⟩ v4).setCell ⟨p, 5, none⟩ v5).setCell ⟨p, 6, none⟩ v6).setCell ⟨p, 7, none⟩ v7).setCell ⟨p, 8, none⟩ v8).setCell ⟨p, 9, none⟩ v9).setCell ⟨p, 10, none⟩ v10).cell? ⟨g, 4, none⟩ = some x4 ∧ (((((((((((W.setCell ⟨p, 0, none⟩ v0).setCell ⟨p, 1, none⟩ v1).setCell ⟨p, 2, none⟩ v2).setCell ⟨p, 3, none⟩ v3).setCell ⟨p, 4, none⟩ v4).setCell ⟨p, 5, none⟩ v5).setCell ⟨p, 6, none⟩ v6).setCell ⟨p, 7, none⟩ v7).setCell ⟨p, 8, none⟩ v8).setCell ⟨p, 9, none⟩ v9).setCell ⟨p, 10, none⟩ v10).cell? ⟨g, 8, none⟩ = some x8 ∧ (((((((((((W.setCell ⟨p, 0, none⟩ v0).setCell ⟨p, 1, none⟩ v1).setCell ⟨p, 2, none⟩ v2).setCell ⟨p, 3, none⟩ v3).setCell ⟨p, 4, none⟩ v4).setCell ⟨p, 5, none⟩ v5).setCell ⟨p, 6, none⟩ v6).setCell ⟨p, 7, none⟩ v7).setCell ⟨p, 8, none⟩ v8).setCell ⟨p, 9, none⟩ v9).setCell ⟨p, 10, none⟩ v10).cell? ⟨b, 0, none⟩ = some y0 ∧ (((((((((((W.setCell ⟨p, 0, none⟩ v0).setCell ⟨p, 1, none⟩ v1).setCell ⟨p, 2, none⟩ v2).setCell ⟨p, 3, none⟩ v3).setCell ⟨p, 4, none⟩ v4).setCell ⟨p, 5, none⟩ v5).setCell ⟨p, 6, none⟩ v6).setCell ⟨p, 7, none⟩ v7).setCell ⟨p, 8, none⟩ v8).setCell ⟨p, 9, none⟩ v9).setCell ⟨p, 10, none⟩ v10).cell? ⟨b, 1, none⟩ = some y1 ∧ (((((((((((W.setCell ⟨p, 0, none⟩ v0).setCell ⟨p, 1, none⟩ v1).setCell ⟨p, 2, none⟩ v2).setCell ⟨p, 3, none⟩ v3).setCell ⟨p, 4, none⟩ v4).setCell ⟨p, 5, none⟩ v5).setCell ⟨p, 6, none⟩ v6).setCell ⟨p, 7, none⟩ v7).setCell ⟨p, 8, none⟩ v8).setCell ⟨p, 9, none⟩ v9).setCell ⟨p, 10, none⟩ v10).cell? ⟨b, 2, none⟩ = some y2 ∧ Gr w (((((((((((W.setCell ⟨p, 0, none⟩ v0).setCell ⟨p, 1, none⟩ v1).setCell ⟨p, 2, none⟩ v2).setCell ⟨p, 3, none⟩ v3).setCell ⟨p, 4, none⟩ v4).setCell ⟨p, 5, none⟩ v5).setCell ⟨p, 6, none⟩ v6).setCell ⟨p, 7, none⟩ v7).setCell ⟨p, 8, none⟩ v8).setCell ⟨p, 9, none⟩ v9).setCell ⟨p, 10, none⟩ v10) := by
  obtain ⟨h1, h2, h3, h4, h8, k0, k1, k2, hw⟩ := h
  refine ⟨?_, ?_, ?_, ?_, ?_, ?_, ?_, ?_, store11_below hw hp _ _ _ _ _ _ _ _ _ _ _⟩
  · rw [store11_cell W _ hg]; exact h1
  · rw [store11_cell W _ hg]; exact h2
  · rw [store11_cell W _ hg]; exact h3
  · rw [store11_cell W _ hg]; exact h4
  · rw [store11_cell W _ hg]; exact h8
  · rw [store11_cell W _ hb]; exact k0
  · rw [store11_cell W _ hb]; exact k1
  · rw [store11_cell W _ hb]; exact k2

set_option maxRecDepth 100000 in
set_option maxHeartbeats 8000000 in
theorem pguess (ws : Nat → ByteArray) (g c : Nat) (w : World) (hc : ∀ j, j < 9 → w.cell? ⟨g, j, none⟩ = some (.string (ws j))) (hs : ∀ j, (ws j).size ≤ 1048576) (hc9 : 9 ≤ c) (hrd : RdTab w) (hcl : HasCl w) :
    Calls Tryz.prog 17 #[.slice (some ⟨g, 0, none⟩) 9 c] w (GuessR ws w) := by
  have KR := Lib.hid (fun w h => dayRead (ws 5) w h (hs 5))
  have KC := Lib.hid (fun w h => cutClock_any (ws 6) w (by have := hs 6; unfold maxLen; omega) h)
  have KA := Lib.hid (fun w => readSpan_ans (S (cutC (ws 6).toList).1) w (by have := hs 6; have := cutC_len (ws 6).toList; rw [S_size]; rw [toList_size] at this; unfold maxLen; omega))
  have KB := Lib.hid (fun w => readSpan_ans (ws 7) w (by have := hs 7; unfold maxLen; omega))
  have CN := Lib.hid (fun j w h => rnum_any (ws j) w (hs j) h)
  have HR := Lib.hid hrd
  have HE := Lib.hid hrd.2
  have HC := Lib.hid hcl
  have HW := Lib.hid hc
  have gw : g < w.heap.size := World.block_lt_of_cell? w ⟨g, 0, none⟩ (hc 0 (by omega))
  have hB := Lib.hid (heap_new w (.cells zrow 25))
  have G0 := Lib.hid (Gr.alloc w (.cells zrow 25))
  have c5 := G0.out.holds (HW.out 5 (by omega))
  clear hc hs hrd hcl
  go_enter Tryz.func17, Tryz.ntmps17
  go_wp2_with fail
  generalize w.alloc (.cells zrow 25) = w0 at hB G0 c5 ⊢
  generalize hb0 : w.heap.size = b0 at hB gw ⊢
  have HB0 := Lib.hid hb0
  clear hb0
  refine (KR.out w0 (G0.out.rdT HR.out)).mono ?_
  rintro e w1 ⟨hans, g1⟩
  obtain ⟨k, d, n, cc, rfl, hdc⟩ := dayA_cases hans
  have KD := Lib.hid (day_only (hdc.elim (fun h => Or.inl h.2) (fun h => Or.inr h.2)))
  have G1 := Lib.hid (G0.out.trans g1)
  have hB1 := Lib.hid (heap_gr g1 hB.out)
  clear hans hdc c5 hB G0 g1 KR
  have hB := hB1
  clear hB1
  have c6 := (G1.out.alloc' (.cells #[.int .i64 k, .int .i64 d, .int .i64 n] 23)).holds (HW.out 6 (by omega))
  have q0 : (w1.alloc (.cells #[.int .i64 k, .int .i64 d, .int .i64 n] 23)).cell? ⟨w1.heap.size, 0, none⟩ = some (.int .i64 k) := by rw [World.cell?_alloc_new]; rfl
  have q1 : (w1.alloc (.cells #[.int .i64 k, .int .i64 d, .int .i64 n] 23)).cell? ⟨w1.heap.size, 1, none⟩ = some (.int .i64 d) := by rw [World.cell?_alloc_new]; rfl
  have q2 : (w1.alloc (.cells #[.int .i64 k, .int .i64 d, .int .i64 n] 23)).cell? ⟨w1.heap.size, 2, none⟩ = some (.int .i64 n) := by rw [World.cell?_alloc_new]; rfl
  have G2 := Lib.hid (G1.out.alloc' (.cells #[.int .i64 k, .int .i64 d, .int .i64 n] 23))
  have Q := Lib.hid (And.intro q0 (And.intro q1 q2))
  have hB1 := Lib.hid (heap_gr (Gr.alloc w1 (.cells #[.int .i64 k, .int .i64 d, .int .i64 n] 23)) hB.out)
  have hne1 : w1.heap.size ≠ b0 := by have := (Array.getElem?_eq_some_iff.1 hB.out).1; omega
  clear q0 q1 q2 hB
  have hB := hB1
  clear hB1 G1
  go_wp2_with fail
  generalize w1.alloc (.cells #[.int .i64 k, .int .i64 d, .int .i64 n] 23) = w2 at c6 G2 Q hB ⊢
  generalize w1.heap.size = b1 at Q hne1 ⊢
  refine (KC.out w2 (G2.out.clT HC.out)).mono ?_
  rintro e w3 ⟨rfl, g3⟩
  have G3 := Lib.hid (G2.out.trans g3)
  have Q3 := Lib.hid (And.intro (g3.holds Q.out.1) (And.intro (g3.holds Q.out.2.1) (g3.holds Q.out.2.2)))
  have hB1 := Lib.hid (heap_gr g3 hB.out)
  clear hB Q G2 g3 c6 KC
  have hB := hB1
  clear hB1
  go_wp2_with fail
  refine (KA.out w3).mono ?_
  rintro e w4 ⟨hans, g4⟩
  rw [S_toList] at hans
  obtain ⟨at', ca, rfl, _, hsa⟩ := spanA_cases hans
  have KT := Lib.hid (span_only (hsa.elim (fun h => Or.inl h.2) (fun h => Or.inr h.2)))
  have G4 := Lib.hid (G3.out.trans g4)
  have Q4 := Lib.hid (And.intro (g4.holds Q3.out.1) (And.intro (g4.holds Q3.out.2.1) (g4.holds Q3.out.2.2)))
  have hB1 := Lib.hid (heap_gr g4 hB.out)
  clear hB Q3 G3 g4 hans hsa KA
  have hB := hB1
  clear hB1
  have c7 := G4.out.holds (HW.out 7 (by omega))
  go_wp2_with fail
  refine (KB.out w4).mono ?_
  rintro e w5 ⟨hans, g5⟩
  obtain ⟨sv, cb, rfl, _, hsa⟩ := spanA_cases hans
  have KV := Lib.hid (span_only (hsa.elim (fun h => Or.inl h.2) (fun h => Or.inr h.2)))
  have G5 := G4.out.trans g5
  have d0 := g5.holds Q4.out.1
  have d1 := g5.holds Q4.out.2.1
  have d2 := g5.holds Q4.out.2.2
  have hB1 := Lib.hid (heap_gr g5 hB.out)
  have c1 := G5.holds (HW.out 1 (by omega))
  have c2 := G5.holds (HW.out 2 (by omega))
  have c3 := G5.holds (HW.out 3 (by omega))
  have c4 := G5.holds (HW.out 4 (by omega))
  have c8 := G5.holds (HW.out 8 (by omega))
  clear hB Q4 G4 g5 hans hsa KB c7
  have hB := hB1
  clear hB1
  have hne0 : g ≠ b0 := by omega
  have hlw : w.heap.size ≤ b0 := by have := HB0.out; omega
  go_wp2_with fail
  refine wp_region_noPanic ?_
  refine wp_region_held_drew (S := fun wx => wx.cell? ⟨g, 1, none⟩ = some (.string (ws 1)) ∧ wx.cell? ⟨g, 2, none⟩ = some (.string (ws 2)) ∧ wx.cell? ⟨g, 3, none⟩ = some (.string (ws 3)) ∧ wx.cell? ⟨g, 4, none⟩ = some (.string (ws 4)) ∧ wx.cell? ⟨g, 8, none⟩ = some (.string (ws 8)) ∧ wx.cell? ⟨b1, 0, none⟩ = some (.int .i64 k) ∧ wx.cell? ⟨b1, 1, none⟩ = some (.int .i64 d) ∧ wx.cell? ⟨b1, 2, none⟩ = some (.int .i64 n) ∧ Gr w wx) (by kernel_rfl) ⟨c1, c2, c3, c4, c8, d0, d1, d2, G5.drew'⟩ (fun hHeld => ?_)
  clear c1 c2 c3 c4 c8 d0 d1 d2 G5
  have hB2 := Lib.hid (heap_gr (Gr.drew w5) hB.out)
  clear hB
  have hB := hB2
  clear hB2
  generalize w5.drew = v0 at hHeld hB ⊢
  refine wpAnyH_take (i := 0) (oi := { dst := some 37, op := _, type := _, pos := _, after := _, guard := _ }) (v := ?v1) rfl (by kernel_rfl) (by kernel_rfl) (by kernel_rfl) (fun _ _ _ h => h) (Or.inl ⟨by rfl, ?hy1⟩) (by assumption) ?rest1
  case hy1 => (intro w hSw; (try dsimp only at hSw); go_simp <;> (with_reducible rfl))
  (try simp only [Act.put, List.setIfInBounds_toArray, List.set_cons_zero, List.set_cons_succ])
  refine wpAnyH_take (i := 3) (oi := { dst := some 40, op := _, type := _, pos := _, after := _, guard := _ }) (v := ?v2) rfl (by kernel_rfl) (by kernel_rfl) (by kernel_rfl) (fun _ _ _ h => h) (Or.inl ⟨by rfl, ?hy2⟩) (by assumption) ?rest2
  case hy2 => (intro w hSw; (try dsimp only at hSw); go_simp <;> (with_reducible rfl))
  (try simp only [Act.put, List.setIfInBounds_toArray, List.set_cons_zero, List.set_cons_succ])
  refine wpAnyH_take (i := 7) (oi := { dst := some 44, op := _, type := _, pos := _, after := _, guard := _ }) (v := ?v3) rfl (by kernel_rfl) (by kernel_rfl) (by kernel_rfl) (fun _ _ _ h => h) (Or.inl ⟨by rfl, ?hy3⟩) (by assumption) ?rest3
  case hy3 => (intro w hSw; (try dsimp only at hSw); go_simp <;> (with_reducible rfl))
  (try simp only [Act.put, List.setIfInBounds_toArray, List.set_cons_zero, List.set_cons_succ])
  refine wpAnyH_take (i := 11) (oi := { dst := some 48, op := _, type := _, pos := _, after := _, guard := _ }) (v := ?v4) rfl (by kernel_rfl) (by kernel_rfl) (by kernel_rfl) (fun _ _ _ h => h) (Or.inl ⟨by rfl, ?hy4⟩) (by assumption) ?rest4
  case hy4 => (intro w hSw; (try dsimp only at hSw); go_simp <;> (with_reducible rfl))
  (try simp only [Act.put, List.setIfInBounds_toArray, List.set_cons_zero, List.set_cons_succ])
  refine wpAnyH_take (i := 15) (oi := { dst := some 52, op := _, type := _, pos := _, after := _, guard := _ }) (v := ?v5) rfl (by kernel_rfl) (by kernel_rfl) (by kernel_rfl) (fun _ _ _ h => h) (Or.inl ⟨by rfl, ?hy5⟩) (by assumption) ?rest5
  case hy5 => (intro w hSw; (try dsimp only at hSw); go_simp <;> (with_reducible rfl))
  (try simp only [Act.put, List.setIfInBounds_toArray, List.set_cons_zero, List.set_cons_succ])
  refine wpAnyH_take (i := 16) (oi := { dst := some 53, op := _, type := _, pos := _, after := _, guard := _ }) (v := ?v6) rfl (by kernel_rfl) (by kernel_rfl) (by kernel_rfl) (fun _ _ _ h => h) (Or.inl ⟨by rfl, ?hy6⟩) (by assumption) ?rest6
  case hy6 => (intro w hSw; (try dsimp only at hSw); go_simp <;> (with_reducible rfl))
  (try simp only [Act.put, List.setIfInBounds_toArray, List.set_cons_zero, List.set_cons_succ])
  refine wpAnyH_take (i := 17) (oi := { dst := some 54, op := _, type := _, pos := _, after := _, guard := _ }) (v := ?v7) rfl (by kernel_rfl) (by kernel_rfl) (by kernel_rfl) (fun _ _ _ h => h) (Or.inl ⟨by rfl, ?hy7⟩) (by assumption) ?rest7
  case hy7 => (intro w hSw; (try dsimp only at hSw); go_simp <;> (with_reducible rfl))
  (try simp only [Act.put, List.setIfInBounds_toArray, List.set_cons_zero, List.set_cons_succ])
  refine wpAnyH_take (i := 18) (oi := { dst := some 55, op := _, type := _, pos := _, after := _, guard := _ }) (v := ?v8) rfl (by kernel_rfl) (by kernel_rfl) (by kernel_rfl) (fun _ _ _ h => h) (Or.inl ⟨by rfl, ?hy8⟩) (by assumption) ?rest8
  case hy8 => (intro w hSw; (try dsimp only at hSw); go_simp <;> (with_reducible rfl))
  (try simp only [Act.put, List.setIfInBounds_toArray, List.set_cons_zero, List.set_cons_succ])
  refine wpAnyH_take (i := 19) (oi := { dst := some 56, op := _, type := _, pos := _, after := _, guard := _ }) (v := ?v9) rfl (by kernel_rfl) (by kernel_rfl) (by kernel_rfl) (fun _ _ _ h => h) (Or.inl ⟨by rfl, ?hy9⟩) (by assumption) ?rest9
  case hy9 => (intro w hSw; (try dsimp only at hSw); go_simp <;> (with_reducible rfl))
  (try simp only [Act.put, List.setIfInBounds_toArray, List.set_cons_zero, List.set_cons_succ])
  refine wpAnyH_take (i := 1) (oi := { dst := some 38, op := _, type := _, pos := _, after := _, guard := _ }) (v := ?v10) rfl (by kernel_rfl) (by kernel_rfl) (by kernel_rfl) (fun _ _ _ h => h) (Or.inl ⟨by rfl, ?hy10⟩) (by assumption) ?rest10
  case hy10 => (intro w hSw; (try dsimp only at hSw); go_simp <;> (with_reducible rfl))
  (try simp only [Act.put, List.setIfInBounds_toArray, List.set_cons_zero, List.set_cons_succ])
  refine wpAnyH_take (i := 4) (oi := { dst := some 41, op := _, type := _, pos := _, after := _, guard := _ }) (v := ?v11) rfl (by kernel_rfl) (by kernel_rfl) (by kernel_rfl) (fun _ _ _ h => h) (Or.inl ⟨by rfl, ?hy11⟩) (by assumption) ?rest11
  case hy11 => (intro w hSw; (try dsimp only at hSw); go_simp <;> (with_reducible rfl))
  (try simp only [Act.put, List.setIfInBounds_toArray, List.set_cons_zero, List.set_cons_succ])
  refine wpAnyH_take (i := 8) (oi := { dst := some 45, op := _, type := _, pos := _, after := _, guard := _ }) (v := ?v12) rfl (by kernel_rfl) (by kernel_rfl) (by kernel_rfl) (fun _ _ _ h => h) (Or.inl ⟨by rfl, ?hy12⟩) (by assumption) ?rest12
  case hy12 => (intro w hSw; (try dsimp only at hSw); go_simp <;> (with_reducible rfl))
  (try simp only [Act.put, List.setIfInBounds_toArray, List.set_cons_zero, List.set_cons_succ])
  refine wpAnyH_take (i := 12) (oi := { dst := some 49, op := _, type := _, pos := _, after := _, guard := _ }) (v := ?v13) rfl (by kernel_rfl) (by kernel_rfl) (by kernel_rfl) (fun _ _ _ h => h) (Or.inl ⟨by rfl, ?hy13⟩) (by assumption) ?rest13
  case hy13 => (intro w hSw; (try dsimp only at hSw); go_simp <;> (with_reducible rfl))
  (try simp only [Act.put, List.setIfInBounds_toArray, List.set_cons_zero, List.set_cons_succ])
  refine wpAnyH_take (i := 20) (oi := { dst := some 57, op := _, type := _, pos := _, after := _, guard := _ }) (v := ?v14) rfl (by kernel_rfl) (by kernel_rfl) (by kernel_rfl) (fun _ _ _ h => h) (Or.inl ⟨by rfl, ?hy14⟩) (by assumption) ?rest14
  case hy14 => (intro w hSw; (try dsimp only at hSw); go_simp <;> (with_reducible rfl))
  (try simp only [Act.put, List.setIfInBounds_toArray, List.set_cons_zero, List.set_cons_succ])
  refine wpAnyH_take (i := 2) (oi := { dst := some 39, op := _, type := _, pos := _, after := _, guard := _ }) (v := ?v15) rfl (by kernel_rfl) (by kernel_rfl) (by kernel_rfl) (fun _ _ _ h => h) (Or.inl ⟨by rfl, ?hy15⟩) (by assumption) ?rest15
  case hy15 => (intro w hSw; (try dsimp only at hSw); go_simp <;> (with_reducible rfl))
  (try simp only [Act.put, List.setIfInBounds_toArray, List.set_cons_zero, List.set_cons_succ])
  refine wpAnyH_take (i := 5) (oi := { dst := some 42, op := _, type := _, pos := _, after := _, guard := _ }) (v := ?v16) rfl (by kernel_rfl) (by kernel_rfl) (by kernel_rfl) (fun _ _ _ h => h) (Or.inl ⟨by rfl, ?hy16⟩) (by assumption) ?rest16
  case hy16 => (intro w hSw; (try dsimp only at hSw); go_simp <;> (with_reducible rfl))
  (try simp only [Act.put, List.setIfInBounds_toArray, List.set_cons_zero, List.set_cons_succ])
  refine wpAnyH_take (i := 9) (oi := { dst := some 46, op := _, type := _, pos := _, after := _, guard := _ }) (v := ?v17) rfl (by kernel_rfl) (by kernel_rfl) (by kernel_rfl) (fun _ _ _ h => h) (Or.inl ⟨by rfl, ?hy17⟩) (by assumption) ?rest17
  case hy17 => (intro w hSw; (try dsimp only at hSw); go_simp <;> (with_reducible rfl))
  (try simp only [Act.put, List.setIfInBounds_toArray, List.set_cons_zero, List.set_cons_succ])
  refine wpAnyH_take (i := 13) (oi := { dst := some 50, op := _, type := _, pos := _, after := _, guard := _ }) (v := ?v18) rfl (by kernel_rfl) (by kernel_rfl) (by kernel_rfl) (fun _ _ _ h => h) (Or.inl ⟨by rfl, ?hy18⟩) (by assumption) ?rest18
  case hy18 => (intro w hSw; (try dsimp only at hSw); go_simp <;> (with_reducible rfl))
  (try simp only [Act.put, List.setIfInBounds_toArray, List.set_cons_zero, List.set_cons_succ])
  refine wpAnyH_take (i := 21) (oi := { dst := some 58, op := _, type := _, pos := _, after := _, guard := _ }) (v := ?v19) rfl (by kernel_rfl) (by kernel_rfl) (by kernel_rfl) (fun _ _ _ h => h) (Or.inl ⟨by rfl, ?hy19⟩) (by assumption) ?rest19
  case hy19 => (intro w hSw; (try dsimp only at hSw); go_simp <;> (with_reducible rfl))
  (try simp only [Act.put, List.setIfInBounds_toArray, List.set_cons_zero, List.set_cons_succ])
  refine wpAnyH_ready (rs := [6]) (by kernel_rfl) (by simp) ?_
  refine AllReadyH.cons (rs := []) rfl (fun K hK => ?_) AllReadyH.nil
  go_simp
  (with_reducible refine (CN.out 2 _ (Gr.errT hHeld.2.2.2.2.2.2.2.2 HE.out)).mono ?_)
  rintro e v20' ⟨fr, rfl, hfr, hgx⟩
  have N2 := Lib.hid hfr
  clear hfr
  (go_wp2_with fail)
  refine hK.out _ _ (keepG hHeld hgx) (fun hHeld2 => ?_)
  clear hK K hHeld
  have hHeld := hHeld2
  clear hHeld2
  (try simp only [Act.put, List.setIfInBounds_toArray, List.set_cons_zero, List.set_cons_succ])
  have hB2 := Lib.hid (heap_gr hgx hB.out)
  clear hB
  have hB := hB2
  clear hB2 hgx
  refine wpAnyH_ready (rs := [10]) (by kernel_rfl) (by simp) ?_
  refine AllReadyH.cons (rs := []) rfl (fun K hK => ?_) AllReadyH.nil
  go_simp
  (with_reducible refine (CN.out 3 _ (Gr.errT hHeld.2.2.2.2.2.2.2.2 HE.out)).mono ?_)
  rintro e v21' ⟨tt, rfl, htt, hgx⟩
  have N3 := Lib.hid htt
  clear htt
  (go_wp2_with fail)
  refine hK.out _ _ (keepG hHeld hgx) (fun hHeld2 => ?_)
  clear hK K hHeld
  have hHeld := hHeld2
  clear hHeld2
  (try simp only [Act.put, List.setIfInBounds_toArray, List.set_cons_zero, List.set_cons_succ])
  have hB2 := Lib.hid (heap_gr hgx hB.out)
  clear hB
  have hB := hB2
  clear hB2 hgx
  refine wpAnyH_ready (rs := [14]) (by kernel_rfl) (by simp) ?_
  refine AllReadyH.cons (rs := []) rfl (fun K hK => ?_) AllReadyH.nil
  go_simp
  (with_reducible refine (CN.out 4 _ (Gr.errT hHeld.2.2.2.2.2.2.2.2 HE.out)).mono ?_)
  rintro e v22' ⟨mo, rfl, hmo, hgx⟩
  have N4 := Lib.hid hmo
  clear hmo
  (go_wp2_with fail)
  refine hK.out _ _ (keepG hHeld hgx) (fun hHeld2 => ?_)
  clear hK K hHeld
  have hHeld := hHeld2
  clear hHeld2
  (try simp only [Act.put, List.setIfInBounds_toArray, List.set_cons_zero, List.set_cons_succ])
  have hB2 := Lib.hid (heap_gr hgx hB.out)
  clear hB
  have hB := hB2
  clear hB2 hgx
  refine wpAnyH_take (i := 22) (oi := { dst := some 59, op := _, type := _, pos := _, after := _, guard := _ }) (v := ?v23) rfl (by kernel_rfl) (by kernel_rfl) (by kernel_rfl) (fun _ _ _ h => h) (Or.inl ⟨by rfl, ?hy23⟩) (by assumption) ?rest23
  case hy23 => (intro w hSw; (try dsimp only at hSw); go_simp <;> (with_reducible rfl))
  (try simp only [Act.put, List.setIfInBounds_toArray, List.set_cons_zero, List.set_cons_succ])
  refine wpAnyH_ready (rs := [23]) (by kernel_rfl) (by simp) ?_
  refine AllReadyH.cons (rs := []) rfl (fun K hK => ?_) AllReadyH.nil
  have z0 : v22'.cell? ⟨b0, 0, none⟩ = some (.string ⟨#[]⟩) := by simp [World.cell?, hB.out]
  have z1 : v22'.cell? ⟨b0, 1, none⟩ = some (.int .i64 0) := by simp [World.cell?, hB.out]
  have z2 : v22'.cell? ⟨b0, 2, none⟩ = some (.int .i64 0) := by simp [World.cell?, hB.out]
  have z3 : v22'.cell? ⟨b0, 3, none⟩ = some (.int .i64 0) := by simp [World.cell?, hB.out]
  have z4 : v22'.cell? ⟨b0, 4, none⟩ = some (.int .i64 0) := by simp [World.cell?, hB.out]
  have z5 : v22'.cell? ⟨b0, 5, none⟩ = some (.int .i64 0) := by simp [World.cell?, hB.out]
  have z6 : v22'.cell? ⟨b0, 6, none⟩ = some (.int .i64 0) := by simp [World.cell?, hB.out]
  have z7 : v22'.cell? ⟨b0, 7, none⟩ = some (.int .i64 0) := by simp [World.cell?, hB.out]
  have z8 : v22'.cell? ⟨b0, 8, none⟩ = some (.int .i64 0) := by simp [World.cell?, hB.out]
  have z9 : v22'.cell? ⟨b0, 9, none⟩ = some (.int .i64 0) := by simp [World.cell?, hB.out]
  have z10 : v22'.cell? ⟨b0, 10, none⟩ = some (.string ⟨#[]⟩) := by simp [World.cell?, hB.out]
  have fz : ∀ i, v22'.frozen? ⟨b0, i, none⟩ = false := fun i => by simp [World.frozen?, hB.out]
  have E := Lib.hid (store11 hB.out (.string (ws 1)) (.int .i64 fr) (.int .i64 tt) (.int .i64 mo) (.int .i64 k) (.int .i64 d) (.int .i64 n) (.int .i64 at') (.int .i64 (cutC (ws 6).toList).2) (.int .i64 sv) (.string (ws 8)))
  have hx := keepGS hHeld hne0 hne1 hlw (.string (ws 1)) (.int .i64 fr) (.int .i64 tt) (.int .i64 mo) (.int .i64 k) (.int .i64 d) (.int .i64 n) (.int .i64 at') (.int .i64 (cutC (ws 6).toList).2) (.int .i64 sv) (.string (ws 8))
  go_simp
  clear z0 z1 z2 z3 z4 z5 z6 z7 z8 z9 z10 fz
  refine hK.out _ _ (hx) (fun hHeld2 => ?_)
  clear hK K hHeld
  have hHeld := hHeld2
  clear hHeld2
  (try simp only [Act.put, List.setIfInBounds_toArray, List.set_cons_zero, List.set_cons_succ])
  clear hx hB
  generalize (((((((((((v22'.setCell ⟨b0, 0, none⟩ (.string (ws 1))).setCell ⟨b0, 1, none⟩ (.int .i64 fr)).setCell ⟨b0, 2, none⟩ (.int .i64 tt)).setCell ⟨b0, 3, none⟩ (.int .i64 mo)).setCell ⟨b0, 4, none⟩ (.int .i64 k)).setCell ⟨b0, 5, none⟩ (.int .i64 d)).setCell ⟨b0, 6, none⟩ (.int .i64 n)).setCell ⟨b0, 7, none⟩ (.int .i64 at')).setCell ⟨b0, 8, none⟩ (.int .i64 (cutC (ws 6).toList).2)).setCell ⟨b0, 9, none⟩ (.int .i64 sv)).setCell ⟨b0, 10, none⟩ (.string (ws 8))) = F at E hHeld ⊢
  refine wpAnyH_done (by kernel_rfl) ?_ _
  refine NoPanic.normal ?_
  have gF := Lib.hid (hHeld.2.2.2.2.2.2.2.2)
  clear hHeld
  have y0 : F.cell? ⟨b0, 0, none⟩ = some (.string (ws 1)) := by simp [World.cell?, E.out]
  have y1 : F.cell? ⟨b0, 1, none⟩ = some (.int .i64 fr) := by simp [World.cell?, E.out]
  have y2 : F.cell? ⟨b0, 2, none⟩ = some (.int .i64 tt) := by simp [World.cell?, E.out]
  have y3 : F.cell? ⟨b0, 3, none⟩ = some (.int .i64 mo) := by simp [World.cell?, E.out]
  have y4 : F.cell? ⟨b0, 4, none⟩ = some (.int .i64 k) := by simp [World.cell?, E.out]
  have y5 : F.cell? ⟨b0, 5, none⟩ = some (.int .i64 d) := by simp [World.cell?, E.out]
  have y6 : F.cell? ⟨b0, 6, none⟩ = some (.int .i64 n) := by simp [World.cell?, E.out]
  have y7 : F.cell? ⟨b0, 7, none⟩ = some (.int .i64 at') := by simp [World.cell?, E.out]
  have y8 : F.cell? ⟨b0, 8, none⟩ = some (.int .i64 (cutC (ws 6).toList).2) := by simp [World.cell?, E.out]
  have y9 : F.cell? ⟨b0, 9, none⟩ = some (.int .i64 sv) := by simp [World.cell?, E.out]
  have y10 : F.cell? ⟨b0, 10, none⟩ = some (.string (ws 8)) := by simp [World.cell?, E.out]
  go_wp2_with fail
  exact bodyPost_ret (v := ruleV (ws 1) fr tt mo k d n at' (cutC (ws 6).toList).2 sv (ws 8)) (by simp [results, Tryz.results17, go_sem, y0, y1, y2, y3, y4, y5, y6, y7, y8, y9, y10]) rfl ⟨fr, tt, mo, k, d, n, at', (cutC (ws 6).toList).2, sv, rfl, guess_word KD.out KT.out KV.out N2.out N3.out N4.out, gF.out⟩
end Go.Proofs.YteljpjhjoclkfaaGreatDoor

namespace Go.Proofs.YteljpjhjoclkfaaGreatDoor
set_option linter.unusedVariables false
set_option linter.unusedSimpArgs false
open Go.RowKit

theorem splitB_more (sep : ByteArray) (h1 : 1 ≤ sep.size) (save : Nat) : ∀ (k : Nat) (t : ByteArray), Lib.countB t sep ≤ k → Lib.splitB sep save k t = Lib.splitB sep save (Lib.countB t sep) t
  | 0, t, h => by rw [show Lib.countB t sep = 0 by omega]
  | k + 1, t, h => by
    rcases Lib.indexB_cases t sep with hix | ⟨i, hix, _⟩
    · rw [Lib.splitB_miss sep save _ t hix, Lib.splitB_miss sep save _ t hix]
    · have hc := Lib.countB_hit t sep i h1 hix
      rw [hc, Nat.add_comm 1, Lib.splitB_hit sep save k t i hix, Lib.splitB_hit sep save _ t i hix, splitB_more sep h1 save k _ (by omega)]
theorem splitB_less (sep : ByteArray) (h1 : 1 ≤ sep.size) (save : Nat) : ∀ (k : Nat) (t : ByteArray), k ≤ Lib.countB t sep → (Lib.splitB sep save k t).length = k + 1
  | 0, t, h => rfl
  | k + 1, t, h => by
    rcases Lib.indexB_cases t sep with hix | ⟨i, hix, _⟩
    · rw [Lib.countB_miss t sep hix] at h; omega
    · have hc := Lib.countB_hit t sep i h1 hix
      rw [Lib.splitB_hit sep save k t i hix, List.length_cons, splitB_less sep h1 save k _ (by omega)]
/-- what SplitN leaves -/
def SplitT (t : ByteArray) (w : World) (e : Ending) (w' : World) : Prop := ∃ g L c : Nat, e = .returned (.slice (some ⟨g, 0, none⟩) L c) ∧ w.heap.size ≤ g ∧ L ≤ c ∧ L ≤ 10 ∧ Gr w w' ∧ (L = 9 ↔ (bl t).length = 9) ∧ (L = 9 → ∀ j, j < 9 → w'.cell? ⟨g, j, none⟩ = some (.string (wd t j)))
theorem splitT (t : ByteArray) (m : Int) (w : World) (hs : t.size ≤ 1048576) (hm : w.cell? ⟨3, 0, none⟩ = some (.int .i64 m)) :
    Calls Tryz.prog 16 #[.string t, .string ⟨#[32]⟩, .int .i64 10] w (SplitT t w) := by
  refine (Tryz.strings_SplitN t ⟨#[32]⟩ 10 m w (by omega) hm (by decide) (by omega) (by omega)).mono ?_
  rintro e w' ⟨rfl, rfl⟩
  have hb := bl_len t
  have hle := Lib.countB_le ⟨#[32]⟩ (by decide) t.size t (Nat.le_refl _)
  have h1 : 1 ≤ (ByteArray.mk #[32]).size := by decide
  have hk := Lib.splitB_length_le ⟨#[32]⟩ 0 (min 10 (t.size + 1) - 1) t
  refine ⟨w.heap.size, _, _, rfl, Nat.le_refl _, by omega, by omega, Gr.alloc _ _, ?_, ?_⟩
  · by_cases c : Lib.countB t ⟨#[32]⟩ ≤ min 10 (t.size + 1) - 1
    · rw [splitB_more _ h1 0 _ t c]; exact Iff.rfl
    · rw [splitB_less _ h1 0 _ t (by omega), hb]; omega
  · intro h9 j hj
    have c : Lib.countB t ⟨#[32]⟩ ≤ min 10 (t.size + 1) - 1 := by
      by_cases c : Lib.countB t ⟨#[32]⟩ ≤ min 10 (t.size + 1) - 1
      · exact c
      · rw [splitB_less _ h1 0 _ t (by omega)] at h9; omega
    have e := splitB_more _ h1 0 _ t c
    rw [e] at h9 ⊢
    have hl : (bl t).length = 9 := h9
    rw [World.cell?_alloc_new]
    show (Lib.cellsOf (bl t) (min 10 (t.size + 1)))[j]? = _
    unfold Lib.cellsOf wd
    rw [List.getElem?_toArray, List.getElem?_append_left (by simp; omega)]
    simp [List.getD, List.getElem?_eq_getElem (show j < (bl t).length by omega)]
theorem clone_any (s : ByteArray) (w : World) (hs : s.size ≤ 1048576) :
    Calls Tryz.prog 18 #[.string s] w fun e w' => e = .returned (.string s) ∧ Gr w w' := by
  have K := Tryz.stringslite_Clone s w (by omega)
  clear hs
  go_enter Tryz.func18, Tryz.ntmps18
  go_wp2_with fail
  refine K.mono ?_
  rintro e w1 ⟨rfl, hg⟩
  go_wp2_with fail
  go_ret
  exact ⟨rfl, hg⟩
/-- if a rule has this text, the guess has it too -/
theorem only_good {s : ByteArray} {fr tt mo k d n at' by' sv : Int} (ho : OnlyRule (wd s) fr tt mo k d n at' by' sv) (h : Good s.toList) :
    ruleC (wd s 1).toList (wd s 8).toList fr tt mo k d n at' by' sv = 0 ∧ ruleL (wd s 1).toList (wd s 8).toList fr tt mo k d n at' by' sv = s.toList := by
  obtain ⟨nm, lt, fr', tt', mo', k', d', n', at2, by2, sv', hc, hl⟩ := h
  obtain ⟨_, _, hw⟩ := good_words hc hl
  obtain ⟨rfl, rfl, rfl, rfl, rfl, rfl, rfl, rfl, rfl⟩ := ho nm lt fr' tt' mo' k' d' n' at2 by2 sv' hc hw
  obtain ⟨w1, _, _, _, _, _, _, w8⟩ := hw
  rw [w1, w8]
  exact ⟨hc, hl⟩
theorem keepC {w W W' : World} {b : Nat} {x z : Value} (h : W.cell? ⟨b, 0, none⟩ = some x ∧ W.cell? ⟨b, 10, none⟩ = some z ∧ Gr w W) (hg : Gr W W') : W'.cell? ⟨b, 0, none⟩ = some x ∧ W'.cell? ⟨b, 10, none⟩ = some z ∧ Gr w W' :=
  ⟨hg.holds h.1, hg.holds h.2.1, h.2.2.trans hg⟩
theorem keepCS {w W : World} {b : Nat} {T : TypeId} {x0 x1 x2 x3 x4 x5 x6 x7 x8 x9 x10 : Value} (h : W.heap[b]? = some (.cells #[x0, x1, x2, x3, x4, x5, x6, x7, x8, x9, x10] T (0, 0))) (hg : Gr w W) : W.cell? ⟨b, 0, none⟩ = some x0 ∧ W.cell? ⟨b, 10, none⟩ = some x10 ∧ Gr w W :=
  ⟨by simp [World.cell?, h], by simp [World.cell?, h], hg⟩
/-- what Parse of package rule reads -/
def RpTab (w : World) : Prop := RdTab w ∧ RtTab w
theorem Gr.rpT {w w' : World} (h : Gr w w') (k : RpTab w) : RpTab w' := ⟨h.rdT k.1, h.rtT k.2⟩

set_option maxRecDepth 100000 in
set_option maxHeartbeats 8000000 in
theorem pparse (s : ByteArray) (w : World) (hs : s.size ≤ 1048576) (ht : RpTab w) :
    Calls Tryz.prog 7 #[.string s] w fun e w' => RuleReadA s.toList e ∧ Gr w w' := by
  obtain ⟨mx, hmx⟩ := ht.1.2.2.2
  have KS := Lib.hid (fun w h => splitT s mx w hs h)
  have HM := Lib.hid hmx
  have KG := Lib.hid (fun g c w hc hc9 h1 h2 => pguess (wd s) g c w hc (fun j => Nat.le_trans (wd_size j) hs) hc9 h1 h2)
  have KT := Lib.hid (fun fr tt mo k d n at' by' sv w h => pruleText (wd s 1) fr tt mo k d n at' by' sv (wd s 8) w h (by have := wd_size (t := s) 1; unfold maxLen; omega) (by have := wd_size (t := s) 8; unfold maxLen; omega))
  have C1 := Lib.hid (fun w => clone_any (wd s 1) w (Nat.le_trans (wd_size 1) hs))
  have C8 := Lib.hid (fun w => clone_any (wd s 8) w (Nat.le_trans (wd_size 8) hs))
  have HT := Lib.hid ht
  have hZ := Lib.hid (heap_new w (.cells zrow 25))
  have G0 := Lib.hid (Gr.alloc w (.cells zrow 25))
  clear hs ht hmx
  go_enter Tryz.func7, Tryz.ntmps7
  go_wp2_with fail
  generalize w.alloc (.cells zrow 25) = w0 at hZ G0 ⊢
  generalize hb0 : w.heap.size = b0 at hZ ⊢
  have HB0 := Lib.hid hb0
  clear hb0
  refine (KS.out w0 (G0.out.holds HM.out)).mono ?_
  rintro e w1 ⟨g, L, c, rfl, hg, hLc, hL10, g1, hiff, hcell⟩
  have HI := Lib.hid hiff
  have HCL := Lib.hid hcell
  have G1 := Lib.hid (G0.out.trans g1)
  have hZ2 := Lib.hid (heap_gr g1 hZ.out)
  have gb : b0 < g := Nat.lt_of_lt_of_le (Array.getElem?_eq_some_iff.1 hZ.out).1 hg
  clear hZ G0 g1 hiff hcell KS hg
  have hZ := hZ2
  clear hZ2
  by_cases l9 : L = 9
  case neg =>
    have t0 : (((L : Nat) : Int) != 9) = true := by simp; omega
    have NG : Hid (RuleReadA s.toList noRule) := Or.inr ⟨fun ⟨nm, lt, fr, tt, mo, k, d, n, at', by', sv, hc, hl⟩ => l9 (HI.out.2 (good_words hc hl).1), rfl⟩
    clear l9
    have z0 : w1.cell? ⟨b0, 0, none⟩ = some (.string ⟨#[]⟩) := by simp [World.cell?, hZ.out]
    have z1 : w1.cell? ⟨b0, 1, none⟩ = some (.int .i64 0) := by simp [World.cell?, hZ.out]
    have z2 : w1.cell? ⟨b0, 2, none⟩ = some (.int .i64 0) := by simp [World.cell?, hZ.out]
    have z3 : w1.cell? ⟨b0, 3, none⟩ = some (.int .i64 0) := by simp [World.cell?, hZ.out]
    have z4 : w1.cell? ⟨b0, 4, none⟩ = some (.int .i64 0) := by simp [World.cell?, hZ.out]
    have z5 : w1.cell? ⟨b0, 5, none⟩ = some (.int .i64 0) := by simp [World.cell?, hZ.out]
    have z6 : w1.cell? ⟨b0, 6, none⟩ = some (.int .i64 0) := by simp [World.cell?, hZ.out]
    have z7 : w1.cell? ⟨b0, 7, none⟩ = some (.int .i64 0) := by simp [World.cell?, hZ.out]
    have z8 : w1.cell? ⟨b0, 8, none⟩ = some (.int .i64 0) := by simp [World.cell?, hZ.out]
    have z9 : w1.cell? ⟨b0, 9, none⟩ = some (.int .i64 0) := by simp [World.cell?, hZ.out]
    have z10 : w1.cell? ⟨b0, 10, none⟩ = some (.string ⟨#[]⟩) := by simp [World.cell?, hZ.out]
    have fz : ∀ i, w1.frozen? ⟨b0, i, none⟩ = false := fun i => by simp [World.frozen?, hZ.out]
    have E := Lib.hid (store11 hZ.out (.string ⟨#[]⟩) (.int .i64 0) (.int .i64 0) (.int .i64 0) (.int .i64 0) (.int .i64 0) (.int .i64 0) (.int .i64 0) (.int .i64 0) (.int .i64 0) (.string ⟨#[]⟩))
    have SB := Lib.hid (store11_below (B := b0) (a := w) (p := b0) (by rw [← HB0.out]; exact G1.out) (Nat.le_refl _) (.string ⟨#[]⟩) (.int .i64 0) (.int .i64 0) (.int .i64 0) (.int .i64 0) (.int .i64 0) (.int .i64 0) (.int .i64 0) (.int .i64 0) (.int .i64 0) (.string ⟨#[]⟩))
    go_wp2_with fail
    generalize (((((((((((w1.setCell ⟨b0, 0, none⟩ (.string ⟨#[]⟩)).setCell ⟨b0, 1, none⟩ (.int .i64 0)).setCell ⟨b0, 2, none⟩ (.int .i64 0)).setCell ⟨b0, 3, none⟩ (.int .i64 0)).setCell ⟨b0, 4, none⟩ (.int .i64 0)).setCell ⟨b0, 5, none⟩ (.int .i64 0)).setCell ⟨b0, 6, none⟩ (.int .i64 0)).setCell ⟨b0, 7, none⟩ (.int .i64 0)).setCell ⟨b0, 8, none⟩ (.int .i64 0)).setCell ⟨b0, 9, none⟩ (.int .i64 0)).setCell ⟨b0, 10, none⟩ (.string ⟨#[]⟩)) = FF at E SB ⊢
    have y0 : FF.cell? ⟨b0, 0, none⟩ = some (.string ⟨#[]⟩) := by simp [World.cell?, E.out]
    have y1 : FF.cell? ⟨b0, 1, none⟩ = some (.int .i64 0) := by simp [World.cell?, E.out]
    have y2 : FF.cell? ⟨b0, 2, none⟩ = some (.int .i64 0) := by simp [World.cell?, E.out]
    have y3 : FF.cell? ⟨b0, 3, none⟩ = some (.int .i64 0) := by simp [World.cell?, E.out]
    have y4 : FF.cell? ⟨b0, 4, none⟩ = some (.int .i64 0) := by simp [World.cell?, E.out]
    have y5 : FF.cell? ⟨b0, 5, none⟩ = some (.int .i64 0) := by simp [World.cell?, E.out]
    have y6 : FF.cell? ⟨b0, 6, none⟩ = some (.int .i64 0) := by simp [World.cell?, E.out]
    have y7 : FF.cell? ⟨b0, 7, none⟩ = some (.int .i64 0) := by simp [World.cell?, E.out]
    have y8 : FF.cell? ⟨b0, 8, none⟩ = some (.int .i64 0) := by simp [World.cell?, E.out]
    have y9 : FF.cell? ⟨b0, 9, none⟩ = some (.int .i64 0) := by simp [World.cell?, E.out]
    have y10 : FF.cell? ⟨b0, 10, none⟩ = some (.string ⟨#[]⟩) := by simp [World.cell?, E.out]
    exact bodyPost_ret (v := .tuple #[ruleV ⟨#[]⟩ 0 0 0 0 0 0 0 0 0 ⟨#[]⟩, .int .i64 3]) (by simp [results, Tryz.results7, go_sem, y0, y1, y2, y3, y4, y5, y6, y7, y8, y9, y10]) rfl ⟨NG.out, by unfold Gr; rw [HB0.out]; exact SB.out⟩
  subst l9
  have HW := Lib.hid (HCL.out rfl)
  clear HCL HI
  go_wp2_with fail
  refine (KG.out g c w1 HW.out hLc (G1.out.rdT HT.out.1) (G1.out.clT HT.out.2.2.2)).mono ?_
  rintro e w2 ⟨fr, tt, mo, k, d, n, at', by', sv, rfl, ho, g2⟩
  have HO := Lib.hid ho
  have G2 := Lib.hid (G1.out.trans g2)
  have hZ2 := Lib.hid (heap_gr g2 hZ.out)
  clear hZ G1 g2 ho KG HW
  have hZ := hZ2
  clear hZ2
  have hB := Lib.hid (heap_new w2 (.cells #[.string (wd s 1), .int .i64 fr, .int .i64 tt, .int .i64 mo, .int .i64 k, .int .i64 d, .int .i64 n, .int .i64 at', .int .i64 by', .int .i64 sv, .string (wd s 8)] 25))
  have G3 := Lib.hid (G2.out.alloc' (.cells #[.string (wd s 1), .int .i64 fr, .int .i64 tt, .int .i64 mo, .int .i64 k, .int .i64 d, .int .i64 n, .int .i64 at', .int .i64 by', .int .i64 sv, .string (wd s 8)] 25))
  have hZ2 := Lib.hid (heap_gr (Gr.alloc w2 (.cells #[.string (wd s 1), .int .i64 fr, .int .i64 tt, .int .i64 mo, .int .i64 k, .int .i64 d, .int .i64 n, .int .i64 at', .int .i64 by', .int .i64 sv, .string (wd s 8)] 25)) hZ.out)
  have hne : b0 < w2.heap.size := (Array.getElem?_eq_some_iff.1 hZ.out).1
  clear hZ G2
  have hZ := hZ2
  clear hZ2
  go_wp2_with fail
  generalize w2.alloc (.cells #[.string (wd s 1), .int .i64 fr, .int .i64 tt, .int .i64 mo, .int .i64 k, .int .i64 d, .int .i64 n, .int .i64 at', .int .i64 by', .int .i64 sv, .string (wd s 8)] 25) = w3 at hB G3 hZ ⊢
  generalize w2.heap.size = b2 at hB hne ⊢
  have KT' := KT.out fr tt mo k d n at' by' sv w3 (G3.out.rtT HT.out.2)
  unfold ruleTextA at KT'
  by_cases ok : ruleC (wd s 1).toList (wd s 8).toList fr tt mo k d n at' by' sv = 0
  case neg =>
    rw [if_neg ok] at KT'
    have tc := bneT ok
    have NG : Hid (RuleReadA s.toList noRule) := Or.inr ⟨fun h => ok (only_good HO.out h).1, rfl⟩
    clear ok HO
    generalize ruleC (wd s 1).toList (wd s 8).toList fr tt mo k d n at' by' sv = cc at KT' tc
    refine KT'.mono ?_
    rintro e w4 ⟨rfl, g4⟩
    have G4 := Lib.hid (G3.out.trans g4)
    have hZ2 := Lib.hid (heap_gr g4 hZ.out)
    clear hZ g4 KT'
    have hZ := hZ2
    clear hZ2
    have z0 : w4.cell? ⟨b0, 0, none⟩ = some (.string ⟨#[]⟩) := by simp [World.cell?, hZ.out]
    have z1 : w4.cell? ⟨b0, 1, none⟩ = some (.int .i64 0) := by simp [World.cell?, hZ.out]
    have z2 : w4.cell? ⟨b0, 2, none⟩ = some (.int .i64 0) := by simp [World.cell?, hZ.out]
    have z3 : w4.cell? ⟨b0, 3, none⟩ = some (.int .i64 0) := by simp [World.cell?, hZ.out]
    have z4 : w4.cell? ⟨b0, 4, none⟩ = some (.int .i64 0) := by simp [World.cell?, hZ.out]
    have z5 : w4.cell? ⟨b0, 5, none⟩ = some (.int .i64 0) := by simp [World.cell?, hZ.out]
    have z6 : w4.cell? ⟨b0, 6, none⟩ = some (.int .i64 0) := by simp [World.cell?, hZ.out]
    have z7 : w4.cell? ⟨b0, 7, none⟩ = some (.int .i64 0) := by simp [World.cell?, hZ.out]
    have z8 : w4.cell? ⟨b0, 8, none⟩ = some (.int .i64 0) := by simp [World.cell?, hZ.out]
    have z9 : w4.cell? ⟨b0, 9, none⟩ = some (.int .i64 0) := by simp [World.cell?, hZ.out]
    have z10 : w4.cell? ⟨b0, 10, none⟩ = some (.string ⟨#[]⟩) := by simp [World.cell?, hZ.out]
    have fz : ∀ i, w4.frozen? ⟨b0, i, none⟩ = false := fun i => by simp [World.frozen?, hZ.out]
    have E := Lib.hid (store11 hZ.out (.string ⟨#[]⟩) (.int .i64 0) (.int .i64 0) (.int .i64 0) (.int .i64 0) (.int .i64 0) (.int .i64 0) (.int .i64 0) (.int .i64 0) (.int .i64 0) (.string ⟨#[]⟩))
    have SB := Lib.hid (store11_below (B := b0) (a := w) (p := b0) (by rw [← HB0.out]; exact G4.out) (Nat.le_refl _) (.string ⟨#[]⟩) (.int .i64 0) (.int .i64 0) (.int .i64 0) (.int .i64 0) (.int .i64 0) (.int .i64 0) (.int .i64 0) (.int .i64 0) (.int .i64 0) (.string ⟨#[]⟩))
    go_wp2_with fail
    generalize (((((((((((w4.setCell ⟨b0, 0, none⟩ (.string ⟨#[]⟩)).setCell ⟨b0, 1, none⟩ (.int .i64 0)).setCell ⟨b0, 2, none⟩ (.int .i64 0)).setCell ⟨b0, 3, none⟩ (.int .i64 0)).setCell ⟨b0, 4, none⟩ (.int .i64 0)).setCell ⟨b0, 5, none⟩ (.int .i64 0)).setCell ⟨b0, 6, none⟩ (.int .i64 0)).setCell ⟨b0, 7, none⟩ (.int .i64 0)).setCell ⟨b0, 8, none⟩ (.int .i64 0)).setCell ⟨b0, 9, none⟩ (.int .i64 0)).setCell ⟨b0, 10, none⟩ (.string ⟨#[]⟩)) = FF at E SB ⊢
    have y0 : FF.cell? ⟨b0, 0, none⟩ = some (.string ⟨#[]⟩) := by simp [World.cell?, E.out]
    have y1 : FF.cell? ⟨b0, 1, none⟩ = some (.int .i64 0) := by simp [World.cell?, E.out]
    have y2 : FF.cell? ⟨b0, 2, none⟩ = some (.int .i64 0) := by simp [World.cell?, E.out]
    have y3 : FF.cell? ⟨b0, 3, none⟩ = some (.int .i64 0) := by simp [World.cell?, E.out]
    have y4 : FF.cell? ⟨b0, 4, none⟩ = some (.int .i64 0) := by simp [World.cell?, E.out]
    have y5 : FF.cell? ⟨b0, 5, none⟩ = some (.int .i64 0) := by simp [World.cell?, E.out]
    have y6 : FF.cell? ⟨b0, 6, none⟩ = some (.int .i64 0) := by simp [World.cell?, E.out]
    have y7 : FF.cell? ⟨b0, 7, none⟩ = some (.int .i64 0) := by simp [World.cell?, E.out]
    have y8 : FF.cell? ⟨b0, 8, none⟩ = some (.int .i64 0) := by simp [World.cell?, E.out]
    have y9 : FF.cell? ⟨b0, 9, none⟩ = some (.int .i64 0) := by simp [World.cell?, E.out]
    have y10 : FF.cell? ⟨b0, 10, none⟩ = some (.string ⟨#[]⟩) := by simp [World.cell?, E.out]
    exact bodyPost_ret (v := .tuple #[ruleV ⟨#[]⟩ 0 0 0 0 0 0 0 0 0 ⟨#[]⟩, .int .i64 3]) (by simp [results, Tryz.results7, go_sem, y0, y1, y2, y3, y4, y5, y6, y7, y8, y9, y10]) rfl ⟨NG.out, by unfold Gr; rw [HB0.out]; exact SB.out⟩
  rw [if_pos ok] at KT'
  by_cases eq : ruleL (wd s 1).toList (wd s 8).toList fr tt mo k d n at' by' sv = s.toList
  case neg =>
    have eq' : (ruleL (wd s 1).toList (wd s 8).toList fr tt mo k d n at' by' sv == s.toList) = false := by simpa using eq
    have eq2 : (ruleL (wd s 1).toList (wd s 8).toList fr tt mo k d n at' by' sv != s.toList) = true := by simp [eq]
    have NG : Hid (RuleReadA s.toList noRule) := Or.inr ⟨fun h => eq (only_good HO.out h).2, rfl⟩
    clear ok HO eq
    generalize ruleL (wd s 1).toList (wd s 8).toList fr tt mo k d n at' by' sv = l at KT' eq' eq2
    refine KT'.mono ?_
    rintro e w4 ⟨rfl, g4⟩
    have G4 := Lib.hid (G3.out.trans g4)
    have hZ2 := Lib.hid (heap_gr g4 hZ.out)
    clear hZ g4 KT'
    have hZ := hZ2
    clear hZ2
    have z0 : w4.cell? ⟨b0, 0, none⟩ = some (.string ⟨#[]⟩) := by simp [World.cell?, hZ.out]
    have z1 : w4.cell? ⟨b0, 1, none⟩ = some (.int .i64 0) := by simp [World.cell?, hZ.out]
    have z2 : w4.cell? ⟨b0, 2, none⟩ = some (.int .i64 0) := by simp [World.cell?, hZ.out]
    have z3 : w4.cell? ⟨b0, 3, none⟩ = some (.int .i64 0) := by simp [World.cell?, hZ.out]
    have z4 : w4.cell? ⟨b0, 4, none⟩ = some (.int .i64 0) := by simp [World.cell?, hZ.out]
    have z5 : w4.cell? ⟨b0, 5, none⟩ = some (.int .i64 0) := by simp [World.cell?, hZ.out]
    have z6 : w4.cell? ⟨b0, 6, none⟩ = some (.int .i64 0) := by simp [World.cell?, hZ.out]
    have z7 : w4.cell? ⟨b0, 7, none⟩ = some (.int .i64 0) := by simp [World.cell?, hZ.out]
    have z8 : w4.cell? ⟨b0, 8, none⟩ = some (.int .i64 0) := by simp [World.cell?, hZ.out]
    have z9 : w4.cell? ⟨b0, 9, none⟩ = some (.int .i64 0) := by simp [World.cell?, hZ.out]
    have z10 : w4.cell? ⟨b0, 10, none⟩ = some (.string ⟨#[]⟩) := by simp [World.cell?, hZ.out]
    have fz : ∀ i, w4.frozen? ⟨b0, i, none⟩ = false := fun i => by simp [World.frozen?, hZ.out]
    have E := Lib.hid (store11 hZ.out (.string ⟨#[]⟩) (.int .i64 0) (.int .i64 0) (.int .i64 0) (.int .i64 0) (.int .i64 0) (.int .i64 0) (.int .i64 0) (.int .i64 0) (.int .i64 0) (.string ⟨#[]⟩))
    have SB := Lib.hid (store11_below (B := b0) (a := w) (p := b0) (by rw [← HB0.out]; exact G4.out) (Nat.le_refl _) (.string ⟨#[]⟩) (.int .i64 0) (.int .i64 0) (.int .i64 0) (.int .i64 0) (.int .i64 0) (.int .i64 0) (.int .i64 0) (.int .i64 0) (.int .i64 0) (.string ⟨#[]⟩))
    go_wp2_with fail
    generalize (((((((((((w4.setCell ⟨b0, 0, none⟩ (.string ⟨#[]⟩)).setCell ⟨b0, 1, none⟩ (.int .i64 0)).setCell ⟨b0, 2, none⟩ (.int .i64 0)).setCell ⟨b0, 3, none⟩ (.int .i64 0)).setCell ⟨b0, 4, none⟩ (.int .i64 0)).setCell ⟨b0, 5, none⟩ (.int .i64 0)).setCell ⟨b0, 6, none⟩ (.int .i64 0)).setCell ⟨b0, 7, none⟩ (.int .i64 0)).setCell ⟨b0, 8, none⟩ (.int .i64 0)).setCell ⟨b0, 9, none⟩ (.int .i64 0)).setCell ⟨b0, 10, none⟩ (.string ⟨#[]⟩)) = FF at E SB ⊢
    have y0 : FF.cell? ⟨b0, 0, none⟩ = some (.string ⟨#[]⟩) := by simp [World.cell?, E.out]
    have y1 : FF.cell? ⟨b0, 1, none⟩ = some (.int .i64 0) := by simp [World.cell?, E.out]
    have y2 : FF.cell? ⟨b0, 2, none⟩ = some (.int .i64 0) := by simp [World.cell?, E.out]
    have y3 : FF.cell? ⟨b0, 3, none⟩ = some (.int .i64 0) := by simp [World.cell?, E.out]
    have y4 : FF.cell? ⟨b0, 4, none⟩ = some (.int .i64 0) := by simp [World.cell?, E.out]
    have y5 : FF.cell? ⟨b0, 5, none⟩ = some (.int .i64 0) := by simp [World.cell?, E.out]
    have y6 : FF.cell? ⟨b0, 6, none⟩ = some (.int .i64 0) := by simp [World.cell?, E.out]
    have y7 : FF.cell? ⟨b0, 7, none⟩ = some (.int .i64 0) := by simp [World.cell?, E.out]
    have y8 : FF.cell? ⟨b0, 8, none⟩ = some (.int .i64 0) := by simp [World.cell?, E.out]
    have y9 : FF.cell? ⟨b0, 9, none⟩ = some (.int .i64 0) := by simp [World.cell?, E.out]
    have y10 : FF.cell? ⟨b0, 10, none⟩ = some (.string ⟨#[]⟩) := by simp [World.cell?, E.out]
    exact bodyPost_ret (v := .tuple #[ruleV ⟨#[]⟩ 0 0 0 0 0 0 0 0 0 ⟨#[]⟩, .int .i64 3]) (by simp [results, Tryz.results7, go_sem, y0, y1, y2, y3, y4, y5, y6, y7, y8, y9, y10]) rfl ⟨NG.out, by unfold Gr; rw [HB0.out]; exact SB.out⟩
  have eq' : (ruleL (wd s 1).toList (wd s 8).toList fr tt mo k d n at' by' sv == s.toList) = true := by simpa using eq
  have eq2 : (ruleL (wd s 1).toList (wd s 8).toList fr tt mo k d n at' by' sv != s.toList) = false := by simp [eq]
  have A : Hid (RuleReadA s.toList (ruleInt (wd s 1) fr tt mo k d n at' by' sv (wd s 8) 0)) := Or.inl ⟨(wd s 1).toList, (wd s 8).toList, fr, tt, mo, k, d, n, at', by', sv, ok, eq, by rw [← S_of, ← S_of]⟩
  clear ok HO eq
  generalize ruleL (wd s 1).toList (wd s 8).toList fr tt mo k d n at' by' sv = l at KT' eq' eq2
  refine KT'.mono ?_
  rintro e w4 ⟨rfl, g4⟩
  have G4 := G3.out.trans g4
  have hZ2 := Lib.hid (heap_gr g4 hZ.out)
  have hB2 := Lib.hid (heap_gr g4 hB.out)
  clear hZ g4 KT' hB G3 KT
  have hZ := hZ2
  have hB := hB2
  clear hZ2 hB2
  have hlw : w.heap.size ≤ b2 := by have := HB0.out; omega
  go_wp2_with fail
  have k0 : w4.cell? ⟨b2, 0, none⟩ = some (.string (wd s 1)) := by simp [World.cell?, hB.out]
  have k10 : w4.cell? ⟨b2, 10, none⟩ = some (.string (wd s 8)) := by simp [World.cell?, hB.out]
  refine wp_region_noPanic ?_
  refine wp_region_held_drew (S := fun wx => wx.cell? ⟨b2, 0, none⟩ = some (.string (wd s 1)) ∧ wx.cell? ⟨b2, 10, none⟩ = some (.string (wd s 8)) ∧ Gr w wx) (by kernel_rfl) ⟨k0, k10, G4.drew'⟩ (fun hHeld => ?_)
  clear k0 k10 G4
  have hB2 := Lib.hid (heap_gr (Gr.drew w4) hB.out)
  have hZ2 := Lib.hid (heap_gr (Gr.drew w4) hZ.out)
  clear hB hZ
  have hB := hB2
  have hZ := hZ2
  clear hB2 hZ2
  generalize w4.drew = v0 at hHeld hB hZ ⊢
  refine wpAnyH_take (i := 0) (oi := { dst := some 29, op := _, type := _, pos := _, after := _, guard := _ }) (v := ?v1) rfl (by kernel_rfl) (by kernel_rfl) (by kernel_rfl) (fun _ _ _ h => h) (Or.inl ⟨by rfl, ?hy1⟩) (by assumption) ?rest1
  case hy1 => (intro w hSw; (try dsimp only at hSw); go_simp <;> (with_reducible rfl))
  (try simp only [Act.put, List.setIfInBounds_toArray, List.set_cons_zero, List.set_cons_succ])
  refine wpAnyH_take (i := 3) (oi := { dst := some 32, op := _, type := _, pos := _, after := _, guard := _ }) (v := ?v2) rfl (by kernel_rfl) (by kernel_rfl) (by kernel_rfl) (fun _ _ _ h => h) (Or.inl ⟨by rfl, ?hy2⟩) (by assumption) ?rest2
  case hy2 => (intro w hSw; (try dsimp only at hSw); go_simp <;> (with_reducible rfl))
  (try simp only [Act.put, List.setIfInBounds_toArray, List.set_cons_zero, List.set_cons_succ])
  refine wpAnyH_take (i := 1) (oi := { dst := some 30, op := _, type := _, pos := _, after := _, guard := _ }) (v := ?v3) rfl (by kernel_rfl) (by kernel_rfl) (by kernel_rfl) (fun _ _ _ h => h) (Or.inl ⟨by rfl, ?hy3⟩) (by assumption) ?rest3
  case hy3 => (intro w hSw; (try dsimp only at hSw); go_simp <;> (with_reducible rfl))
  (try simp only [Act.put, List.setIfInBounds_toArray, List.set_cons_zero, List.set_cons_succ])
  refine wpAnyH_take (i := 4) (oi := { dst := some 33, op := _, type := _, pos := _, after := _, guard := _ }) (v := ?v4) rfl (by kernel_rfl) (by kernel_rfl) (by kernel_rfl) (fun _ _ _ h => h) (Or.inl ⟨by rfl, ?hy4⟩) (by assumption) ?rest4
  case hy4 => (intro w hSw; (try dsimp only at hSw); go_simp <;> (with_reducible rfl))
  (try simp only [Act.put, List.setIfInBounds_toArray, List.set_cons_zero, List.set_cons_succ])
  refine wpAnyH_ready (rs := [2]) (by kernel_rfl) (by simp) ?_
  refine AllReadyH.cons (rs := []) rfl (fun K hK => ?_) AllReadyH.nil
  go_simp
  (with_reducible refine (C1.out _).mono ?_)
  rintro e v5' ⟨rfl, hgx⟩
  (go_wp2_with fail)
  refine hK.out _ _ (keepC hHeld hgx) (fun hHeld2 => ?_)
  clear hK K hHeld
  have hHeld := hHeld2
  clear hHeld2
  (try simp only [Act.put, List.setIfInBounds_toArray, List.set_cons_zero, List.set_cons_succ])
  have hB2 := Lib.hid (heap_gr hgx hB.out)
  have hZ2 := Lib.hid (heap_gr hgx hZ.out)
  clear hB hZ
  have hB := hB2
  have hZ := hZ2
  clear hB2 hZ2 hgx
  refine wpAnyH_take (i := 6) (oi := { dst := some 35, op := _, type := _, pos := _, after := _, guard := _ }) (v := ?v6) rfl (by kernel_rfl) (by kernel_rfl) (by kernel_rfl) (fun _ _ _ h => h) (Or.inl ⟨by rfl, ?hy6⟩) (by assumption) ?rest6
  case hy6 => (intro w hSw; (try dsimp only at hSw); go_simp <;> (with_reducible rfl))
  (try simp only [Act.put, List.setIfInBounds_toArray, List.set_cons_zero, List.set_cons_succ])
  refine wpAnyH_ready (rs := [5]) (by kernel_rfl) (by simp) ?_
  refine AllReadyH.cons (rs := []) rfl (fun K hK => ?_) AllReadyH.nil
  go_simp
  (with_reducible refine (C8.out _).mono ?_)
  rintro e v7' ⟨rfl, hgx⟩
  (go_wp2_with fail)
  refine hK.out _ _ (keepC hHeld hgx) (fun hHeld2 => ?_)
  clear hK K hHeld
  have hHeld := hHeld2
  clear hHeld2
  (try simp only [Act.put, List.setIfInBounds_toArray, List.set_cons_zero, List.set_cons_succ])
  have hB2 := Lib.hid (heap_gr hgx hB.out)
  have hZ2 := Lib.hid (heap_gr hgx hZ.out)
  clear hB hZ
  have hB := hB2
  have hZ := hZ2
  clear hB2 hZ2 hgx
  refine wpAnyH_ready (rs := [7]) (by kernel_rfl) (by simp) ?_
  refine AllReadyH.cons (rs := []) rfl (fun K hK => ?_) AllReadyH.nil
  have zc : v7'.cell? ⟨b2, 0, none⟩ = some (.string (wd s 1)) := by simp [World.cell?, hB.out]
  have fz : v7'.frozen? ⟨b2, 0, none⟩ = false := by simp [World.frozen?, hB.out]
  have hB2 : Hid ((v7'.setCell ⟨b2, 0, none⟩ (.string (wd s 1))).heap[b2]? = some (.cells #[.string (wd s 1), .int .i64 fr, .int .i64 tt, .int .i64 mo, .int .i64 k, .int .i64 d, .int .i64 n, .int .i64 at', .int .i64 by', .int .i64 sv, .string (wd s 8)] 25 (0, 0))) := heap_setCell_same v7' b2 0 #[.string (wd s 1), .int .i64 fr, .int .i64 tt, .int .i64 mo, .int .i64 k, .int .i64 d, .int .i64 n, .int .i64 at', .int .i64 by', .int .i64 sv, .string (wd s 8)] 25 (.string (wd s 1)) hB.out
  have hZ2 : Hid ((v7'.setCell ⟨b2, 0, none⟩ (.string (wd s 1))).heap[b0]? = some (.cells zrow 25 (0, 0))) := by unfold Hid; rw [heap_setCell_other v7' ⟨b2, 0, none⟩ _ (.string (wd s 1)) (by show ¬ b0 = b2; omega)]; exact hZ.out
  have hx := keepCS hB2.out (show Gr w (v7'.setCell ⟨b2, 0, none⟩ (.string (wd s 1))) from Below.setCell hHeld.2.2 hlw _)
  go_simp
  clear zc fz hB hZ
  refine hK.out _ _ (hx) (fun hHeld2 => ?_)
  clear hK K hHeld
  have hHeld := hHeld2
  clear hHeld2
  (try simp only [Act.put, List.setIfInBounds_toArray, List.set_cons_zero, List.set_cons_succ])
  clear hx
  have hB := hB2
  have hZ := hZ2
  clear hB2 hZ2
  generalize v7'.setCell ⟨b2, 0, none⟩ (.string (wd s 1)) = u8 at hB hZ hHeld ⊢
  refine wpAnyH_take (i := 8) (oi := { dst := some 36, op := _, type := _, pos := _, after := _, guard := _ }) (v := ?v9) rfl (by kernel_rfl) (by kernel_rfl) (by kernel_rfl) (fun _ _ _ h => h) (Or.inl ⟨by rfl, ?hy9⟩) (by assumption) ?rest9
  case hy9 => (intro w hSw; (try dsimp only at hSw); go_simp <;> (with_reducible rfl))
  (try simp only [Act.put, List.setIfInBounds_toArray, List.set_cons_zero, List.set_cons_succ])
  refine wpAnyH_ready (rs := [9]) (by kernel_rfl) (by simp) ?_
  refine AllReadyH.cons (rs := []) rfl (fun K hK => ?_) AllReadyH.nil
  have zc : u8.cell? ⟨b2, 10, none⟩ = some (.string (wd s 8)) := by simp [World.cell?, hB.out]
  have fz : u8.frozen? ⟨b2, 10, none⟩ = false := by simp [World.frozen?, hB.out]
  have hB2 : Hid ((u8.setCell ⟨b2, 10, none⟩ (.string (wd s 8))).heap[b2]? = some (.cells #[.string (wd s 1), .int .i64 fr, .int .i64 tt, .int .i64 mo, .int .i64 k, .int .i64 d, .int .i64 n, .int .i64 at', .int .i64 by', .int .i64 sv, .string (wd s 8)] 25 (0, 0))) := heap_setCell_same u8 b2 10 #[.string (wd s 1), .int .i64 fr, .int .i64 tt, .int .i64 mo, .int .i64 k, .int .i64 d, .int .i64 n, .int .i64 at', .int .i64 by', .int .i64 sv, .string (wd s 8)] 25 (.string (wd s 8)) hB.out
  have hZ2 : Hid ((u8.setCell ⟨b2, 10, none⟩ (.string (wd s 8))).heap[b0]? = some (.cells zrow 25 (0, 0))) := by unfold Hid; rw [heap_setCell_other u8 ⟨b2, 10, none⟩ _ (.string (wd s 8)) (by show ¬ b0 = b2; omega)]; exact hZ.out
  have hx := keepCS hB2.out (show Gr w (u8.setCell ⟨b2, 10, none⟩ (.string (wd s 8))) from Below.setCell hHeld.2.2 hlw _)
  go_simp
  clear zc fz hB hZ
  refine hK.out _ _ (hx) (fun hHeld2 => ?_)
  clear hK K hHeld
  have hHeld := hHeld2
  clear hHeld2
  (try simp only [Act.put, List.setIfInBounds_toArray, List.set_cons_zero, List.set_cons_succ])
  clear hx
  have hB := hB2
  have hZ := hZ2
  clear hB2 hZ2
  generalize u8.setCell ⟨b2, 10, none⟩ (.string (wd s 8)) = u10 at hB hZ hHeld ⊢
  refine wpAnyH_done (by kernel_rfl) ?_ _
  refine NoPanic.normal ?_
  have gF := Lib.hid hHeld.2.2
  clear hHeld
  have r0 : u10.cell? ⟨b2, 0, none⟩ = some (.string (wd s 1)) := by simp [World.cell?, hB.out]
  have r1 : u10.cell? ⟨b2, 1, none⟩ = some (.int .i64 fr) := by simp [World.cell?, hB.out]
  have r2 : u10.cell? ⟨b2, 2, none⟩ = some (.int .i64 tt) := by simp [World.cell?, hB.out]
  have r3 : u10.cell? ⟨b2, 3, none⟩ = some (.int .i64 mo) := by simp [World.cell?, hB.out]
  have r4 : u10.cell? ⟨b2, 4, none⟩ = some (.int .i64 k) := by simp [World.cell?, hB.out]
  have r5 : u10.cell? ⟨b2, 5, none⟩ = some (.int .i64 d) := by simp [World.cell?, hB.out]
  have r6 : u10.cell? ⟨b2, 6, none⟩ = some (.int .i64 n) := by simp [World.cell?, hB.out]
  have r7 : u10.cell? ⟨b2, 7, none⟩ = some (.int .i64 at') := by simp [World.cell?, hB.out]
  have r8 : u10.cell? ⟨b2, 8, none⟩ = some (.int .i64 by') := by simp [World.cell?, hB.out]
  have r9 : u10.cell? ⟨b2, 9, none⟩ = some (.int .i64 sv) := by simp [World.cell?, hB.out]
  have r10 : u10.cell? ⟨b2, 10, none⟩ = some (.string (wd s 8)) := by simp [World.cell?, hB.out]
  have z0 : u10.cell? ⟨b0, 0, none⟩ = some (.string ⟨#[]⟩) := by simp [World.cell?, hZ.out]
  have z1 : u10.cell? ⟨b0, 1, none⟩ = some (.int .i64 0) := by simp [World.cell?, hZ.out]
  have z2 : u10.cell? ⟨b0, 2, none⟩ = some (.int .i64 0) := by simp [World.cell?, hZ.out]
  have z3 : u10.cell? ⟨b0, 3, none⟩ = some (.int .i64 0) := by simp [World.cell?, hZ.out]
  have z4 : u10.cell? ⟨b0, 4, none⟩ = some (.int .i64 0) := by simp [World.cell?, hZ.out]
  have z5 : u10.cell? ⟨b0, 5, none⟩ = some (.int .i64 0) := by simp [World.cell?, hZ.out]
  have z6 : u10.cell? ⟨b0, 6, none⟩ = some (.int .i64 0) := by simp [World.cell?, hZ.out]
  have z7 : u10.cell? ⟨b0, 7, none⟩ = some (.int .i64 0) := by simp [World.cell?, hZ.out]
  have z8 : u10.cell? ⟨b0, 8, none⟩ = some (.int .i64 0) := by simp [World.cell?, hZ.out]
  have z9 : u10.cell? ⟨b0, 9, none⟩ = some (.int .i64 0) := by simp [World.cell?, hZ.out]
  have z10 : u10.cell? ⟨b0, 10, none⟩ = some (.string ⟨#[]⟩) := by simp [World.cell?, hZ.out]
  have fz : ∀ i, u10.frozen? ⟨b0, i, none⟩ = false := fun i => by simp [World.frozen?, hZ.out]
  have E := Lib.hid (store11 hZ.out (.string (wd s 1)) (.int .i64 fr) (.int .i64 tt) (.int .i64 mo) (.int .i64 k) (.int .i64 d) (.int .i64 n) (.int .i64 at') (.int .i64 by') (.int .i64 sv) (.string (wd s 8)))
  have SB := Lib.hid (store11_below (B := b0) (a := w) (p := b0) (by rw [← HB0.out]; exact gF.out) (Nat.le_refl _) (.string (wd s 1)) (.int .i64 fr) (.int .i64 tt) (.int .i64 mo) (.int .i64 k) (.int .i64 d) (.int .i64 n) (.int .i64 at') (.int .i64 by') (.int .i64 sv) (.string (wd s 8)))
  go_wp2_with fail
  generalize (((((((((((u10.setCell ⟨b0, 0, none⟩ (.string (wd s 1))).setCell ⟨b0, 1, none⟩ (.int .i64 fr)).setCell ⟨b0, 2, none⟩ (.int .i64 tt)).setCell ⟨b0, 3, none⟩ (.int .i64 mo)).setCell ⟨b0, 4, none⟩ (.int .i64 k)).setCell ⟨b0, 5, none⟩ (.int .i64 d)).setCell ⟨b0, 6, none⟩ (.int .i64 n)).setCell ⟨b0, 7, none⟩ (.int .i64 at')).setCell ⟨b0, 8, none⟩ (.int .i64 by')).setCell ⟨b0, 9, none⟩ (.int .i64 sv)).setCell ⟨b0, 10, none⟩ (.string (wd s 8))) = FF at E SB ⊢
  have y0 : FF.cell? ⟨b0, 0, none⟩ = some (.string (wd s 1)) := by simp [World.cell?, E.out]
  have y1 : FF.cell? ⟨b0, 1, none⟩ = some (.int .i64 fr) := by simp [World.cell?, E.out]
  have y2 : FF.cell? ⟨b0, 2, none⟩ = some (.int .i64 tt) := by simp [World.cell?, E.out]
  have y3 : FF.cell? ⟨b0, 3, none⟩ = some (.int .i64 mo) := by simp [World.cell?, E.out]
  have y4 : FF.cell? ⟨b0, 4, none⟩ = some (.int .i64 k) := by simp [World.cell?, E.out]
  have y5 : FF.cell? ⟨b0, 5, none⟩ = some (.int .i64 d) := by simp [World.cell?, E.out]
  have y6 : FF.cell? ⟨b0, 6, none⟩ = some (.int .i64 n) := by simp [World.cell?, E.out]
  have y7 : FF.cell? ⟨b0, 7, none⟩ = some (.int .i64 at') := by simp [World.cell?, E.out]
  have y8 : FF.cell? ⟨b0, 8, none⟩ = some (.int .i64 by') := by simp [World.cell?, E.out]
  have y9 : FF.cell? ⟨b0, 9, none⟩ = some (.int .i64 sv) := by simp [World.cell?, E.out]
  have y10 : FF.cell? ⟨b0, 10, none⟩ = some (.string (wd s 8)) := by simp [World.cell?, E.out]
  exact bodyPost_ret (v := .tuple #[ruleV (wd s 1) fr tt mo k d n at' by' sv (wd s 8), .int .i64 0]) (by simp [results, Tryz.results7, go_sem, y0, y1, y2, y3, y4, y5, y6, y7, y8, y9, y10]) rfl ⟨A.out, by unfold Gr; rw [HB0.out]; exact SB.out⟩
end Go.Proofs.YteljpjhjoclkfaaGreatDoor
