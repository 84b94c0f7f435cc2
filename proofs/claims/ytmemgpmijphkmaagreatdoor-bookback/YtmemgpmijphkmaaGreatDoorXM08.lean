/- A rule's text and its words: what RuleParse must answer. No walk in it. -/
import Derived.Test.YtmemgpmijphkmaaGreatDoorXM07
namespace Go.Proofs.YtmemgpmijphkmaaGreatDoor
set_option linter.unusedVariables false
set_option linter.unusedSimpArgs false
open Go.RowKit
theorem dayA_cases {l : List UInt8} {e : Ending} (h : DayReadA l e) : ∃ k d n c : Int, e = dayInt k d n c ∧ ((c = 0 ∧ DayOk k d n ∧ dayL k d n = l) ∨ (c = 3 ∧ ¬ ∃ k d n, DayOk k d n ∧ dayL k d n = l)) := by
  rcases h with ⟨k, d, n, ok, hl, rfl⟩ | ⟨no, rfl⟩
  · exact ⟨k, d, n, 0, rfl, Or.inl ⟨rfl, ok, hl⟩⟩
  · exact ⟨0, 0, 0, 3, rfl, Or.inr ⟨rfl, no⟩⟩
theorem spanA_cases {l : List UInt8} {e : Ending} (h : SpanAns l e) : ∃ v c : Int, e = two v c ∧ (-604800 ≤ v ∧ v ≤ 604800) ∧ ((c = 0 ∧ IsSpan l v) ∨ (c = 3 ∧ ¬ ∃ n, IsSpan l n)) := by
  by_cases x : ∃ n, IsSpan l n
  · obtain ⟨n, hn⟩ := x
    exact ⟨n, 0, h.1 n hn, hn.1, Or.inl ⟨rfl, hn⟩⟩
  · exact ⟨0, 3, h.2 x, ⟨by omega, by omega⟩, Or.inr ⟨rfl, x⟩⟩
/-- there is a rule with this text -/
def Good (l : List UInt8) : Prop := ∃ (nm lt : List UInt8) (fr tt mo k d n at' by' sv : Int), ruleC nm lt fr tt mo k d n at' by' sv = 0 ∧ ruleL nm lt fr tt mo k d n at' by' sv = l
/-- what RuleParse answers -/
def RuleReadA (l : List UInt8) (e : Ending) : Prop :=
  (∃ (nm lt : List UInt8) (fr tt mo k d n at' by' sv : Int), ruleC nm lt fr tt mo k d n at' by' sv = 0 ∧ ruleL nm lt fr tt mo k d n at' by' sv = l ∧ e = ruleInt (S nm) fr tt mo k d n at' by' sv (S lt) 0) ∨ (¬ Good l ∧ e = noRule)
/-- the words of the text are these -/
def Words (s : ByteArray) (nm lt : List UInt8) (fr tt mo k d n at' by' sv : Int) : Prop :=
  (wd s 1).toList = nm ∧ (wd s 2).toList = dz fr ∧ (wd s 3).toList = dz tt ∧ (wd s 4).toList = dz mo ∧ (wd s 5).toList = dayL k d n ∧ (wd s 6).toList = spanL at' ++ suf by' ∧ (wd s 7).toList = spanL sv ∧ (wd s 8).toList = lt
theorem good_words {s : ByteArray} {nm lt : List UInt8} {fr tt mo k d n at' by' sv : Int} (h : ruleC nm lt fr tt mo k d n at' by' sv = 0) (hl : ruleL nm lt fr tt mo k d n at' by' sv = s.toList) :
    (bl s).length = 9 ∧ (wd s 0).toList = [114, 117, 108, 101] ∧ Words s nm lt fr tt mo k d n at' by' sv := by
  obtain ⟨a, b, c, d'⟩ := ruleC_zero.1 h
  have sp := rule_split a b c d'
  rw [hl, ← bl_split] at sp
  have len : (bl s).length = 9 := by have := congrArg List.length sp; simpa [ruleW] using this
  have at_ : ∀ i (hi : i < (bl s).length), (wd s i).toList = (ruleW nm lt fr tt mo k d n at' by' sv).getD i [] := fun i hi => by
    rw [← sp]; unfold wd; simp [List.getD, List.getElem?_eq_getElem hi]
  exact ⟨len, at_ 0 (by omega), at_ 1 (by omega), at_ 2 (by omega), at_ 3 (by omega), at_ 4 (by omega), at_ 5 (by omega), at_ 6 (by omega), at_ 7 (by omega), at_ 8 (by omega)⟩
/-- the last sign of a text -/
theorem suffix_last {l : List UInt8} (a c : UInt8) : Lib.hasSuffix (l ++ [a]) [c] = (c == a) := by
  unfold Lib.hasSuffix List.isSuffixOf
  simp [List.isPrefixOf]
theorem spanL_last {n : Int} (h1 : -604800 ≤ n) (h2 : n ≤ 604800) : ∃ (l : List UInt8) (c : UInt8), spanL n = l ++ [c] ∧ (c.toNat : Int) ≤ 57 := by
  have d2l : ∀ x : Int, 0 ≤ x → x < 100 → ∃ (l : List UInt8) (c : UInt8), d2 x = l ++ [c] ∧ (c.toNat : Int) ≤ 57 := fun x x1 x2 =>
    ⟨[u (48 + x / 10)], u (48 + x % 10), rfl, by rw [u_toNat (by omega) (by omega)]; omega⟩
  have s0 : ∀ m : Int, 0 ≤ m → m ≤ 604800 → ∃ (l : List UInt8) (c : UInt8), spanL0 m = l ++ [c] ∧ (c.toNat : Int) ≤ 57 := fun m m1 m2 => by
    unfold spanL0
    split
    · obtain ⟨l, c, e, hc⟩ := d2l (m / 60 % 60) (by omega) (by omega)
      exact ⟨dz (m / 3600) ++ 58 :: l, c, by rw [e]; simp, hc⟩
    · obtain ⟨l, c, e, hc⟩ := d2l (m % 60) (by omega) (by omega)
      exact ⟨dz (m / 3600) ++ 58 :: (d2 (m / 60 % 60) ++ 58 :: l), c, by rw [e]; simp, hc⟩
  unfold spanL
  split
  · obtain ⟨l, c, e, hc⟩ := s0 (-n) (by omega) (by omega)
    exact ⟨45 :: l, c, by rw [e]; simp, hc⟩
  · exact s0 n (by omega) h2
/-- which clock the word of the time tells, and what is left of it -/
theorem clock_word {n by' : Int} (h1 : -604800 ≤ n) (h2 : n ≤ 604800) (b1 : 0 ≤ by') (b2 : by' ≤ 2) :
    Lib.hasSuffix (spanL n ++ suf by') [115] = decide (by' = 1) ∧ Lib.hasSuffix (spanL n ++ suf by') [117] = decide (by' = 2) := by
  obtain ⟨l, c, e, hc⟩ := spanL_last h1 h2
  have c115 : (115 == c) = false := by
    have : ¬ (115 : UInt8) = c := fun e => by subst e; revert hc; decide
    simpa using this
  have c117 : (117 == c) = false := by
    have : ¬ (117 : UInt8) = c := fun e => by subst e; revert hc; decide
    simpa using this
  have x : by' = 0 ∨ by' = 1 ∨ by' = 2 := by omega
  rcases x with rfl | rfl | rfl
  · have e0 : suf 0 = [] := rfl
    rw [e0, List.append_nil, e, suffix_last, suffix_last, c115, c117]
    exact ⟨rfl, rfl⟩
  · have e1 : suf 1 = [115] := rfl
    rw [e1, suffix_last, suffix_last]
    exact ⟨rfl, rfl⟩
  · have e2 : suf 2 = [117] := rfl
    rw [e2, suffix_last, suffix_last]
    exact ⟨rfl, rfl⟩
end Go.Proofs.YtmemgpmijphkmaaGreatDoor
