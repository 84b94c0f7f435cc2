/- Formats of abbreviations: texts cut at a sign, what Abbr answers. No program in it. -/
import Derived.Lib.Replace
import Derived.Test.YtbagdlafpahgdaaGreatDoorRM09
namespace Go.Proofs.YtbagdlafpahgdaaGreatDoor
set_option linter.unusedVariables false
set_option linter.unusedSimpArgs false
/-- a text cut at a sign -/
def cutAt (c : UInt8) : List UInt8 → Option (List UInt8 × List UInt8)
  | [] => none
  | x :: l => if x = c then some ([], l) else match cutAt c l with
    | none => none
    | some p => some (x :: p.1, p.2)
theorem cutAt_no {c : UInt8} : ∀ {l : List UInt8}, c ∉ l → cutAt c l = none
  | [], _ => rfl
  | x :: l, h => by
    have hx : ¬ x = c := fun e => h (by simp [e])
    rw [cutAt, if_neg hx, cutAt_no (fun hm => h (List.mem_cons_of_mem _ hm))]
theorem cutAt_yes {c : UInt8} (b : List UInt8) : ∀ {a : List UInt8}, c ∉ a → cutAt c (a ++ c :: b) = some (a, b)
  | [], _ => by simp [cutAt]
  | x :: a, h => by
    have hx : ¬ x = c := fun e => h (by simp [e])
    rw [List.cons_append, cutAt, if_neg hx, cutAt_yes b (fun hm => h (List.mem_cons_of_mem _ hm))]
theorem cut_at_no {c : UInt8} {l : List UInt8} (h : c ∉ l) : Lib.cut l [c] = (l, [], false) := by
  unfold Lib.cut; rw [index_nosep c l h]; rfl
theorem cut_at_yes {c : UInt8} {a : List UInt8} (b : List UInt8) (h : c ∉ a) : Lib.cut (a ++ c :: b) [c] = (a, b, true) := by
  unfold Lib.cut
  rw [index_sep c b a h]
  simp
theorem abbr_len1 {l : List UInt8} (h : isAbbrB l = true) : 1 ≤ l.length ∧ l.length ≤ 8 := by
  unfold isAbbrB at h
  simp only [Bool.and_eq_true, decide_eq_true_eq] at h
  exact h.1
/-- what a format gives, if it is one and the letter is one -/
def fmtOut (f : List UInt8) (sv : Int) (lt : List UInt8) : Option (List UInt8) :=
  if 12 < f.length then none else if isAbbrB lt = false then none else
  match cutAt 47 f with
  | some p => if isAbbrB p.1 = true ∧ isAbbrB p.2 = true then some (if sv = 0 then p.1 else p.2) else none
  | none => match cutAt 37 f with
    | some p => if p.1 ++ p.2 = [] ∨ isAbbrB (p.1 ++ p.2) = true then some (p.1 ++ (if lt = [45] then [] else lt) ++ p.2) else none
    | none => if isAbbrB f = true then some f else none
def abbrOf (o : Option (List UInt8)) (sv : Int) : List UInt8 × Int := match o with
  | none => ([], 3)
  | some l => if sv < 0 ∨ 10800 < sv then ([], 1) else if 8 < l.length then ([], 2) else if l = [] then ([], 5) else (l, 0)
/-- what Abbr answers: a text and an error -/
def abbrR (f : List UInt8) (sv : Int) (lt : List UInt8) : List UInt8 × Int := abbrOf (fmtOut f sv lt) sv
theorem abbrOf_none (sv : Int) : abbrOf none sv = ([], 3) := rfl
theorem abbrOf_arg {l : List UInt8} {sv : Int} (h : sv < 0 ∨ 10800 < sv) : abbrOf (some l) sv = ([], 1) := by simp only [abbrOf]; rw [if_pos h]
theorem abbrOf_long {l : List UInt8} {sv : Int} (h : ¬ (sv < 0 ∨ 10800 < sv)) (g : 8 < l.length) : abbrOf (some l) sv = ([], 2) := by simp only [abbrOf]; rw [if_neg h, if_pos g]
theorem abbrOf_nil {sv : Int} (h : ¬ (sv < 0 ∨ 10800 < sv)) : abbrOf (some []) sv = ([], 5) := by simp [abbrOf, h]
theorem abbrOf_ok {l : List UInt8} {sv : Int} (h : ¬ (sv < 0 ∨ 10800 < sv)) (g : ¬ 8 < l.length) (k : ¬ l = []) : abbrOf (some l) sv = (l, 0) := by simp only [abbrOf]; rw [if_neg h, if_neg g, if_neg k]
theorem fmt_long {f : List UInt8} {sv : Int} {lt : List UInt8} (h : 12 < f.length) : fmtOut f sv lt = none := by unfold fmtOut; rw [if_pos h]
theorem fmt_two {a b : List UInt8} {sv : Int} {lt : List UInt8} (h : ¬ 12 < (a ++ 47 :: b).length) (hl : isAbbrB lt = true) (ha : 47 ∉ a) :
    fmtOut (a ++ 47 :: b) sv lt = if isAbbrB a = true ∧ isAbbrB b = true then some (if sv = 0 then a else b) else none := by
  unfold fmtOut; rw [if_neg h, if_neg (by rw [hl]; simp), cutAt_yes b ha]
/-- is it a format? -/
def isFmtB (f : List UInt8) : Bool := decide (f.length ≤ 12) && match cutAt 47 f with
  | some p => isAbbrB p.1 && isAbbrB p.2
  | none => match cutAt 37 f with
    | some p => decide (p.1 ++ p.2 = []) || isAbbrB (p.1 ++ p.2)
    | none => isAbbrB f
/-- what a format yields -/
def expL (f : List UInt8) (sv : Int) (lt : List UInt8) : List UInt8 := match cutAt 47 f with
  | some p => if sv = 0 then p.1 else p.2
  | none => match cutAt 37 f with
    | some p => p.1 ++ (if lt = [45] then [] else lt) ++ p.2
    | none => f
theorem fmt_exp (f : List UInt8) (sv : Int) (lt : List UInt8) : fmtOut f sv lt = if isFmtB f = true ∧ isAbbrB lt = true then some (expL f sv lt) else none := by
  unfold fmtOut isFmtB expL
  by_cases h : 12 < f.length
  · rw [if_pos h, show decide (f.length ≤ 12) = false from decide_eq_false (by omega)]; simp
  · rw [if_neg h, show decide (f.length ≤ 12) = true from decide_eq_true (by omega)]
    cases isAbbrB lt with
    | false => simp
    | true =>
      simp only [Bool.true_eq_false, if_false]
      cases cutAt 47 f with
      | some p => simp
      | none =>
        cases cutAt 37 f with
        | some p => simp
        | none => simp
theorem repl_none {f x : List UInt8} (h : 37 ∉ f) : Lib.replace f [37] x 1 = f := by
  unfold Lib.replace
  split
  · rfl
  · unfold Lib.replaceNum
    rw [Lib.count_miss (index_nosep 37 f h)]
    simp [Lib.replaceK]
theorem repl_one {a b x : List UInt8} (h : 37 ∉ a) : Lib.replace (a ++ 37 :: b) [37] x 1 = a ++ x ++ b := by
  unfold Lib.replace
  split
  · rename_i e
    have e' : [37] = x := by simpa using e
    subst e'; simp
  · have hi := index_sep 37 b a h
    have hc := Lib.count_hit (s := a ++ 37 :: b) (sub := [37]) (i := a.length) (by simp) hi
    have hn : Lib.replaceNum (a ++ 37 :: b) [37] 1 = 1 := by
      unfold Lib.replaceNum
      rw [if_neg (by omega)]; rfl
    rw [hn, Lib.replaceK]
    have hm : ¬ (Lib.index (a ++ 37 :: b) [37] == -1) = true := fun e => by have := beq_iff_eq.1 e; omega
    first
      | (rw [if_neg hm, hi]; simp [Lib.replaceK])
      | (rw [hi]; simp [Lib.replaceK])
theorem isFmt_two {a b : List UInt8} (h : (a ++ 47 :: b).length ≤ 12) (ha : 47 ∉ a) : isFmtB (a ++ 47 :: b) = (isAbbrB a && isAbbrB b) := by
  unfold isFmtB; rw [cutAt_yes b ha, decide_eq_true h]; simp
theorem isFmt_one {f : List UInt8} (h : f.length ≤ 12) (h47 : 47 ∉ f) : isFmtB f = ((f == [37]) || isAbbrB (Lib.replace f [37] [] 1)) := by
  unfold isFmtB
  rw [cutAt_no h47, decide_eq_true h]
  rcases sep_cases 37 f with g | ⟨a, b, rfl, g⟩
  · rw [cutAt_no g, repl_none g]
    have : (f == [37]) = false := by
      cases e : f == [37] with
      | false => rfl
      | true => have := eq_of_beq e; subst this; exact absurd (by simp) g
    simp [this]
  · rw [cutAt_yes b g, repl_one g]
    have : ((a ++ 37 :: b) == [37]) = decide (a ++ b = []) := by
      rw [Bool.eq_iff_iff]
      simp only [beq_iff_eq, decide_eq_true_eq]
      constructor
      · intro e
        cases a with
        | nil => simpa using e
        | cons x a => simp at e
      · intro e
        have e' := List.append_eq_nil_iff.1 e
        rw [e'.1, e'.2]; rfl
    simp [this]
theorem exp_two {a b : List UInt8} {sv : Int} {lt : List UInt8} (ha : 47 ∉ a) : expL (a ++ 47 :: b) sv lt = if sv = 0 then a else b := by
  unfold expL; rw [cutAt_yes b ha]
theorem exp_one {f : List UInt8} {sv : Int} {lt : List UInt8} (h47 : 47 ∉ f) : expL f sv lt = Lib.replace f [37] (if lt = [45] then [] else lt) 1 := by
  unfold expL
  rw [cutAt_no h47]
  rcases sep_cases 37 f with g | ⟨a, b, rfl, g⟩
  · rw [cutAt_no g, repl_none g]
  · rw [cutAt_yes b g, repl_one g]
theorem exp_len {f : List UInt8} {sv : Int} {lt : List UInt8} : (expL f sv lt).length ≤ f.length + lt.length := by
  rcases sep_cases 47 f with g | ⟨a, b, rfl, g⟩
  · unfold expL
    rw [cutAt_no g]
    rcases sep_cases 37 f with g' | ⟨a, b, rfl, g'⟩
    · rw [cutAt_no g']; show f.length ≤ _; omega
    · rw [cutAt_yes b g']; show (a ++ (if lt = [45] then [] else lt) ++ b).length ≤ _
      split <;> (simp only [List.length_append, List.length_cons, List.length_nil]; omega)
  · rw [exp_two g]; split <;> (simp only [List.length_append, List.length_cons]; omega)
end Go.Proofs.YtbagdlafpahgdaaGreatDoor
