/- What the project's Check of package rule returns, for every rule. Texts cut at a sign, words between signs. No program in it. Formats of abbreviations: texts cut at a sign, what Abbr answers. No program in it. Books as data: rules, eras, zones, links; slices of them in memory. No function of the program in it. -/
import Derived.Test.YtkmgildnhnjepaaGreatDoorTM05
import Derived.Test.YtkmgildnhnjepaaGreatDoorTM07
import Derived.Test.YtkmgildnhnjepaaGreatDoorTM08
import Derived.Test.YtkmgildnhnjepaaGreatDoorTM06
import Derived.Lib.SplitLaws
import Derived.Test.YtkmgildnhnjepaaGreatDoorTM04
import Derived.Lib.Replace
namespace Go.Proofs.YtkmgildnhnjepaaGreatDoor
set_option linter.unusedVariables false
set_option linter.unusedSimpArgs false
open Go.RowKit
theorem ml_common (mo : Int) : Cal.ml 2001 mo = Cal.ml 1999 mo := by
  unfold Cal.ml
  rw [show Cal.lp 2001 = Cal.lp 1999 by decide]
theorem abbr_dash : isAbbrB [45] = true := by decide
theorem ruleSyn_iff {nm lt : List UInt8} : RuleSyn nm lt ↔ isNameB nm = true ∧ isAbbrB lt = true := by
  unfold RuleSyn
  constructor
  · rintro ⟨a, b | b⟩
    · exact ⟨a, by rw [b]; exact abbr_dash⟩
    · exact ⟨a, b⟩
  · rintro ⟨a, b⟩
    exact ⟨a, Or.inr b⟩
/-- the last test -/
theorem rest_bool {mo n at' by' sv : Int} (p1 p2 p3 p4 p5 p6 q : Bool) (e1 : decide (-604800 ≤ at') = p1) (e2 : decide (at' ≤ 604800) = p2) (e3 : decide (0 ≤ by') = p3) (e4 : decide (by' < 3) = p4) (e5 : decide (0 ≤ sv) = p5) (e6 : decide (sv ≤ 10800) = p6)
    (e7 : decide (Cal.ml 1999 mo < n) = q) : RuleRest mo n at' by' sv ↔ (!q && (p1 && p2) && (p3 && p4) && (p5 && p6)) = true := by
  subst e1 e2 e3 e4 e5 e6 e7
  unfold RuleRest
  simp only [Bool.and_eq_true, Bool.not_eq_true', decide_eq_true_eq, decide_eq_false_iff_not]
  omega

set_option maxRecDepth 100000 in
set_option maxHeartbeats 8000000 in
theorem pruleCheck (nm : ByteArray) (fr tt mo k d n at' by' sv : Int) (lt : ByteArray) (w : World) (hl : HasLen w) (hn : nm.size ≤ maxLen) (ht : lt.size ≤ maxLen) :
    Calls Tryz.prog 73 #[ruleV nm fr tt mo k d n at' by' sv lt] w fun e w' => e = .returned (.int .i64 (ruleC nm.toList lt.toList fr tt mo k d n at' by' sv)) ∧ Gr w w' := by
  have R0 := Lib.hid (RuleAt.new w 118 nm fr tt mo k d n at' by' sv lt)
  have KN := Lib.hid (fun w => pname_any nm w hn)
  have KA := Lib.hid (fun w => pabbr_any lt w ht)
  have KC := Lib.hid (dayCheck k d n)
  have HL := Lib.hid hl
  have X3 : Hid (¬ RuleSyn nm.toList lt.toList → ruleC nm.toList lt.toList fr tt mo k d n at' by' sv = 3) := fun h => by unfold ruleC; rw [if_neg h]
  have X1 : Hid (RuleSyn nm.toList lt.toList → ¬ (RuleNum fr tt mo ∧ DayOk k d n ∧ RuleRest mo n at' by' sv) → ruleC nm.toList lt.toList fr tt mo k d n at' by' sv = 1) := fun h g => by
    unfold ruleC
    rw [if_pos h]
    split
    · split
      · split
        · rename_i a b c; exact absurd ⟨a, b, c⟩ g
        · rfl
      · rfl
    · rfl
  have X0 : Hid (RuleSyn nm.toList lt.toList → RuleNum fr tt mo → DayOk k d n → RuleRest mo n at' by' sv → ruleC nm.toList lt.toList fr tt mo k d n at' by' sv = 0) := fun h a b c => by
    unfold ruleC; rw [if_pos h, if_pos a, if_pos b, if_pos c]
  generalize ruleC nm.toList lt.toList fr tt mo k d n at' by' sv = C at X3 X1 X0 ⊢
  have SY : Hid (RuleSyn nm.toList lt.toList ↔ (isNameB nm.toList = true ∧ isAbbrB lt.toList = true)) := ruleSyn_iff
  clear hn ht hl
  go_enter Tryz.func73, Tryz.ntmps73
  go_wp2_with fail
  generalize w.alloc (.cells #[.string nm, .int .i64 fr, .int .i64 tt, .int .i64 mo, .int .i64 k, .int .i64 d, .int .i64 n, .int .i64 at', .int .i64 by', .int .i64 sv, .string lt] 118) = w0 at R0 ⊢
  generalize w.heap.size = b at R0 ⊢
  have c0 := R0.out.1
  have c1 := R0.out.2.1
  have c2 := R0.out.2.2.1
  have c3 := R0.out.2.2.2.1
  have c4 := R0.out.2.2.2.2.1
  have c5 := R0.out.2.2.2.2.2.1
  have c6 := R0.out.2.2.2.2.2.2.1
  have c7 := R0.out.2.2.2.2.2.2.2.1
  have c8 := R0.out.2.2.2.2.2.2.2.2.1
  have c9 := R0.out.2.2.2.2.2.2.2.2.2.1
  have c10 := R0.out.2.2.2.2.2.2.2.2.2.2.1
  have G0 := Lib.hid (R0.out.2.2.2.2.2.2.2.2.2.2.2)
  generalize isNameB nm.toList = bn at KN SY
  generalize isAbbrB lt.toList = ba at KA SY
  refine (KN.out w0).mono ?_
  rintro e w1 ⟨rfl, rfl⟩
  cases bn with
  | false =>
    have E := Lib.hid (X3.out (fun h => by have := (SY.out.1 h).1; cases this))
    clear X3 X1 X0 SY
    go_wp2_with fail
    go_ret
    exact ⟨ret_int E.out.symm, G0.out⟩
  | true =>
  go_wp2_with fail
  refine (KA.out w0).mono ?_
  rintro e w1 ⟨rfl, rfl⟩
  cases ba with
  | false =>
    have E := Lib.hid (X3.out (fun h => by have := (SY.out.1 h).2; cases this))
    clear X3 X1 X0 SY
    go_wp2_with fail
    go_ret
    exact ⟨ret_int E.out.symm, G0.out⟩
  | true =>
  have SYN : Hid (RuleSyn nm.toList lt.toList) := by first | exact SY.out.2 ⟨rfl, rfl⟩ | exact SY.out.2 (by simp)
  clear X3 SY KN KA
  by_cases q1 : fr < 1900
  case pos =>
    have E := Lib.hid (X1.out SYN.out (fun h => by have := h.1.1.1; omega))
    clear X1 X0
    go_wp2_with fail
    go_ret
    exact ⟨ret_int E.out.symm, G0.out⟩
  have q1' := ltF q1
  by_cases q2 : 2100 < fr
  case pos =>
    have E := Lib.hid (X1.out SYN.out (fun h => by have := h.1.1.2; omega))
    clear X1 X0
    go_wp2_with fail
    go_ret
    exact ⟨ret_int E.out.symm, G0.out⟩
  have q2' := ltF q2
  by_cases q3 : tt < fr
  case pos =>
    have E := Lib.hid (X1.out SYN.out (fun h => by have := h.1.2.2.1; omega))
    clear X1 X0
    go_wp2_with fail
    go_ret
    exact ⟨ret_int E.out.symm, G0.out⟩
  have q3' := ltF q3
  by_cases q4 : 2100 < tt
  case pos =>
    have E := Lib.hid (X1.out SYN.out (fun h => by have := h.1.2.1.2; omega))
    clear X1 X0
    go_wp2_with fail
    go_ret
    exact ⟨ret_int E.out.symm, G0.out⟩
  have q4' := ltF q4
  go_wp2_with fail
  by_cases q5 : 1 ≤ mo ∧ mo ≤ 12
  case neg =>
    have E := Lib.hid (X1.out SYN.out (fun h => q5 h.1.2.2.2))
    refine (length_no 2001 mo w0 (by omega)).mono ?_
    rintro e w2 ⟨rfl, rfl⟩
    clear X1 X0 q5
    go_wp2_with fail
    go_ret
    exact ⟨ret_int E.out.symm, G0.out⟩
  refine (length_yes 2001 mo w0 (G0.out.len HL.out) (by omega) (by omega) q5.1 q5.2).mono ?_
  rintro e w2 ⟨rfl, rfl⟩
  have NUM : Hid (RuleNum fr tt mo) := ⟨⟨by omega, by omega⟩, ⟨by omega, by omega⟩, by omega, q5⟩
  clear q1 q2 q3 q4 q1' q2' q3' q4' q5
  rw [ml_common]
  go_wp2_with fail
  by_cases q5 : DayOk k d n
  case neg =>
    have K := KC.out
    rw [dchk_no q5] at K
    refine (K _).mono ?_
    rintro e wx ⟨rfl, gx⟩
    have E := Lib.hid (X1.out SYN.out (fun h => q5 h.2.1))
    clear X1 X0 q5 K KC
    go_wp2_with fail
    go_ret
    exact ⟨ret_int E.out.symm, G0.out.trans gx⟩
  have K := KC.out
  rw [dchk_yes q5] at K
  refine (K _).mono ?_
  rintro e w3 ⟨rfl, g3⟩
  have DOK := Lib.hid q5
  clear K KC q5
  have R3 := Lib.hid (R0.out.gr g3)
  clear R0 G0 g3 c0 c1 c2 c3 c4 c5 c6 c7 c8 c9 c10
  have c6 := R3.out.2.2.2.2.2.2.1
  have c7 := R3.out.2.2.2.2.2.2.2.1
  have c8 := R3.out.2.2.2.2.2.2.2.2.1
  have c9 := R3.out.2.2.2.2.2.2.2.2.2.1
  obtain ⟨p1, e1⟩ : ∃ p, decide (-604800 ≤ at') = p := ⟨_, rfl⟩
  obtain ⟨p2, e2⟩ : ∃ p, decide (at' ≤ 604800) = p := ⟨_, rfl⟩
  obtain ⟨p3, e3⟩ : ∃ p, decide (0 ≤ by') = p := ⟨_, rfl⟩
  obtain ⟨p4, e4⟩ : ∃ p, decide (by' < 3) = p := ⟨_, rfl⟩
  obtain ⟨p5, e5⟩ : ∃ p, decide (0 ≤ sv) = p := ⟨_, rfl⟩
  obtain ⟨p6, e6⟩ : ∃ p, decide (sv ≤ 10800) = p := ⟨_, rfl⟩
  obtain ⟨q, e7⟩ : ∃ p, decide (Cal.ml 1999 mo < n) = p := ⟨_, rfl⟩
  have RB := rest_bool p1 p2 p3 p4 p5 p6 q e1 e2 e3 e4 e5 e6 e7
  have HC : Hid (C = if (!q && (p1 && p2) && (p3 && p4) && (p5 && p6)) = true then 0 else 1) := by
    unfold Hid
    split
    · rename_i h; exact X0.out SYN.out NUM.out DOK.out (RB.2 h)
    · rename_i h; exact X1.out SYN.out (fun g => h (RB.1 g.2.2))
  clear RB X0 X1 SYN NUM DOK HL
  generalize Cal.ml 1999 mo = ml at e7 ⊢
  cases p1 <;> cases p3 <;> cases p5 <;> cases q
  all_goals go_wp2
  all_goals go_ret
  all_goals (refine ⟨ret_int ?_, R3.out.2.2.2.2.2.2.2.2.2.2.2⟩; rw [HC.out]; clear HC R3; simp_all)
end Go.Proofs.YtkmgildnhnjepaaGreatDoor
namespace Go.Proofs.YtkmgildnhnjepaaGreatDoor
set_option linter.unusedVariables false
set_option linter.unusedSimpArgs false
theorem index_sep (c : UInt8) (b : List UInt8) : ∀ a : List UInt8, c ∉ a → Lib.index (a ++ c :: b) [c] = a.length
  | [], _ => by simp [Lib.index, List.isPrefixOf]
  | x :: a, h => by
    have hc : (c == x) = false := by
      have : ¬ c = x := fun e => h (by simp [e])
      simpa using this
    have ih := index_sep c b a (fun hm => h (List.mem_cons_of_mem _ hm))
    simp only [List.cons_append, Lib.index, List.isPrefixOf, hc, Bool.false_and, ih]
    have hn : ((a.length : Int) == -1) = false := by simp
    simp [hn]
theorem index_nosep (c : UInt8) : ∀ a : List UInt8, c ∉ a → Lib.index a [c] = -1
  | [], _ => by simp [Lib.index]
  | x :: a, h => by
    have hc : (c == x) = false := by
      have : ¬ c = x := fun e => h (by simp [e])
      simpa using this
    have ih := index_nosep c a (fun hm => h (List.mem_cons_of_mem _ hm))
    simp [Lib.index, List.isPrefixOf, hc, ih]
theorem sep_cases (c : UInt8) (l : List UInt8) : c ∉ l ∨ ∃ a b, l = a ++ c :: b ∧ c ∉ a := by
  by_cases h : c ∈ l
  · right
    induction l with
    | nil => simp at h
    | cons x l ih =>
      by_cases e : x = c
      · exact ⟨[], l, by simp [e], by simp⟩
      · have hm : c ∈ l := by
          rcases List.mem_cons.1 h with q | q
          · exact absurd q.symm e
          · exact q
        obtain ⟨a, b, rfl, ha⟩ := ih hm
        exact ⟨x :: a, b, rfl, by intro q; rcases List.mem_cons.1 q with q | q; exact e q.symm; exact ha q⟩
  · exact Or.inl h
theorem lettersB_all {s o : List UInt8} : ∀ {n : Nat}, lettersB s o n = true → ∀ j, j < n → (alnum (bt s j) || inB o (bt s j) o.length) = true := by
  intro n
  induction n with
  | zero => intro _ j hj; omega
  | succ n ih =>
    intro h j hj
    unfold lettersB at h
    simp only [Bool.and_eq_true] at h
    by_cases e : j = n
    · rw [e]; exact h.2
    · exact ih h.1 j (by omega)
end Go.Proofs.YtkmgildnhnjepaaGreatDoor
namespace Go.Proofs.YtkmgildnhnjepaaGreatDoor
set_option linter.unusedVariables false
set_option linter.unusedSimpArgs false
/-- a text cut at a sign -/
def cutAt (c : UInt8) : List UInt8 → Option (List UInt8 × List UInt8)
  | [] => none
  | x :: l => if x = c then some ([], l) else match cutAt c l with
    | none => none
    | some p => some (x :: p.1, p.2)
theorem cutAt_no {c : UInt8} : ∀ {l : List UInt8}, c ∉ l → cutAt c l = none
  | [], _ => rfl
  | x :: l, h => by
    have hx : ¬ x = c := fun e => h (by simp [e])
    rw [cutAt, if_neg hx, cutAt_no (fun hm => h (List.mem_cons_of_mem _ hm))]
theorem cutAt_yes {c : UInt8} (b : List UInt8) : ∀ {a : List UInt8}, c ∉ a → cutAt c (a ++ c :: b) = some (a, b)
  | [], _ => by simp [cutAt]
  | x :: a, h => by
    have hx : ¬ x = c := fun e => h (by simp [e])
    rw [List.cons_append, cutAt, if_neg hx, cutAt_yes b (fun hm => h (List.mem_cons_of_mem _ hm))]
theorem cut_at_no {c : UInt8} {l : List UInt8} (h : c ∉ l) : Lib.cut l [c] = (l, [], false) := by
  unfold Lib.cut; rw [index_nosep c l h]; rfl
theorem cut_at_yes {c : UInt8} {a : List UInt8} (b : List UInt8) (h : c ∉ a) : Lib.cut (a ++ c :: b) [c] = (a, b, true) := by
  unfold Lib.cut
  rw [index_sep c b a h]
  simp
theorem no_sign {c : UInt8} {l : List UInt8} (h : ∀ j, j < l.length → ¬ bt l j = (c.toNat : Int)) : c ∉ l := fun hm => by
  obtain ⟨j, hj, e⟩ := List.getElem_of_mem hm
  refine h j hj ?_
  unfold bt
  simp [List.getD, List.getElem?_eq_getElem hj, e]
theorem abbr_no37 {l : List UInt8} (h : isAbbrB l = true) : 37 ∉ l := by
  unfold isAbbrB at h
  simp only [Bool.and_eq_true] at h
  exact no_sign fun j hj e => by
    have := lettersB_all h.2 j hj
    rw [e] at this
    revert this; decide
theorem abbr_no47 {l : List UInt8} (h : isAbbrB l = true) : 47 ∉ l := by
  unfold isAbbrB at h
  simp only [Bool.and_eq_true] at h
  exact no_sign fun j hj e => by
    have := lettersB_all h.2 j hj
    rw [e] at this
    revert this; decide
theorem abbr_len1 {l : List UInt8} (h : isAbbrB l = true) : 1 ≤ l.length ∧ l.length ≤ 8 := by
  unfold isAbbrB at h
  simp only [Bool.and_eq_true, decide_eq_true_eq] at h
  exact h.1
/-- what a format gives, if it is one and the letter is one -/
def fmtOut (f : List UInt8) (sv : Int) (lt : List UInt8) : Option (List UInt8) :=
  if 12 < f.length then none else if isAbbrB lt = false then none else
  match cutAt 47 f with
  | some p => if isAbbrB p.1 = true ∧ isAbbrB p.2 = true then some (if sv = 0 then p.1 else p.2) else none
  | none => match cutAt 37 f with
    | some p => if p.1 ++ p.2 = [] ∨ isAbbrB (p.1 ++ p.2) = true then some (p.1 ++ (if lt = [45] then [] else lt) ++ p.2) else none
    | none => if isAbbrB f = true then some f else none
def abbrOf (o : Option (List UInt8)) (sv : Int) : List UInt8 × Int := match o with
  | none => ([], 3)
  | some l => if sv < 0 ∨ 10800 < sv then ([], 1) else if 8 < l.length then ([], 2) else if l = [] then ([], 5) else (l, 0)
/-- what Abbr answers: a text and an error -/
def abbrR (f : List UInt8) (sv : Int) (lt : List UInt8) : List UInt8 × Int := abbrOf (fmtOut f sv lt) sv
theorem abbrOf_none (sv : Int) : abbrOf none sv = ([], 3) := rfl
theorem abbrOf_arg {l : List UInt8} {sv : Int} (h : sv < 0 ∨ 10800 < sv) : abbrOf (some l) sv = ([], 1) := by simp only [abbrOf]; rw [if_pos h]
theorem abbrOf_long {l : List UInt8} {sv : Int} (h : ¬ (sv < 0 ∨ 10800 < sv)) (g : 8 < l.length) : abbrOf (some l) sv = ([], 2) := by simp only [abbrOf]; rw [if_neg h, if_pos g]
theorem abbrOf_nil {sv : Int} (h : ¬ (sv < 0 ∨ 10800 < sv)) : abbrOf (some []) sv = ([], 5) := by simp [abbrOf, h]
theorem abbrOf_ok {l : List UInt8} {sv : Int} (h : ¬ (sv < 0 ∨ 10800 < sv)) (g : ¬ 8 < l.length) (k : ¬ l = []) : abbrOf (some l) sv = (l, 0) := by simp only [abbrOf]; rw [if_neg h, if_neg g, if_neg k]
theorem fmt_long {f : List UInt8} {sv : Int} {lt : List UInt8} (h : 12 < f.length) : fmtOut f sv lt = none := by unfold fmtOut; rw [if_pos h]
theorem fmt_letter {f : List UInt8} {sv : Int} {lt : List UInt8} (h : isAbbrB lt = false) : fmtOut f sv lt = none := by unfold fmtOut; rw [if_pos h]; split <;> rfl
theorem fmt_two {a b : List UInt8} {sv : Int} {lt : List UInt8} (h : ¬ 12 < (a ++ 47 :: b).length) (hl : isAbbrB lt = true) (ha : 47 ∉ a) :
    fmtOut (a ++ 47 :: b) sv lt = if isAbbrB a = true ∧ isAbbrB b = true then some (if sv = 0 then a else b) else none := by
  unfold fmtOut; rw [if_neg h, if_neg (by rw [hl]; simp), cutAt_yes b ha]
theorem fmt_one {a b : List UInt8} {sv : Int} {lt : List UInt8} (h : ¬ 12 < (a ++ 37 :: b).length) (hl : isAbbrB lt = true) (h47 : 47 ∉ a ++ 37 :: b) (ha : 37 ∉ a) :
    fmtOut (a ++ 37 :: b) sv lt = if a ++ b = [] ∨ isAbbrB (a ++ b) = true then some (a ++ (if lt = [45] then [] else lt) ++ b) else none := by
  unfold fmtOut; rw [if_neg h, if_neg (by rw [hl]; simp), cutAt_no h47, cutAt_yes b ha]
theorem fmt_none {f : List UInt8} {sv : Int} {lt : List UInt8} (h : ¬ 12 < f.length) (hl : isAbbrB lt = true) (h47 : 47 ∉ f) (h37 : 37 ∉ f) :
    fmtOut f sv lt = if isAbbrB f = true then some f else none := by
  unfold fmtOut; rw [if_neg h, if_neg (by rw [hl]; simp), cutAt_no h47, cutAt_no h37]
/-- the three ways of a text: a stroke, a percent sign, neither -/
theorem fmt_ways (f : List UInt8) : (∃ a b, f = a ++ 47 :: b ∧ 47 ∉ a) ∨ (47 ∉ f ∧ ∃ a b, f = a ++ 37 :: b ∧ 37 ∉ a) ∨ (47 ∉ f ∧ 37 ∉ f) := by
  rcases sep_cases 47 f with h | h
  · rcases sep_cases 37 f with g | g
    · exact Or.inr (Or.inr ⟨h, g⟩)
    · exact Or.inr (Or.inl ⟨h, g⟩)
  · exact Or.inl h
/-- is it a format? -/
def isFmtB (f : List UInt8) : Bool := decide (f.length ≤ 12) && match cutAt 47 f with
  | some p => isAbbrB p.1 && isAbbrB p.2
  | none => match cutAt 37 f with
    | some p => decide (p.1 ++ p.2 = []) || isAbbrB (p.1 ++ p.2)
    | none => isAbbrB f
/-- what a format yields -/
def expL (f : List UInt8) (sv : Int) (lt : List UInt8) : List UInt8 := match cutAt 47 f with
  | some p => if sv = 0 then p.1 else p.2
  | none => match cutAt 37 f with
    | some p => p.1 ++ (if lt = [45] then [] else lt) ++ p.2
    | none => f
theorem fmt_exp (f : List UInt8) (sv : Int) (lt : List UInt8) : fmtOut f sv lt = if isFmtB f = true ∧ isAbbrB lt = true then some (expL f sv lt) else none := by
  unfold fmtOut isFmtB expL
  by_cases h : 12 < f.length
  · rw [if_pos h, show decide (f.length ≤ 12) = false from decide_eq_false (by omega)]; simp
  · rw [if_neg h, show decide (f.length ≤ 12) = true from decide_eq_true (by omega)]
    cases isAbbrB lt with
    | false => simp
    | true =>
      simp only [Bool.true_eq_false, if_false]
      cases cutAt 47 f with
      | some p => simp
      | none =>
        cases cutAt 37 f with
        | some p => simp
        | none => simp
theorem repl_none {f x : List UInt8} (h : 37 ∉ f) : Lib.replace f [37] x 1 = f := by
  unfold Lib.replace
  split
  · rfl
  · unfold Lib.replaceNum
    rw [Lib.count_miss (index_nosep 37 f h)]
    simp [Lib.replaceK]
theorem repl_one {a b x : List UInt8} (h : 37 ∉ a) : Lib.replace (a ++ 37 :: b) [37] x 1 = a ++ x ++ b := by
  unfold Lib.replace
  split
  · rename_i e
    have e' : [37] = x := by simpa using e
    subst e'; simp
  · have hi := index_sep 37 b a h
    have hc := Lib.count_hit (s := a ++ 37 :: b) (sub := [37]) (i := a.length) (by simp) hi
    have hn : Lib.replaceNum (a ++ 37 :: b) [37] 1 = 1 := by
      unfold Lib.replaceNum
      rw [if_neg (by omega)]; rfl
    rw [hn, Lib.replaceK]
    have hm : ¬ (Lib.index (a ++ 37 :: b) [37] == -1) = true := fun e => by have := beq_iff_eq.1 e; omega
    first
      | (rw [if_neg hm, hi]; simp [Lib.replaceK])
      | (rw [hi]; simp [Lib.replaceK])
theorem isFmt_two {a b : List UInt8} (h : (a ++ 47 :: b).length ≤ 12) (ha : 47 ∉ a) : isFmtB (a ++ 47 :: b) = (isAbbrB a && isAbbrB b) := by
  unfold isFmtB; rw [cutAt_yes b ha, decide_eq_true h]; simp
theorem isFmt_one {f : List UInt8} (h : f.length ≤ 12) (h47 : 47 ∉ f) : isFmtB f = ((f == [37]) || isAbbrB (Lib.replace f [37] [] 1)) := by
  unfold isFmtB
  rw [cutAt_no h47, decide_eq_true h]
  rcases sep_cases 37 f with g | ⟨a, b, rfl, g⟩
  · rw [cutAt_no g, repl_none g]
    have : (f == [37]) = false := by
      cases e : f == [37] with
      | false => rfl
      | true => have := eq_of_beq e; subst this; exact absurd (by simp) g
    simp [this]
  · rw [cutAt_yes b g, repl_one g]
    have : ((a ++ 37 :: b) == [37]) = decide (a ++ b = []) := by
      rw [Bool.eq_iff_iff]
      simp only [beq_iff_eq, decide_eq_true_eq]
      constructor
      · intro e
        cases a with
        | nil => simpa using e
        | cons x a => simp at e
      · intro e
        have e' := List.append_eq_nil_iff.1 e
        rw [e'.1, e'.2]; rfl
    simp [this]
theorem exp_two {a b : List UInt8} {sv : Int} {lt : List UInt8} (ha : 47 ∉ a) : expL (a ++ 47 :: b) sv lt = if sv = 0 then a else b := by
  unfold expL; rw [cutAt_yes b ha]
theorem exp_one {f : List UInt8} {sv : Int} {lt : List UInt8} (h47 : 47 ∉ f) : expL f sv lt = Lib.replace f [37] (if lt = [45] then [] else lt) 1 := by
  unfold expL
  rw [cutAt_no h47]
  rcases sep_cases 37 f with g | ⟨a, b, rfl, g⟩
  · rw [cutAt_no g, repl_none g]
  · rw [cutAt_yes b g, repl_one g]
theorem exp_len {f : List UInt8} {sv : Int} {lt : List UInt8} : (expL f sv lt).length ≤ f.length + lt.length := by
  rcases sep_cases 47 f with g | ⟨a, b, rfl, g⟩
  · unfold expL
    rw [cutAt_no g]
    rcases sep_cases 37 f with g' | ⟨a, b, rfl, g'⟩
    · rw [cutAt_no g']; show f.length ≤ _; omega
    · rw [cutAt_yes b g']; show (a ++ (if lt = [45] then [] else lt) ++ b).length ≤ _
      split <;> (simp only [List.length_append, List.length_cons, List.length_nil]; omega)
  · rw [exp_two g]; split <;> (simp only [List.length_append, List.length_cons]; omega)
end Go.Proofs.YtkmgildnhnjepaaGreatDoor
namespace Go.Proofs.YtkmgildnhnjepaaGreatDoor
set_option linter.unusedVariables false
set_option linter.unusedSimpArgs false
open Go.RowKit
/-- a rule -/
structure RuD where
  nm : ByteArray
  fr : Int
  tt : Int
  mo : Int
  k : Int
  d : Int
  n : Int
  at' : Int
  by' : Int
  sv : Int
  lt : ByteArray
/-- an era -/
structure EraD where
  off : Int
  ru : ByteArray
  sv : Int
  fm : ByteArray
  un : Int
/-- a zone, and where its eras lie -/
structure ZonD where
  nm : ByteArray
  A : Option Addr
  c : Nat
  eras : List EraD
/-- a link -/
structure LinD where
  nm : ByteArray
  to' : ByteArray
instance : Inhabited RuD := ⟨⟨.empty, 0, 0, 0, 0, 0, 0, 0, 0, 0, .empty⟩⟩
instance : Inhabited EraD := ⟨⟨0, .empty, 0, .empty, 0⟩⟩
instance : Inhabited ZonD := ⟨⟨.empty, none, 0, []⟩⟩
instance : Inhabited LinD := ⟨⟨.empty, .empty⟩⟩
def RuD.cells (r : RuD) : List Value := [.string r.nm, .int .i64 r.fr, .int .i64 r.tt, .int .i64 r.mo, .int .i64 r.k, .int .i64 r.d, .int .i64 r.n, .int .i64 r.at', .int .i64 r.by', .int .i64 r.sv, .string r.lt]
def EraD.cells (e : EraD) : List Value := [.int .i64 e.off, .string e.ru, .int .i64 e.sv, .string e.fm, .int .i64 e.un]
def ZonD.cells (z : ZonD) : List Value := [.string z.nm, .slice z.A z.eras.length z.c]
def LinD.cells (l : LinD) : List Value := [.string l.nm, .string l.to']
/-- what rule.Check answers -/
def RuD.chk (r : RuD) : Int := ruleC r.nm.toList r.lt.toList r.fr r.tt r.mo r.k r.d r.n r.at' r.by' r.sv

/-- the slice at A holds the things of l, each in k cells -/
def Row {α : Type} (w : World) (k : Nat) (e : α → List Value) (A : Option Addr) (l : List α) : Prop :=
  ∀ i x, l[i]? = some x → ∃ b off, A = some ⟨b, off, none⟩ ∧ b < w.heap.size ∧ ∀ j v, (e x)[j]? = some v → w.cell? ⟨b, off + i * k + j, none⟩ = some v
theorem Row.gr {α : Type} {w w' : World} {k : Nat} {e : α → List Value} {A : Option Addr} {l : List α} (h : Row w k e A l) (g : Gr w w') : Row w' k e A l := fun i x hx => by
  obtain ⟨b, off, rfl, hb, hc⟩ := h i x hx
  exact ⟨b, off, rfl, Nat.lt_of_lt_of_le hb g.size, fun j v hv => g.holds (hc j v hv)⟩
theorem Row.nil {α : Type} (w : World) (k : Nat) (e : α → List Value) (A : Option Addr) : Row w k e A ([] : List α) := fun i x hx => by simp at hx
theorem Row.take {α : Type} {w : World} {k : Nat} {e : α → List Value} {A : Option Addr} {l : List α} (h : Row w k e A l) (n : Nat) : Row w k e A (l.take n) := fun i x hx => by
  rw [List.getElem?_take] at hx
  split at hx
  · exact h i x hx
  · cases hx
/-- a slice and its bounds -/
def SlOk (n c : Nat) : Prop := n ≤ c ∧ c ≤ maxLen
/-- what is known of texts that came in -/
def RuD.In (r : RuD) : Prop := r.nm.size ≤ maxLen ∧ r.lt.size ≤ maxLen
def EraD.In (e : EraD) : Prop := e.ru.size ≤ maxLen ∧ e.fm.size ≤ maxLen ∧ (-9223372036854775808 ≤ e.un ∧ e.un ≤ 9223372036854775807)
def LinD.In (l : LinD) : Prop := l.nm.size ≤ maxLen ∧ l.to'.size ≤ maxLen
/-- the eras of a zone lie where it says -/
def ZonD.At (w : World) (z : ZonD) : Prop := z.nm.size ≤ maxLen ∧ SlOk z.eras.length z.c ∧ Row w 5 EraD.cells z.A z.eras ∧ ∀ e ∈ z.eras, e.In
theorem ZonD.At.gr {w w' : World} {z : ZonD} (h : z.At w) (g : Gr w w') : z.At w' := ⟨h.1, h.2.1, h.2.2.1.gr g, h.2.2.2⟩
/-- a book and where its parts lie -/
structure BokD where
  Ar : Option Addr
  cr : Nat
  rs : List RuD
  Az : Option Addr
  cz : Nat
  zs : List ZonD
  Al : Option Addr
  cl : Nat
  ls : List LinD
abbrev BokD.v0 (b : BokD) : Value := .slice b.Ar b.rs.length b.cr
abbrev BokD.v1 (b : BokD) : Value := .slice b.Az b.zs.length b.cz
abbrev BokD.v2 (b : BokD) : Value := .slice b.Al b.ls.length b.cl
/-- a book as a value -/
abbrev bookV (b : BokD) : Value := .agg #[.slice b.Ar b.rs.length b.cr, .slice b.Az b.zs.length b.cz, .slice b.Al b.ls.length b.cl]
def RusAt (w : World) (A : Option Addr) (c : Nat) (l : List RuD) : Prop := SlOk l.length c ∧ Row w 11 RuD.cells A l ∧ ∀ r ∈ l, r.In
def ZosAt (w : World) (A : Option Addr) (c : Nat) (l : List ZonD) : Prop := SlOk l.length c ∧ Row w 2 ZonD.cells A l ∧ ∀ z ∈ l, z.At w
def LisAt (w : World) (A : Option Addr) (c : Nat) (l : List LinD) : Prop := SlOk l.length c ∧ Row w 2 LinD.cells A l ∧ ∀ x ∈ l, x.In
def BokD.At (w : World) (b : BokD) : Prop := RusAt w b.Ar b.cr b.rs ∧ ZosAt w b.Az b.cz b.zs ∧ LisAt w b.Al b.cl b.ls
theorem RusAt.gr {w w' : World} {A : Option Addr} {c : Nat} {l : List RuD} (h : RusAt w A c l) (g : Gr w w') : RusAt w' A c l := ⟨h.1, h.2.1.gr g, h.2.2⟩
theorem ZosAt.gr {w w' : World} {A : Option Addr} {c : Nat} {l : List ZonD} (h : ZosAt w A c l) (g : Gr w w') : ZosAt w' A c l := ⟨h.1, h.2.1.gr g, fun z hz => (h.2.2 z hz).gr g⟩
theorem LisAt.gr {w w' : World} {A : Option Addr} {c : Nat} {l : List LinD} (h : LisAt w A c l) (g : Gr w w') : LisAt w' A c l := ⟨h.1, h.2.1.gr g, h.2.2⟩
theorem BokD.At.gr {w w' : World} {b : BokD} (h : b.At w) (g : Gr w w') : b.At w' := ⟨h.1.gr g, h.2.1.gr g, h.2.2.gr g⟩
theorem get_mem {α : Type} {l : List α} {i : Nat} {x : α} (h : l[i]? = some x) : x ∈ l := List.mem_of_getElem? h
theorem get_lt {α : Type} {l : List α} {i : Nat} (h : i < l.length) : ∃ x, l[i]? = some x := ⟨l[i], List.getElem?_eq_getElem h⟩

/-- the first error of n tests -/
def fe (f : Nat → Int) : Nat → Int
  | 0 => 0
  | n + 1 => if fe f n = 0 then f n else fe f n
theorem fe_hit {f : Nat → Int} {k : Nat} (h : fe f k = 0) (hk : f k ≠ 0) : ∀ n, k < n → fe f n = f k
  | 0, h0 => by omega
  | n + 1, h0 => by
    unfold fe
    by_cases e : k = n
    · subst e; rw [if_pos h]
    · have := fe_hit h hk n (by omega)
      rw [this, if_neg hk]
theorem fe_step {f : Nat → Int} {k : Nat} (h : fe f k = 0) (hk : f k = 0) : fe f (k + 1) = 0 := by unfold fe; rw [if_pos h, hk]
theorem fe_congr {f g : Nat → Int} : ∀ n, (∀ i, i < n → f i = g i) → fe f n = fe g n
  | 0, _ => rfl
  | n + 1, h => by
    unfold fe
    rw [fe_congr n (fun i hi => h i (by omega)), h n (by omega)]
theorem fe_zero {f : Nat → Int} : ∀ n, fe f n = 0 ↔ ∀ i, i < n → f i = 0
  | 0 => ⟨fun _ i hi => by omega, fun _ => rfl⟩
  | n + 1 => by
    unfold fe
    by_cases e : fe f n = 0
    · rw [if_pos e]
      have := (fe_zero n).1 e
      constructor
      · intro h i hi
        by_cases q : i = n
        · rw [q]; exact h
        · exact this i (by omega)
      · intro h; exact h n (by omega)
    · rw [if_neg e]
      constructor
      · intro h; exact absurd h e
      · intro h; exact (fe_zero n).2 (fun i hi => h i (by omega))
end Go.Proofs.YtkmgildnhnjepaaGreatDoor
