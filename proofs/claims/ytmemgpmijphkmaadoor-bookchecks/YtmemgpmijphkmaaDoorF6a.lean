/- Texts cut at a sign, words between signs. No program in it. -/
import Derived.Test.YtmemgpmijphkmaaDoorN1
import Derived.Lib.SplitLaws
namespace Go.Proofs.YtmemgpmijphkmaaDoor
set_option linter.unusedVariables false
set_option linter.unusedSimpArgs false

theorem index_sep (c : UInt8) (b : List UInt8) : ∀ a : List UInt8, c ∉ a → Lib.index (a ++ c :: b) [c] = a.length
  | [], _ => by simp [Lib.index, List.isPrefixOf]
  | x :: a, h => by
    have hc : (c == x) = false := by
      have : ¬ c = x := fun e => h (by simp [e])
      simpa using this
    have ih := index_sep c b a (fun hm => h (List.mem_cons_of_mem _ hm))
    simp only [List.cons_append, Lib.index, List.isPrefixOf, hc, Bool.false_and, ih]
    have hn : ((a.length : Int) == -1) = false := by simp
    simp [hn]
theorem index_nosep (c : UInt8) : ∀ a : List UInt8, c ∉ a → Lib.index a [c] = -1
  | [], _ => by simp [Lib.index]
  | x :: a, h => by
    have hc : (c == x) = false := by
      have : ¬ c = x := fun e => h (by simp [e])
      simpa using this
    have ih := index_nosep c a (fun hm => h (List.mem_cons_of_mem _ hm))
    simp [Lib.index, List.isPrefixOf, hc, ih]
theorem split_no {c : UInt8} {a : List UInt8} (h : c ∉ a) : Lib.split a [c] = [a] := by
  unfold Lib.split
  rw [Lib.count_miss (index_nosep c a h)]
  rfl
theorem split_at {c : UInt8} {a : List UInt8} (b : List UInt8) (h : c ∉ a) : Lib.split (a ++ c :: b) [c] = a :: Lib.split b [c] := by
  unfold Lib.split
  have hi := index_sep c b a h
  have hc := Lib.count_hit (s := a ++ c :: b) (sub := [c]) (i := a.length) (by simp) hi
  have hd : (a ++ c :: b).drop (a.length + 1) = b := by simp
  simp only [List.length_cons, List.length_nil, Nat.zero_add] at hc
  rw [hd] at hc
  rw [hc, Nat.add_comm, Lib.splitK]
  have hm : ¬ (Lib.index (a ++ c :: b) [c] == -1) = true := fun e => by have := beq_iff_eq.1 e; omega
  rw [if_neg hm, hi]
  simp
theorem sep_cases (c : UInt8) (l : List UInt8) : c ∉ l ∨ ∃ a b, l = a ++ c :: b ∧ c ∉ a := by
  by_cases h : c ∈ l
  · right
    induction l with
    | nil => simp at h
    | cons x l ih =>
      by_cases e : x = c
      · exact ⟨[], l, by simp [e], by simp⟩
      · have hm : c ∈ l := by
          rcases List.mem_cons.1 h with q | q
          · exact absurd q.symm e
          · exact q
        obtain ⟨a, b, rfl, ha⟩ := ih hm
        exact ⟨x :: a, b, rfl, by intro q; rcases List.mem_cons.1 q with q | q; exact e q.symm; exact ha q⟩
  · exact Or.inl h
/-- words with a sign between them -/
def jn (c : UInt8) : List (List UInt8) → List UInt8
  | [] => []
  | [w] => w
  | w :: v :: ws => w ++ c :: jn c (v :: ws)
theorem split_ne (c : UInt8) (l : List UInt8) : ∃ w ws, Lib.split l [c] = w :: ws := by
  rcases sep_cases c l with h | ⟨a, b, rfl, h⟩
  · exact ⟨l, [], split_no h⟩
  · exact ⟨a, _, split_at b h⟩
theorem jn_split (c : UInt8) : ∀ (n : Nat) (l : List UInt8), l.length ≤ n → jn c (Lib.split l [c]) = l := by
  intro n
  induction n with
  | zero => intro l h; have e : l = [] := List.length_eq_zero_iff.1 (by omega); subst e; rw [split_no (by simp)]; rfl
  | succ n ih =>
    intro l h
    rcases sep_cases c l with h' | ⟨a, b, rfl, h'⟩
    · rw [split_no h']; rfl
    · rw [split_at b h']
      obtain ⟨w, ws, e⟩ := split_ne c b
      rw [e]
      unfold jn
      rw [← e, ih b (by simp at h; omega)]
theorem split_jn {c : UInt8} : ∀ {ws : List (List UInt8)} (_ : ws ≠ []) (_ : ∀ w ∈ ws, c ∉ w), Lib.split (jn c ws) [c] = ws
  | [], h, _ => absurd rfl h
  | [w], _, h => split_no (h w (by simp))
  | w :: v :: ws, _, h => by
    unfold jn
    rw [split_at _ (h w (by simp)), split_jn (ws := v :: ws) (by simp) (fun x hx => h x (List.mem_cons_of_mem _ hx))]
theorem lettersB_all {s o : List UInt8} : ∀ {n : Nat}, lettersB s o n = true → ∀ j, j < n → (alnum (bt s j) || inB o (bt s j) o.length) = true := by
  intro n
  induction n with
  | zero => intro _ j hj; omega
  | succ n ih =>
    intro h j hj
    unfold lettersB at h
    simp only [Bool.and_eq_true] at h
    by_cases e : j = n
    · rw [e]; exact h.2
    · exact ih h.1 j (by omega)
theorem no_blank_of {l : List UInt8} (h : ∀ j, j < l.length → ¬ bt l j = 32) : 32 ∉ l := fun hm => by
  obtain ⟨j, hj, e⟩ := List.getElem_of_mem hm
  refine h j hj ?_
  unfold bt
  simp [List.getD, List.getElem?_eq_getElem hj, e]
theorem name_blank {l : List UInt8} (h : isNameB l = true) : 32 ∉ l := by
  unfold isNameB at h
  simp only [Bool.and_eq_true] at h
  exact no_blank_of fun j hj e => by
    have := lettersB_all h.1.1.2 j hj
    rw [e] at this
    revert this; decide
theorem abbr_blank {l : List UInt8} (h : isAbbrB l = true) : 32 ∉ l := by
  unfold isAbbrB at h
  simp only [Bool.and_eq_true] at h
  exact no_blank_of fun j hj e => by
    have := lettersB_all h.2 j hj
    rw [e] at this
    revert this; decide
end Go.Proofs.YtmemgpmijphkmaaDoor
