/- Texts cut at a sign, words between signs. No program in it. What the reference's RuleText returns, for every rule. What the reference's DayRead returns, for every text. -/
import Derived.Lib.SplitLaws
import Derived.Test.YtmemgpmijphkmaaGreatDoorWM07
import Derived.Test.YtmemgpmijphkmaaGreatDoorWM12
import Derived.Test.YtmemgpmijphkmaaGreatDoorWM10
namespace Go.Proofs.YtmemgpmijphkmaaGreatDoor
set_option linter.unusedVariables false
set_option linter.unusedSimpArgs false
theorem index_sep (c : UInt8) (b : List UInt8) : ∀ a : List UInt8, c ∉ a → Lib.index (a ++ c :: b) [c] = a.length
  | [], _ => by simp [Lib.index, List.isPrefixOf]
  | x :: a, h => by
    have hc : (c == x) = false := by
      have : ¬ c = x := fun e => h (by simp [e])
      simpa using this
    have ih := index_sep c b a (fun hm => h (List.mem_cons_of_mem _ hm))
    simp only [List.cons_append, Lib.index, List.isPrefixOf, hc, Bool.false_and, ih]
    have hn : ((a.length : Int) == -1) = false := by simp
    simp [hn]
theorem index_nosep (c : UInt8) : ∀ a : List UInt8, c ∉ a → Lib.index a [c] = -1
  | [], _ => by simp [Lib.index]
  | x :: a, h => by
    have hc : (c == x) = false := by
      have : ¬ c = x := fun e => h (by simp [e])
      simpa using this
    have ih := index_nosep c a (fun hm => h (List.mem_cons_of_mem _ hm))
    simp [Lib.index, List.isPrefixOf, hc, ih]
theorem sep_cases (c : UInt8) (l : List UInt8) : c ∉ l ∨ ∃ a b, l = a ++ c :: b ∧ c ∉ a := by
  by_cases h : c ∈ l
  · right
    induction l with
    | nil => simp at h
    | cons x l ih =>
      by_cases e : x = c
      · exact ⟨[], l, by simp [e], by simp⟩
      · have hm : c ∈ l := by
          rcases List.mem_cons.1 h with q | q
          · exact absurd q.symm e
          · exact q
        obtain ⟨a, b, rfl, ha⟩ := ih hm
        exact ⟨x :: a, b, rfl, by intro q; rcases List.mem_cons.1 q with q | q; exact e q.symm; exact ha q⟩
  · exact Or.inl h
/-- words with a sign between them -/
def jn (c : UInt8) : List (List UInt8) → List UInt8
  | [] => []
  | [w] => w
  | w :: v :: ws => w ++ c :: jn c (v :: ws)
theorem lettersB_all {s o : List UInt8} : ∀ {n : Nat}, lettersB s o n = true → ∀ j, j < n → (alnum (bt s j) || inB o (bt s j) o.length) = true := by
  intro n
  induction n with
  | zero => intro _ j hj; omega
  | succ n ih =>
    intro h j hj
    unfold lettersB at h
    simp only [Bool.and_eq_true] at h
    by_cases e : j = n
    · rw [e]; exact h.2
    · exact ih h.1 j (by omega)
end Go.Proofs.YtmemgpmijphkmaaGreatDoor
namespace Go.Proofs.YtmemgpmijphkmaaGreatDoor
set_option linter.unusedVariables false
set_option linter.unusedSimpArgs false
open Go.RowKit
theorem ruleC_zero {nm lt : List UInt8} {fr tto mo k d n at' by' sv : Int} : ruleC nm lt fr tto mo k d n at' by' sv = 0 ↔ RuleSyn nm lt ∧ RuleNum fr tto mo ∧ DayOk k d n ∧ RuleRest mo n at' by' sv := by
  unfold ruleC
  constructor
  · intro h
    split at h
    · split at h
      · split at h
        · split at h
          · rename_i a b c d'; exact ⟨a, b, c, d'⟩
          · cases h
        · cases h
      · cases h
    · cases h
  · rintro ⟨a, b, c, d'⟩
    rw [if_pos a, if_pos b, if_pos c, if_pos d']
/-- what RuleText answers -/
def ruleTextA (nm lt : List UInt8) (fr tto mo k d n at' by' sv : Int) : Ending :=
  if ruleC nm lt fr tto mo k d n at' by' sv = 0 then strInt (S (ruleL nm lt fr tto mo k d n at' by' sv)) 0 else strInt (S []) (ruleC nm lt fr tto mo k d n at' by' sv)

set_option maxHeartbeats 1000000 in
theorem rruleText_bad (nm : ByteArray) (fr tto mo k d n at' by' sv : Int) (lt : ByteArray) (w : World) (hn : nm.size ≤ maxLen) (ht : lt.size ≤ maxLen) (h : ¬ ruleC nm.toList lt.toList fr tto mo k d n at' by' sv = 0) :
    Calls Tryz.prog 29 #[ruleV nm fr tto mo k d n at' by' sv lt] w fun e w' => e = strInt (S []) (ruleC nm.toList lt.toList fr tto mo k d n at' by' sv) ∧ Gr w w' := by
  have R0 := Lib.hid (RuleAt.new w 56 nm fr tto mo k d n at' by' sv lt)
  have KC := Lib.hid (fun w => rruleCheck nm fr tto mo k d n at' by' sv lt w hn ht)
  generalize ruleC nm.toList lt.toList fr tto mo k d n at' by' sv = c at KC h ⊢
  have t := bneT h
  clear hn ht h
  go_enter Tryz.func29, Tryz.ntmps29
  go_wp2_with fail
  generalize w.alloc (.cells #[.string nm, .int .i64 fr, .int .i64 tto, .int .i64 mo, .int .i64 k, .int .i64 d, .int .i64 n, .int .i64 at', .int .i64 by', .int .i64 sv, .string lt] 56) = w0 at R0 ⊢
  generalize w.heap.size = b at R0 ⊢
  refine (KC.out w0).mono ?_
  rintro e w1 ⟨rfl, g1⟩
  go_wp2_with fail
  go_ret2
  exact ⟨rfl, R0.out.2.2.2.2.2.2.2.2.2.2.2.trans g1⟩
theorem rruleText (nm : ByteArray) (fr tto mo k d n at' by' sv : Int) (lt : ByteArray) (w : World) (hn : nm.size ≤ maxLen) (ht : lt.size ≤ maxLen) :
    Calls Tryz.prog 29 #[ruleV nm fr tto mo k d n at' by' sv lt] w fun e w' => e = ruleTextA nm.toList lt.toList fr tto mo k d n at' by' sv ∧ Gr w w' := by
  unfold ruleTextA
  by_cases h : ruleC nm.toList lt.toList fr tto mo k d n at' by' sv = 0
  · rw [if_pos h]
    obtain ⟨a, b, c, d'⟩ := ruleC_zero.1 h
    have := rruleText_yes nm.toList fr tto mo k d n at' by' sv lt.toList w a b c d'
    rw [← S_of nm, ← S_of lt] at this
    exact this
  · rw [if_neg h]
    exact rruleText_bad nm fr tto mo k d n at' by' sv lt w hn ht h
end Go.Proofs.YtmemgpmijphkmaaGreatDoor
namespace Go.Proofs.YtmemgpmijphkmaaGreatDoor
set_option linter.unusedVariables false
set_option linter.unusedSimpArgs false
open Go.RowKit
theorem Gr.frozen {w w' : World} (h : Gr w w') {b o : Nat} (hb : b < w.heap.size) : w'.frozen? ⟨b, o, none⟩ = w.frozen? ⟨b, o, none⟩ := Below.frozen (p := ⟨b, o, none⟩) h hb
/-- no day that stands before this one in the order of the search has this text -/
def NM (l : List UInt8) (k d n : Int) : Prop := ∀ k' d' n', DayOk k' d' n' → dayL k' d' n' = l → ¬ (k' < k ∨ k' = k ∧ (d' < d ∨ d' = d ∧ n' < n))
theorem NM.step {l : List UInt8} {k d n : Int} (h : NM l k d n) (hn : ¬ (DayOk k d n ∧ dayL k d n = l)) : NM l k d (n + 1) := fun k' d' n' ho hl hh => by
  by_cases e : k' = k ∧ d' = d ∧ n' = n
  · obtain ⟨rfl, rfl, rfl⟩ := e
    exact hn ⟨ho, hl⟩
  · exact h k' d' n' ho hl (by omega)
theorem NM.none {l : List UInt8} (h : NM l 5 0 0) : ¬ ∃ k d n, DayOk k d n ∧ dayL k d n = l := fun ⟨k, d, n, ho, hl⟩ => h k d n ho hl (by have := ho.1; omega)

/-- the result's own block -/
def ResAt (w wr : World) (b : Nat) : Prop := Gr w wr ∧ w.heap.size ≤ b ∧ b < wr.heap.size ∧ (∀ i, i < 3 → wr.cell? ⟨b, i, none⟩ = some (.int .i64 0)) ∧ ∀ i, i < 3 → wr.frozen? ⟨b, i, none⟩ = false
theorem ResAt.grow {w wr w' : World} {b : Nat} (h : ResAt w wr b) (hg : Gr wr w') : ResAt w w' b :=
  ⟨h.1.trans hg, h.2.1, Nat.lt_of_lt_of_le h.2.2.1 hg.size, fun i hi => (hg.cell h.2.2.1).trans (h.2.2.2.1 i hi), fun i hi => (hg.frozen h.2.2.1).trans (h.2.2.2.2 i hi)⟩

theorem ResAt.set {w wr : World} {b : Nat} (h : ResAt w wr b) (x y z : Value) : Gr w (((wr.setCell ⟨b, 0, none⟩ x).setCell ⟨b, 1, none⟩ y).setCell ⟨b, 2, none⟩ z) :=
  Below.setCell (Below.setCell (Below.setCell h.1 h.2.1 _) h.2.1 _) h.2.1 _

end Go.Proofs.YtmemgpmijphkmaaGreatDoor
