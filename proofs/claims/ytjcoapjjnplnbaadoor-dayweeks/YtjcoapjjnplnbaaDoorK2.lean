/- What the project's function number returns, and the test of a part of a duration. -/
import Derived.Test.YtjcoapjjnplnbaaDoorT1
import Derived.Test.YtjcoapjjnplnbaaDoorB0
import Derived.Deep.QuietTactic
import Derived.BigQuiet
namespace Go.Proofs.YtjcoapjjnplnbaaDoor
set_option linter.unusedVariables false
set_option linter.unusedSimpArgs false
open Go.RowKit

theorem toList_len (s : ByteArray) : s.toList.length = s.size := by rw [ByteArray.toList_eq]; exact Array.length_toList
/-- a text of one to four digits -/
def okN (l : List UInt8) : Prop := 1 ≤ l.length ∧ l.length ≤ 4 ∧ ∀ j, j < l.length → 48 ≤ bt l j ∧ bt l j ≤ 57
open Classical in
/-- the number that it tells; 0 of another text -/
noncomputable def nv (l : List UInt8) : Int := if okN l then numv l 0 l.length else 0
open Classical in
noncomputable def nok (l : List UInt8) : Bool := decide (okN l)
theorem nv_yes {l : List UInt8} (h : okN l) : nv l = numv l 0 l.length := by unfold nv; rw [if_pos h]
theorem nv_no {l : List UInt8} (h : ¬ okN l) : nv l = 0 := by unfold nv; rw [if_neg h]
theorem nok_yes {l : List UInt8} (h : okN l) : nok l = true := by unfold nok; simp [h]
theorem nok_no {l : List UInt8} (h : ¬ okN l) : nok l = false := by unfold nok; simp [h]
theorem nv_bd (l : List UInt8) : 0 ≤ nv l ∧ nv l ≤ 9999 := by
  by_cases h : okN l
  · rw [nv_yes h]
    have b := numv_bd l 0 l.length (fun j hj => by simpa using h.2.2 j hj) l.length (Nat.le_refl _)
    have p : (10 : Int) ^ l.length ≤ 10000 := by
      have : l.length = 1 ∨ l.length = 2 ∨ l.length = 3 ∨ l.length = 4 := by have := h.1; have := h.2.1; omega
      rcases this with e | e | e | e <;> rw [e] <;> decide
    omega
  · rw [nv_no h]; omega
/-- a number and whether there is one -/
abbrev numB (a : Int) (b : Bool) : Ending := .returned (.tuple #[.int .i64 a, .bool b])
theorem numB_yes {l : List UInt8} (h : okN l) : numB (numv l 0 l.length) true = numB (nv l) (nok l) := by rw [nv_yes h, nok_yes h]
theorem numB_no {l : List UInt8} (h : ¬ okN l) : numB 0 false = numB (nv l) (nok l) := by rw [nv_no h, nok_no h]
theorem all_succ2 {p : Nat → Prop} {k : Nat} (h : ∀ j, j < k → p j) (hk : p k) : ∀ j, j < k + 1 → p j := fun j hj => by
  by_cases e : j = k
  · rw [e]; exact hk
  · exact h j (by omega)
end Go.Proofs.YtjcoapjjnplnbaaDoor
