/- Timestamps as texts, place by place and as a whole: the two ways tto say 'this text is a timestamp' are one. No program in it. What Check of package book answers for a book; the text of a time. No function of the program in it. -/
import Derived.Test.YtkkilmmpmiichaaGreatDoorYM13
import Derived.Test.YtkkilmmpmiichaaGreatDoorYM11
import Derived.Test.YtkkilmmpmiichaaGreatDoorYM12
namespace Go.Proofs.YtkkilmmpmiichaaGreatDoor
set_option linter.unusedVariables false
set_option linter.unusedSimpArgs false
theorem u_eq {c : UInt8} {n : Int} (h : n = (c.toNat : Int)) : u n = c := by subst h; unfold u; simp
theorem len19 (l : List UInt8) (h : l.length = 19) : ∃ c0 c1 c2 c3 c4 c5 c6 c7 c8 c9 c10 c11 c12 c13 c14 c15 c16 c17 c18 : UInt8, l = [c0, c1, c2, c3, c4, c5, c6, c7, c8, c9, c10, c11, c12, c13, c14, c15, c16, c17, c18] := by
  match l, h with
  | [c0, c1, c2, c3, c4, c5, c6, c7, c8, c9, c10, c11, c12, c13, c14, c15, c16, c17, c18], _ => exact ⟨c0, c1, c2, c3, c4, c5, c6, c7, c8, c9, c10, c11, c12, c13, c14, c15, c16, c17, c18, rfl⟩
theorem num4 (c0 c1 c2 c3 c4 c5 c6 c7 c8 c9 c10 c11 c12 c13 c14 c15 c16 c17 c18 : UInt8) : numv [c0, c1, c2, c3, c4, c5, c6, c7, c8, c9, c10, c11, c12, c13, c14, c15, c16, c17, c18] 0 4 = 1000 * ((c0.toNat : Int) - 48) + 100 * ((c1.toNat : Int) - 48) + 10 * ((c2.toNat : Int) - 48) + ((c3.toNat : Int) - 48) := by
  simp [numv, bt]; omega
theorem num2_5 (c0 c1 c2 c3 c4 c5 c6 c7 c8 c9 c10 c11 c12 c13 c14 c15 c16 c17 c18 : UInt8) : numv [c0, c1, c2, c3, c4, c5, c6, c7, c8, c9, c10, c11, c12, c13, c14, c15, c16, c17, c18] 5 2 = 10 * ((c5.toNat : Int) - 48) + ((c6.toNat : Int) - 48) := by
  simp [numv, bt]
theorem num2_8 (c0 c1 c2 c3 c4 c5 c6 c7 c8 c9 c10 c11 c12 c13 c14 c15 c16 c17 c18 : UInt8) : numv [c0, c1, c2, c3, c4, c5, c6, c7, c8, c9, c10, c11, c12, c13, c14, c15, c16, c17, c18] 8 2 = 10 * ((c8.toNat : Int) - 48) + ((c9.toNat : Int) - 48) := by
  simp [numv, bt]
theorem num2_11 (c0 c1 c2 c3 c4 c5 c6 c7 c8 c9 c10 c11 c12 c13 c14 c15 c16 c17 c18 : UInt8) : numv [c0, c1, c2, c3, c4, c5, c6, c7, c8, c9, c10, c11, c12, c13, c14, c15, c16, c17, c18] 11 2 = 10 * ((c11.toNat : Int) - 48) + ((c12.toNat : Int) - 48) := by
  simp [numv, bt]
theorem num2_14 (c0 c1 c2 c3 c4 c5 c6 c7 c8 c9 c10 c11 c12 c13 c14 c15 c16 c17 c18 : UInt8) : numv [c0, c1, c2, c3, c4, c5, c6, c7, c8, c9, c10, c11, c12, c13, c14, c15, c16, c17, c18] 14 2 = 10 * ((c14.toNat : Int) - 48) + ((c15.toNat : Int) - 48) := by
  simp [numv, bt]
theorem num2_17 (c0 c1 c2 c3 c4 c5 c6 c7 c8 c9 c10 c11 c12 c13 c14 c15 c16 c17 c18 : UInt8) : numv [c0, c1, c2, c3, c4, c5, c6, c7, c8, c9, c10, c11, c12, c13, c14, c15, c16, c17, c18] 17 2 = 10 * ((c17.toNat : Int) - 48) + ((c18.toNat : Int) - 48) := by
  simp [numv, bt]
theorem at0 (c0 c1 c2 c3 c4 c5 c6 c7 c8 c9 c10 c11 c12 c13 c14 c15 c16 c17 c18 : UInt8) : fits [c0, c1, c2, c3, c4, c5, c6, c7, c8, c9, c10, c11, c12, c13, c14, c15, c16, c17, c18] 0 ↔ (48 ≤ (c0.toNat : Int) ∧ (c0.toNat : Int) ≤ 57) := by simp [fits, bt, stampForm]
theorem at1 (c0 c1 c2 c3 c4 c5 c6 c7 c8 c9 c10 c11 c12 c13 c14 c15 c16 c17 c18 : UInt8) : fits [c0, c1, c2, c3, c4, c5, c6, c7, c8, c9, c10, c11, c12, c13, c14, c15, c16, c17, c18] 1 ↔ (48 ≤ (c1.toNat : Int) ∧ (c1.toNat : Int) ≤ 57) := by simp [fits, bt, stampForm]
theorem at2 (c0 c1 c2 c3 c4 c5 c6 c7 c8 c9 c10 c11 c12 c13 c14 c15 c16 c17 c18 : UInt8) : fits [c0, c1, c2, c3, c4, c5, c6, c7, c8, c9, c10, c11, c12, c13, c14, c15, c16, c17, c18] 2 ↔ (48 ≤ (c2.toNat : Int) ∧ (c2.toNat : Int) ≤ 57) := by simp [fits, bt, stampForm]
theorem at3 (c0 c1 c2 c3 c4 c5 c6 c7 c8 c9 c10 c11 c12 c13 c14 c15 c16 c17 c18 : UInt8) : fits [c0, c1, c2, c3, c4, c5, c6, c7, c8, c9, c10, c11, c12, c13, c14, c15, c16, c17, c18] 3 ↔ (48 ≤ (c3.toNat : Int) ∧ (c3.toNat : Int) ≤ 57) := by simp [fits, bt, stampForm]
theorem at4 (c0 c1 c2 c3 c4 c5 c6 c7 c8 c9 c10 c11 c12 c13 c14 c15 c16 c17 c18 : UInt8) : fits [c0, c1, c2, c3, c4, c5, c6, c7, c8, c9, c10, c11, c12, c13, c14, c15, c16, c17, c18] 4 ↔ (c4.toNat : Int) = 45 := by simp [fits, bt, stampForm]
theorem at5 (c0 c1 c2 c3 c4 c5 c6 c7 c8 c9 c10 c11 c12 c13 c14 c15 c16 c17 c18 : UInt8) : fits [c0, c1, c2, c3, c4, c5, c6, c7, c8, c9, c10, c11, c12, c13, c14, c15, c16, c17, c18] 5 ↔ (48 ≤ (c5.toNat : Int) ∧ (c5.toNat : Int) ≤ 57) := by simp [fits, bt, stampForm]
theorem at6 (c0 c1 c2 c3 c4 c5 c6 c7 c8 c9 c10 c11 c12 c13 c14 c15 c16 c17 c18 : UInt8) : fits [c0, c1, c2, c3, c4, c5, c6, c7, c8, c9, c10, c11, c12, c13, c14, c15, c16, c17, c18] 6 ↔ (48 ≤ (c6.toNat : Int) ∧ (c6.toNat : Int) ≤ 57) := by simp [fits, bt, stampForm]
theorem at7 (c0 c1 c2 c3 c4 c5 c6 c7 c8 c9 c10 c11 c12 c13 c14 c15 c16 c17 c18 : UInt8) : fits [c0, c1, c2, c3, c4, c5, c6, c7, c8, c9, c10, c11, c12, c13, c14, c15, c16, c17, c18] 7 ↔ (c7.toNat : Int) = 45 := by simp [fits, bt, stampForm]
theorem at8 (c0 c1 c2 c3 c4 c5 c6 c7 c8 c9 c10 c11 c12 c13 c14 c15 c16 c17 c18 : UInt8) : fits [c0, c1, c2, c3, c4, c5, c6, c7, c8, c9, c10, c11, c12, c13, c14, c15, c16, c17, c18] 8 ↔ (48 ≤ (c8.toNat : Int) ∧ (c8.toNat : Int) ≤ 57) := by simp [fits, bt, stampForm]
theorem at9 (c0 c1 c2 c3 c4 c5 c6 c7 c8 c9 c10 c11 c12 c13 c14 c15 c16 c17 c18 : UInt8) : fits [c0, c1, c2, c3, c4, c5, c6, c7, c8, c9, c10, c11, c12, c13, c14, c15, c16, c17, c18] 9 ↔ (48 ≤ (c9.toNat : Int) ∧ (c9.toNat : Int) ≤ 57) := by simp [fits, bt, stampForm]
theorem at10 (c0 c1 c2 c3 c4 c5 c6 c7 c8 c9 c10 c11 c12 c13 c14 c15 c16 c17 c18 : UInt8) : fits [c0, c1, c2, c3, c4, c5, c6, c7, c8, c9, c10, c11, c12, c13, c14, c15, c16, c17, c18] 10 ↔ (c10.toNat : Int) = 84 := by simp [fits, bt, stampForm]
theorem at11 (c0 c1 c2 c3 c4 c5 c6 c7 c8 c9 c10 c11 c12 c13 c14 c15 c16 c17 c18 : UInt8) : fits [c0, c1, c2, c3, c4, c5, c6, c7, c8, c9, c10, c11, c12, c13, c14, c15, c16, c17, c18] 11 ↔ (48 ≤ (c11.toNat : Int) ∧ (c11.toNat : Int) ≤ 57) := by simp [fits, bt, stampForm]
theorem at12 (c0 c1 c2 c3 c4 c5 c6 c7 c8 c9 c10 c11 c12 c13 c14 c15 c16 c17 c18 : UInt8) : fits [c0, c1, c2, c3, c4, c5, c6, c7, c8, c9, c10, c11, c12, c13, c14, c15, c16, c17, c18] 12 ↔ (48 ≤ (c12.toNat : Int) ∧ (c12.toNat : Int) ≤ 57) := by simp [fits, bt, stampForm]
theorem at13 (c0 c1 c2 c3 c4 c5 c6 c7 c8 c9 c10 c11 c12 c13 c14 c15 c16 c17 c18 : UInt8) : fits [c0, c1, c2, c3, c4, c5, c6, c7, c8, c9, c10, c11, c12, c13, c14, c15, c16, c17, c18] 13 ↔ (c13.toNat : Int) = 58 := by simp [fits, bt, stampForm]
theorem at14 (c0 c1 c2 c3 c4 c5 c6 c7 c8 c9 c10 c11 c12 c13 c14 c15 c16 c17 c18 : UInt8) : fits [c0, c1, c2, c3, c4, c5, c6, c7, c8, c9, c10, c11, c12, c13, c14, c15, c16, c17, c18] 14 ↔ (48 ≤ (c14.toNat : Int) ∧ (c14.toNat : Int) ≤ 57) := by simp [fits, bt, stampForm]
theorem at15 (c0 c1 c2 c3 c4 c5 c6 c7 c8 c9 c10 c11 c12 c13 c14 c15 c16 c17 c18 : UInt8) : fits [c0, c1, c2, c3, c4, c5, c6, c7, c8, c9, c10, c11, c12, c13, c14, c15, c16, c17, c18] 15 ↔ (48 ≤ (c15.toNat : Int) ∧ (c15.toNat : Int) ≤ 57) := by simp [fits, bt, stampForm]
theorem at16 (c0 c1 c2 c3 c4 c5 c6 c7 c8 c9 c10 c11 c12 c13 c14 c15 c16 c17 c18 : UInt8) : fits [c0, c1, c2, c3, c4, c5, c6, c7, c8, c9, c10, c11, c12, c13, c14, c15, c16, c17, c18] 16 ↔ (c16.toNat : Int) = 58 := by simp [fits, bt, stampForm]
theorem at17 (c0 c1 c2 c3 c4 c5 c6 c7 c8 c9 c10 c11 c12 c13 c14 c15 c16 c17 c18 : UInt8) : fits [c0, c1, c2, c3, c4, c5, c6, c7, c8, c9, c10, c11, c12, c13, c14, c15, c16, c17, c18] 17 ↔ (48 ≤ (c17.toNat : Int) ∧ (c17.toNat : Int) ≤ 57) := by simp [fits, bt, stampForm]
theorem at18 (c0 c1 c2 c3 c4 c5 c6 c7 c8 c9 c10 c11 c12 c13 c14 c15 c16 c17 c18 : UInt8) : fits [c0, c1, c2, c3, c4, c5, c6, c7, c8, c9, c10, c11, c12, c13, c14, c15, c16, c17, c18] 18 ↔ (48 ≤ (c18.toNat : Int) ∧ (c18.toNat : Int) ≤ 57) := by simp [fits, bt, stampForm]

/-- all places of an explicit text -/
def Fit19 (c0 c1 c2 c3 c4 c5 c6 c7 c8 c9 c10 c11 c12 c13 c14 c15 c16 c17 c18 : UInt8) : Prop := (48 ≤ (c0.toNat : Int) ∧ (c0.toNat : Int) ≤ 57) ∧ (48 ≤ (c1.toNat : Int) ∧ (c1.toNat : Int) ≤ 57) ∧ (48 ≤ (c2.toNat : Int) ∧ (c2.toNat : Int) ≤ 57) ∧ (48 ≤ (c3.toNat : Int) ∧ (c3.toNat : Int) ≤ 57) ∧ (c4.toNat : Int) = 45 ∧ (48 ≤ (c5.toNat : Int) ∧ (c5.toNat : Int) ≤ 57) ∧ (48 ≤ (c6.toNat : Int) ∧ (c6.toNat : Int) ≤ 57) ∧ (c7.toNat : Int) = 45 ∧ (48 ≤ (c8.toNat : Int) ∧ (c8.toNat : Int) ≤ 57) ∧ (48 ≤ (c9.toNat : Int) ∧ (c9.toNat : Int) ≤ 57) ∧ (c10.toNat : Int) = 84 ∧ (48 ≤ (c11.toNat : Int) ∧ (c11.toNat : Int) ≤ 57) ∧ (48 ≤ (c12.toNat : Int) ∧ (c12.toNat : Int) ≤ 57) ∧ (c13.toNat : Int) = 58 ∧ (48 ≤ (c14.toNat : Int) ∧ (c14.toNat : Int) ≤ 57) ∧ (48 ≤ (c15.toNat : Int) ∧ (c15.toNat : Int) ≤ 57) ∧ (c16.toNat : Int) = 58 ∧ (48 ≤ (c17.toNat : Int) ∧ (c17.toNat : Int) ≤ 57) ∧ (48 ≤ (c18.toNat : Int) ∧ (c18.toNat : Int) ≤ 57)
theorem fit19 (c0 c1 c2 c3 c4 c5 c6 c7 c8 c9 c10 c11 c12 c13 c14 c15 c16 c17 c18 : UInt8) : (∀ j, j < 19 → fits [c0, c1, c2, c3, c4, c5, c6, c7, c8, c9, c10, c11, c12, c13, c14, c15, c16, c17, c18] j) ↔ Fit19 c0 c1 c2 c3 c4 c5 c6 c7 c8 c9 c10 c11 c12 c13 c14 c15 c16 c17 c18 := by
  constructor
  · intro h
    exact ⟨(at0 c0 c1 c2 c3 c4 c5 c6 c7 c8 c9 c10 c11 c12 c13 c14 c15 c16 c17 c18).1 (h 0 (by omega)), (at1 c0 c1 c2 c3 c4 c5 c6 c7 c8 c9 c10 c11 c12 c13 c14 c15 c16 c17 c18).1 (h 1 (by omega)), (at2 c0 c1 c2 c3 c4 c5 c6 c7 c8 c9 c10 c11 c12 c13 c14 c15 c16 c17 c18).1 (h 2 (by omega)), (at3 c0 c1 c2 c3 c4 c5 c6 c7 c8 c9 c10 c11 c12 c13 c14 c15 c16 c17 c18).1 (h 3 (by omega)), (at4 c0 c1 c2 c3 c4 c5 c6 c7 c8 c9 c10 c11 c12 c13 c14 c15 c16 c17 c18).1 (h 4 (by omega)), (at5 c0 c1 c2 c3 c4 c5 c6 c7 c8 c9 c10 c11 c12 c13 c14 c15 c16 c17 c18).1 (h 5 (by omega)), (at6 c0 c1 c2 c3 c4 c5 c6 c7 c8 c9 c10 c11 c12 c13 c14 c15 c16 c17 c18).1 (h 6 (by omega)), (at7 c0 c1 c2 c3 c4 c5 c6 c7 c8 c9 c10 c11 c12 c13 c14 c15 c16 c17 c18).1 (h 7 (by omega)), (at8 c0 c1 c2 c3 c4 c5 c6 c7 c8 c9 c10 c11 c12 c13 c14 c15 c16 c17 c18).1 (h 8 (by omega)), (at9 c0 c1 c2 c3 c4 c5 c6 c7 c8 c9 c10 c11 c12 c13 c14 c15 c16 c17 c18).1 (h 9 (by omega)), (at10 c0 c1 c2 c3 c4 c5 c6 c7 c8 c9 c10 c11 c12 c13 c14 c15 c16 c17 c18).1 (h 10 (by omega)), (at11 c0 c1 c2 c3 c4 c5 c6 c7 c8 c9 c10 c11 c12 c13 c14 c15 c16 c17 c18).1 (h 11 (by omega)), (at12 c0 c1 c2 c3 c4 c5 c6 c7 c8 c9 c10 c11 c12 c13 c14 c15 c16 c17 c18).1 (h 12 (by omega)), (at13 c0 c1 c2 c3 c4 c5 c6 c7 c8 c9 c10 c11 c12 c13 c14 c15 c16 c17 c18).1 (h 13 (by omega)), (at14 c0 c1 c2 c3 c4 c5 c6 c7 c8 c9 c10 c11 c12 c13 c14 c15 c16 c17 c18).1 (h 14 (by omega)), (at15 c0 c1 c2 c3 c4 c5 c6 c7 c8 c9 c10 c11 c12 c13 c14 c15 c16 c17 c18).1 (h 15 (by omega)), (at16 c0 c1 c2 c3 c4 c5 c6 c7 c8 c9 c10 c11 c12 c13 c14 c15 c16 c17 c18).1 (h 16 (by omega)), (at17 c0 c1 c2 c3 c4 c5 c6 c7 c8 c9 c10 c11 c12 c13 c14 c15 c16 c17 c18).1 (h 17 (by omega)), (at18 c0 c1 c2 c3 c4 c5 c6 c7 c8 c9 c10 c11 c12 c13 c14 c15 c16 c17 c18).1 (h 18 (by omega))⟩
  · rintro ⟨h0, h1, h2, h3, h4, h5, h6, h7, h8, h9, h10, h11, h12, h13, h14, h15, h16, h17, h18⟩ j hj
    have hj' : j = 0 ∨ j = 1 ∨ j = 2 ∨ j = 3 ∨ j = 4 ∨ j = 5 ∨ j = 6 ∨ j = 7 ∨ j = 8 ∨ j = 9 ∨ j = 10 ∨ j = 11 ∨ j = 12 ∨ j = 13 ∨ j = 14 ∨ j = 15 ∨ j = 16 ∨ j = 17 ∨ j = 18 := by omega
    rcases hj' with e | e | e | e | e | e | e | e | e | e | e | e | e | e | e | e | e | e | e <;> subst e
    · exact (at0 c0 c1 c2 c3 c4 c5 c6 c7 c8 c9 c10 c11 c12 c13 c14 c15 c16 c17 c18).2 h0
    · exact (at1 c0 c1 c2 c3 c4 c5 c6 c7 c8 c9 c10 c11 c12 c13 c14 c15 c16 c17 c18).2 h1
    · exact (at2 c0 c1 c2 c3 c4 c5 c6 c7 c8 c9 c10 c11 c12 c13 c14 c15 c16 c17 c18).2 h2
    · exact (at3 c0 c1 c2 c3 c4 c5 c6 c7 c8 c9 c10 c11 c12 c13 c14 c15 c16 c17 c18).2 h3
    · exact (at4 c0 c1 c2 c3 c4 c5 c6 c7 c8 c9 c10 c11 c12 c13 c14 c15 c16 c17 c18).2 h4
    · exact (at5 c0 c1 c2 c3 c4 c5 c6 c7 c8 c9 c10 c11 c12 c13 c14 c15 c16 c17 c18).2 h5
    · exact (at6 c0 c1 c2 c3 c4 c5 c6 c7 c8 c9 c10 c11 c12 c13 c14 c15 c16 c17 c18).2 h6
    · exact (at7 c0 c1 c2 c3 c4 c5 c6 c7 c8 c9 c10 c11 c12 c13 c14 c15 c16 c17 c18).2 h7
    · exact (at8 c0 c1 c2 c3 c4 c5 c6 c7 c8 c9 c10 c11 c12 c13 c14 c15 c16 c17 c18).2 h8
    · exact (at9 c0 c1 c2 c3 c4 c5 c6 c7 c8 c9 c10 c11 c12 c13 c14 c15 c16 c17 c18).2 h9
    · exact (at10 c0 c1 c2 c3 c4 c5 c6 c7 c8 c9 c10 c11 c12 c13 c14 c15 c16 c17 c18).2 h10
    · exact (at11 c0 c1 c2 c3 c4 c5 c6 c7 c8 c9 c10 c11 c12 c13 c14 c15 c16 c17 c18).2 h11
    · exact (at12 c0 c1 c2 c3 c4 c5 c6 c7 c8 c9 c10 c11 c12 c13 c14 c15 c16 c17 c18).2 h12
    · exact (at13 c0 c1 c2 c3 c4 c5 c6 c7 c8 c9 c10 c11 c12 c13 c14 c15 c16 c17 c18).2 h13
    · exact (at14 c0 c1 c2 c3 c4 c5 c6 c7 c8 c9 c10 c11 c12 c13 c14 c15 c16 c17 c18).2 h14
    · exact (at15 c0 c1 c2 c3 c4 c5 c6 c7 c8 c9 c10 c11 c12 c13 c14 c15 c16 c17 c18).2 h15
    · exact (at16 c0 c1 c2 c3 c4 c5 c6 c7 c8 c9 c10 c11 c12 c13 c14 c15 c16 c17 c18).2 h16
    · exact (at17 c0 c1 c2 c3 c4 c5 c6 c7 c8 c9 c10 c11 c12 c13 c14 c15 c16 c17 c18).2 h17
    · exact (at18 c0 c1 c2 c3 c4 c5 c6 c7 c8 c9 c10 c11 c12 c13 c14 c15 c16 c17 c18).2 h18

theorem stamped_to (l : List UInt8) (h : Stamped l) : ∃ y m d r : Int, Cal.Valid y m d ∧ 0 ≤ r ∧ r < 86400 ∧ l = stampL y m d r ∧ stampV l = 86400 * Cal.days y m d + r := by
  obtain ⟨hl, hf, hv, hh, hm, hs⟩ := h
  refine ⟨numv l 0 4, numv l 5 2, numv l 8 2, 3600 * numv l 11 2 + 60 * numv l 14 2 + numv l 17 2, hv, ?_⟩
  obtain ⟨c0, c1, c2, c3, c4, c5, c6, c7, c8, c9, c10, c11, c12, c13, c14, c15, c16, c17, c18, rfl⟩ := len19 l hl
  obtain ⟨h0, h1, h2, h3, h4, h5, h6, h7, h8, h9, h10, h11, h12, h13, h14, h15, h16, h17, h18⟩ := (fit19 c0 c1 c2 c3 c4 c5 c6 c7 c8 c9 c10 c11 c12 c13 c14 c15 c16 c17 c18).1 hf
  have e0 := num4 c0 c1 c2 c3 c4 c5 c6 c7 c8 c9 c10 c11 c12 c13 c14 c15 c16 c17 c18
  have e5 := num2_5 c0 c1 c2 c3 c4 c5 c6 c7 c8 c9 c10 c11 c12 c13 c14 c15 c16 c17 c18
  have e8 := num2_8 c0 c1 c2 c3 c4 c5 c6 c7 c8 c9 c10 c11 c12 c13 c14 c15 c16 c17 c18
  have e11 := num2_11 c0 c1 c2 c3 c4 c5 c6 c7 c8 c9 c10 c11 c12 c13 c14 c15 c16 c17 c18
  have e14 := num2_14 c0 c1 c2 c3 c4 c5 c6 c7 c8 c9 c10 c11 c12 c13 c14 c15 c16 c17 c18
  have e17 := num2_17 c0 c1 c2 c3 c4 c5 c6 c7 c8 c9 c10 c11 c12 c13 c14 c15 c16 c17 c18
  unfold stampV
  generalize numv [c0, c1, c2, c3, c4, c5, c6, c7, c8, c9, c10, c11, c12, c13, c14, c15, c16, c17, c18] 0 4 = y at *
  generalize numv [c0, c1, c2, c3, c4, c5, c6, c7, c8, c9, c10, c11, c12, c13, c14, c15, c16, c17, c18] 5 2 = m at *
  generalize numv [c0, c1, c2, c3, c4, c5, c6, c7, c8, c9, c10, c11, c12, c13, c14, c15, c16, c17, c18] 8 2 = d at *
  generalize numv [c0, c1, c2, c3, c4, c5, c6, c7, c8, c9, c10, c11, c12, c13, c14, c15, c16, c17, c18] 11 2 = p at *
  generalize numv [c0, c1, c2, c3, c4, c5, c6, c7, c8, c9, c10, c11, c12, c13, c14, c15, c16, c17, c18] 14 2 = q at *
  generalize numv [c0, c1, c2, c3, c4, c5, c6, c7, c8, c9, c10, c11, c12, c13, c14, c15, c16, c17, c18] 17 2 = x at *
  clear hf hv
  refine ⟨by omega, by omega, ?_, by omega⟩
  have g0 : u (48 + y / 1000) = c0 := u_eq (by omega)
  have g1 : u (48 + y / 100 % 10) = c1 := u_eq (by omega)
  have g2 : u (48 + y / 10 % 10) = c2 := u_eq (by omega)
  have g3 : u (48 + y % 10) = c3 := u_eq (by omega)
  have g4 : (45 : UInt8) = c4 := (u_eq h4.symm)
  have g5 : u (48 + m / 10) = c5 := u_eq (by omega)
  have g6 : u (48 + m % 10) = c6 := u_eq (by omega)
  have g7 : (45 : UInt8) = c7 := (u_eq h7.symm)
  have g8 : u (48 + d / 10) = c8 := u_eq (by omega)
  have g9 : u (48 + d % 10) = c9 := u_eq (by omega)
  have g10 : (84 : UInt8) = c10 := (u_eq h10.symm)
  have g11 : u (48 + (3600 * p + 60 * q + x) / 3600 / 10) = c11 := u_eq (by omega)
  have g12 : u (48 + (3600 * p + 60 * q + x) / 3600 % 10) = c12 := u_eq (by omega)
  have g13 : (58 : UInt8) = c13 := (u_eq h13.symm)
  have g14 : u (48 + (3600 * p + 60 * q + x) / 60 % 60 / 10) = c14 := u_eq (by omega)
  have g15 : u (48 + (3600 * p + 60 * q + x) / 60 % 60 % 10) = c15 := u_eq (by omega)
  have g16 : (58 : UInt8) = c16 := (u_eq h16.symm)
  have g17 : u (48 + (3600 * p + 60 * q + x) % 60 / 10) = c17 := u_eq (by omega)
  have g18 : u (48 + (3600 * p + 60 * q + x) % 60 % 10) = c18 := u_eq (by omega)
  simp only [stampL, d4, d2, g0, g1, g2, g3, ← g4, g5, g6, ← g7, g8, g9, ← g10, g11, g12, ← g13, g14, g15, ← g16, g17, g18, List.cons_append, List.nil_append]

end Go.Proofs.YtkkilmmpmiichaaGreatDoor
namespace Go.Proofs.YtkkilmmpmiichaaGreatDoor
set_option linter.unusedVariables false
set_option linter.unusedSimpArgs false
open Go.RowKit
def svB (n : Int) : Bool := decide (0 ≤ n) && decide (n ≤ 10800)
theorem svB_no {n : Int} : svB n = false ↔ (n < 0 ∨ 10800 < n) := by unfold svB; simp; omega
theorem svB_yes {n : Int} : svB n = true ↔ ¬ (n < 0 ∨ 10800 < n) := by unfold svB; simp
/-- the error of Abbr -/
def abbrC (f : ByteArray) (sv : Int) (lt : ByteArray) : Int := (abbrR f.toList sv lt.toList).2
def dash : ByteArray := ⟨#[45]⟩
/-- the error of a format with the i-th rule, if it has this name -/
def ruA (rs : List RuD) (e : EraD) (i : Nat) : Int := match rs[i]? with
  | some r => if (r.nm.toList == e.ru.toList) = true then abbrC e.fm r.sv r.lt else 0
  | none => 0
theorem ruA_at {rs : List RuD} {e : EraD} {i : Nat} {r : RuD} (h : rs[i]? = some r) : ruA rs e i = if (r.nm.toList == e.ru.toList) = true then abbrC e.fm r.sv r.lt else 0 := by unfold ruA; rw [h]
def rulC (rs : List RuD) (e : EraD) : Int := if hasR rs e.ru = false then 6 else if fe (ruA rs e) rs.length = 0 then abbrC e.fm 0 dash else fe (ruA rs e) rs.length
def eraA (rs : List RuD) (e : EraD) : Int :=
  if e.off < -64800 ∨ 64800 < e.off ∨ svB e.sv = false then 1 else if e.ru.toList = [] then abbrC e.fm e.sv dash else if e.sv ≠ 0 then 5 else rulC rs e
/-- has it a timestamp? -/
def tmB (t : Int) : Bool := decide (-11676096000 ≤ t) && decide (t ≤ 13569465599)
theorem tmB_yes {t : Int} : tmB t = true ↔ (-11676096000 ≤ t ∧ t ≤ 13569465599) := by unfold tmB; simp
theorem tmB_no {t : Int} : tmB t = false ↔ ¬ (-11676096000 ≤ t ∧ t ≤ 13569465599) := by rw [← tmB_yes]; simp
theorem tmB_days {t : Int} : tmB t = true ↔ (-135140 ≤ t / 86400 ∧ t / 86400 ≤ 157053) := by rw [tmB_yes]; omega
/-- of the k-th era: is the one before it not earlier? -/
def befB (es : List EraD) (k : Nat) (u : Int) : Bool := match k with
  | 0 => false
  | j + 1 => match es[j]? with
    | none => false
    | some p => decide (u ≤ p.un)
def untC (es : List EraD) (k : Nat) : Int := match es[k]? with
  | none => 0
  | some e => if k + 1 = es.length then (if e.un = 0 then 0 else 5) else if tmB e.un = false then 1 else if befB es k e.un = true then 5 else 0
theorem untC_at {es : List EraD} {k : Nat} {e : EraD} (h : es[k]? = some e) : untC es k = if k + 1 = es.length then (if e.un = 0 then 0 else 5) else if tmB e.un = false then 1 else if befB es k e.un = true then 5 else 0 := by unfold untC; rw [h]
def eraC (rs : List RuD) (es : List EraD) (k : Nat) : Int := match es[k]? with
  | none => 0
  | some e => if eraA rs e = 0 then untC es k else eraA rs e
theorem eraC_at {rs : List RuD} {es : List EraD} {k : Nat} {e : EraD} (h : es[k]? = some e) : eraC rs es k = if eraA rs e = 0 then untC es k else eraA rs e := by unfold eraC; rw [h]
def zonC (rs : List RuD) (zs : List ZonD) (i : Nat) : Int := match zs[i]? with
  | none => 0
  | some z => if isNameB z.nm.toList = false then 3 else if hasZ (zs.take i) z.nm = true then 7 else if z.eras.length = 0 then 5 else if 700 < z.eras.length then 2 else fe (eraC rs z.eras) z.eras.length
theorem zonC_at {rs : List RuD} {zs : List ZonD} {i : Nat} {z : ZonD} (h : zs[i]? = some z) : zonC rs zs i = if isNameB z.nm.toList = false then 3 else if hasZ (zs.take i) z.nm = true then 7 else if z.eras.length = 0 then 5 else if 700 < z.eras.length then 2 else fe (eraC rs z.eras) z.eras.length := by unfold zonC; rw [h]
def linC (zs : List ZonD) (ls : List LinD) (i : Nat) : Int := match ls[i]? with
  | none => 0
  | some x => if (isNameB x.nm.toList && isNameB x.to'.toList) = false then 3 else if (hasZ zs x.nm || hasL (ls.take i) x.nm) = true then 7 else if (hasZ zs x.to' || hasL ls x.to') = false then 6 else 0
theorem linC_at {zs : List ZonD} {ls : List LinD} {i : Nat} {x : LinD} (h : ls[i]? = some x) : linC zs ls i = if (isNameB x.nm.toList && isNameB x.to'.toList) = false then 3 else if (hasZ zs x.nm || hasL (ls.take i) x.nm) = true then 7 else if (hasZ zs x.to' || hasL ls x.to') = false then 6 else 0 := by unfold linC; rw [h]
def rusC (rs : List RuD) (i : Nat) : Int := match rs[i]? with
  | none => 0
  | some r => r.chk
theorem rusC_at {rs : List RuD} {i : Nat} {r : RuD} (h : rs[i]? = some r) : rusC rs i = r.chk := by unfold rusC; rw [h]
/-- what Check answers -/
def bokC (rs : List RuD) (zs : List ZonD) (ls : List LinD) : Int :=
  if 40 < rs.length ∨ 20 < zs.length ∨ 20 < ls.length then 2
  else if fe (rusC rs) rs.length ≠ 0 then fe (rusC rs) rs.length
  else if fe (zonC rs zs) zs.length ≠ 0 then fe (zonC rs zs) zs.length
  else fe (linC zs ls) ls.length
theorem bokC_big {rs : List RuD} {zs : List ZonD} {ls : List LinD} (h : 40 < rs.length ∨ 20 < zs.length ∨ 20 < ls.length) : bokC rs zs ls = 2 := by unfold bokC; rw [if_pos h]
theorem bokC_rus {rs : List RuD} {zs : List ZonD} {ls : List LinD} (h : ¬ (40 < rs.length ∨ 20 < zs.length ∨ 20 < ls.length)) (g : fe (rusC rs) rs.length ≠ 0) : bokC rs zs ls = fe (rusC rs) rs.length := by unfold bokC; rw [if_neg h, if_pos g]
theorem bokC_zos {rs : List RuD} {zs : List ZonD} {ls : List LinD} (h : ¬ (40 < rs.length ∨ 20 < zs.length ∨ 20 < ls.length)) (g : fe (rusC rs) rs.length = 0) (k : fe (zonC rs zs) zs.length ≠ 0) : bokC rs zs ls = fe (zonC rs zs) zs.length := by unfold bokC; rw [if_neg h, if_neg (by simpa using g), if_pos k]
theorem bokC_lis {rs : List RuD} {zs : List ZonD} {ls : List LinD} (h : ¬ (40 < rs.length ∨ 20 < zs.length ∨ 20 < ls.length)) (g : fe (rusC rs) rs.length = 0) (k : fe (zonC rs zs) zs.length = 0) : bokC rs zs ls = fe (linC zs ls) ls.length := by unfold bokC; rw [if_neg h, if_neg (by simpa using g), if_neg (by simpa using k)]
theorem bokC_ok {rs : List RuD} {zs : List ZonD} {ls : List LinD} : bokC rs zs ls = 0 ↔ ¬ (40 < rs.length ∨ 20 < zs.length ∨ 20 < ls.length) ∧ fe (rusC rs) rs.length = 0 ∧ fe (zonC rs zs) zs.length = 0 ∧ fe (linC zs ls) ls.length = 0 := by
  unfold bokC
  split
  · rename_i h; simp [h]
  · rename_i h
    split
    · rename_i g; simp [g]
    · rename_i g
      split
      · rename_i k; simp [k]
      · rename_i k
        have g' : fe (rusC rs) rs.length = 0 := by simpa using g
        have k' : fe (zonC rs zs) zs.length = 0 := by simpa using k
        simp [h, g', k']
/-- the text of a time -/
theorem has_stamp (t : Int) (h : tmB t = true) : ∃ l : List UInt8, ∃ y m d r : Int, Cal.Valid y m d ∧ 0 ≤ r ∧ r < 86400 ∧ 86400 * Cal.days y m d + r = t ∧ l = stampL y m d r := by
  obtain ⟨h1, h2⟩ := tmB_days.1 h
  obtain ⟨y, m, d, hv, hd⟩ := Cal.has_date h1 h2
  exact ⟨_, y, m, d, t % 86400, hv, by omega, by omega, by omega, rfl⟩
noncomputable def stampT (t : Int) : List UInt8 := if h : tmB t = true then (has_stamp t h).choose else []
theorem stampT_of {t : Int} (h : tmB t = true) : ∃ y m d r : Int, Cal.Valid y m d ∧ 0 ≤ r ∧ r < 86400 ∧ 86400 * Cal.days y m d + r = t ∧ stampT t = stampL y m d r := by
  have := (has_stamp t h).choose_spec
  unfold stampT
  rw [dif_pos h]
  exact this
theorem stampT_no {t : Int} (h : tmB t = false) : stampT t = [] := by unfold stampT; rw [dif_neg (by rw [h]; simp)]
/-- the error of Stamp -/
def tmC (t : Int) : Int := if tmB t = true then 0 else 1
end Go.Proofs.YtkkilmmpmiichaaGreatDoor
