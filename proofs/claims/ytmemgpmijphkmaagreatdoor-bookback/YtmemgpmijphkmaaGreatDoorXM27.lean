/- Timestamps as texts, place by place and as a whole: the two ways tto say 'this text is a timestamp' are one. No program in it. -/
import Derived.Test.YtmemgpmijphkmaaGreatDoorXM26
namespace Go.Proofs.YtmemgpmijphkmaaGreatDoor
set_option linter.unusedVariables false
set_option linter.unusedSimpArgs false
theorem u_eq {c : UInt8} {n : Int} (h : n = (c.toNat : Int)) : u n = c := by subst h; unfold u; simp
theorem len19 (l : List UInt8) (h : l.length = 19) : ∃ c0 c1 c2 c3 c4 c5 c6 c7 c8 c9 c10 c11 c12 c13 c14 c15 c16 c17 c18 : UInt8, l = [c0, c1, c2, c3, c4, c5, c6, c7, c8, c9, c10, c11, c12, c13, c14, c15, c16, c17, c18] := by
  match l, h with
  | [c0, c1, c2, c3, c4, c5, c6, c7, c8, c9, c10, c11, c12, c13, c14, c15, c16, c17, c18], _ => exact ⟨c0, c1, c2, c3, c4, c5, c6, c7, c8, c9, c10, c11, c12, c13, c14, c15, c16, c17, c18, rfl⟩
theorem num4 (c0 c1 c2 c3 c4 c5 c6 c7 c8 c9 c10 c11 c12 c13 c14 c15 c16 c17 c18 : UInt8) : numv [c0, c1, c2, c3, c4, c5, c6, c7, c8, c9, c10, c11, c12, c13, c14, c15, c16, c17, c18] 0 4 = 1000 * ((c0.toNat : Int) - 48) + 100 * ((c1.toNat : Int) - 48) + 10 * ((c2.toNat : Int) - 48) + ((c3.toNat : Int) - 48) := by
  simp [numv, bt]; omega
theorem num2_5 (c0 c1 c2 c3 c4 c5 c6 c7 c8 c9 c10 c11 c12 c13 c14 c15 c16 c17 c18 : UInt8) : numv [c0, c1, c2, c3, c4, c5, c6, c7, c8, c9, c10, c11, c12, c13, c14, c15, c16, c17, c18] 5 2 = 10 * ((c5.toNat : Int) - 48) + ((c6.toNat : Int) - 48) := by
  simp [numv, bt]
theorem num2_8 (c0 c1 c2 c3 c4 c5 c6 c7 c8 c9 c10 c11 c12 c13 c14 c15 c16 c17 c18 : UInt8) : numv [c0, c1, c2, c3, c4, c5, c6, c7, c8, c9, c10, c11, c12, c13, c14, c15, c16, c17, c18] 8 2 = 10 * ((c8.toNat : Int) - 48) + ((c9.toNat : Int) - 48) := by
  simp [numv, bt]
theorem num2_11 (c0 c1 c2 c3 c4 c5 c6 c7 c8 c9 c10 c11 c12 c13 c14 c15 c16 c17 c18 : UInt8) : numv [c0, c1, c2, c3, c4, c5, c6, c7, c8, c9, c10, c11, c12, c13, c14, c15, c16, c17, c18] 11 2 = 10 * ((c11.toNat : Int) - 48) + ((c12.toNat : Int) - 48) := by
  simp [numv, bt]
theorem num2_14 (c0 c1 c2 c3 c4 c5 c6 c7 c8 c9 c10 c11 c12 c13 c14 c15 c16 c17 c18 : UInt8) : numv [c0, c1, c2, c3, c4, c5, c6, c7, c8, c9, c10, c11, c12, c13, c14, c15, c16, c17, c18] 14 2 = 10 * ((c14.toNat : Int) - 48) + ((c15.toNat : Int) - 48) := by
  simp [numv, bt]
theorem num2_17 (c0 c1 c2 c3 c4 c5 c6 c7 c8 c9 c10 c11 c12 c13 c14 c15 c16 c17 c18 : UInt8) : numv [c0, c1, c2, c3, c4, c5, c6, c7, c8, c9, c10, c11, c12, c13, c14, c15, c16, c17, c18] 17 2 = 10 * ((c17.toNat : Int) - 48) + ((c18.toNat : Int) - 48) := by
  simp [numv, bt]
theorem at0 (c0 c1 c2 c3 c4 c5 c6 c7 c8 c9 c10 c11 c12 c13 c14 c15 c16 c17 c18 : UInt8) : fits [c0, c1, c2, c3, c4, c5, c6, c7, c8, c9, c10, c11, c12, c13, c14, c15, c16, c17, c18] 0 ↔ (48 ≤ (c0.toNat : Int) ∧ (c0.toNat : Int) ≤ 57) := by simp [fits, bt, stampForm]
theorem at1 (c0 c1 c2 c3 c4 c5 c6 c7 c8 c9 c10 c11 c12 c13 c14 c15 c16 c17 c18 : UInt8) : fits [c0, c1, c2, c3, c4, c5, c6, c7, c8, c9, c10, c11, c12, c13, c14, c15, c16, c17, c18] 1 ↔ (48 ≤ (c1.toNat : Int) ∧ (c1.toNat : Int) ≤ 57) := by simp [fits, bt, stampForm]
theorem at2 (c0 c1 c2 c3 c4 c5 c6 c7 c8 c9 c10 c11 c12 c13 c14 c15 c16 c17 c18 : UInt8) : fits [c0, c1, c2, c3, c4, c5, c6, c7, c8, c9, c10, c11, c12, c13, c14, c15, c16, c17, c18] 2 ↔ (48 ≤ (c2.toNat : Int) ∧ (c2.toNat : Int) ≤ 57) := by simp [fits, bt, stampForm]
theorem at3 (c0 c1 c2 c3 c4 c5 c6 c7 c8 c9 c10 c11 c12 c13 c14 c15 c16 c17 c18 : UInt8) : fits [c0, c1, c2, c3, c4, c5, c6, c7, c8, c9, c10, c11, c12, c13, c14, c15, c16, c17, c18] 3 ↔ (48 ≤ (c3.toNat : Int) ∧ (c3.toNat : Int) ≤ 57) := by simp [fits, bt, stampForm]
theorem at4 (c0 c1 c2 c3 c4 c5 c6 c7 c8 c9 c10 c11 c12 c13 c14 c15 c16 c17 c18 : UInt8) : fits [c0, c1, c2, c3, c4, c5, c6, c7, c8, c9, c10, c11, c12, c13, c14, c15, c16, c17, c18] 4 ↔ (c4.toNat : Int) = 45 := by simp [fits, bt, stampForm]
theorem at5 (c0 c1 c2 c3 c4 c5 c6 c7 c8 c9 c10 c11 c12 c13 c14 c15 c16 c17 c18 : UInt8) : fits [c0, c1, c2, c3, c4, c5, c6, c7, c8, c9, c10, c11, c12, c13, c14, c15, c16, c17, c18] 5 ↔ (48 ≤ (c5.toNat : Int) ∧ (c5.toNat : Int) ≤ 57) := by simp [fits, bt, stampForm]
theorem at6 (c0 c1 c2 c3 c4 c5 c6 c7 c8 c9 c10 c11 c12 c13 c14 c15 c16 c17 c18 : UInt8) : fits [c0, c1, c2, c3, c4, c5, c6, c7, c8, c9, c10, c11, c12, c13, c14, c15, c16, c17, c18] 6 ↔ (48 ≤ (c6.toNat : Int) ∧ (c6.toNat : Int) ≤ 57) := by simp [fits, bt, stampForm]
theorem at7 (c0 c1 c2 c3 c4 c5 c6 c7 c8 c9 c10 c11 c12 c13 c14 c15 c16 c17 c18 : UInt8) : fits [c0, c1, c2, c3, c4, c5, c6, c7, c8, c9, c10, c11, c12, c13, c14, c15, c16, c17, c18] 7 ↔ (c7.toNat : Int) = 45 := by simp [fits, bt, stampForm]
theorem at8 (c0 c1 c2 c3 c4 c5 c6 c7 c8 c9 c10 c11 c12 c13 c14 c15 c16 c17 c18 : UInt8) : fits [c0, c1, c2, c3, c4, c5, c6, c7, c8, c9, c10, c11, c12, c13, c14, c15, c16, c17, c18] 8 ↔ (48 ≤ (c8.toNat : Int) ∧ (c8.toNat : Int) ≤ 57) := by simp [fits, bt, stampForm]
theorem at9 (c0 c1 c2 c3 c4 c5 c6 c7 c8 c9 c10 c11 c12 c13 c14 c15 c16 c17 c18 : UInt8) : fits [c0, c1, c2, c3, c4, c5, c6, c7, c8, c9, c10, c11, c12, c13, c14, c15, c16, c17, c18] 9 ↔ (48 ≤ (c9.toNat : Int) ∧ (c9.toNat : Int) ≤ 57) := by simp [fits, bt, stampForm]
theorem at10 (c0 c1 c2 c3 c4 c5 c6 c7 c8 c9 c10 c11 c12 c13 c14 c15 c16 c17 c18 : UInt8) : fits [c0, c1, c2, c3, c4, c5, c6, c7, c8, c9, c10, c11, c12, c13, c14, c15, c16, c17, c18] 10 ↔ (c10.toNat : Int) = 84 := by simp [fits, bt, stampForm]
theorem at11 (c0 c1 c2 c3 c4 c5 c6 c7 c8 c9 c10 c11 c12 c13 c14 c15 c16 c17 c18 : UInt8) : fits [c0, c1, c2, c3, c4, c5, c6, c7, c8, c9, c10, c11, c12, c13, c14, c15, c16, c17, c18] 11 ↔ (48 ≤ (c11.toNat : Int) ∧ (c11.toNat : Int) ≤ 57) := by simp [fits, bt, stampForm]
theorem at12 (c0 c1 c2 c3 c4 c5 c6 c7 c8 c9 c10 c11 c12 c13 c14 c15 c16 c17 c18 : UInt8) : fits [c0, c1, c2, c3, c4, c5, c6, c7, c8, c9, c10, c11, c12, c13, c14, c15, c16, c17, c18] 12 ↔ (48 ≤ (c12.toNat : Int) ∧ (c12.toNat : Int) ≤ 57) := by simp [fits, bt, stampForm]
theorem at13 (c0 c1 c2 c3 c4 c5 c6 c7 c8 c9 c10 c11 c12 c13 c14 c15 c16 c17 c18 : UInt8) : fits [c0, c1, c2, c3, c4, c5, c6, c7, c8, c9, c10, c11, c12, c13, c14, c15, c16, c17, c18] 13 ↔ (c13.toNat : Int) = 58 := by simp [fits, bt, stampForm]
theorem at14 (c0 c1 c2 c3 c4 c5 c6 c7 c8 c9 c10 c11 c12 c13 c14 c15 c16 c17 c18 : UInt8) : fits [c0, c1, c2, c3, c4, c5, c6, c7, c8, c9, c10, c11, c12, c13, c14, c15, c16, c17, c18] 14 ↔ (48 ≤ (c14.toNat : Int) ∧ (c14.toNat : Int) ≤ 57) := by simp [fits, bt, stampForm]
theorem at15 (c0 c1 c2 c3 c4 c5 c6 c7 c8 c9 c10 c11 c12 c13 c14 c15 c16 c17 c18 : UInt8) : fits [c0, c1, c2, c3, c4, c5, c6, c7, c8, c9, c10, c11, c12, c13, c14, c15, c16, c17, c18] 15 ↔ (48 ≤ (c15.toNat : Int) ∧ (c15.toNat : Int) ≤ 57) := by simp [fits, bt, stampForm]
theorem at16 (c0 c1 c2 c3 c4 c5 c6 c7 c8 c9 c10 c11 c12 c13 c14 c15 c16 c17 c18 : UInt8) : fits [c0, c1, c2, c3, c4, c5, c6, c7, c8, c9, c10, c11, c12, c13, c14, c15, c16, c17, c18] 16 ↔ (c16.toNat : Int) = 58 := by simp [fits, bt, stampForm]
theorem at17 (c0 c1 c2 c3 c4 c5 c6 c7 c8 c9 c10 c11 c12 c13 c14 c15 c16 c17 c18 : UInt8) : fits [c0, c1, c2, c3, c4, c5, c6, c7, c8, c9, c10, c11, c12, c13, c14, c15, c16, c17, c18] 17 ↔ (48 ≤ (c17.toNat : Int) ∧ (c17.toNat : Int) ≤ 57) := by simp [fits, bt, stampForm]
theorem at18 (c0 c1 c2 c3 c4 c5 c6 c7 c8 c9 c10 c11 c12 c13 c14 c15 c16 c17 c18 : UInt8) : fits [c0, c1, c2, c3, c4, c5, c6, c7, c8, c9, c10, c11, c12, c13, c14, c15, c16, c17, c18] 18 ↔ (48 ≤ (c18.toNat : Int) ∧ (c18.toNat : Int) ≤ 57) := by simp [fits, bt, stampForm]

/-- all places of an explicit text -/
def Fit19 (c0 c1 c2 c3 c4 c5 c6 c7 c8 c9 c10 c11 c12 c13 c14 c15 c16 c17 c18 : UInt8) : Prop := (48 ≤ (c0.toNat : Int) ∧ (c0.toNat : Int) ≤ 57) ∧ (48 ≤ (c1.toNat : Int) ∧ (c1.toNat : Int) ≤ 57) ∧ (48 ≤ (c2.toNat : Int) ∧ (c2.toNat : Int) ≤ 57) ∧ (48 ≤ (c3.toNat : Int) ∧ (c3.toNat : Int) ≤ 57) ∧ (c4.toNat : Int) = 45 ∧ (48 ≤ (c5.toNat : Int) ∧ (c5.toNat : Int) ≤ 57) ∧ (48 ≤ (c6.toNat : Int) ∧ (c6.toNat : Int) ≤ 57) ∧ (c7.toNat : Int) = 45 ∧ (48 ≤ (c8.toNat : Int) ∧ (c8.toNat : Int) ≤ 57) ∧ (48 ≤ (c9.toNat : Int) ∧ (c9.toNat : Int) ≤ 57) ∧ (c10.toNat : Int) = 84 ∧ (48 ≤ (c11.toNat : Int) ∧ (c11.toNat : Int) ≤ 57) ∧ (48 ≤ (c12.toNat : Int) ∧ (c12.toNat : Int) ≤ 57) ∧ (c13.toNat : Int) = 58 ∧ (48 ≤ (c14.toNat : Int) ∧ (c14.toNat : Int) ≤ 57) ∧ (48 ≤ (c15.toNat : Int) ∧ (c15.toNat : Int) ≤ 57) ∧ (c16.toNat : Int) = 58 ∧ (48 ≤ (c17.toNat : Int) ∧ (c17.toNat : Int) ≤ 57) ∧ (48 ≤ (c18.toNat : Int) ∧ (c18.toNat : Int) ≤ 57)
theorem fit19 (c0 c1 c2 c3 c4 c5 c6 c7 c8 c9 c10 c11 c12 c13 c14 c15 c16 c17 c18 : UInt8) : (∀ j, j < 19 → fits [c0, c1, c2, c3, c4, c5, c6, c7, c8, c9, c10, c11, c12, c13, c14, c15, c16, c17, c18] j) ↔ Fit19 c0 c1 c2 c3 c4 c5 c6 c7 c8 c9 c10 c11 c12 c13 c14 c15 c16 c17 c18 := by
  constructor
  · intro h
    exact ⟨(at0 c0 c1 c2 c3 c4 c5 c6 c7 c8 c9 c10 c11 c12 c13 c14 c15 c16 c17 c18).1 (h 0 (by omega)), (at1 c0 c1 c2 c3 c4 c5 c6 c7 c8 c9 c10 c11 c12 c13 c14 c15 c16 c17 c18).1 (h 1 (by omega)), (at2 c0 c1 c2 c3 c4 c5 c6 c7 c8 c9 c10 c11 c12 c13 c14 c15 c16 c17 c18).1 (h 2 (by omega)), (at3 c0 c1 c2 c3 c4 c5 c6 c7 c8 c9 c10 c11 c12 c13 c14 c15 c16 c17 c18).1 (h 3 (by omega)), (at4 c0 c1 c2 c3 c4 c5 c6 c7 c8 c9 c10 c11 c12 c13 c14 c15 c16 c17 c18).1 (h 4 (by omega)), (at5 c0 c1 c2 c3 c4 c5 c6 c7 c8 c9 c10 c11 c12 c13 c14 c15 c16 c17 c18).1 (h 5 (by omega)), (at6 c0 c1 c2 c3 c4 c5 c6 c7 c8 c9 c10 c11 c12 c13 c14 c15 c16 c17 c18).1 (h 6 (by omega)), (at7 c0 c1 c2 c3 c4 c5 c6 c7 c8 c9 c10 c11 c12 c13 c14 c15 c16 c17 c18).1 (h 7 (by omega)), (at8 c0 c1 c2 c3 c4 c5 c6 c7 c8 c9 c10 c11 c12 c13 c14 c15 c16 c17 c18).1 (h 8 (by omega)), (at9 c0 c1 c2 c3 c4 c5 c6 c7 c8 c9 c10 c11 c12 c13 c14 c15 c16 c17 c18).1 (h 9 (by omega)), (at10 c0 c1 c2 c3 c4 c5 c6 c7 c8 c9 c10 c11 c12 c13 c14 c15 c16 c17 c18).1 (h 10 (by omega)), (at11 c0 c1 c2 c3 c4 c5 c6 c7 c8 c9 c10 c11 c12 c13 c14 c15 c16 c17 c18).1 (h 11 (by omega)), (at12 c0 c1 c2 c3 c4 c5 c6 c7 c8 c9 c10 c11 c12 c13 c14 c15 c16 c17 c18).1 (h 12 (by omega)), (at13 c0 c1 c2 c3 c4 c5 c6 c7 c8 c9 c10 c11 c12 c13 c14 c15 c16 c17 c18).1 (h 13 (by omega)), (at14 c0 c1 c2 c3 c4 c5 c6 c7 c8 c9 c10 c11 c12 c13 c14 c15 c16 c17 c18).1 (h 14 (by omega)), (at15 c0 c1 c2 c3 c4 c5 c6 c7 c8 c9 c10 c11 c12 c13 c14 c15 c16 c17 c18).1 (h 15 (by omega)), (at16 c0 c1 c2 c3 c4 c5 c6 c7 c8 c9 c10 c11 c12 c13 c14 c15 c16 c17 c18).1 (h 16 (by omega)), (at17 c0 c1 c2 c3 c4 c5 c6 c7 c8 c9 c10 c11 c12 c13 c14 c15 c16 c17 c18).1 (h 17 (by omega)), (at18 c0 c1 c2 c3 c4 c5 c6 c7 c8 c9 c10 c11 c12 c13 c14 c15 c16 c17 c18).1 (h 18 (by omega))⟩
  · rintro ⟨h0, h1, h2, h3, h4, h5, h6, h7, h8, h9, h10, h11, h12, h13, h14, h15, h16, h17, h18⟩ j hj
    have hj' : j = 0 ∨ j = 1 ∨ j = 2 ∨ j = 3 ∨ j = 4 ∨ j = 5 ∨ j = 6 ∨ j = 7 ∨ j = 8 ∨ j = 9 ∨ j = 10 ∨ j = 11 ∨ j = 12 ∨ j = 13 ∨ j = 14 ∨ j = 15 ∨ j = 16 ∨ j = 17 ∨ j = 18 := by omega
    rcases hj' with e | e | e | e | e | e | e | e | e | e | e | e | e | e | e | e | e | e | e <;> subst e
    · exact (at0 c0 c1 c2 c3 c4 c5 c6 c7 c8 c9 c10 c11 c12 c13 c14 c15 c16 c17 c18).2 h0
    · exact (at1 c0 c1 c2 c3 c4 c5 c6 c7 c8 c9 c10 c11 c12 c13 c14 c15 c16 c17 c18).2 h1
    · exact (at2 c0 c1 c2 c3 c4 c5 c6 c7 c8 c9 c10 c11 c12 c13 c14 c15 c16 c17 c18).2 h2
    · exact (at3 c0 c1 c2 c3 c4 c5 c6 c7 c8 c9 c10 c11 c12 c13 c14 c15 c16 c17 c18).2 h3
    · exact (at4 c0 c1 c2 c3 c4 c5 c6 c7 c8 c9 c10 c11 c12 c13 c14 c15 c16 c17 c18).2 h4
    · exact (at5 c0 c1 c2 c3 c4 c5 c6 c7 c8 c9 c10 c11 c12 c13 c14 c15 c16 c17 c18).2 h5
    · exact (at6 c0 c1 c2 c3 c4 c5 c6 c7 c8 c9 c10 c11 c12 c13 c14 c15 c16 c17 c18).2 h6
    · exact (at7 c0 c1 c2 c3 c4 c5 c6 c7 c8 c9 c10 c11 c12 c13 c14 c15 c16 c17 c18).2 h7
    · exact (at8 c0 c1 c2 c3 c4 c5 c6 c7 c8 c9 c10 c11 c12 c13 c14 c15 c16 c17 c18).2 h8
    · exact (at9 c0 c1 c2 c3 c4 c5 c6 c7 c8 c9 c10 c11 c12 c13 c14 c15 c16 c17 c18).2 h9
    · exact (at10 c0 c1 c2 c3 c4 c5 c6 c7 c8 c9 c10 c11 c12 c13 c14 c15 c16 c17 c18).2 h10
    · exact (at11 c0 c1 c2 c3 c4 c5 c6 c7 c8 c9 c10 c11 c12 c13 c14 c15 c16 c17 c18).2 h11
    · exact (at12 c0 c1 c2 c3 c4 c5 c6 c7 c8 c9 c10 c11 c12 c13 c14 c15 c16 c17 c18).2 h12
    · exact (at13 c0 c1 c2 c3 c4 c5 c6 c7 c8 c9 c10 c11 c12 c13 c14 c15 c16 c17 c18).2 h13
    · exact (at14 c0 c1 c2 c3 c4 c5 c6 c7 c8 c9 c10 c11 c12 c13 c14 c15 c16 c17 c18).2 h14
    · exact (at15 c0 c1 c2 c3 c4 c5 c6 c7 c8 c9 c10 c11 c12 c13 c14 c15 c16 c17 c18).2 h15
    · exact (at16 c0 c1 c2 c3 c4 c5 c6 c7 c8 c9 c10 c11 c12 c13 c14 c15 c16 c17 c18).2 h16
    · exact (at17 c0 c1 c2 c3 c4 c5 c6 c7 c8 c9 c10 c11 c12 c13 c14 c15 c16 c17 c18).2 h17
    · exact (at18 c0 c1 c2 c3 c4 c5 c6 c7 c8 c9 c10 c11 c12 c13 c14 c15 c16 c17 c18).2 h18

theorem stamped_to (l : List UInt8) (h : Stamped l) : ∃ y m d r : Int, Cal.Valid y m d ∧ 0 ≤ r ∧ r < 86400 ∧ l = stampL y m d r ∧ stampV l = 86400 * Cal.days y m d + r := by
  obtain ⟨hl, hf, hv, hh, hm, hs⟩ := h
  refine ⟨numv l 0 4, numv l 5 2, numv l 8 2, 3600 * numv l 11 2 + 60 * numv l 14 2 + numv l 17 2, hv, ?_⟩
  obtain ⟨c0, c1, c2, c3, c4, c5, c6, c7, c8, c9, c10, c11, c12, c13, c14, c15, c16, c17, c18, rfl⟩ := len19 l hl
  obtain ⟨h0, h1, h2, h3, h4, h5, h6, h7, h8, h9, h10, h11, h12, h13, h14, h15, h16, h17, h18⟩ := (fit19 c0 c1 c2 c3 c4 c5 c6 c7 c8 c9 c10 c11 c12 c13 c14 c15 c16 c17 c18).1 hf
  have e0 := num4 c0 c1 c2 c3 c4 c5 c6 c7 c8 c9 c10 c11 c12 c13 c14 c15 c16 c17 c18
  have e5 := num2_5 c0 c1 c2 c3 c4 c5 c6 c7 c8 c9 c10 c11 c12 c13 c14 c15 c16 c17 c18
  have e8 := num2_8 c0 c1 c2 c3 c4 c5 c6 c7 c8 c9 c10 c11 c12 c13 c14 c15 c16 c17 c18
  have e11 := num2_11 c0 c1 c2 c3 c4 c5 c6 c7 c8 c9 c10 c11 c12 c13 c14 c15 c16 c17 c18
  have e14 := num2_14 c0 c1 c2 c3 c4 c5 c6 c7 c8 c9 c10 c11 c12 c13 c14 c15 c16 c17 c18
  have e17 := num2_17 c0 c1 c2 c3 c4 c5 c6 c7 c8 c9 c10 c11 c12 c13 c14 c15 c16 c17 c18
  unfold stampV
  generalize numv [c0, c1, c2, c3, c4, c5, c6, c7, c8, c9, c10, c11, c12, c13, c14, c15, c16, c17, c18] 0 4 = y at *
  generalize numv [c0, c1, c2, c3, c4, c5, c6, c7, c8, c9, c10, c11, c12, c13, c14, c15, c16, c17, c18] 5 2 = m at *
  generalize numv [c0, c1, c2, c3, c4, c5, c6, c7, c8, c9, c10, c11, c12, c13, c14, c15, c16, c17, c18] 8 2 = d at *
  generalize numv [c0, c1, c2, c3, c4, c5, c6, c7, c8, c9, c10, c11, c12, c13, c14, c15, c16, c17, c18] 11 2 = p at *
  generalize numv [c0, c1, c2, c3, c4, c5, c6, c7, c8, c9, c10, c11, c12, c13, c14, c15, c16, c17, c18] 14 2 = q at *
  generalize numv [c0, c1, c2, c3, c4, c5, c6, c7, c8, c9, c10, c11, c12, c13, c14, c15, c16, c17, c18] 17 2 = x at *
  clear hf hv
  refine ⟨by omega, by omega, ?_, by omega⟩
  have g0 : u (48 + y / 1000) = c0 := u_eq (by omega)
  have g1 : u (48 + y / 100 % 10) = c1 := u_eq (by omega)
  have g2 : u (48 + y / 10 % 10) = c2 := u_eq (by omega)
  have g3 : u (48 + y % 10) = c3 := u_eq (by omega)
  have g4 : (45 : UInt8) = c4 := (u_eq h4.symm)
  have g5 : u (48 + m / 10) = c5 := u_eq (by omega)
  have g6 : u (48 + m % 10) = c6 := u_eq (by omega)
  have g7 : (45 : UInt8) = c7 := (u_eq h7.symm)
  have g8 : u (48 + d / 10) = c8 := u_eq (by omega)
  have g9 : u (48 + d % 10) = c9 := u_eq (by omega)
  have g10 : (84 : UInt8) = c10 := (u_eq h10.symm)
  have g11 : u (48 + (3600 * p + 60 * q + x) / 3600 / 10) = c11 := u_eq (by omega)
  have g12 : u (48 + (3600 * p + 60 * q + x) / 3600 % 10) = c12 := u_eq (by omega)
  have g13 : (58 : UInt8) = c13 := (u_eq h13.symm)
  have g14 : u (48 + (3600 * p + 60 * q + x) / 60 % 60 / 10) = c14 := u_eq (by omega)
  have g15 : u (48 + (3600 * p + 60 * q + x) / 60 % 60 % 10) = c15 := u_eq (by omega)
  have g16 : (58 : UInt8) = c16 := (u_eq h16.symm)
  have g17 : u (48 + (3600 * p + 60 * q + x) % 60 / 10) = c17 := u_eq (by omega)
  have g18 : u (48 + (3600 * p + 60 * q + x) % 60 % 10) = c18 := u_eq (by omega)
  simp only [stampL, d4, d2, g0, g1, g2, g3, ← g4, g5, g6, ← g7, g8, g9, ← g10, g11, g12, ← g13, g14, g15, ← g16, g17, g18, List.cons_append, List.nil_append]

theorem stamped_of (y m d r : Int) (hv : Cal.Valid y m d) (h1 : 0 ≤ r) (h2 : r < 86400) : Stamped (stampL y m d r) ∧ stampV (stampL y m d r) = 86400 * Cal.days y m d + r := by
  have v1 := hv.1
  have v2 := hv.2.1
  have v3 := hv.2.2.1
  have v4 := hv.2.2.2.1
  have v5 := hv.2.2.2.2.1
  have v6 : d ≤ 31 := by have := (Cal.ml_bd y v3 v4).2; have := hv.2.2.2.2.2; omega
  have e : stampL y m d r = [u (48 + y / 1000), u (48 + y / 100 % 10), u (48 + y / 10 % 10), u (48 + y % 10), 45, u (48 + m / 10), u (48 + m % 10), 45, u (48 + d / 10), u (48 + d % 10), 84, u (48 + r / 3600 / 10), u (48 + r / 3600 % 10), 58, u (48 + r / 60 % 60 / 10), u (48 + r / 60 % 60 % 10), 58, u (48 + r % 60 / 10), u (48 + r % 60 % 10)] := by
    simp [stampL, d4, d2]
  have k0 := u_toNat (n := 48 + y / 1000) (by omega) (by omega)
  have k1 := u_toNat (n := 48 + y / 100 % 10) (by omega) (by omega)
  have k2 := u_toNat (n := 48 + y / 10 % 10) (by omega) (by omega)
  have k3 := u_toNat (n := 48 + y % 10) (by omega) (by omega)
  have k5 := u_toNat (n := 48 + m / 10) (by omega) (by omega)
  have k6 := u_toNat (n := 48 + m % 10) (by omega) (by omega)
  have k8 := u_toNat (n := 48 + d / 10) (by omega) (by omega)
  have k9 := u_toNat (n := 48 + d % 10) (by omega) (by omega)
  have k11 := u_toNat (n := 48 + r / 3600 / 10) (by omega) (by omega)
  have k12 := u_toNat (n := 48 + r / 3600 % 10) (by omega) (by omega)
  have k14 := u_toNat (n := 48 + r / 60 % 60 / 10) (by omega) (by omega)
  have k15 := u_toNat (n := 48 + r / 60 % 60 % 10) (by omega) (by omega)
  have k17 := u_toNat (n := 48 + r % 60 / 10) (by omega) (by omega)
  have k18 := u_toNat (n := 48 + r % 60 % 10) (by omega) (by omega)
  have n0 : numv (stampL y m d r) 0 4 = y := by rw [e, num4, k0, k1, k2, k3]; omega
  have n5 : numv (stampL y m d r) 5 2 = m := by rw [e, num2_5, k5, k6]; omega
  have n8 : numv (stampL y m d r) 8 2 = d := by rw [e, num2_8, k8, k9]; omega
  have n11 : numv (stampL y m d r) 11 2 = r / 3600 := by rw [e, num2_11, k11, k12]; omega
  have n14 : numv (stampL y m d r) 14 2 = r / 60 % 60 := by rw [e, num2_14, k14, k15]; omega
  have n17 : numv (stampL y m d r) 17 2 = r % 60 := by rw [e, num2_17, k17, k18]; omega
  refine ⟨⟨by rw [e]; rfl, ?_, by rw [n0, n5, n8]; exact hv, by rw [n11]; omega, by rw [n14]; omega, by rw [n17]; omega⟩, by unfold stampV; rw [n0, n5, n8, n11, n14, n17]; omega⟩
  rw [e, fit19]
  unfold Fit19
  rw [k0, k1, k2, k3, k5, k6, k8, k9, k11, k12, k14, k15, k17, k18]
  clear e n0 n5 n8 n11 n14 n17 k0 k1 k2 k3 k5 k6 k8 k9 k11 k12 k14 k15 k17 k18
  refine ⟨⟨by omega, by omega⟩, ⟨by omega, by omega⟩, ⟨by omega, by omega⟩, ⟨by omega, by omega⟩, rfl, ⟨by omega, by omega⟩, ⟨by omega, by omega⟩, rfl, ⟨by omega, by omega⟩, ⟨by omega, by omega⟩, rfl, ⟨by omega, by omega⟩, ⟨by omega, by omega⟩, rfl, ⟨by omega, by omega⟩, ⟨by omega, by omega⟩, rfl, ⟨by omega, by omega⟩, ⟨by omega, by omega⟩⟩
end Go.Proofs.YtmemgpmijphkmaaGreatDoor
