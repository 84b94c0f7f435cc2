/- Numbers as digits: no colon among them, and what they tell. No program in it. -/
import Derived.Test.YtmemgpmijphkmaaGreatDoorWM02
import Derived.Test.YtmemgpmijphkmaaGreatDoorWM06
namespace Go.Proofs.YtmemgpmijphkmaaGreatDoor
set_option linter.unusedVariables false
set_option linter.unusedSimpArgs false
/-- a list of digits that tells a number -/
def Tells (l : List UInt8) (n : Int) : Prop := (∀ j, j < l.length → 48 ≤ bt l j ∧ bt l j ≤ 57) ∧ numv l 0 l.length = n
theorem tells1 {n : Int} (h1 : 0 ≤ n) (h2 : n < 10) : Tells [u (48 + n)] n := by
  have k := u_toNat (n := 48 + n) (by omega) (by omega)
  refine ⟨fun j hj => ?_, ?_⟩
  · obtain rfl : j = 0 := by simpa using hj
    simp only [bt, List.getD_cons_zero]; omega
  · simp [numv, bt]; omega
theorem tells2 {n : Int} (h1 : 0 ≤ n) (h2 : n < 100) : Tells (d2 n) n := by
  have k := u_toNat (n := 48 + n / 10) (by omega) (by omega)
  have k' := u_toNat (n := 48 + n % 10) (by omega) (by omega)
  unfold d2
  refine ⟨fun j hj => ?_, ?_⟩
  · have : j = 0 ∨ j = 1 := by simp at hj; omega
    rcases this with e | e <;> subst e <;> simp [bt] <;> omega
  · simp [numv, bt]; omega
theorem tells3 {n : Int} (h1 : 100 ≤ n) (h2 : n < 1000) : Tells (dz n) n ∧ (dz n).length = 3 := by
  have k := u_toNat (n := 48 + n / 10 / 10) (by omega) (by omega)
  have k' := u_toNat (n := 48 + n / 10 % 10) (by omega) (by omega)
  have k'' := u_toNat (n := 48 + n % 10) (by omega) (by omega)
  have e : dz n = [u (48 + n / 10 / 10), u (48 + n / 10 % 10), u (48 + n % 10)] := by
    rw [dz_big (by omega) (by omega), dz_big (by omega) (by omega), dz_small (by omega) (by omega)]; rfl
  rw [e]
  refine ⟨⟨fun j hj => ?_, ?_⟩, rfl⟩
  · have : j = 0 ∨ j = 1 ∨ j = 2 := by simp at hj; omega
    rcases this with e | e | e <;> subst e <;> simp [bt] <;> omega
  · simp [numv, bt]; omega
theorem tells_dz {n : Int} (h1 : 0 ≤ n) (h2 : n < 1000) : Tells (dz n) n ∧ 1 ≤ (dz n).length ∧ (dz n).length ≤ 3 := by
  by_cases a : n < 10
  · rw [dz_small h1 a]; exact ⟨tells1 h1 a, by simp, by simp⟩
  · by_cases b : n < 100
    · rw [dz_d2 (by omega) b]; exact ⟨tells2 h1 b, by simp [d2], by simp [d2]⟩
    · have := tells3 (n := n) (by omega) h2
      exact ⟨this.1, by omega, by omega⟩
end Go.Proofs.YtmemgpmijphkmaaGreatDoor
