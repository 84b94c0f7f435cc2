/- What the reference's RuleText returns, for every rule. -/
import Derived.Test.YteljpjhjoclkfaaGreatDoorF3
namespace Go.Proofs.YteljpjhjoclkfaaGreatDoor
set_option linter.unusedVariables false
set_option linter.unusedSimpArgs false
open Go.RowKit

theorem ruleC_zero {nm lt : List UInt8} {fr to mo k d n at' by' sv : Int} : ruleC nm lt fr to mo k d n at' by' sv = 0 ↔ RuleSyn nm lt ∧ RuleNum fr to mo ∧ DayOk k d n ∧ RuleRest mo n at' by' sv := by
  unfold ruleC
  constructor
  · intro h
    split at h
    · split at h
      · split at h
        · split at h
          · rename_i a b c d'; exact ⟨a, b, c, d'⟩
          · cases h
        · cases h
      · cases h
    · cases h
  · rintro ⟨a, b, c, d'⟩
    rw [if_pos a, if_pos b, if_pos c, if_pos d']
/-- what RuleText answers -/
def ruleTextA (nm lt : List UInt8) (fr to mo k d n at' by' sv : Int) : Ending :=
  if ruleC nm lt fr to mo k d n at' by' sv = 0 then strInt (S (ruleL nm lt fr to mo k d n at' by' sv)) 0 else strInt (S []) (ruleC nm lt fr to mo k d n at' by' sv)
end Go.Proofs.YteljpjhjoclkfaaGreatDoor
