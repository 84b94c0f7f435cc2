/- What the reference's RuleText returns, for every rule. -/
import Derived.Test.YteljpjhjoclkfaaDoorF3
namespace Go.Proofs.YteljpjhjoclkfaaDoor
set_option linter.unusedVariables false
set_option linter.unusedSimpArgs false
open Go.RowKit

theorem ruleC_zero {nm lt : List UInt8} {fr to mo k d n at' by' sv : Int} : ruleC nm lt fr to mo k d n at' by' sv = 0 ↔ RuleSyn nm lt ∧ RuleNum fr to mo ∧ DayOk k d n ∧ RuleRest mo n at' by' sv := by
  unfold ruleC
  constructor
  · intro h
    split at h
    · split at h
      · split at h
        · split at h
          · rename_i a b c d'; exact ⟨a, b, c, d'⟩
          · cases h
        · cases h
      · cases h
    · cases h
  · rintro ⟨a, b, c, d'⟩
    rw [if_pos a, if_pos b, if_pos c, if_pos d']
/-- what RuleText answers -/
def ruleTextA (nm lt : List UInt8) (fr to mo k d n at' by' sv : Int) : Ending :=
  if ruleC nm lt fr to mo k d n at' by' sv = 0 then strInt (S (ruleL nm lt fr to mo k d n at' by' sv)) 0 else strInt (S []) (ruleC nm lt fr to mo k d n at' by' sv)

set_option maxHeartbeats 1000000 in
theorem rruleText_bad (nm : ByteArray) (fr to mo k d n at' by' sv : Int) (lt : ByteArray) (w : World) (hn : nm.size ≤ maxLen) (ht : lt.size ≤ maxLen) (h : ¬ ruleC nm.toList lt.toList fr to mo k d n at' by' sv = 0) :
    Calls Tryd.prog 12 #[ruleV nm fr to mo k d n at' by' sv lt] w fun e w' => e = strInt (S []) (ruleC nm.toList lt.toList fr to mo k d n at' by' sv) ∧ Gr w w' := by
  have R0 := Lib.hid (RuleAt.new w 25 nm fr to mo k d n at' by' sv lt)
  have KC := Lib.hid (fun w => rruleCheck nm fr to mo k d n at' by' sv lt w hn ht)
  generalize ruleC nm.toList lt.toList fr to mo k d n at' by' sv = c at KC h ⊢
  have t := bneT h
  clear hn ht h
  go_enter Tryd.func12, Tryd.ntmps12
  go_wp2_with fail
  generalize w.alloc (.cells #[.string nm, .int .i64 fr, .int .i64 to, .int .i64 mo, .int .i64 k, .int .i64 d, .int .i64 n, .int .i64 at', .int .i64 by', .int .i64 sv, .string lt] 25) = w0 at R0 ⊢
  generalize w.heap.size = b at R0 ⊢
  refine (KC.out w0).mono ?_
  rintro e w1 ⟨rfl, g1⟩
  go_wp2_with fail
  go_ret2
  exact ⟨rfl, R0.out.2.2.2.2.2.2.2.2.2.2.2.trans g1⟩
theorem rruleText (nm : ByteArray) (fr to mo k d n at' by' sv : Int) (lt : ByteArray) (w : World) (hn : nm.size ≤ maxLen) (ht : lt.size ≤ maxLen) :
    Calls Tryd.prog 12 #[ruleV nm fr to mo k d n at' by' sv lt] w fun e w' => e = ruleTextA nm.toList lt.toList fr to mo k d n at' by' sv ∧ Gr w w' := by
  unfold ruleTextA
  by_cases h : ruleC nm.toList lt.toList fr to mo k d n at' by' sv = 0
  · rw [if_pos h]
    obtain ⟨a, b, c, d'⟩ := ruleC_zero.1 h
    have := rruleText_yes nm.toList fr to mo k d n at' by' sv lt.toList w a b c d'
    rw [← S_of nm, ← S_of lt] at this
    exact this
  · rw [if_neg h]
    exact rruleText_bad nm fr to mo k d n at' by' sv lt w hn ht h
end Go.Proofs.YteljpjhjoclkfaaDoor
