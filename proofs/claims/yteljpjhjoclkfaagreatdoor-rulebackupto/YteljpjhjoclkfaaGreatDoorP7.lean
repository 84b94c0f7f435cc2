/- The closed fact of the laws on rules; a text tells at most one rule. -/
import Derived.Test.YteljpjhjoclkfaaGreatDoorPA
import Derived.Test.YteljpjhjoclkfaaGreatDoorFB
namespace Go.Proofs.YteljpjhjoclkfaaGreatDoor
set_option linter.unusedVariables false
set_option linter.unusedSimpArgs false
open Go.RowKit

/-- what reading the text of a rule answers -/
theorem read_of {l nm lt : List UInt8} {fr tt mo k d n at' by' sv : Int} {e : Ending} (hc : ruleC nm lt fr tt mo k d n at' by' sv = 0) (hl : ruleL nm lt fr tt mo k d n at' by' sv = l) (h : RuleReadA l e) : e = ruleInt (S nm) fr tt mo k d n at' by' sv (S lt) 0 := by
  rcases h with ⟨nm', lt', fr', tt', mo', k', d', n', at2, by2, sv', hc', hl', rfl⟩ | ⟨no, rfl⟩
  · obtain ⟨rfl, rfl, rfl, rfl, rfl, ⟨rfl, rfl, rfl⟩, rfl, rfl, rfl⟩ := ruleL_inj hc hc' (hl.trans hl'.symm)
    rfl
  · exact absurd ⟨nm, lt, fr, tt, mo, k, d, n, at', by', sv, hc, hl⟩ no
/-- what reading a text answers: a rule that has this text, or none -/
theorem read_one (l : List UInt8) : (∃ (nm lt : List UInt8) (fr tt mo k d n at' by' sv : Int), ruleC nm lt fr tt mo k d n at' by' sv = 0 ∧ ruleL nm lt fr tt mo k d n at' by' sv = l ∧ ∀ e, RuleReadA l e → e = ruleInt (S nm) fr tt mo k d n at' by' sv (S lt) 0) ∨ ∀ e, RuleReadA l e → e = noRule := by
  by_cases g : Good l
  · obtain ⟨nm, lt, fr, tt, mo, k, d, n, at', by', sv, hc, hl⟩ := g
    exact Or.inl ⟨nm, lt, fr, tt, mo, k, d, n, at', by', sv, hc, hl, fun e h => read_of hc hl h⟩
  · refine Or.inr fun e h => ?_
    rcases h with ⟨nm, lt, fr, tt, mo, k, d, n, at', by', sv, hc, hl, _⟩ | ⟨_, h⟩
    · exact absurd ⟨nm, lt, fr, tt, mo, k, d, n, at', by', sv, hc, hl⟩ g
    · exact h
def ruledT : ByteArray := ⟨#[114, 117, 108, 101, 32, 69, 85, 32, 49, 57, 57, 54, 32, 50, 48, 51, 48, 32, 49, 48, 32, 108, 97, 115, 116, 83, 117, 110, 32, 49, 58, 48, 48, 117, 32, 48, 58, 48, 48, 32, 45]⟩
theorem ruled_text : ruleL [69, 85] [45] 1996 2030 10 2 0 0 3600 2 0 = ruledT.toList := by
  have a : dz 1996 = [49, 57, 57, 54] := by
    rw [dz_big (by omega) (by omega), dz_big (by omega) (by omega), dz_big (by omega) (by omega), dz_small (by omega) (by omega)]; rfl
  have b : dz 2030 = [50, 48, 51, 48] := by
    rw [dz_big (by omega) (by omega), dz_big (by omega) (by omega), dz_big (by omega) (by omega), dz_small (by omega) (by omega)]; rfl
  have c : dz 10 = [49, 48] := by rw [dz_big (by omega) (by omega), dz_small (by omega) (by omega)]; rfl
  have d : spanL 3600 = [49, 58, 48, 48] := by
    unfold spanL spanL0; rw [if_neg (by omega), show (3600 : Int) / 3600 = 1 by omega, dz_small (by omega) (by omega)]; rfl
  have e : spanL 0 = [48, 58, 48, 48] := by
    unfold spanL spanL0; rw [if_neg (by omega), show (0 : Int) / 3600 = 0 by omega, dz_small (by omega) (by omega)]; rfl
  unfold ruleL
  rw [a, b, c, d, e, show ruledT.toList = _ from ByteArray.toList_mk [114, 117, 108, 101, 32, 69, 85, 32, 49, 57, 57, 54, 32, 50, 48, 51, 48, 32, 49, 48, 32, 108, 97, 115, 116, 83, 117, 110, 32, 49, 58, 48, 48, 117, 32, 48, 58, 48, 48, 32, 45]]
  rfl
theorem ruled_ok : ruleC [69, 85] [45] 1996 2030 10 2 0 0 3600 2 0 = 0 := by decide

set_option maxRecDepth 100000 in
set_option maxHeartbeats 4000000 in
theorem ruled_any (w : World) (ht : RpTab w) : Calls Tryz.prog 10 #[] w fun e w' => e = .returned (.bool true) ∧ Gr w w' := by
  have KP := Lib.hid (fun w h => pparse ruledT w (by decide) h)
  unfold ruledT at KP
  have KE : Hid (∀ e, RuleReadA (ByteArray.mk #[114, 117, 108, 101, 32, 69, 85, 32, 49, 57, 57, 54, 32, 50, 48, 51, 48, 32, 49, 48, 32, 108, 97, 115, 116, 83, 117, 110, 32, 49, 58, 48, 48, 117, 32, 48, 58, 48, 48, 32, 45]).toList e → e = ruleInt (S [69, 85]) 1996 2030 10 2 0 0 3600 2 0 (S [45]) 0) := fun e h => read_of ruled_ok ruled_text h
  have HT := Lib.hid ht
  clear ht
  generalize S [69, 85] = nm at KE
  generalize S [45] = lt at KE
  go_enter Tryz.func10, Tryz.ntmps10
  go_wp2_with fail
  refine (KP.out w HT.out).mono ?_
  rintro e w1 ⟨h, g1⟩
  obtain rfl := KE.out e h
  clear h KP KE
  go_wp2
  go_ret
  exact ⟨rfl, g1.alloc' _⟩
end Go.Proofs.YteljpjhjoclkfaaGreatDoor
