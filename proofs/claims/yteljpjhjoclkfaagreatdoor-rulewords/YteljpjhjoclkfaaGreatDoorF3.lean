/- What the reference's RuleText returns, for every rule. -/
import Derived.Test.YteljpjhjoclkfaaGreatDoorF2
import Derived.Test.YteljpjhjoclkfaaGreatDoorD3
import Derived.Test.YteljpjhjoclkfaaGreatDoorT0
import Derived.Deep.RegionHeld3
namespace Go.Proofs.YteljpjhjoclkfaaGreatDoor
set_option linter.unusedVariables false
set_option linter.unusedSimpArgs false
open Go.RowKit

/-- the letter of a clock -/
def suf (by' : Int) : List UInt8 := if by' = 0 then [] else if by' = 1 then [115] else [117]
/-- a rule as text -/
def ruleL (nm lt : List UInt8) (fr to mo k d n at' by' sv : Int) : List UInt8 :=
  [114, 117, 108, 101, 32] ++ nm ++ [32] ++ dz fr ++ [32] ++ dz to ++ [32] ++ dz mo ++ [32] ++ dayL k d n ++ [32] ++ spanL at' ++ suf by' ++ [32] ++ spanL sv ++ [32] ++ lt
theorem keep12 {w W W' : World} {b : Nat} {x0 x1 x2 x3 x8 x10 : Value} (h : W.cell? ⟨b, 0, none⟩ = some x0 ∧ W.cell? ⟨b, 1, none⟩ = some x1 ∧ W.cell? ⟨b, 2, none⟩ = some x2 ∧ W.cell? ⟨b, 3, none⟩ = some x3 ∧ W.cell? ⟨b, 8, none⟩ = some x8 ∧ W.cell? ⟨b, 10, none⟩ = some x10 ∧ Gr w W) (hg : Gr W W') :
    W'.cell? ⟨b, 0, none⟩ = some x0 ∧ W'.cell? ⟨b, 1, none⟩ = some x1 ∧ W'.cell? ⟨b, 2, none⟩ = some x2 ∧ W'.cell? ⟨b, 3, none⟩ = some x3 ∧ W'.cell? ⟨b, 8, none⟩ = some x8 ∧ W'.cell? ⟨b, 10, none⟩ = some x10 ∧ Gr w W' :=
  ⟨hg.holds h.1, hg.holds h.2.1, hg.holds h.2.2.1, hg.holds h.2.2.2.1, hg.holds h.2.2.2.2.1, hg.holds h.2.2.2.2.2.1, h.2.2.2.2.2.2.trans hg⟩
theorem name_len {l : List UInt8} (h : isNameB l = true) : l.length ≤ 20 := by
  unfold isNameB at h; simp at h; omega
theorem abbr_len {l : List UInt8} (h : isAbbrB l = true) : l.length ≤ 8 := by
  unfold isAbbrB at h; simp at h; omega
theorem dayL_len {k d n : Int} (h : DayOk k d n) : (dayL k d n).length ≤ 20 := by
  have bd := dayOk_bd h
  have tl := tells_dz (n := n) (by omega) (by omega)
  unfold dayL
  split
  · omega
  · split
    · simp [wk_length]
    · split <;> simp [wk_length] <;> omega
theorem spanL_len {n : Int} (h1 : -604800 ≤ n) (h2 : n ≤ 604800) : (spanL n).length ≤ 21 := by
  unfold spanL; split
  · have := spanL0_len (-n) (by omega) (by omega); simp; omega
  · have := spanL0_len n (by omega) (by omega); omega

theorem slice3 (w : World) (by' : Int) (b1 : 0 ≤ by') (b2 : by' ≤ 2) : (w.alloc (.cells #[.string ⟨#[]⟩, .string ⟨#[115]⟩, .string ⟨#[117]⟩] 9)).cell? ⟨w.heap.size, by'.toNat, none⟩ = some (.string (S (suf by'))) := by
  rw [World.cell?_alloc_new]
  have h : by' = 0 ∨ by' = 1 ∨ by' = 2 := by omega
  rcases h with rfl | rfl | rfl <;> rfl
theorem suf_len (by' : Int) : (suf by').length ≤ 1 := by unfold suf; split <;> (try split) <;> simp
end Go.Proofs.YteljpjhjoclkfaaGreatDoor
