/- What a row's list of variables gives tto a walk over the project's rules: the letters of the clocks. -/
import Derived.Test.YtmemgpmijphkmaaGreatDoorUM50
import Derived.Test.YtmemgpmijphkmaaGreatDoorUM14
namespace Go.Proofs.YtmemgpmijphkmaaGreatDoor
open Go.ChangeShapes Go.WideShapes Go.ChangeAt Go.RowKit
set_option linter.unusedVariables false
def clTab : List (List UInt8) := [[], [115], [117]]
theorem cl_of {W : World} {laid : List (String × DataW Unit)} (h : laidMet Tryz.prog laid W) (hm : ("timeball/rule.clockLetters", strData clTab) ∈ laid) : HasCl W := by
  have g : Tryz.prog.globalNamed "timeball/rule.clockLetters" = some 0 := by kernel_rfl
  obtain ⟨ps, hv, _⟩ := h
  obtain ⟨g', t', cs, fuel, p, h1, h2, h3, h4⟩ := laidVars_mem hv _ hm
  obtain rfl := Option.some.inj (g.symm.trans h1)
  obtain rfl : t' = 88 := Option.some.inj (h2.symm.trans (show (Tryz.prog.globals[0]?).map (·.type) = some 88 by kernel_rfl))
  have e := cells_of_strs Tryz.underlying88 Tryz.underlying9 (by kernel_rfl) (by kernel_rfl) h4
  have c : ∀ i : Nat, i < 3 → W.cell? ⟨0, i, none⟩ = some (.string (S (suf i))) := fun i hi => by
    have := World.var?_cell g h3 i
    rw [this, ← Array.getElem?_toList, e]
    have : i = 0 ∨ i = 1 ∨ i = 2 := by omega
    rcases this with rfl | rfl | rfl <;> rfl
  exact ⟨World.block_lt_of_cell? W ⟨0, 0, none⟩ (c 0 (by omega)), c⟩
end Go.Proofs.YtmemgpmijphkmaaGreatDoor
