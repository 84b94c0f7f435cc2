/- What a row's list of variables gives tto a walk over the project's days: the errors of package strconv; and their world. What a row's list of variables gives tto a walk over the project's rules: the letters of the clocks. -/
import Derived.LaidLaws
import Derived.Test.YtkkilmmpmiichaaGreatDoorYM50
import Derived.Test.YtkkilmmpmiichaaGreatDoorYM24
import Derived.Test.YtkkilmmpmiichaaGreatDoorYM22
namespace Go.Proofs.YtkkilmmpmiichaaGreatDoor
open Go.ChangeShapes Go.WideShapes Go.ChangeAt Go.RowKit
set_option linter.unusedVariables false
theorem syn_of {W : World} {laid : List (String × DataW Unit)} {nm : String} {d : DataW Unit} (h : laidMet Tryz.prog laid W) (hm : ("strconv.ErrSyntax", .iface nm d) ∈ laid) : ∃ t p, W.cell? ⟨6, 0, none⟩ = some (.iface t p) := by
  have g : Tryz.prog.globalNamed "strconv.ErrSyntax" = some 6 := by kernel_rfl
  obtain ⟨ps, hv, _⟩ := h
  obtain ⟨g', t', cs, fuel, p, h1, h2, h3, h4⟩ := laidVars_mem hv _ hm
  obtain rfl := Option.some.inj (g.symm.trans h1)
  obtain rfl : t' = 112 := Option.some.inj (h2.symm.trans (show (Tryz.prog.globals[6]?).map (·.type) = some 112 by kernel_rfl))
  obtain ⟨_, u, v, e, _⟩ := iface_of_trod Tryz.underlying112 h4
  have := World.var?_cell g h3 0
  exact ⟨u, v, by rw [this, ← Array.getElem?_toList, e]; rfl⟩

theorem rng_of {W : World} {laid : List (String × DataW Unit)} {nm : String} {d : DataW Unit} (h : laidMet Tryz.prog laid W) (hm : ("strconv.ErrRange", .iface nm d) ∈ laid) : ∃ t p, W.cell? ⟨7, 0, none⟩ = some (.iface t p) := by
  have g : Tryz.prog.globalNamed "strconv.ErrRange" = some 7 := by kernel_rfl
  obtain ⟨ps, hv, _⟩ := h
  obtain ⟨g', t', cs, fuel, p, h1, h2, h3, h4⟩ := laidVars_mem hv _ hm
  obtain rfl := Option.some.inj (g.symm.trans h1)
  obtain rfl : t' = 112 := Option.some.inj (h2.symm.trans (show (Tryz.prog.globals[7]?).map (·.type) = some 112 by kernel_rfl))
  obtain ⟨_, u, v, e, _⟩ := iface_of_trod Tryz.underlying112 h4
  have := World.var?_cell g h3 0
  exact ⟨u, v, by rw [this, ← Array.getElem?_toList, e]; rfl⟩

/-- the text of an error as a row lists it -/
def textOf : DataW Unit → List UInt8
  | .iface _ (.ptr (.agg [.lit (.string t)])) => t
  | _ => []
/-- an error laid: a new block for its text, the variable points there -/
def putErr (w : World) (g : Nat) (text : List UInt8) : World :=
  put (w.alloc (.cells #[.string ⟨text.toArray⟩] 193)) g [.iface 191 (.pointer (some ⟨w.heap.size, 0, none⟩))]
end Go.Proofs.YtkkilmmpmiichaaGreatDoor
namespace Go.Proofs.YtkkilmmpmiichaaGreatDoor
open Go.ChangeShapes Go.WideShapes Go.ChangeAt Go.RowKit
set_option linter.unusedVariables false
def clTab : List (List UInt8) := [[], [115], [117]]
theorem cl_of {W : World} {laid : List (String × DataW Unit)} (h : laidMet Tryz.prog laid W) (hm : ("timeball/rule.clockLetters", strData clTab) ∈ laid) : HasCl W := by
  have g : Tryz.prog.globalNamed "timeball/rule.clockLetters" = some 1 := by kernel_rfl
  obtain ⟨ps, hv, _⟩ := h
  obtain ⟨g', t', cs, fuel, p, h1, h2, h3, h4⟩ := laidVars_mem hv _ hm
  obtain rfl := Option.some.inj (g.symm.trans h1)
  obtain rfl : t' = 131 := Option.some.inj (h2.symm.trans (show (Tryz.prog.globals[1]?).map (·.type) = some 131 by kernel_rfl))
  have e := cells_of_strs Tryz.underlying131 Tryz.underlying9 (by kernel_rfl) (by kernel_rfl) h4
  have c : ∀ i : Nat, i < 3 → W.cell? ⟨1, i, none⟩ = some (.string (S (suf i))) := fun i hi => by
    have := World.var?_cell g h3 i
    rw [this, ← Array.getElem?_toList, e]
    have : i = 0 ∨ i = 1 ∨ i = 2 := by omega
    rcases this with rfl | rfl | rfl <;> rfl
  exact ⟨World.block_lt_of_cell? W ⟨1, 0, none⟩ (c 0 (by omega)), c⟩
end Go.Proofs.YtkkilmmpmiichaaGreatDoor
