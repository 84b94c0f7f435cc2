/- What a row's list of variables gives tto a walk: tables of texts, the weekdays. What a row's list of variables gives tto a walk over the project's rules: the letters of the clocks. -/
import Derived.LaidLaws
import Derived.Test.YtmemgpmijphkmaaGreatDoorWM23
import Derived.Test.YtmemgpmijphkmaaGreatDoorWM25
import Derived.Test.YtmemgpmijphkmaaGreatDoorWM26
namespace Go.Proofs.YtmemgpmijphkmaaGreatDoor
open Go.ChangeShapes Go.WideShapes Go.ChangeAt Go.RowKit
set_option linter.unusedVariables false
/-- a table of texts as a row lists it -/
def strData {H : Type} (zs : List (List UInt8)) : DataW H := .agg (zs.map fun z => .lit (.string z))
theorem cells_of_strs {H : Type} {enc : TypeId × Value → H} {P : Program} {w : World} {base : Nat} {sp : Nat → Bool} {held : Bool} {fuel : Nat} {t e : TypeId} {n : Nat} {cs : List Value} {zs : List (List UInt8)} {p : List MemPlace}
    (ht : P.underlying t = some (.array n e)) (he : P.underlying e = some .string) (hce : P.cellsOf e = 1) (hct : P.cellsOf t = n)
    (h : DataW.trod enc P w base sp held fuel t cs = some (strData zs, p)) : cs = zs.map fun z => Value.string ⟨z.toArray⟩ := by
  cases fuel with
  | zero => simp [DataW.trod] at h
  | succ fuel =>
    simp only [DataW.trod, ht, hce, hct, Nat.mul_one] at h
    split at h
    · rename_i hl
      obtain ⟨xs, hm, hx⟩ := Option.map_eq_some_iff.1 h
      have hxs : xs.map (·.1) = zs.map fun z => (DataW.lit (.string z) : DataW H) := by
        have := congrArg Prod.fst hx
        simpa [strData] using this
      have hxl : xs.length = n := by simpa using Lib.mapM_length hm
      have hzl : zs.length = n := by
        have := congrArg List.length hxs
        simp at this
        omega
      apply List.ext_getElem?
      intro i
      by_cases hi : i < n
      · obtain ⟨b, hb, hf⟩ := Lib.mapM_at hm i i (by simp [hi])
        obtain ⟨z, hc, rfl, _⟩ := DataW.trod_string he hf
        have h1 : cs[i]? = some (.string z) := by
          have := congrArg (·[0]?) hc
          simpa [List.getElem?_take, List.getElem?_drop] using this
        have h2 : (xs.map (·.1))[i]? = some (DataW.lit (.string z.data.toList) : DataW H) := by simp [hb]
        rw [hxs] at h2
        simp only [List.getElem?_map, Option.map_eq_some_iff, DataW.lit.injEq, Lit.string.injEq] at h2
        obtain ⟨z', hz', e⟩ := h2
        simp [h1, hz', e]
      · rw [List.getElem?_eq_none (by omega), List.getElem?_eq_none (by simp; omega)]
    · cases h

def wkTab : List (List UInt8) := [[83, 117, 110], [77, 111, 110], [84, 117, 101], [87, 101, 100], [84, 104, 117], [70, 114, 105], [83, 97, 116]]
theorem wk_of {W : World} {laid : List (String × DataW Unit)} (h : laidMet Tryz.prog laid W) (hm : ("timeball/day.weekdays", strData wkTab) ∈ laid) : HasWk W := by
  have g : Tryz.prog.globalNamed "timeball/day.weekdays" = some 2 := by kernel_rfl
  obtain ⟨ps, hv, _⟩ := h
  obtain ⟨g', t', cs, fuel, p, h1, h2, h3, h4⟩ := laidVars_mem hv _ hm
  obtain rfl := Option.some.inj (g.symm.trans h1)
  obtain rfl : t' = 132 := Option.some.inj (h2.symm.trans (show (Tryz.prog.globals[2]?).map (·.type) = some 132 by kernel_rfl))
  have e := cells_of_strs Tryz.underlying132 Tryz.underlying9 (by kernel_rfl) (by kernel_rfl) h4
  have c : ∀ i : Nat, i < 7 → W.cell? ⟨2, i, none⟩ = some (.string (S (wk i))) := fun i hi => by
    have := World.var?_cell g h3 i
    rw [this, ← Array.getElem?_toList, e]
    have : i = 0 ∨ i = 1 ∨ i = 2 ∨ i = 3 ∨ i = 4 ∨ i = 5 ∨ i = 6 := by omega
    rcases this with rfl | rfl | rfl | rfl | rfl | rfl | rfl <;> rfl
  exact ⟨World.block_lt_of_cell? W ⟨2, 0, none⟩ (c 0 (by omega)), c⟩
end Go.Proofs.YtmemgpmijphkmaaGreatDoor
namespace Go.Proofs.YtmemgpmijphkmaaGreatDoor
open Go.ChangeShapes Go.WideShapes Go.ChangeAt Go.RowKit
set_option linter.unusedVariables false
def clTab : List (List UInt8) := [[], [115], [117]]
theorem cl_of {W : World} {laid : List (String × DataW Unit)} (h : laidMet Tryz.prog laid W) (hm : ("timeball/rule.clockLetters", strData clTab) ∈ laid) : HasCl W := by
  have g : Tryz.prog.globalNamed "timeball/rule.clockLetters" = some 0 := by kernel_rfl
  obtain ⟨ps, hv, _⟩ := h
  obtain ⟨g', t', cs, fuel, p, h1, h2, h3, h4⟩ := laidVars_mem hv _ hm
  obtain rfl := Option.some.inj (g.symm.trans h1)
  obtain rfl : t' = 88 := Option.some.inj (h2.symm.trans (show (Tryz.prog.globals[0]?).map (·.type) = some 88 by kernel_rfl))
  have e := cells_of_strs Tryz.underlying88 Tryz.underlying9 (by kernel_rfl) (by kernel_rfl) h4
  have c : ∀ i : Nat, i < 3 → W.cell? ⟨0, i, none⟩ = some (.string (S (suf i))) := fun i hi => by
    have := World.var?_cell g h3 i
    rw [this, ← Array.getElem?_toList, e]
    have : i = 0 ∨ i = 1 ∨ i = 2 := by omega
    rcases this with rfl | rfl | rfl <;> rfl
  exact ⟨World.block_lt_of_cell? W ⟨0, 0, none⟩ (c 0 (by omega)), c⟩
end Go.Proofs.YtmemgpmijphkmaaGreatDoor
