/- The project's Resolve for every book; the empty book. -/
import Derived.Test.YtemdgipkcilpcaaGreatDoorAM31
import Derived.Test.YtemdgipkcilpcaaGreatDoorAM36
namespace Go.Proofs.YtemdgipkcilpcaaGreatDoor
set_option linter.unusedVariables false
set_option linter.unusedSimpArgs false
open Go.RowKit
theorem presolve (b : BokD) (nm : ByteArray) (w : World) (hb : b.At w) (hn : nm.size ≤ maxLen) (ht : BkTab w) :
    Calls Tryz.prog 7 #[bookV b, .string nm] w (ResE b.rs b.zs b.ls nm w) := presolve0 b nm w hb hn (fun W g => pbookCheck b W (hb.gr g) (g.bk ht))

def emptyB : BokD := ⟨none, 0, [], none, 0, [], none, 0, []⟩
theorem empty_at (w : World) : emptyB.At w :=
  ⟨⟨⟨Nat.le_refl _, by unfold maxLen emptyB; exact Nat.zero_le _⟩, Row.nil _ _ _ _, fun r hr => by cases hr⟩, ⟨⟨Nat.le_refl _, by unfold maxLen emptyB; exact Nat.zero_le _⟩, Row.nil _ _ _ _, fun r hr => by cases hr⟩, ⟨⟨Nat.le_refl _, by unfold maxLen emptyB; exact Nat.zero_le _⟩, Row.nil _ _ _ _, fun r hr => by cases hr⟩⟩
theorem empty_res (nm : ByteArray) : resC [] [] [] nm = 6 := resC_none (by unfold bokC; simp [fe]) (by simp [nms])
/-- an empty book resolves nothing -/
theorem presolve_empty (nm : ByteArray) (w : World) (hn : nm.size ≤ maxLen) (ht : BkTab w) :
    Calls Tryz.prog 7 #[.agg #[.slice none 0 0, .slice none 0 0, .slice none 0 0], .string nm] w fun e w' => ∃ z : ZonD, e = .returned (.tuple #[.agg #[.string z.nm, .slice z.A z.eras.length z.c], .int .i64 6]) ∧ Gr w w' := by
  refine (presolve emptyB nm w (empty_at w) hn ht).mono ?_
  rintro e w' ⟨z, he, _, g, _⟩
  have h6 : resC emptyB.rs emptyB.zs emptyB.ls nm = 6 := empty_res nm
  rw [h6] at he
  exact ⟨z, he, g⟩
/-- what two calls of Resolve leave is one zone -/
theorem res_same {rs : List RuD} {zs : List ZonD} {ls : List LinD} {nm : ByteArray} {z z2 : ZonD}
    (h1 : resC rs zs ls nm = 0 → ∃ y, zs[endN zs ls nm.toList]? = some y ∧ z.nm = y.nm ∧ z.eras = y.eras) (h2 : resC rs zs ls nm ≠ 0 → z.nm = .empty ∧ z.eras = [])
    (k1 : resC rs zs ls nm = 0 → ∃ y, zs[endN zs ls nm.toList]? = some y ∧ z2.nm = y.nm ∧ z2.eras = y.eras) (k2 : resC rs zs ls nm ≠ 0 → z2.nm = .empty ∧ z2.eras = []) :
    z2.nm = z.nm ∧ z2.eras = z.eras ∧ z.eras.length ≤ 100000 := by
  by_cases h : resC rs zs ls nm = 0
  · obtain ⟨y, hy, a, b⟩ := h1 h
    obtain ⟨y', hy', a', b'⟩ := k1 h
    rw [hy] at hy'
    injection hy' with hy'
    subst hy'
    have := (good_of (resC_zero.1 h).1).es y (get_mem hy)
    exact ⟨by rw [a, a'], by rw [b, b'], by rw [b]; omega⟩
  · obtain ⟨a, b⟩ := h2 h
    obtain ⟨a', b'⟩ := k2 h
    exact ⟨by rw [a, a'], by rw [b, b'], by rw [b]; simp⟩
end Go.Proofs.YtemdgipkcilpcaaGreatDoor
