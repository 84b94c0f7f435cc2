/- The function literal of the reference's BookText that puts a line behind the others. -/
import Derived.Test.YtmemgpmijphkmaaGreatDoorWM39
import Derived.Test.YtmemgpmijphkmaaGreatDoorWM32
namespace Go.Proofs.YtmemgpmijphkmaaGreatDoor
set_option linter.unusedVariables false
set_option linter.unusedSimpArgs false
open Go.RowKit
/-- a line behind others -/
def lineL (s t : List UInt8) : List UInt8 := if s = [] then t else s ++ 10 :: t
theorem lineL_jn {L : List (List UInt8)} (h : LinesOk L) (x : List UInt8) : lineL (jn 10 L) x = jn 10 (L ++ [x]) := by
  rw [jn_line h x]; rfl
/-- what the literal leaves -/
def LineA (b : Nat) (W : World) (s t : List UInt8) (e : Ending) (w' : World) : Prop := e = .returned (.tuple #[]) ∧ w'.heap[b]? = some (.cells #[.string (S (lineL s t))] 9 (0, 0)) ∧ Tch W.heap.size b W w'

set_option maxHeartbeats 4000000 in
theorem rline (s t : List UInt8) (b : Nat) (W : World) (hs : s.length ≤ 100000000) (ht : t.length ≤ 100000000) (hb : W.heap[b]? = some (.cells #[.string (S s)] 9 (0, 0))) :
    Calls Tryz.prog 28 #[.string (S t), .pointer (some ⟨b, 0, none⟩)] W (LineA b W s t) := by
  have HB := Lib.hid hb
  have z0 : W.cell? ⟨b, 0, none⟩ = some (.string (S s)) := bcell_row HB.out rfl
  have fz : W.frozen? ⟨b, 0, none⟩ = false := by simp [World.frozen?, HB.out]
  clear hb
  have l1 : ¬ 9223372036854775807 < s.length + 1 := by omega
  have l2 : ¬ 9223372036854775807 < s.length + 1 + t.length := by omega
  have l3 : ¬ 9223372036854775807 < (0 : Nat) + t.length := by omega
  have l4 : ¬ 9223372036854775807 < (s ++ [10]).length + t.length := by simp; omega
  by_cases hn : s = []
  · have E : Hid (lineL s t = t) := by unfold Hid lineL; rw [if_pos hn]
    subst hn
    have e0 : S ([] : List UInt8) = ⟨#[]⟩ := rfl
    rw [e0] at z0
    have ST := Lib.hid (blk_set (j := 0) (u := .string (S t)) HB.out)
    have TC := Lib.hid ((Tch.refl W.heap.size b W).set (q := ⟨b, 0, none⟩) (Or.inl rfl) (.string (S t)))
    clear hs ht HB
    go_enter Tryz.func28, Tryz.ntmps28
    go_wp2_with fail
    go_end0
    refine ⟨rfl, ?_, ?_⟩
    · rw [E.out]; simpa [S] using ST.out
    · simpa [S] using TC.out
  · have E : Hid (lineL s t = s ++ 10 :: t) := by unfold Hid lineL; rw [if_neg hn]
    have n2 : (s == []) = false := by simpa using hn
    have ST := Lib.hid (blk_set (j := 0) (u := .string (S (s ++ [10]))) HB.out)
    have TC := Lib.hid ((Tch.refl W.heap.size b W).set (q := ⟨b, 0, none⟩) (Or.inl rfl) (.string (S (s ++ [10]))))
    have LE := Lib.hid (Array.getElem?_eq_some_iff.1 HB.out).1
    clear hs ht HB
    go_enter Tryz.func28, Tryz.ntmps28
    go_upto_region 2 with fail
    clear z0 fz n2 hn
    generalize W.setCell ⟨b, 0, none⟩ (.string (S (s ++ [10]))) = W1 at ST TC ⊢
    have HB1 : Hid (W1.heap[b]? = some (.cells #[.string (S (s ++ [10]))] 9 (0, 0))) := ST.out
    have z0 : W1.cell? ⟨b, 0, none⟩ = some (.string (S (s ++ [10]))) := bcell_row HB1.out rfl
    have fz : W1.frozen? ⟨b, 0, none⟩ = false := by simp [World.frozen?, HB1.out]
    have ST2 := Lib.hid (blk_set (j := 0) (u := .string (S (s ++ 10 :: t))) HB1.out)
    have TC2 := Lib.hid (TC.out.set (q := ⟨b, 0, none⟩) (Or.inl rfl) (.string (S (s ++ 10 :: t))))
    clear ST TC HB1
    go_wp2_with fail
    go_end0
    refine ⟨rfl, ?_, ?_⟩
    · rw [E.out]; exact ST2.out
    · exact TC2.out
end Go.Proofs.YtmemgpmijphkmaaGreatDoor
