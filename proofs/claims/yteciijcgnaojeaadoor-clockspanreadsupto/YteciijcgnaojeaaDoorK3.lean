/- The function literal that checks a part of a duration: what it returns and what it leaves in the variable that it captures. -/
import Derived.Test.YteciijcgnaojeaaDoorK2
import Derived.OneCell
namespace Go.Proofs.YteciijcgnaojeaaDoor
set_option linter.unusedVariables false
set_option linter.unusedSimpArgs false
open Go.RowKit

/-- a variable of type bool of the call's own, and what it holds -/
def Box (w : World) (b : Nat) (v : Bool) : Prop := w.heap[b]? = some (.cells #[.bool v] 4 (0, 0))
theorem Box.cell {w : World} {b : Nat} {v : Bool} (h : Box w b v) : w.cell? ⟨b, 0, none⟩ = some (.bool v) := by
  unfold Box at h; simp [World.cell?, h]
theorem Box.frozen {w : World} {b : Nat} {v : Bool} (h : Box w b v) : w.frozen? ⟨b, 0, none⟩ = false := by
  unfold Box at h; simp [World.frozen?, h]
theorem Box.lt {w : World} {b : Nat} {v : Bool} (h : Box w b v) : b < w.heap.size := by
  unfold Box at h
  by_cases c : b < w.heap.size
  · exact c
  · rw [Array.getElem?_eq_none (by omega)] at h; cases h
theorem Box.gr {w w' : World} {b : Nat} {v : Bool} (h : Box w b v) (g : Gr w w') : Box w' b v := by
  unfold Box; rw [Below.block g b h.lt]; exact h
theorem Box.set {w : World} {b : Nat} {v : Bool} (h : Box w b v) (u : Bool) : Box (w.setCell ⟨b, 0, none⟩ (.bool u)) b u := by
  exact one_setCell h
theorem Box.drewN {w : World} {b : Nat} {v : Bool} (h : Box w b v) (n : Nat) : Box (w.drewN n) b v := h
/-- is the part a number of so many digits between two bounds? -/
noncomputable def chk (l : List UInt8) (dgt lo hi : Int) : Bool := nok l && decide ((l.length : Int) = dgt) && decide (lo ≤ nv l) && decide (nv l ≤ hi)
/-- what the literal leaves -/
def Checked (b : Nat) (w : World) (x : Int) (u : Bool) (e : Ending) (w' : World) : Prop := e = .returned (.int .i64 x) ∧ Box w' b u ∧ Below b w w'

set_option maxHeartbeats 1000000 in
theorem check_any (s : ByteArray) (g : Bool) (dgt lo hi : Int) (b : Nat) (w : World) (hm : s.size ≤ maxLen) (hb : Box w b g) :
    Calls Tryd.prog 34 #[.string s, .int .i64 dgt, .int .i64 lo, .int .i64 hi, .pointer (some ⟨b, 0, none⟩)] w (Checked b w (nv s.toList) (g && chk s.toList dgt lo hi)) := by
  have K := Lib.hid (number_any s w hm)
  have L := toList_len s
  unfold maxLen at hm
  have HB := Lib.hid hb
  have D : Hid (chk s.toList dgt lo hi = (nok s.toList && decide ((s.size : Int) = dgt) && decide (lo ≤ nv s.toList) && decide (nv s.toList ≤ hi))) := by unfold Hid chk; rw [L]
  clear hb L
  generalize chk s.toList dgt lo hi = C at D ⊢
  generalize nv s.toList = x at K D ⊢
  generalize nok s.toList = o at K D ⊢
  have last : ∀ (w1 : World), Gr w w1 → ∀ (u : Bool), u = (g && C) → ∀ n, Checked b w x (g && C) (.returned (.int .i64 x)) ((w1.setCell ⟨b, 0, none⟩ (.bool u)).drewN n) := fun w1 hg u hu n => by
    subst hu
    exact ⟨rfl, ((HB.out.gr hg).set _).drewN n, below_drewN (Below.setCell (Below.mono hg (Nat.le_of_lt HB.out.lt)) (Nat.le_refl b) _) n⟩
  have LAST := Lib.hid last
  clear last
  cases g with
  | false =>
    go_enter Tryd.func34, Tryd.ntmps34
    go_wp2_with fail
    refine K.out.mono ?_
    rintro e w1 ⟨rfl, hg⟩
    have hc := (HB.out.gr hg).cell
    have hf := (HB.out.gr hg).frozen
    go_wp2
    go_ret
    exact LAST.out w1 hg _ (by rw [D.out]; rfl) 0
  | true =>
    cases o with
    | false =>
      go_enter Tryd.func34, Tryd.ntmps34
      go_wp2_with fail
      refine K.out.mono ?_
      rintro e w1 ⟨rfl, hg⟩
      have hc := (HB.out.gr hg).cell
      have hf := (HB.out.gr hg).frozen
      go_wp2
      go_ret
      exact LAST.out w1 hg _ (by rw [D.out]; rfl) 0
    | true =>
      by_cases h1 : (s.size : Int) = dgt
      · have h1' : ((s.size : Int) == dgt) = true := by simp [h1]
        have d1 : Hid (decide ((s.size : Int) = dgt) = true) := by simp [Hid, h1]
        clear h1
        by_cases h2 : lo ≤ x
        · have d2 : Hid (decide (lo ≤ x) = true) := by simp [Hid, h2]
          by_cases h3 : x ≤ hi
          · have d3 : Hid (decide (x ≤ hi) = true) := by simp [Hid, h3]
            go_enter Tryd.func34, Tryd.ntmps34
            go_wp2_with fail
            refine K.out.mono ?_
            rintro e w1 ⟨rfl, hg⟩
            have hc := (HB.out.gr hg).cell
            have hf := (HB.out.gr hg).frozen
            go_wp2
            go_ret
            exact LAST.out w1 hg _ (by rw [D.out, d1.out, d2.out, d3.out]; rfl) 0
          · have d3 : Hid (decide (x ≤ hi) = false) := by simpa [Hid] using h3
            have h3' : decide (x ≤ hi) = false := d3.out
            go_enter Tryd.func34, Tryd.ntmps34
            go_wp2_with fail
            refine K.out.mono ?_
            rintro e w1 ⟨rfl, hg⟩
            have hc := (HB.out.gr hg).cell
            have hf := (HB.out.gr hg).frozen
            go_wp2
            go_ret
            exact LAST.out w1 hg _ (by rw [D.out, d1.out, d2.out, d3.out]; rfl) 0
        · have d2 : Hid (decide (lo ≤ x) = false) := by simpa [Hid] using h2
          have h2' : decide (lo ≤ x) = false := d2.out
          go_enter Tryd.func34, Tryd.ntmps34
          go_wp2_with fail
          refine K.out.mono ?_
          rintro e w1 ⟨rfl, hg⟩
          have hc := (HB.out.gr hg).cell
          have hf := (HB.out.gr hg).frozen
          go_wp2
          go_ret
          exact LAST.out w1 hg _ (by rw [D.out, d1.out, d2.out]; rfl) 0
      · have h1' : ((s.size : Int) == dgt) = false := by simp [h1]
        have d1 : Hid (decide ((s.size : Int) = dgt) = false) := by simp [Hid, h1]
        clear h1
        go_enter Tryd.func34, Tryd.ntmps34
        go_wp2_with fail
        refine K.out.mono ?_
        rintro e w1 ⟨rfl, hg⟩
        have hc := (HB.out.gr hg).cell
        have hf := (HB.out.gr hg).frozen
        go_wp2
        go_ret
        exact LAST.out w1 hg _ (by rw [D.out, d1.out]; rfl) 0
end Go.Proofs.YteciijcgnaojeaaDoor
