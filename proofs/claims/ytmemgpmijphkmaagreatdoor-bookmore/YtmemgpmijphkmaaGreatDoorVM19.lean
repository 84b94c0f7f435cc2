/- What the project's Read of package day returns, for every text of a length up tto 1048576. The function literal that checks a part of a duration: what it returns and what it leaves in the variable that it captures. -/
import Derived.Test.YtmemgpmijphkmaaGreatDoorVM18
import Derived.OneCell
import Derived.Test.YtmemgpmijphkmaaGreatDoorVM15
namespace Go.Proofs.YtmemgpmijphkmaaGreatDoor
set_option linter.unusedVariables false
set_option linter.unusedSimpArgs false
open Go.RowKit
theorem guess_any (s : ByteArray) (w : World) (hm : s.size ≤ 1048576) (ht : RdTab w) :
    Calls Tryz.prog 167 #[.string s] w (GuessA s.toList w) := by
  cases h : Lib.hasPrefix s.toList last4 with
  | true => exact guess_last s w ht h
  | false => exact guess_rest s w hm ht h
theorem read_no {l : List UInt8} {k d n : Int} (hp : GuessP l k d n) (h : ¬ (DayOk k d n ∧ dayL k d n = l)) : DayReadA l (dayInt 0 0 0 3) :=
  Or.inr ⟨fun ⟨k0, d0, n0, ok, e⟩ => by
    obtain ⟨rfl, rfl, rfl⟩ := hp k0 d0 n0 ok e
    exact h ⟨ok, e⟩, rfl⟩

set_option maxHeartbeats 2000000 in
theorem dayRead (s : ByteArray) (w : World) (ht : RdTab w) (hm : s.size ≤ 1048576) :
    Calls Tryz.prog 151 #[.string s] w fun e w' => DayReadA s.toList e ∧ Gr w w' := by
  have hres := res_new w
  have KG := Lib.hid (fun w h => guess_any s w hm h)
  have HT := Lib.hid ht
  clear ht hm
  go_enter Tryz.func151, Tryz.ntmps151
  go_wp2_with fail
  generalize w.alloc (.cells #[.int .i64 0, .int .i64 0, .int .i64 0] 54) = w1 at hres ⊢
  generalize w.heap.size = b at hres ⊢
  have HR := Lib.hid hres
  clear hres
  refine (KG.out _ (HR.out.1.rdT HT.out)).mono ?_
  rintro e w2 ⟨k, d, n, rfl, hp, hg⟩
  have HP := Lib.hid hp
  have R2 := Lib.hid (HR.out.grow hg)
  clear hp hg HR
  go_wp2_with fail
  have c := dayText k d n (w2.alloc (.cells #[.int .i64 k, .int .i64 d, .int .i64 n] 54)) (((R2.out.grow (Gr.alloc w2 _)).1.rdT HT.out).1)
  have q0 : (w2.alloc (.cells #[.int .i64 k, .int .i64 d, .int .i64 n] 54)).cell? ⟨w2.heap.size, 0, none⟩ = some (.int .i64 k) := by rw [World.cell?_alloc_new]; rfl
  have q1 : (w2.alloc (.cells #[.int .i64 k, .int .i64 d, .int .i64 n] 54)).cell? ⟨w2.heap.size, 1, none⟩ = some (.int .i64 d) := by rw [World.cell?_alloc_new]; rfl
  have q2 : (w2.alloc (.cells #[.int .i64 k, .int .i64 d, .int .i64 n] 54)).cell? ⟨w2.heap.size, 2, none⟩ = some (.int .i64 n) := by rw [World.cell?_alloc_new]; rfl
  have ne : ¬ w2.heap.size = b := by have := R2.out.2.2.1; omega
  by_cases ok : DayOk k d n
  · unfold dayTextA at c
    rw [if_pos ok] at c
    by_cases eq : dayL k d n = s.toList
    · have eq' : (dayL k d n == s.toList) = true := by simpa using eq
      have eq2 : (dayL k d n != s.toList) = false := by simp [eq]
      have A := Lib.hid (show DayReadA s.toList (dayInt k d n 0) from Or.inl ⟨k, d, n, ok, eq, rfl⟩)
      clear ok eq
      generalize dayL k d n = l at c eq' eq2
      refine c.mono ?_
      rintro e w4 ⟨rfl, hg4⟩
      have R4 := (R2.out.grow (Gr.alloc w2 (.cells #[.int .i64 k, .int .i64 d, .int .i64 n] 54))).grow hg4
      have HR4 := Lib.hid R4
      have r0 := hg4.holds q0
      have r1 := hg4.holds q1
      have r2 := hg4.holds q2
      have c0 := R4.2.2.2.1 0 (by omega)
      have c1 := R4.2.2.2.1 1 (by omega)
      have c2 := R4.2.2.2.1 2 (by omega)
      have f0 := R4.2.2.2.2 0 (by omega)
      have f1 := R4.2.2.2.2 1 (by omega)
      have f2 := R4.2.2.2.2 2 (by omega)
      clear R4 c hg4 q0 q1 q2
      generalize w2.heap.size = g at r0 r1 r2 ne ⊢
      go_wp2_with fail
      exact bodyPost_ret (v := .tuple #[dayV k d n, .int .i64 0]) (by simp [results, Tryz.results151, go_sem, set_at0 c0, set_at1 c1, set_at2 c2]) rfl ⟨A.out, HR4.out.set _ _ _⟩
    · have eq' : (dayL k d n == s.toList) = false := by simpa using eq
      have eq2 : (dayL k d n != s.toList) = true := by simp [eq]
      have A := Lib.hid (read_no HP.out (fun x => eq x.2))
      clear ok eq
      generalize dayL k d n = l at c eq' eq2
      refine c.mono ?_
      rintro e w4 ⟨rfl, hg4⟩
      have R4 := (R2.out.grow (Gr.alloc w2 (.cells #[.int .i64 k, .int .i64 d, .int .i64 n] 54))).grow hg4
      have HR4 := Lib.hid R4
      have r0 := hg4.holds q0
      have r1 := hg4.holds q1
      have r2 := hg4.holds q2
      have c0 := R4.2.2.2.1 0 (by omega)
      have c1 := R4.2.2.2.1 1 (by omega)
      have c2 := R4.2.2.2.1 2 (by omega)
      have f0 := R4.2.2.2.2 0 (by omega)
      have f1 := R4.2.2.2.2 1 (by omega)
      have f2 := R4.2.2.2.2 2 (by omega)
      clear R4 c hg4 q0 q1 q2
      generalize w2.heap.size = g at r0 r1 r2 ne ⊢
      go_wp2_with fail
      exact bodyPost_ret (v := .tuple #[dayV 0 0 0, .int .i64 3]) (by simp [results, Tryz.results151, go_sem, set_at0 c0, set_at1 c1, set_at2 c2]) rfl ⟨A.out, HR4.out.set _ _ _⟩
  · unfold dayTextA at c
    rw [if_neg ok] at c
    have A := Lib.hid (read_no HP.out (fun x => ok x.1))
    clear ok
    refine c.mono ?_
    rintro e w4 ⟨rfl, hg4⟩
    have R4 := (R2.out.grow (Gr.alloc w2 (.cells #[.int .i64 k, .int .i64 d, .int .i64 n] 54))).grow hg4
    have HR4 := Lib.hid R4
    have r0 := hg4.holds q0
    have r1 := hg4.holds q1
    have r2 := hg4.holds q2
    have c0 := R4.2.2.2.1 0 (by omega)
    have c1 := R4.2.2.2.1 1 (by omega)
    have c2 := R4.2.2.2.1 2 (by omega)
    have f0 := R4.2.2.2.2 0 (by omega)
    have f1 := R4.2.2.2.2 1 (by omega)
    have f2 := R4.2.2.2.2 2 (by omega)
    clear R4 c hg4 q0 q1 q2
    generalize w2.heap.size = g at r0 r1 r2 ne ⊢
    go_wp2_with fail
    exact bodyPost_ret (v := .tuple #[dayV 0 0 0, .int .i64 3]) (by simp [results, Tryz.results151, go_sem, set_at0 c0, set_at1 c1, set_at2 c2]) rfl ⟨A.out, HR4.out.set _ _ _⟩
end Go.Proofs.YtmemgpmijphkmaaGreatDoor
namespace Go.Proofs.YtmemgpmijphkmaaGreatDoor
set_option linter.unusedVariables false
set_option linter.unusedSimpArgs false
open Go.RowKit
/-- a variable of type bool of the call's own, and what it holds -/
def Box (w : World) (b : Nat) (v : Bool) : Prop := w.heap[b]? = some (.cells #[.bool v] 4 (0, 0))
theorem Box.cell {w : World} {b : Nat} {v : Bool} (h : Box w b v) : w.cell? ⟨b, 0, none⟩ = some (.bool v) := by
  unfold Box at h; simp [World.cell?, h]
theorem Box.frozen {w : World} {b : Nat} {v : Bool} (h : Box w b v) : w.frozen? ⟨b, 0, none⟩ = false := by
  unfold Box at h; simp [World.frozen?, h]
theorem Box.lt {w : World} {b : Nat} {v : Bool} (h : Box w b v) : b < w.heap.size := by
  unfold Box at h
  by_cases c : b < w.heap.size
  · exact c
  · rw [Array.getElem?_eq_none (by omega)] at h; cases h
theorem Box.gr {w w' : World} {b : Nat} {v : Bool} (h : Box w b v) (g : Gr w w') : Box w' b v := by
  unfold Box; rw [Below.block g b h.lt]; exact h
theorem Box.set {w : World} {b : Nat} {v : Bool} (h : Box w b v) (u : Bool) : Box (w.setCell ⟨b, 0, none⟩ (.bool u)) b u := by
  exact one_setCell h
theorem Box.drewN {w : World} {b : Nat} {v : Bool} (h : Box w b v) (n : Nat) : Box (w.drewN n) b v := h
/-- is the part a number of so many digits between two bounds? -/
noncomputable def chk (l : List UInt8) (dgt lo hi : Int) : Bool := nok l && decide ((l.length : Int) = dgt) && decide (lo ≤ nv l) && decide (nv l ≤ hi)
/-- what the literal leaves -/
def Checked (b : Nat) (w : World) (x : Int) (u : Bool) (e : Ending) (w' : World) : Prop := e = .returned (.int .i64 x) ∧ Box w' b u ∧ Below b w w'

set_option maxHeartbeats 1000000 in
theorem check_any (s : ByteArray) (g : Bool) (dgt lo hi : Int) (b : Nat) (w : World) (hm : s.size ≤ maxLen) (hb : Box w b g) :
    Calls Tryz.prog 154 #[.string s, .int .i64 dgt, .int .i64 lo, .int .i64 hi, .pointer (some ⟨b, 0, none⟩)] w (Checked b w (nv s.toList) (g && chk s.toList dgt lo hi)) := by
  have K := Lib.hid (number_any s w hm)
  have L := toList_len s
  unfold maxLen at hm
  have HB := Lib.hid hb
  have D : Hid (chk s.toList dgt lo hi = (nok s.toList && decide ((s.size : Int) = dgt) && decide (lo ≤ nv s.toList) && decide (nv s.toList ≤ hi))) := by unfold Hid chk; rw [L]
  clear hb L
  generalize chk s.toList dgt lo hi = C at D ⊢
  generalize nv s.toList = x at K D ⊢
  generalize nok s.toList = o at K D ⊢
  have last : ∀ (w1 : World), Gr w w1 → ∀ (u : Bool), u = (g && C) → ∀ n, Checked b w x (g && C) (.returned (.int .i64 x)) ((w1.setCell ⟨b, 0, none⟩ (.bool u)).drewN n) := fun w1 hg u hu n => by
    subst hu
    exact ⟨rfl, ((HB.out.gr hg).set _).drewN n, below_drewN (Below.setCell (Below.mono hg (Nat.le_of_lt HB.out.lt)) (Nat.le_refl b) _) n⟩
  have LAST := Lib.hid last
  clear last
  cases g with
  | false =>
    go_enter Tryz.func154, Tryz.ntmps154
    go_wp2_with fail
    refine K.out.mono ?_
    rintro e w1 ⟨rfl, hg⟩
    have hc := (HB.out.gr hg).cell
    have hf := (HB.out.gr hg).frozen
    go_wp2
    go_ret
    exact LAST.out w1 hg _ (by rw [D.out]; rfl) 0
  | true =>
    cases o with
    | false =>
      go_enter Tryz.func154, Tryz.ntmps154
      go_wp2_with fail
      refine K.out.mono ?_
      rintro e w1 ⟨rfl, hg⟩
      have hc := (HB.out.gr hg).cell
      have hf := (HB.out.gr hg).frozen
      go_wp2
      go_ret
      exact LAST.out w1 hg _ (by rw [D.out]; rfl) 0
    | true =>
      by_cases h1 : (s.size : Int) = dgt
      · have h1' : ((s.size : Int) == dgt) = true := by simp [h1]
        have d1 : Hid (decide ((s.size : Int) = dgt) = true) := by simp [Hid, h1]
        clear h1
        by_cases h2 : lo ≤ x
        · have d2 : Hid (decide (lo ≤ x) = true) := by simp [Hid, h2]
          by_cases h3 : x ≤ hi
          · have d3 : Hid (decide (x ≤ hi) = true) := by simp [Hid, h3]
            go_enter Tryz.func154, Tryz.ntmps154
            go_wp2_with fail
            refine K.out.mono ?_
            rintro e w1 ⟨rfl, hg⟩
            have hc := (HB.out.gr hg).cell
            have hf := (HB.out.gr hg).frozen
            go_wp2
            go_ret
            exact LAST.out w1 hg _ (by rw [D.out, d1.out, d2.out, d3.out]; rfl) 0
          · have d3 : Hid (decide (x ≤ hi) = false) := by simpa [Hid] using h3
            have h3' : decide (x ≤ hi) = false := d3.out
            go_enter Tryz.func154, Tryz.ntmps154
            go_wp2_with fail
            refine K.out.mono ?_
            rintro e w1 ⟨rfl, hg⟩
            have hc := (HB.out.gr hg).cell
            have hf := (HB.out.gr hg).frozen
            go_wp2
            go_ret
            exact LAST.out w1 hg _ (by rw [D.out, d1.out, d2.out, d3.out]; rfl) 0
        · have d2 : Hid (decide (lo ≤ x) = false) := by simpa [Hid] using h2
          have h2' : decide (lo ≤ x) = false := d2.out
          go_enter Tryz.func154, Tryz.ntmps154
          go_wp2_with fail
          refine K.out.mono ?_
          rintro e w1 ⟨rfl, hg⟩
          have hc := (HB.out.gr hg).cell
          have hf := (HB.out.gr hg).frozen
          go_wp2
          go_ret
          exact LAST.out w1 hg _ (by rw [D.out, d1.out, d2.out]; rfl) 0
      · have h1' : ((s.size : Int) == dgt) = false := by simp [h1]
        have d1 : Hid (decide ((s.size : Int) = dgt) = false) := by simp [Hid, h1]
        clear h1
        go_enter Tryz.func154, Tryz.ntmps154
        go_wp2_with fail
        refine K.out.mono ?_
        rintro e w1 ⟨rfl, hg⟩
        have hc := (HB.out.gr hg).cell
        have hf := (HB.out.gr hg).frozen
        go_wp2
        go_ret
        exact LAST.out w1 hg _ (by rw [D.out, d1.out]; rfl) 0
end Go.Proofs.YtmemgpmijphkmaaGreatDoor
