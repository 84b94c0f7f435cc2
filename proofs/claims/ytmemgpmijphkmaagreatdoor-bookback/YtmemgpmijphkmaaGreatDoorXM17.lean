/- The function literal that checks a part of a duration: what it returns and what it leaves in the variable that it captures. strings.Cut at a colon, for texts of every length; the width of a number. -/
import Derived.OneCell
import Derived.Test.YtmemgpmijphkmaaGreatDoorXM13
import Derived.Lib.CutLaws
import Derived.Lib.IndexBytes
import Derived.Test.YtmemgpmijphkmaaGreatDoorXM02
namespace Go.Proofs.YtmemgpmijphkmaaGreatDoor
set_option linter.unusedVariables false
set_option linter.unusedSimpArgs false
open Go.RowKit
/-- a variable of type bool of the call's own, and what it holds -/
def Box (w : World) (b : Nat) (v : Bool) : Prop := w.heap[b]? = some (.cells #[.bool v] 4 (0, 0))
theorem Box.cell {w : World} {b : Nat} {v : Bool} (h : Box w b v) : w.cell? ⟨b, 0, none⟩ = some (.bool v) := by
  unfold Box at h; simp [World.cell?, h]
theorem Box.frozen {w : World} {b : Nat} {v : Bool} (h : Box w b v) : w.frozen? ⟨b, 0, none⟩ = false := by
  unfold Box at h; simp [World.frozen?, h]
theorem Box.lt {w : World} {b : Nat} {v : Bool} (h : Box w b v) : b < w.heap.size := by
  unfold Box at h
  by_cases c : b < w.heap.size
  · exact c
  · rw [Array.getElem?_eq_none (by omega)] at h; cases h
theorem Box.gr {w w' : World} {b : Nat} {v : Bool} (h : Box w b v) (g : Gr w w') : Box w' b v := by
  unfold Box; rw [Below.block g b h.lt]; exact h
theorem Box.set {w : World} {b : Nat} {v : Bool} (h : Box w b v) (u : Bool) : Box (w.setCell ⟨b, 0, none⟩ (.bool u)) b u := by
  exact one_setCell h
theorem Box.drewN {w : World} {b : Nat} {v : Bool} (h : Box w b v) (n : Nat) : Box (w.drewN n) b v := h
/-- is the part a number of so many digits between two bounds? -/
noncomputable def chk (l : List UInt8) (dgt lo hi : Int) : Bool := nok l && decide ((l.length : Int) = dgt) && decide (lo ≤ nv l) && decide (nv l ≤ hi)
/-- what the literal leaves -/
def Checked (b : Nat) (w : World) (x : Int) (u : Bool) (e : Ending) (w' : World) : Prop := e = .returned (.int .i64 x) ∧ Box w' b u ∧ Below b w w'

set_option maxHeartbeats 1000000 in
theorem check_any (s : ByteArray) (g : Bool) (dgt lo hi : Int) (b : Nat) (w : World) (hm : s.size ≤ maxLen) (hb : Box w b g) :
    Calls Tryz.prog 154 #[.string s, .int .i64 dgt, .int .i64 lo, .int .i64 hi, .pointer (some ⟨b, 0, none⟩)] w (Checked b w (nv s.toList) (g && chk s.toList dgt lo hi)) := by
  have K := Lib.hid (number_any s w hm)
  have L := toList_len s
  unfold maxLen at hm
  have HB := Lib.hid hb
  have D : Hid (chk s.toList dgt lo hi = (nok s.toList && decide ((s.size : Int) = dgt) && decide (lo ≤ nv s.toList) && decide (nv s.toList ≤ hi))) := by unfold Hid chk; rw [L]
  clear hb L
  generalize chk s.toList dgt lo hi = C at D ⊢
  generalize nv s.toList = x at K D ⊢
  generalize nok s.toList = o at K D ⊢
  have last : ∀ (w1 : World), Gr w w1 → ∀ (u : Bool), u = (g && C) → ∀ n, Checked b w x (g && C) (.returned (.int .i64 x)) ((w1.setCell ⟨b, 0, none⟩ (.bool u)).drewN n) := fun w1 hg u hu n => by
    subst hu
    exact ⟨rfl, ((HB.out.gr hg).set _).drewN n, below_drewN (Below.setCell (Below.mono hg (Nat.le_of_lt HB.out.lt)) (Nat.le_refl b) _) n⟩
  have LAST := Lib.hid last
  clear last
  cases g with
  | false =>
    go_enter Tryz.func154, Tryz.ntmps154
    go_wp2_with fail
    refine K.out.mono ?_
    rintro e w1 ⟨rfl, hg⟩
    have hc := (HB.out.gr hg).cell
    have hf := (HB.out.gr hg).frozen
    go_wp2
    go_ret
    exact LAST.out w1 hg _ (by rw [D.out]; rfl) 0
  | true =>
    cases o with
    | false =>
      go_enter Tryz.func154, Tryz.ntmps154
      go_wp2_with fail
      refine K.out.mono ?_
      rintro e w1 ⟨rfl, hg⟩
      have hc := (HB.out.gr hg).cell
      have hf := (HB.out.gr hg).frozen
      go_wp2
      go_ret
      exact LAST.out w1 hg _ (by rw [D.out]; rfl) 0
    | true =>
      by_cases h1 : (s.size : Int) = dgt
      · have h1' : ((s.size : Int) == dgt) = true := by simp [h1]
        have d1 : Hid (decide ((s.size : Int) = dgt) = true) := by simp [Hid, h1]
        clear h1
        by_cases h2 : lo ≤ x
        · have d2 : Hid (decide (lo ≤ x) = true) := by simp [Hid, h2]
          by_cases h3 : x ≤ hi
          · have d3 : Hid (decide (x ≤ hi) = true) := by simp [Hid, h3]
            go_enter Tryz.func154, Tryz.ntmps154
            go_wp2_with fail
            refine K.out.mono ?_
            rintro e w1 ⟨rfl, hg⟩
            have hc := (HB.out.gr hg).cell
            have hf := (HB.out.gr hg).frozen
            go_wp2
            go_ret
            exact LAST.out w1 hg _ (by rw [D.out, d1.out, d2.out, d3.out]; rfl) 0
          · have d3 : Hid (decide (x ≤ hi) = false) := by simpa [Hid] using h3
            have h3' : decide (x ≤ hi) = false := d3.out
            go_enter Tryz.func154, Tryz.ntmps154
            go_wp2_with fail
            refine K.out.mono ?_
            rintro e w1 ⟨rfl, hg⟩
            have hc := (HB.out.gr hg).cell
            have hf := (HB.out.gr hg).frozen
            go_wp2
            go_ret
            exact LAST.out w1 hg _ (by rw [D.out, d1.out, d2.out, d3.out]; rfl) 0
        · have d2 : Hid (decide (lo ≤ x) = false) := by simpa [Hid] using h2
          have h2' : decide (lo ≤ x) = false := d2.out
          go_enter Tryz.func154, Tryz.ntmps154
          go_wp2_with fail
          refine K.out.mono ?_
          rintro e w1 ⟨rfl, hg⟩
          have hc := (HB.out.gr hg).cell
          have hf := (HB.out.gr hg).frozen
          go_wp2
          go_ret
          exact LAST.out w1 hg _ (by rw [D.out, d1.out, d2.out]; rfl) 0
      · have h1' : ((s.size : Int) == dgt) = false := by simp [h1]
        have d1 : Hid (decide ((s.size : Int) = dgt) = false) := by simp [Hid, h1]
        clear h1
        go_enter Tryz.func154, Tryz.ntmps154
        go_wp2_with fail
        refine K.out.mono ?_
        rintro e w1 ⟨rfl, hg⟩
        have hc := (HB.out.gr hg).cell
        have hf := (HB.out.gr hg).frozen
        go_wp2
        go_ret
        exact LAST.out w1 hg _ (by rw [D.out, d1.out]; rfl) 0
end Go.Proofs.YtmemgpmijphkmaaGreatDoor
namespace Go.Proofs.YtmemgpmijphkmaaGreatDoor
set_option linter.unusedVariables false
set_option linter.unusedSimpArgs false
open Go.RowKit
set_option maxHeartbeats 1000000 in
set_option maxRecDepth 100000 in
theorem colon_index (s : ByteArray) (w : World) :
    Calls Tryz.prog 99 #[.string s, .string ⟨#[58]⟩] w fun e w' => e = .returned (.int .i64 (Lib.index s.data.toList [58])) ∧ w = w' := by
  by_cases h : s = ⟨#[58]⟩
  · subst h
    have E : Hid (Lib.index (⟨#[58]⟩ : ByteArray).data.toList [58] = 0) := by unfold Hid; decide
    generalize Lib.index (⟨#[58]⟩ : ByteArray).data.toList [58] = q at E ⊢
    go_enter Tryz.func99, Tryz.ntmps99
    go_wp2_with fail
    go_ret
    exact ⟨ret_int E.out.symm, rfl⟩
  · have e1 : (([58] : List UInt8) == s.toList) = false := by
      cases hq : ([58] : List UInt8) == s.toList with
      | false => rfl
      | true =>
        have := eq_of_beq hq
        exact absurd (by rw [S_of s, ← this]; rfl) h
    have e3 : ¬ (⟨#[58]⟩ : ByteArray) = s := fun x => h x.symm
    have E := Lib.hid (Lib.index_one s.data.toList 58)
    clear h
    go_enter Tryz.func99, Tryz.ntmps99
    go_wp2_with fail
    refine (Tryz.stringslite_IndexByte s 58 w).mono ?_
    rintro e w1 ⟨rfl, rfl⟩
    go_wp2_with fail
    go_ret
    exact ⟨by rw [E.out]; rfl, rfl⟩

/-- what Cut returns -/
abbrev cut3 (a b : List UInt8) (f : Bool) : Ending := .returned (.tuple #[.string (S a), .string (S b), .bool f])
def cutL (l : List UInt8) : List UInt8 × List UInt8 × Bool := Lib.cut l [58]
theorem tup3 {a a' b b' : ByteArray} {c c' : Bool} (h1 : a' = a) (h2 : b' = b) (h3 : c' = c) : Ending.returned (.tuple #[.string a, .string b, .bool c]) = .returned (.tuple #[.string a', .string b', .bool c']) := by rw [h1, h2, h3]

set_option maxHeartbeats 1000000 in
theorem cut_lite (s : ByteArray) (w : World) (hm : s.size ≤ maxLen) :
    Calls Tryz.prog 117 #[.string s, .string ⟨#[58]⟩] w fun e w' => e = cut3 (cutL s.toList).1 (cutL s.toList).2.1 (cutL s.toList).2.2 ∧ Gr w w' := by
  unfold maxLen at hm
  have K := Lib.hid (colon_index s w)
  rcases Lib.indexB_cases s ⟨#[58]⟩ with hix | ⟨i, hix, hroom⟩
  · obtain ⟨e1, e2, e3⟩ := Lib.cutB_miss s ⟨#[58]⟩ hix
    have hix' : Lib.index s.data.toList [58] = -1 := hix
    rw [hix'] at K
    have E1 : Hid (S (cutL s.toList).1 = s) := by unfold Hid cutL; rw [ByteArray.toList_eq]; exact e1
    have E2 : Hid (S (cutL s.toList).2.1 = ⟨#[]⟩) := by unfold Hid cutL; rw [ByteArray.toList_eq]; exact e2
    have E3 : Hid ((cutL s.toList).2.2 = false) := by unfold Hid cutL; rw [ByteArray.toList_eq]; exact e3
    clear e1 e2 e3 hix hix'
    go_enter Tryz.func117, Tryz.ntmps117
    go_wp2_with fail
    refine K.out.mono ?_
    rintro e w1 ⟨rfl, rfl⟩
    go_wp2_with fail
    go_ret3
    exact ⟨tup3 E1.out E2.out E3.out, Gr.refl _⟩
  · obtain ⟨e1, e2, e3⟩ := Lib.cutB_hit s ⟨#[58]⟩ i hix
    have hix' : Lib.index s.data.toList [58] = i := hix
    rw [hix'] at K
    have E1 : Hid (S (cutL s.toList).1 = s.extract 0 i) := by unfold Hid cutL; rw [ByteArray.toList_eq]; exact e1
    have E2 : Hid (S (cutL s.toList).2.1 = s.extract (i + 1) s.size) := by unfold Hid cutL; rw [ByteArray.toList_eq]; exact e2
    have E3 : Hid ((cutL s.toList).2.2 = true) := by unfold Hid cutL; rw [ByteArray.toList_eq]; exact e3
    have hr : i + 1 ≤ s.size := hroom
    clear e1 e2 e3 hix hix' hroom
    have c1 : (0 : Int) ≤ ↑i := by omega
    have c2 : (↑i : Int) ≤ ↑s.size := by omega
    have c3 : (0 : Int) ≤ ↑i + 1 := by omega
    have c4 : (↑i + 1 : Int) ≤ ↑s.size := by omega
    go_enter Tryz.func117, Tryz.ntmps117
    go_wp2_with fail
    refine K.out.mono ?_
    rintro e w1 ⟨rfl, rfl⟩
    go_wp2_with fail
    go_quiet (fail)
    go_wp2
    go_ret3
    exact ⟨tup3 E1.out E2.out E3.out, (Gr.refl _).drewN _⟩

set_option maxHeartbeats 400000 in
theorem cut_any (s : ByteArray) (w : World) (hm : s.size ≤ maxLen) :
    Calls Tryz.prog 72 #[.string s, .string ⟨#[58]⟩] w fun e w' => e = cut3 (cutL s.toList).1 (cutL s.toList).2.1 (cutL s.toList).2.2 ∧ Gr w w' := by
  have K := Lib.hid (cut_lite s w hm)
  generalize (cutL s.toList).2.2 = c at K ⊢
  generalize (cutL s.toList).2.1 = b at K ⊢
  generalize (cutL s.toList).1 = a at K ⊢
  go_enter Tryz.func72, Tryz.ntmps72
  go_wp2_with fail
  refine K.out.mono ?_
  rintro e w1 ⟨rfl, hg⟩
  go_wp2_with fail
  go_ret3
  exact ⟨rfl, hg⟩

/-- how many digits are left when the leading zeros are dropped, at least one -/
def wid (l : List UInt8) : Int := max 1 ((l.dropWhile (· == 48)).length : Int)

set_option maxHeartbeats 400000 in
theorem width_any (s : ByteArray) (w : World) (hm : s.size ≤ maxLen) :
    Calls Tryz.prog 156 #[.string s] w fun e w' => e = .returned (.int .i64 (wid s.toList)) ∧ Gr w w' := by
  unfold maxLen at hm
  have K := Tryz.strings_TrimLeft_one s 48 (by decide) w
  have e0 : (⟨(Lib.trimLeftB s.data.toList 48).toArray⟩ : ByteArray) = S (s.toList.dropWhile (· == 48)) := by rw [ByteArray.toList_eq]; rfl
  rw [e0] at K
  have hle : (s.toList.dropWhile (· == 48)).length ≤ s.size := by rw [← toList_len s]; exact (List.dropWhile_suffix _).length_le
  have K' := Lib.hid K
  clear K e0
  unfold wid
  generalize s.toList.dropWhile (· == 48) = l at K' hle ⊢
  go_enter Tryz.func156, Tryz.ntmps156
  go_wp2_with fail
  refine K'.out.mono ?_
  rintro e w1 ⟨rfl, rfl⟩
  go_wp2_with fail
  go_ret
  exact ⟨rfl, Gr.refl _⟩
end Go.Proofs.YtmemgpmijphkmaaGreatDoor
