/- What the project's guess and Read of package day return, for every text of a length up tto 1048576. -/
import Derived.Test.YtmemgpmijphkmaaGreatDoorXM14
namespace Go.Proofs.YtmemgpmijphkmaaGreatDoor
set_option linter.unusedVariables false
set_option linter.unusedSimpArgs false
open Go.RowKit
def last4 : List UInt8 := [108, 97, 115, 116]
/-- what guess returns: the day that has this text, if there is one -/
def GuessP (l : List UInt8) (k d n : Int) : Prop := ∀ k0 d0 n0 : Int, DayOk k0 d0 n0 → dayL k0 d0 n0 = l → k = k0 ∧ d = d0 ∧ n = n0
def GuessA (l : List UInt8) (w : World) (e : Ending) (w' : World) : Prop := ∃ k d n : Int, e = .returned (dayV k d n) ∧ GuessP l k d n ∧ Gr w w'
/-- what Read reads -/
def RdTab (w : World) : Prop := TxTab w ∧ ErrTab w
theorem Gr.rdT {w w' : World} (h : Gr w w') (k : RdTab w) : RdTab w' := ⟨h.txT k.1, h.errT k.2⟩

theorem index_no {c : UInt8} {r : List UInt8} : ∀ {l : List UInt8}, c ∉ l → Lib.index l (c :: r) = -1
  | [], _ => rfl
  | b :: l, h => by
    have h1 : ¬ c = b := fun e => h (by simp [e])
    have h2 := index_no (c := c) (r := r) (l := l) (fun e => h (by simp [e]))
    unfold Lib.index
    rw [h2]
    simp [List.isPrefixOf, h1]
theorem cut_no {c : UInt8} {r l : List UInt8} (h : c ∉ l) : (Lib.cut l (c :: r)).2.2 = false := by
  unfold Lib.cut
  rw [index_no h]
  rfl
theorem cut_len2 (l sep : List UInt8) : (Lib.cut l sep).2.1.length ≤ l.length := by
  unfold Lib.cut
  split
  · simp
  · simp
theorem cut_62 {d : Int} (h1 : 0 ≤ d) (h2 : d ≤ 6) (t : List UInt8) : Lib.cut (wk d ++ 62 :: 61 :: t) [62, 61] = (wk d, t, true) := by
  have x : d = 0 ∨ d = 1 ∨ d = 2 ∨ d = 3 ∨ d = 4 ∨ d = 5 ∨ d = 6 := by omega
  rcases x with rfl | rfl | rfl | rfl | rfl | rfl | rfl <;> simp [wk, Lib.cut, Lib.index, List.isPrefixOf]
theorem cut_60 {d : Int} (h1 : 0 ≤ d) (h2 : d ≤ 6) (t : List UInt8) : Lib.cut (wk d ++ 60 :: 61 :: t) [60, 61] = (wk d, t, true) := by
  have x : d = 0 ∨ d = 1 ∨ d = 2 ∨ d = 3 ∨ d = 4 ∨ d = 5 ∨ d = 6 := by omega
  rcases x with rfl | rfl | rfl | rfl | rfl | rfl | rfl <;> simp [wk, Lib.cut, Lib.index, List.isPrefixOf]
theorem dz_not {c : UInt8} (hc : (57 : Int) < c.toNat) {n : Int} (h1 : 0 ≤ n) (h2 : n < 1000) : c ∉ dz n := fun e => by
  obtain ⟨i, hi, he⟩ := List.mem_iff_getElem.1 e
  have := (tells_dz h1 h2).1.1 i hi
  unfold bt at this
  rw [List.getD_eq_getElem?_getD, List.getElem?_eq_getElem hi, he] at this
  simp at this
  omega
theorem wk_not {c : UInt8} (hc : (c.toNat : Int) < 65) {d : Int} (h1 : 0 ≤ d) (h2 : d ≤ 6) : c ∉ wk d := fun e => by
  have x : d = 0 ∨ d = 1 ∨ d = 2 ∨ d = 3 ∨ d = 4 ∨ d = 5 ∨ d = 6 := by omega
  rcases x with rfl | rfl | rfl | rfl | rfl | rfl | rfl <;> simp [wk] at e <;> rcases e with rfl | rfl | rfl <;> revert hc <;> decide
theorem pre_last (d : Int) : Lib.hasPrefix ([108, 97, 115, 116] ++ wk d) last4 = true := by simp [Lib.hasPrefix, last4, List.isPrefixOf]
theorem pre_head {c : UInt8} {r : List UInt8} (h : ¬ c = 108) : Lib.hasPrefix (c :: r) last4 = false := by
  have : ¬ (108 : UInt8) = c := fun e => h e.symm
  simp [Lib.hasPrefix, last4, List.isPrefixOf, this]
theorem kinds {k0 d0 n0 : Int} (h : DayOk k0 d0 n0) : (k0 = 1 ∧ d0 = 0 ∧ 1 ≤ n0 ∧ n0 ≤ 31) ∨ (k0 = 2 ∧ 0 ≤ d0 ∧ d0 ≤ 6 ∧ n0 = 0) ∨ (k0 = 3 ∧ 0 ≤ d0 ∧ d0 ≤ 6 ∧ 1 ≤ n0 ∧ n0 ≤ 31) ∨ (k0 = 4 ∧ 0 ≤ d0 ∧ d0 ≤ 6 ∧ 1 ≤ n0 ∧ n0 ≤ 31) := by
  unfold DayOk at h
  omega
theorem pre_of {k0 d0 n0 : Int} (h : DayOk k0 d0 n0) : Lib.hasPrefix (dayL k0 d0 n0) last4 = decide (k0 = 2) := by
  rcases kinds h with ⟨rfl, rfl, a, b⟩ | ⟨rfl, a, b, rfl⟩ | ⟨rfl, a, b, _⟩ | ⟨rfl, a, b, _⟩
  · obtain ⟨c, r, e, x⟩ := dz_head (n := n0) (by omega) (by omega)
    simp only [dayL, if_true]
    rw [e, pre_head (by rintro rfl; revert x; decide)]
    rfl
  · simp only [dayL]
    exact pre_last d0
  · obtain ⟨c, r, e, _, x⟩ := wk_head a b
    simp only [dayL]
    simp only [if_true, if_false, Int.reduceEq]
    rw [e]
    exact pre_head x
  · obtain ⟨c, r, e, _, x⟩ := wk_head a b
    simp only [dayL]
    simp only [if_true, if_false, Int.reduceEq]
    rw [e]
    exact pre_head x
theorem cut3_of {k0 d0 n0 : Int} (h : DayOk k0 d0 n0) (h2 : ¬ k0 = 2) : (k0 = 3 ∧ Lib.cut (dayL k0 d0 n0) [62, 61] = (wk d0, dz n0, true)) ∨ (¬ k0 = 3 ∧ (Lib.cut (dayL k0 d0 n0) [62, 61]).2.2 = false) := by
  rcases kinds h with ⟨rfl, rfl, a, b⟩ | ⟨rfl, a, b, rfl⟩ | ⟨rfl, a, b, _⟩ | ⟨rfl, a, b, c, d⟩
  · exact Or.inr ⟨by omega, cut_no (by simp only [dayL, if_true]; exact dz_not (by decide) (by omega) (by omega))⟩
  · exact absurd rfl h2
  · exact Or.inl ⟨rfl, cut_62 a b _⟩
  · refine Or.inr ⟨by omega, cut_no ?_⟩
    simp only [dayL, if_true, if_false, Int.reduceEq, List.mem_append, List.mem_cons, not_or]
    exact ⟨wk_not (by decide) a b, by decide, by decide, dz_not (by decide) (by omega) (by omega)⟩
theorem cut4_of {k0 d0 n0 : Int} (h : DayOk k0 d0 n0) (h2 : ¬ k0 = 2) (h3 : ¬ k0 = 3) : (k0 = 4 ∧ Lib.cut (dayL k0 d0 n0) [60, 61] = (wk d0, dz n0, true)) ∨ (¬ k0 = 4 ∧ (Lib.cut (dayL k0 d0 n0) [60, 61]).2.2 = false) := by
  rcases kinds h with ⟨rfl, rfl, a, b⟩ | ⟨rfl, a, b, rfl⟩ | ⟨rfl, a, b, _⟩ | ⟨rfl, a, b, c, d⟩
  · exact Or.inr ⟨by omega, cut_no (by simp only [dayL, if_true]; exact dz_not (by decide) (by omega) (by omega))⟩
  · exact absurd rfl h2
  · exact absurd rfl h3
  · exact Or.inl ⟨rfl, cut_60 a b _⟩

def WdP (l : List UInt8) (d : Int) : Prop := ∀ d0 : Int, 0 ≤ d0 → d0 ≤ 6 → l = wk d0 → d = d0
def NbP (l : List UInt8) (n : Int) : Prop := ∀ v : Int, 1 ≤ v → v ≤ 31 → l = dz v → n = v
theorem g_last {l : List UInt8} {d : Int} (h : Lib.hasPrefix l last4 = true) (hd : WdP (l.drop 4) d) : GuessP l 2 d 0 := fun k0 d0 n0 ok e => by
  have p := pre_of ok
  rw [e, h] at p
  have k2 : k0 = 2 := by simpa using p.symm
  subst k2
  rcases kinds ok with ⟨x, _⟩ | ⟨_, a, b, rfl⟩ | ⟨x, _⟩ | ⟨x, _⟩
  · omega
  · refine ⟨rfl, hd d0 a b ?_, rfl⟩
    rw [← e]
    simp [dayL]
  · omega
  · omega
theorem not2 {l : List UInt8} (h : Lib.hasPrefix l last4 = false) {k0 d0 n0 : Int} (ok : DayOk k0 d0 n0) (e : dayL k0 d0 n0 = l) : ¬ k0 = 2 := fun k2 => by
  have p := pre_of ok
  rw [e, h] at p
  simp [k2] at p
theorem g_from {l a b : List UInt8} {d n : Int} (h : Lib.hasPrefix l last4 = false) (hc : Lib.cut l [62, 61] = (a, b, true)) (hd : WdP a d) (hn : NbP b n) : GuessP l 3 d n := fun k0 d0 n0 ok e => by
  have k2 := not2 h ok e
  rcases cut3_of ok k2 with ⟨k3, c⟩ | ⟨k3, c⟩
  · rw [e, hc] at c
    injection c with c1 c2
    injection c2 with c2 _
    rcases kinds ok with ⟨x, _⟩ | ⟨x, _⟩ | ⟨_, p, q, r, s⟩ | ⟨x, _⟩ <;> first | (exfalso; omega) | exact ⟨k3.symm, hd d0 p q c1, hn n0 r s c2⟩
  · rw [e, hc] at c
    cases c
theorem g_till {l a b : List UInt8} {d n : Int} (h : Lib.hasPrefix l last4 = false) (h3 : (Lib.cut l [62, 61]).2.2 = false) (hc : Lib.cut l [60, 61] = (a, b, true)) (hd : WdP a d) (hn : NbP b n) : GuessP l 4 d n := fun k0 d0 n0 ok e => by
  have k2 := not2 h ok e
  rcases cut3_of ok k2 with ⟨k3, c⟩ | ⟨k3, _⟩
  · rw [e] at c
    rw [c] at h3
    cases h3
  · rcases cut4_of ok k2 k3 with ⟨k4, c⟩ | ⟨k4, c⟩
    · rw [e, hc] at c
      injection c with c1 c2
      injection c2 with c2 _
      rcases kinds ok with ⟨x, _⟩ | ⟨x, _⟩ | ⟨x, _⟩ | ⟨_, p, q, r, s⟩ <;> first | (exfalso; omega) | exact ⟨k4.symm, hd d0 p q c1, hn n0 r s c2⟩
    · rw [e, hc] at c
      cases c
theorem g_num {l : List UInt8} {n : Int} (h : Lib.hasPrefix l last4 = false) (h3 : (Lib.cut l [62, 61]).2.2 = false) (h4 : (Lib.cut l [60, 61]).2.2 = false) (hn : NbP l n) : GuessP l 1 0 n := fun k0 d0 n0 ok e => by
  have k2 := not2 h ok e
  rcases cut3_of ok k2 with ⟨k3, c⟩ | ⟨k3, _⟩
  · rw [e] at c
    rw [c] at h3
    cases h3
  · rcases cut4_of ok k2 k3 with ⟨k4, c⟩ | ⟨k4, c⟩
    · rw [e] at c
      rw [c] at h4
      cases h4
    · rcases kinds ok with ⟨rfl, rfl, r, s⟩ | ⟨x, _⟩ | ⟨x, _⟩ | ⟨x, _⟩ <;> first | (exfalso; omega) | exact ⟨rfl, rfl, hn n0 r s (by rw [← e]; simp [dayL])⟩
end Go.Proofs.YtmemgpmijphkmaaGreatDoor
