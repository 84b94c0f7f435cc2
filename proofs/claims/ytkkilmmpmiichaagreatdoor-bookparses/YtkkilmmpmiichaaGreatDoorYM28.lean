/- What the project's guess of package rule returns: the only rule that may have these words. -/
import Derived.Test.YtkkilmmpmiichaaGreatDoorYM27
import Derived.Test.YtkkilmmpmiichaaGreatDoorYM20
namespace Go.Proofs.YtkkilmmpmiichaaGreatDoor
set_option linter.unusedVariables false
set_option linter.unusedSimpArgs false
open Go.RowKit
/-- the words are those of this rule -/
def WordsF (ws : Nat → ByteArray) (nm lt : List UInt8) (fr tt mo k d n at' by' sv : Int) : Prop :=
  (ws 1).toList = nm ∧ (ws 2).toList = dz fr ∧ (ws 3).toList = dz tt ∧ (ws 4).toList = dz mo ∧ (ws 5).toList = dayL k d n ∧ (ws 6).toList = spanL at' ++ suf by' ∧ (ws 7).toList = spanL sv ∧ (ws 8).toList = lt
/-- whatever rule has these words is this one -/
def OnlyRule (ws : Nat → ByteArray) (fr tt mo k d n at' by' sv : Int) : Prop :=
  ∀ (nm lt : List UInt8) (fr' tt' mo' k' d' n' at2 by2 sv' : Int), ruleC nm lt fr' tt' mo' k' d' n' at2 by2 sv' = 0 → WordsF ws nm lt fr' tt' mo' k' d' n' at2 by2 sv' →
    fr = fr' ∧ tt = tt' ∧ mo = mo' ∧ k = k' ∧ d = d' ∧ n = n' ∧ at' = at2 ∧ by' = by2 ∧ sv = sv'
/-- what guess returns -/
def GuessR (ws : Nat → ByteArray) (w : World) (e : Ending) (w' : World) : Prop :=
  ∃ fr tt mo k d n at' by' sv : Int, e = .returned (ruleV (ws 1) fr tt mo k d n at' by' sv (ws 8)) ∧ OnlyRule ws fr tt mo k d n at' by' sv ∧ Gr w w'
theorem guess_word {ws : Nat → ByteArray} {fr tt mo k d n at' sv : Int} (hd : ∀ k' d' n', DayOk k' d' n' → dayL k' d' n' = (ws 5).toList → k = k' ∧ d = d' ∧ n = n')
    (ha : ∀ v, IsSpan (cutC (ws 6).toList).1 v → at' = v) (hs : ∀ v, IsSpan (ws 7).toList v → sv = v)
    (h2 : ∀ v : Int, 0 ≤ v → v < 1000000000 → (ws 2).toList = dz v → fr = v) (h3 : ∀ v : Int, 0 ≤ v → v < 1000000000 → (ws 3).toList = dz v → tt = v) (h4 : ∀ v : Int, 0 ≤ v → v < 1000000000 → (ws 4).toList = dz v → mo = v) :
    OnlyRule ws fr tt mo k d n at' (cutC (ws 6).toList).2 sv := by
  intro nm lt fr' tt' mo' k' d' n' at2 by2 sv' hc hw
  obtain ⟨a, b, c, r⟩ := ruleC_zero.1 hc
  obtain ⟨⟨f1, f2⟩, ⟨t1, t2⟩, ft, o1, o2⟩ := b
  obtain ⟨_, ⟨a1, a2⟩, ⟨b1, b2⟩, s1, s2⟩ := r
  obtain ⟨w1, w2, w3, w4, w5, w6, w7, w8⟩ := hw
  have cw := cutC_word a1 a2 b1 b2
  rw [← w6] at cw
  obtain ⟨e1, e2, e3⟩ := hd k' d' n' c w5.symm
  refine ⟨h2 _ (by omega) (by omega) w2, h3 _ (by omega) (by omega) w3, h4 _ (by omega) (by omega) w4, e1, e2, e3, ha _ ⟨⟨a1, a2⟩, by rw [cw]⟩, by rw [cw], hs _ ⟨⟨by omega, by omega⟩, w7.symm⟩⟩
theorem day_only {l : List UInt8} {k d n : Int} (h : (DayOk k d n ∧ dayL k d n = l) ∨ ¬ ∃ k d n, DayOk k d n ∧ dayL k d n = l) : ∀ k' d' n', DayOk k' d' n' → dayL k' d' n' = l → k = k' ∧ d = d' ∧ n = n' := by
  intro k' d' n' ok e
  rcases h with ⟨a, b⟩ | h
  · exact dayL_inj a ok (b.trans e.symm)
  · exact absurd ⟨k', d', n', ok, e⟩ h
theorem span_only {l : List UInt8} {v : Int} (h : IsSpan l v ∨ ¬ ∃ n, IsSpan l n) : ∀ v', IsSpan l v' → v = v' := by
  intro v' hv
  rcases h with a | h
  · exact spanL_inj a.1 hv.1 (a.2.trans hv.2.symm)
  · exact absurd ⟨v', hv⟩ h
theorem keepG {w W W' : World} {g b : Nat} {x1 x2 x3 x4 x8 y0 y1 y2 : Value} (h : W.cell? ⟨g, 1, none⟩ = some x1 ∧ W.cell? ⟨g, 2, none⟩ = some x2 ∧ W.cell? ⟨g, 3, none⟩ = some x3 ∧ W.cell? ⟨g, 4, none⟩ = some x4 ∧ W.cell? ⟨g, 8, none⟩ = some x8 ∧ W.cell? ⟨b, 0, none⟩ = some y0 ∧ W.cell? ⟨b, 1, none⟩ = some y1 ∧ W.cell? ⟨b, 2, none⟩ = some y2 ∧ Gr w W) (hg : Gr W W') :
    W'.cell? ⟨g, 1, none⟩ = some x1 ∧ W'.cell? ⟨g, 2, none⟩ = some x2 ∧ W'.cell? ⟨g, 3, none⟩ = some x3 ∧ W'.cell? ⟨g, 4, none⟩ = some x4 ∧ W'.cell? ⟨g, 8, none⟩ = some x8 ∧ W'.cell? ⟨b, 0, none⟩ = some y0 ∧ W'.cell? ⟨b, 1, none⟩ = some y1 ∧ W'.cell? ⟨b, 2, none⟩ = some y2 ∧ Gr w W' := by
  obtain ⟨h1, h2, h3, h4, h8, k0, k1, k2, hw⟩ := h
  exact ⟨hg.holds h1, hg.holds h2, hg.holds h3, hg.holds h4, hg.holds h8, hg.holds k0, hg.holds k1, hg.holds k2, hw.trans hg⟩
theorem store11_cell (W : World) {p b : Nat} (i : Nat) (h : b ≠ p) (v0 v1 v2 v3 v4 v5 v6 v7 v8 v9 v10 : Value) : (((((((((((W.setCell ⟨p, 0, none⟩ v0).setCell ⟨p, 1, none⟩ v1).setCell ⟨p, 2, none⟩ v2).setCell ⟨p, 3, none⟩ v3).setCell ⟨p, 4, none⟩ v4).setCell ⟨p, 5, none⟩ v5).setCell ⟨p, 6, none⟩ v6).setCell ⟨p, 7, none⟩ v7).setCell ⟨p, 8, none⟩ v8).setCell ⟨p, 9, none⟩ v9).setCell ⟨p, 10, none⟩ v10).cell? ⟨b, i, none⟩ = W.cell? ⟨b, i, none⟩ := by
  have ne : ∀ j : Nat, (⟨p, j, none⟩ : Addr) ≠ ⟨b, i, none⟩ := fun j x => h (congrArg Addr.block x).symm
  rw [World.cell?_setCell_other _ _ _ _ (ne 10), World.cell?_setCell_other _ _ _ _ (ne 9), World.cell?_setCell_other _ _ _ _ (ne 8), World.cell?_setCell_other _ _ _ _ (ne 7), World.cell?_setCell_other _ _ _ _ (ne 6), World.cell?_setCell_other _ _ _ _ (ne 5), World.cell?_setCell_other _ _ _ _ (ne 4), World.cell?_setCell_other _ _ _ _ (ne 3), World.cell?_setCell_other _ _ _ _ (ne 2), World.cell?_setCell_other _ _ _ _ (ne 1), World.cell?_setCell_other _ _ _ _ (ne 0)]
theorem keepGS {w W : World} {g b p : Nat} {x1 x2 x3 x4 x8 y0 y1 y2 : Value} (h : W.cell? ⟨g, 1, none⟩ = some x1 ∧ W.cell? ⟨g, 2, none⟩ = some x2 ∧ W.cell? ⟨g, 3, none⟩ = some x3 ∧ W.cell? ⟨g, 4, none⟩ = some x4 ∧ W.cell? ⟨g, 8, none⟩ = some x8 ∧ W.cell? ⟨b, 0, none⟩ = some y0 ∧ W.cell? ⟨b, 1, none⟩ = some y1 ∧ W.cell? ⟨b, 2, none⟩ = some y2 ∧ Gr w W) (hg : g ≠ p) (hb : b ≠ p) (hp : w.heap.size ≤ p) (v0 v1 v2 v3 v4 v5 v6 v7 v8 v9 v10 : Value) :
    (((((((((((W.setCell ⟨p, 0, none⟩ v0).setCell ⟨p, 1, none⟩ v1).setCell ⟨p, 2, none⟩ v2).setCell ⟨p, 3, none⟩ v3).setCell ⟨p, 4, none⟩ v4).setCell ⟨p, 5, none⟩ v5).setCell ⟨p, 6, none⟩ v6).setCell ⟨p, 7, none⟩ v7).setCell ⟨p, 8, none⟩ v8).setCell ⟨p, 9, none⟩ v9).setCell ⟨p, 10, none⟩ v10).cell? ⟨g, 1, none⟩ = some x1 ∧ (((((((((((W.setCell ⟨p, 0, none⟩ v0).setCell ⟨p, 1, none⟩ v1).setCell ⟨p, 2, none⟩ v2).setCell ⟨p, 3, none⟩ v3).setCell ⟨p, 4, none⟩ v4).setCell ⟨p, 5, none⟩ v5).setCell ⟨p, 6, none⟩ v6).setCell ⟨p, 7, none⟩ v7).setCell ⟨p, 8, none⟩ v8).setCell ⟨p, 9, none⟩ v9).setCell ⟨p, 10, none⟩ v10).cell? ⟨g, 2, none⟩ = some x2 ∧ (((((((((((W.setCell ⟨p, 0, none⟩ v0).setCell ⟨p, 1, none⟩ v1).setCell ⟨p, 2, none⟩ v2).setCell ⟨p, 3, none⟩ v3).setCell ⟨p, 4, none⟩ v4).setCell ⟨p, 5, none⟩ v5).setCell ⟨p, 6, none⟩ v6).setCell ⟨p, 7, none⟩ v7).setCell ⟨p, 8, none⟩ v8).setCell ⟨p, 9, none⟩ v9).setCell ⟨p, 10, none⟩ v10).cell? ⟨g, 3, none⟩ = some x3 ∧ (((((((((((W.setCell ⟨p, 0, none⟩ v0).setCell ⟨p, 1, none⟩ v1).setCell ⟨p, 2, none⟩ v2).setCell ⟨p, 3, none⟩ v3).setCell ⟨p, 4, none⟩ v4).setCell ⟨p, 5, none⟩ v5).setCell ⟨p, 6, none⟩ v6).setCell ⟨p, 7, none⟩ v7).setCell ⟨p, 8, none⟩ v8).setCell ⟨p, 9, none⟩ v9).setCell ⟨p, 10, none⟩ v10).cell? ⟨g, 4, none⟩ = some x4 ∧ (((((((((((W.setCell ⟨p, 0, none⟩ v0).setCell ⟨p, 1, none⟩ v1).setCell ⟨p, 2, none⟩ v2).setCell ⟨p, 3, none⟩ v3).setCell ⟨p, 4, none⟩ v4).setCell ⟨p, 5, none⟩ v5).setCell ⟨p, 6, none⟩ v6).setCell ⟨p, 7, none⟩ v7).setCell ⟨p, 8, none⟩ v8).setCell ⟨p, 9, none⟩ v9).setCell ⟨p, 10, none⟩ v10).cell? ⟨g, 8, none⟩ = some x8 ∧ (((((((((((W.setCell ⟨p, 0, none⟩ v0).setCell ⟨p, 1, none⟩ v1).setCell ⟨p, 2, none⟩ v2).setCell ⟨p, 3, none⟩ v3).setCell ⟨p, 4, none⟩ v4).setCell ⟨p, 5, none⟩ v5).setCell ⟨p, 6, none⟩ v6).setCell ⟨p, 7, none⟩ v7).setCell ⟨p, 8, none⟩ v8).setCell ⟨p, 9, none⟩ v9).setCell ⟨p, 10, none⟩ v10).cell? ⟨b, 0, none⟩ = some y0 ∧ (((((((((((W.setCell ⟨p, 0, none⟩ v0).setCell ⟨p, 1, none⟩ v1).setCell ⟨p, 2, none⟩ v2).setCell ⟨p, 3, none⟩ v3).setCell ⟨p, 4, none⟩ v4).setCell ⟨p, 5, none⟩ v5).setCell ⟨p, 6, none⟩ v6).setCell ⟨p, 7, none⟩ v7).setCell ⟨p, 8, none⟩ v8).setCell ⟨p, 9, none⟩ v9).setCell ⟨p, 10, none⟩ v10).cell? ⟨b, 1, none⟩ = some y1 ∧ (((((((((((W.setCell ⟨p, 0, none⟩ v0).setCell ⟨p, 1, none⟩ v1).setCell ⟨p, 2, none⟩ v2).setCell ⟨p, 3, none⟩ v3).setCell ⟨p, 4, none⟩ v4).setCell ⟨p, 5, none⟩ v5).setCell ⟨p, 6, none⟩ v6).setCell ⟨p, 7, none⟩ v7).setCell ⟨p, 8, none⟩ v8).setCell ⟨p, 9, none⟩ v9).setCell ⟨p, 10, none⟩ v10).cell? ⟨b, 2, none⟩ = some y2 ∧ Gr w (((((((((((W.setCell ⟨p, 0, none⟩ v0).setCell ⟨p, 1, none⟩ v1).setCell ⟨p, 2, none⟩ v2).setCell ⟨p, 3, none⟩ v3).setCell ⟨p, 4, none⟩ v4).setCell ⟨p, 5, none⟩ v5).setCell ⟨p, 6, none⟩ v6).setCell ⟨p, 7, none⟩ v7).setCell ⟨p, 8, none⟩ v8).setCell ⟨p, 9, none⟩ v9).setCell ⟨p, 10, none⟩ v10) := by
  obtain ⟨h1, h2, h3, h4, h8, k0, k1, k2, hw⟩ := h
  refine ⟨?_, ?_, ?_, ?_, ?_, ?_, ?_, ?_, store11_below hw hp _ _ _ _ _ _ _ _ _ _ _⟩
  · rw [store11_cell W _ hg]; exact h1
  · rw [store11_cell W _ hg]; exact h2
  · rw [store11_cell W _ hg]; exact h3
  · rw [store11_cell W _ hg]; exact h4
  · rw [store11_cell W _ hg]; exact h8
  · rw [store11_cell W _ hb]; exact k0
  · rw [store11_cell W _ hb]; exact k1
  · rw [store11_cell W _ hb]; exact k2

set_option maxRecDepth 100000 in
set_option maxHeartbeats 8000000 in
theorem pguess (ws : Nat → ByteArray) (g c : Nat) (w : World) (hc : ∀ j, j < 9 → w.cell? ⟨g, j, none⟩ = some (.string (ws j))) (hs : ∀ j, (ws j).size ≤ 1048576) (hc9 : 9 ≤ c) (hrd : RdTab w) (hcl : HasCl w) :
    Calls Tryz.prog 88 #[.slice (some ⟨g, 0, none⟩) 9 c] w (GuessR ws w) := by
  have KR := Lib.hid (fun w h => dayRead (ws 5) w h (hs 5))
  have KC := Lib.hid (fun w h => cutClock_any (ws 6) w (by have := hs 6; unfold maxLen; omega) h)
  have KA := Lib.hid (fun w => readSpan_ans (S (cutC (ws 6).toList).1) w (by have := hs 6; have := cutC_len (ws 6).toList; rw [S_size]; rw [toList_size] at this; unfold maxLen; omega))
  have KB := Lib.hid (fun w => readSpan_ans (ws 7) w (by have := hs 7; unfold maxLen; omega))
  have CN := Lib.hid (fun j w h => rnum_any (ws j) w (hs j) h)
  have HR := Lib.hid hrd
  have HE := Lib.hid hrd.2
  have HC := Lib.hid hcl
  have HW := Lib.hid hc
  have gw : g < w.heap.size := World.block_lt_of_cell? w ⟨g, 0, none⟩ (hc 0 (by omega))
  have hB := Lib.hid (heap_new w (.cells zrow 42))
  have G0 := Lib.hid (Gr.alloc w (.cells zrow 42))
  have c5 := G0.out.holds (HW.out 5 (by omega))
  clear hc hs hrd hcl
  go_enter Tryz.func88, Tryz.ntmps88
  go_wp2_with fail
  generalize w.alloc (.cells zrow 42) = w0 at hB G0 c5 ⊢
  generalize hb0 : w.heap.size = b0 at hB gw ⊢
  have HB0 := Lib.hid hb0
  clear hb0
  refine (KR.out w0 (G0.out.rdT HR.out)).mono ?_
  rintro e w1 ⟨hans, g1⟩
  obtain ⟨k, d, n, cc, rfl, hdc⟩ := dayA_cases hans
  have KD := Lib.hid (day_only (hdc.elim (fun h => Or.inl h.2) (fun h => Or.inr h.2)))
  have G1 := Lib.hid (G0.out.trans g1)
  have hB1 := Lib.hid (heap_gr g1 hB.out)
  clear hans hdc c5 hB G0 g1 KR
  have hB := hB1
  clear hB1
  have c6 := (G1.out.alloc' (.cells #[.int .i64 k, .int .i64 d, .int .i64 n] 40)).holds (HW.out 6 (by omega))
  have q0 : (w1.alloc (.cells #[.int .i64 k, .int .i64 d, .int .i64 n] 40)).cell? ⟨w1.heap.size, 0, none⟩ = some (.int .i64 k) := by rw [World.cell?_alloc_new]; rfl
  have q1 : (w1.alloc (.cells #[.int .i64 k, .int .i64 d, .int .i64 n] 40)).cell? ⟨w1.heap.size, 1, none⟩ = some (.int .i64 d) := by rw [World.cell?_alloc_new]; rfl
  have q2 : (w1.alloc (.cells #[.int .i64 k, .int .i64 d, .int .i64 n] 40)).cell? ⟨w1.heap.size, 2, none⟩ = some (.int .i64 n) := by rw [World.cell?_alloc_new]; rfl
  have G2 := Lib.hid (G1.out.alloc' (.cells #[.int .i64 k, .int .i64 d, .int .i64 n] 40))
  have Q := Lib.hid (And.intro q0 (And.intro q1 q2))
  have hB1 := Lib.hid (heap_gr (Gr.alloc w1 (.cells #[.int .i64 k, .int .i64 d, .int .i64 n] 40)) hB.out)
  have hne1 : w1.heap.size ≠ b0 := by have := (Array.getElem?_eq_some_iff.1 hB.out).1; omega
  clear q0 q1 q2 hB
  have hB := hB1
  clear hB1 G1
  go_wp2_with fail
  generalize w1.alloc (.cells #[.int .i64 k, .int .i64 d, .int .i64 n] 40) = w2 at c6 G2 Q hB ⊢
  generalize w1.heap.size = b1 at Q hne1 ⊢
  refine (KC.out w2 (G2.out.clT HC.out)).mono ?_
  rintro e w3 ⟨rfl, g3⟩
  have G3 := Lib.hid (G2.out.trans g3)
  have Q3 := Lib.hid (And.intro (g3.holds Q.out.1) (And.intro (g3.holds Q.out.2.1) (g3.holds Q.out.2.2)))
  have hB1 := Lib.hid (heap_gr g3 hB.out)
  clear hB Q G2 g3 c6 KC
  have hB := hB1
  clear hB1
  go_wp2_with fail
  refine (KA.out w3).mono ?_
  rintro e w4 ⟨hans, g4⟩
  rw [S_toList] at hans
  obtain ⟨at', ca, rfl, _, hsa⟩ := spanA_cases hans
  have KT := Lib.hid (span_only (hsa.elim (fun h => Or.inl h.2) (fun h => Or.inr h.2)))
  have G4 := Lib.hid (G3.out.trans g4)
  have Q4 := Lib.hid (And.intro (g4.holds Q3.out.1) (And.intro (g4.holds Q3.out.2.1) (g4.holds Q3.out.2.2)))
  have hB1 := Lib.hid (heap_gr g4 hB.out)
  clear hB Q3 G3 g4 hans hsa KA
  have hB := hB1
  clear hB1
  have c7 := G4.out.holds (HW.out 7 (by omega))
  go_wp2_with fail
  refine (KB.out w4).mono ?_
  rintro e w5 ⟨hans, g5⟩
  obtain ⟨sv, cb, rfl, _, hsa⟩ := spanA_cases hans
  have KV := Lib.hid (span_only (hsa.elim (fun h => Or.inl h.2) (fun h => Or.inr h.2)))
  have G5 := G4.out.trans g5
  have d0 := g5.holds Q4.out.1
  have d1 := g5.holds Q4.out.2.1
  have d2 := g5.holds Q4.out.2.2
  have hB1 := Lib.hid (heap_gr g5 hB.out)
  have c1 := G5.holds (HW.out 1 (by omega))
  have c2 := G5.holds (HW.out 2 (by omega))
  have c3 := G5.holds (HW.out 3 (by omega))
  have c4 := G5.holds (HW.out 4 (by omega))
  have c8 := G5.holds (HW.out 8 (by omega))
  clear hB Q4 G4 g5 hans hsa KB c7
  have hB := hB1
  clear hB1
  have hne0 : g ≠ b0 := by omega
  have hlw : w.heap.size ≤ b0 := by have := HB0.out; omega
  go_wp2_with fail
  refine wp_region_noPanic ?_
  refine wp_region_held_drew (S := fun wx => wx.cell? ⟨g, 1, none⟩ = some (.string (ws 1)) ∧ wx.cell? ⟨g, 2, none⟩ = some (.string (ws 2)) ∧ wx.cell? ⟨g, 3, none⟩ = some (.string (ws 3)) ∧ wx.cell? ⟨g, 4, none⟩ = some (.string (ws 4)) ∧ wx.cell? ⟨g, 8, none⟩ = some (.string (ws 8)) ∧ wx.cell? ⟨b1, 0, none⟩ = some (.int .i64 k) ∧ wx.cell? ⟨b1, 1, none⟩ = some (.int .i64 d) ∧ wx.cell? ⟨b1, 2, none⟩ = some (.int .i64 n) ∧ Gr w wx) (by kernel_rfl) ⟨c1, c2, c3, c4, c8, d0, d1, d2, G5.drew'⟩ (fun hHeld => ?_)
  clear c1 c2 c3 c4 c8 d0 d1 d2 G5
  have hB2 := Lib.hid (heap_gr (Gr.drew w5) hB.out)
  clear hB
  have hB := hB2
  clear hB2
  generalize w5.drew = v0 at hHeld hB ⊢
  refine wpAnyH_take (i := 0) (oi := { dst := some 37, op := _, type := _, pos := _, after := _, guard := _ }) (v := ?v1) rfl (by kernel_rfl) (by kernel_rfl) (by kernel_rfl) (fun _ _ _ h => h) (Or.inl ⟨by rfl, ?hy1⟩) (by assumption) ?rest1
  case hy1 => (intro w hSw; (try dsimp only at hSw); go_simp <;> (with_reducible rfl))
  (try simp only [Act.put, List.setIfInBounds_toArray, List.set_cons_zero, List.set_cons_succ])
  refine wpAnyH_take (i := 3) (oi := { dst := some 40, op := _, type := _, pos := _, after := _, guard := _ }) (v := ?v2) rfl (by kernel_rfl) (by kernel_rfl) (by kernel_rfl) (fun _ _ _ h => h) (Or.inl ⟨by rfl, ?hy2⟩) (by assumption) ?rest2
  case hy2 => (intro w hSw; (try dsimp only at hSw); go_simp <;> (with_reducible rfl))
  (try simp only [Act.put, List.setIfInBounds_toArray, List.set_cons_zero, List.set_cons_succ])
  refine wpAnyH_take (i := 7) (oi := { dst := some 44, op := _, type := _, pos := _, after := _, guard := _ }) (v := ?v3) rfl (by kernel_rfl) (by kernel_rfl) (by kernel_rfl) (fun _ _ _ h => h) (Or.inl ⟨by rfl, ?hy3⟩) (by assumption) ?rest3
  case hy3 => (intro w hSw; (try dsimp only at hSw); go_simp <;> (with_reducible rfl))
  (try simp only [Act.put, List.setIfInBounds_toArray, List.set_cons_zero, List.set_cons_succ])
  refine wpAnyH_take (i := 11) (oi := { dst := some 48, op := _, type := _, pos := _, after := _, guard := _ }) (v := ?v4) rfl (by kernel_rfl) (by kernel_rfl) (by kernel_rfl) (fun _ _ _ h => h) (Or.inl ⟨by rfl, ?hy4⟩) (by assumption) ?rest4
  case hy4 => (intro w hSw; (try dsimp only at hSw); go_simp <;> (with_reducible rfl))
  (try simp only [Act.put, List.setIfInBounds_toArray, List.set_cons_zero, List.set_cons_succ])
  refine wpAnyH_take (i := 15) (oi := { dst := some 52, op := _, type := _, pos := _, after := _, guard := _ }) (v := ?v5) rfl (by kernel_rfl) (by kernel_rfl) (by kernel_rfl) (fun _ _ _ h => h) (Or.inl ⟨by rfl, ?hy5⟩) (by assumption) ?rest5
  case hy5 => (intro w hSw; (try dsimp only at hSw); go_simp <;> (with_reducible rfl))
  (try simp only [Act.put, List.setIfInBounds_toArray, List.set_cons_zero, List.set_cons_succ])
  refine wpAnyH_take (i := 16) (oi := { dst := some 53, op := _, type := _, pos := _, after := _, guard := _ }) (v := ?v6) rfl (by kernel_rfl) (by kernel_rfl) (by kernel_rfl) (fun _ _ _ h => h) (Or.inl ⟨by rfl, ?hy6⟩) (by assumption) ?rest6
  case hy6 => (intro w hSw; (try dsimp only at hSw); go_simp <;> (with_reducible rfl))
  (try simp only [Act.put, List.setIfInBounds_toArray, List.set_cons_zero, List.set_cons_succ])
  refine wpAnyH_take (i := 17) (oi := { dst := some 54, op := _, type := _, pos := _, after := _, guard := _ }) (v := ?v7) rfl (by kernel_rfl) (by kernel_rfl) (by kernel_rfl) (fun _ _ _ h => h) (Or.inl ⟨by rfl, ?hy7⟩) (by assumption) ?rest7
  case hy7 => (intro w hSw; (try dsimp only at hSw); go_simp <;> (with_reducible rfl))
  (try simp only [Act.put, List.setIfInBounds_toArray, List.set_cons_zero, List.set_cons_succ])
  refine wpAnyH_take (i := 18) (oi := { dst := some 55, op := _, type := _, pos := _, after := _, guard := _ }) (v := ?v8) rfl (by kernel_rfl) (by kernel_rfl) (by kernel_rfl) (fun _ _ _ h => h) (Or.inl ⟨by rfl, ?hy8⟩) (by assumption) ?rest8
  case hy8 => (intro w hSw; (try dsimp only at hSw); go_simp <;> (with_reducible rfl))
  (try simp only [Act.put, List.setIfInBounds_toArray, List.set_cons_zero, List.set_cons_succ])
  refine wpAnyH_take (i := 19) (oi := { dst := some 56, op := _, type := _, pos := _, after := _, guard := _ }) (v := ?v9) rfl (by kernel_rfl) (by kernel_rfl) (by kernel_rfl) (fun _ _ _ h => h) (Or.inl ⟨by rfl, ?hy9⟩) (by assumption) ?rest9
  case hy9 => (intro w hSw; (try dsimp only at hSw); go_simp <;> (with_reducible rfl))
  (try simp only [Act.put, List.setIfInBounds_toArray, List.set_cons_zero, List.set_cons_succ])
  refine wpAnyH_take (i := 1) (oi := { dst := some 38, op := _, type := _, pos := _, after := _, guard := _ }) (v := ?v10) rfl (by kernel_rfl) (by kernel_rfl) (by kernel_rfl) (fun _ _ _ h => h) (Or.inl ⟨by rfl, ?hy10⟩) (by assumption) ?rest10
  case hy10 => (intro w hSw; (try dsimp only at hSw); go_simp <;> (with_reducible rfl))
  (try simp only [Act.put, List.setIfInBounds_toArray, List.set_cons_zero, List.set_cons_succ])
  refine wpAnyH_take (i := 4) (oi := { dst := some 41, op := _, type := _, pos := _, after := _, guard := _ }) (v := ?v11) rfl (by kernel_rfl) (by kernel_rfl) (by kernel_rfl) (fun _ _ _ h => h) (Or.inl ⟨by rfl, ?hy11⟩) (by assumption) ?rest11
  case hy11 => (intro w hSw; (try dsimp only at hSw); go_simp <;> (with_reducible rfl))
  (try simp only [Act.put, List.setIfInBounds_toArray, List.set_cons_zero, List.set_cons_succ])
  refine wpAnyH_take (i := 8) (oi := { dst := some 45, op := _, type := _, pos := _, after := _, guard := _ }) (v := ?v12) rfl (by kernel_rfl) (by kernel_rfl) (by kernel_rfl) (fun _ _ _ h => h) (Or.inl ⟨by rfl, ?hy12⟩) (by assumption) ?rest12
  case hy12 => (intro w hSw; (try dsimp only at hSw); go_simp <;> (with_reducible rfl))
  (try simp only [Act.put, List.setIfInBounds_toArray, List.set_cons_zero, List.set_cons_succ])
  refine wpAnyH_take (i := 12) (oi := { dst := some 49, op := _, type := _, pos := _, after := _, guard := _ }) (v := ?v13) rfl (by kernel_rfl) (by kernel_rfl) (by kernel_rfl) (fun _ _ _ h => h) (Or.inl ⟨by rfl, ?hy13⟩) (by assumption) ?rest13
  case hy13 => (intro w hSw; (try dsimp only at hSw); go_simp <;> (with_reducible rfl))
  (try simp only [Act.put, List.setIfInBounds_toArray, List.set_cons_zero, List.set_cons_succ])
  refine wpAnyH_take (i := 20) (oi := { dst := some 57, op := _, type := _, pos := _, after := _, guard := _ }) (v := ?v14) rfl (by kernel_rfl) (by kernel_rfl) (by kernel_rfl) (fun _ _ _ h => h) (Or.inl ⟨by rfl, ?hy14⟩) (by assumption) ?rest14
  case hy14 => (intro w hSw; (try dsimp only at hSw); go_simp <;> (with_reducible rfl))
  (try simp only [Act.put, List.setIfInBounds_toArray, List.set_cons_zero, List.set_cons_succ])
  refine wpAnyH_take (i := 2) (oi := { dst := some 39, op := _, type := _, pos := _, after := _, guard := _ }) (v := ?v15) rfl (by kernel_rfl) (by kernel_rfl) (by kernel_rfl) (fun _ _ _ h => h) (Or.inl ⟨by rfl, ?hy15⟩) (by assumption) ?rest15
  case hy15 => (intro w hSw; (try dsimp only at hSw); go_simp <;> (with_reducible rfl))
  (try simp only [Act.put, List.setIfInBounds_toArray, List.set_cons_zero, List.set_cons_succ])
  refine wpAnyH_take (i := 5) (oi := { dst := some 42, op := _, type := _, pos := _, after := _, guard := _ }) (v := ?v16) rfl (by kernel_rfl) (by kernel_rfl) (by kernel_rfl) (fun _ _ _ h => h) (Or.inl ⟨by rfl, ?hy16⟩) (by assumption) ?rest16
  case hy16 => (intro w hSw; (try dsimp only at hSw); go_simp <;> (with_reducible rfl))
  (try simp only [Act.put, List.setIfInBounds_toArray, List.set_cons_zero, List.set_cons_succ])
  refine wpAnyH_take (i := 9) (oi := { dst := some 46, op := _, type := _, pos := _, after := _, guard := _ }) (v := ?v17) rfl (by kernel_rfl) (by kernel_rfl) (by kernel_rfl) (fun _ _ _ h => h) (Or.inl ⟨by rfl, ?hy17⟩) (by assumption) ?rest17
  case hy17 => (intro w hSw; (try dsimp only at hSw); go_simp <;> (with_reducible rfl))
  (try simp only [Act.put, List.setIfInBounds_toArray, List.set_cons_zero, List.set_cons_succ])
  refine wpAnyH_take (i := 13) (oi := { dst := some 50, op := _, type := _, pos := _, after := _, guard := _ }) (v := ?v18) rfl (by kernel_rfl) (by kernel_rfl) (by kernel_rfl) (fun _ _ _ h => h) (Or.inl ⟨by rfl, ?hy18⟩) (by assumption) ?rest18
  case hy18 => (intro w hSw; (try dsimp only at hSw); go_simp <;> (with_reducible rfl))
  (try simp only [Act.put, List.setIfInBounds_toArray, List.set_cons_zero, List.set_cons_succ])
  refine wpAnyH_take (i := 21) (oi := { dst := some 58, op := _, type := _, pos := _, after := _, guard := _ }) (v := ?v19) rfl (by kernel_rfl) (by kernel_rfl) (by kernel_rfl) (fun _ _ _ h => h) (Or.inl ⟨by rfl, ?hy19⟩) (by assumption) ?rest19
  case hy19 => (intro w hSw; (try dsimp only at hSw); go_simp <;> (with_reducible rfl))
  (try simp only [Act.put, List.setIfInBounds_toArray, List.set_cons_zero, List.set_cons_succ])
  refine wpAnyH_ready (rs := [6]) (by kernel_rfl) (by simp) ?_
  refine AllReadyH.cons (rs := []) rfl (fun K hK => ?_) AllReadyH.nil
  go_simp
  (with_reducible refine (CN.out 2 _ (Gr.errT hHeld.2.2.2.2.2.2.2.2 HE.out)).mono ?_)
  rintro e v20' ⟨fr, rfl, hfr, hgx⟩
  have N2 := Lib.hid hfr
  clear hfr
  (go_wp2_with fail)
  refine hK.out _ _ (keepG hHeld hgx) (fun hHeld2 => ?_)
  clear hK K hHeld
  have hHeld := hHeld2
  clear hHeld2
  (try simp only [Act.put, List.setIfInBounds_toArray, List.set_cons_zero, List.set_cons_succ])
  have hB2 := Lib.hid (heap_gr hgx hB.out)
  clear hB
  have hB := hB2
  clear hB2 hgx
  refine wpAnyH_ready (rs := [10]) (by kernel_rfl) (by simp) ?_
  refine AllReadyH.cons (rs := []) rfl (fun K hK => ?_) AllReadyH.nil
  go_simp
  (with_reducible refine (CN.out 3 _ (Gr.errT hHeld.2.2.2.2.2.2.2.2 HE.out)).mono ?_)
  rintro e v21' ⟨tt, rfl, htt, hgx⟩
  have N3 := Lib.hid htt
  clear htt
  (go_wp2_with fail)
  refine hK.out _ _ (keepG hHeld hgx) (fun hHeld2 => ?_)
  clear hK K hHeld
  have hHeld := hHeld2
  clear hHeld2
  (try simp only [Act.put, List.setIfInBounds_toArray, List.set_cons_zero, List.set_cons_succ])
  have hB2 := Lib.hid (heap_gr hgx hB.out)
  clear hB
  have hB := hB2
  clear hB2 hgx
  refine wpAnyH_ready (rs := [14]) (by kernel_rfl) (by simp) ?_
  refine AllReadyH.cons (rs := []) rfl (fun K hK => ?_) AllReadyH.nil
  go_simp
  (with_reducible refine (CN.out 4 _ (Gr.errT hHeld.2.2.2.2.2.2.2.2 HE.out)).mono ?_)
  rintro e v22' ⟨mo, rfl, hmo, hgx⟩
  have N4 := Lib.hid hmo
  clear hmo
  (go_wp2_with fail)
  refine hK.out _ _ (keepG hHeld hgx) (fun hHeld2 => ?_)
  clear hK K hHeld
  have hHeld := hHeld2
  clear hHeld2
  (try simp only [Act.put, List.setIfInBounds_toArray, List.set_cons_zero, List.set_cons_succ])
  have hB2 := Lib.hid (heap_gr hgx hB.out)
  clear hB
  have hB := hB2
  clear hB2 hgx
  refine wpAnyH_take (i := 22) (oi := { dst := some 59, op := _, type := _, pos := _, after := _, guard := _ }) (v := ?v23) rfl (by kernel_rfl) (by kernel_rfl) (by kernel_rfl) (fun _ _ _ h => h) (Or.inl ⟨by rfl, ?hy23⟩) (by assumption) ?rest23
  case hy23 => (intro w hSw; (try dsimp only at hSw); go_simp <;> (with_reducible rfl))
  (try simp only [Act.put, List.setIfInBounds_toArray, List.set_cons_zero, List.set_cons_succ])
  refine wpAnyH_ready (rs := [23]) (by kernel_rfl) (by simp) ?_
  refine AllReadyH.cons (rs := []) rfl (fun K hK => ?_) AllReadyH.nil
  have z0 : v22'.cell? ⟨b0, 0, none⟩ = some (.string ⟨#[]⟩) := by simp [World.cell?, hB.out]
  have z1 : v22'.cell? ⟨b0, 1, none⟩ = some (.int .i64 0) := by simp [World.cell?, hB.out]
  have z2 : v22'.cell? ⟨b0, 2, none⟩ = some (.int .i64 0) := by simp [World.cell?, hB.out]
  have z3 : v22'.cell? ⟨b0, 3, none⟩ = some (.int .i64 0) := by simp [World.cell?, hB.out]
  have z4 : v22'.cell? ⟨b0, 4, none⟩ = some (.int .i64 0) := by simp [World.cell?, hB.out]
  have z5 : v22'.cell? ⟨b0, 5, none⟩ = some (.int .i64 0) := by simp [World.cell?, hB.out]
  have z6 : v22'.cell? ⟨b0, 6, none⟩ = some (.int .i64 0) := by simp [World.cell?, hB.out]
  have z7 : v22'.cell? ⟨b0, 7, none⟩ = some (.int .i64 0) := by simp [World.cell?, hB.out]
  have z8 : v22'.cell? ⟨b0, 8, none⟩ = some (.int .i64 0) := by simp [World.cell?, hB.out]
  have z9 : v22'.cell? ⟨b0, 9, none⟩ = some (.int .i64 0) := by simp [World.cell?, hB.out]
  have z10 : v22'.cell? ⟨b0, 10, none⟩ = some (.string ⟨#[]⟩) := by simp [World.cell?, hB.out]
  have fz : ∀ i, v22'.frozen? ⟨b0, i, none⟩ = false := fun i => by simp [World.frozen?, hB.out]
  have E := Lib.hid (store11 hB.out (.string (ws 1)) (.int .i64 fr) (.int .i64 tt) (.int .i64 mo) (.int .i64 k) (.int .i64 d) (.int .i64 n) (.int .i64 at') (.int .i64 (cutC (ws 6).toList).2) (.int .i64 sv) (.string (ws 8)))
  have hx := keepGS hHeld hne0 hne1 hlw (.string (ws 1)) (.int .i64 fr) (.int .i64 tt) (.int .i64 mo) (.int .i64 k) (.int .i64 d) (.int .i64 n) (.int .i64 at') (.int .i64 (cutC (ws 6).toList).2) (.int .i64 sv) (.string (ws 8))
  go_simp
  clear z0 z1 z2 z3 z4 z5 z6 z7 z8 z9 z10 fz
  refine hK.out _ _ (hx) (fun hHeld2 => ?_)
  clear hK K hHeld
  have hHeld := hHeld2
  clear hHeld2
  (try simp only [Act.put, List.setIfInBounds_toArray, List.set_cons_zero, List.set_cons_succ])
  clear hx hB
  generalize (((((((((((v22'.setCell ⟨b0, 0, none⟩ (.string (ws 1))).setCell ⟨b0, 1, none⟩ (.int .i64 fr)).setCell ⟨b0, 2, none⟩ (.int .i64 tt)).setCell ⟨b0, 3, none⟩ (.int .i64 mo)).setCell ⟨b0, 4, none⟩ (.int .i64 k)).setCell ⟨b0, 5, none⟩ (.int .i64 d)).setCell ⟨b0, 6, none⟩ (.int .i64 n)).setCell ⟨b0, 7, none⟩ (.int .i64 at')).setCell ⟨b0, 8, none⟩ (.int .i64 (cutC (ws 6).toList).2)).setCell ⟨b0, 9, none⟩ (.int .i64 sv)).setCell ⟨b0, 10, none⟩ (.string (ws 8))) = F at E hHeld ⊢
  refine wpAnyH_done (by kernel_rfl) ?_ _
  refine NoPanic.normal ?_
  have gF := Lib.hid (hHeld.2.2.2.2.2.2.2.2)
  clear hHeld
  have y0 : F.cell? ⟨b0, 0, none⟩ = some (.string (ws 1)) := by simp [World.cell?, E.out]
  have y1 : F.cell? ⟨b0, 1, none⟩ = some (.int .i64 fr) := by simp [World.cell?, E.out]
  have y2 : F.cell? ⟨b0, 2, none⟩ = some (.int .i64 tt) := by simp [World.cell?, E.out]
  have y3 : F.cell? ⟨b0, 3, none⟩ = some (.int .i64 mo) := by simp [World.cell?, E.out]
  have y4 : F.cell? ⟨b0, 4, none⟩ = some (.int .i64 k) := by simp [World.cell?, E.out]
  have y5 : F.cell? ⟨b0, 5, none⟩ = some (.int .i64 d) := by simp [World.cell?, E.out]
  have y6 : F.cell? ⟨b0, 6, none⟩ = some (.int .i64 n) := by simp [World.cell?, E.out]
  have y7 : F.cell? ⟨b0, 7, none⟩ = some (.int .i64 at') := by simp [World.cell?, E.out]
  have y8 : F.cell? ⟨b0, 8, none⟩ = some (.int .i64 (cutC (ws 6).toList).2) := by simp [World.cell?, E.out]
  have y9 : F.cell? ⟨b0, 9, none⟩ = some (.int .i64 sv) := by simp [World.cell?, E.out]
  have y10 : F.cell? ⟨b0, 10, none⟩ = some (.string (ws 8)) := by simp [World.cell?, E.out]
  go_wp2_with fail
  exact bodyPost_ret (v := ruleV (ws 1) fr tt mo k d n at' (cutC (ws 6).toList).2 sv (ws 8)) (by simp [results, Tryz.results88, go_sem, y0, y1, y2, y3, y4, y5, y6, y7, y8, y9, y10]) rfl ⟨fr, tt, mo, k, d, n, at', (cutC (ws 6).toList).2, sv, rfl, guess_word KD.out KT.out KV.out N2.out N3.out N4.out, gF.out⟩
end Go.Proofs.YtkkilmmpmiichaaGreatDoor
