/- A whole value stored; the era that applies: the project's eraAt and the reference's. A region that draws its order and ends in a store: what looks at no memory may be taken first, though the store does not wait for it. No program in it. -/
import Derived.Test.YtkmgildnhnjepaaGreatDoorRM11
import Derived.Test.YtkmgildnhnjepaaGreatDoorRM17
namespace Go.Proofs.YtkmgildnhnjepaaGreatDoor
set_option linter.unusedVariables false
set_option linter.unusedSimpArgs false
open Go.RowKit
theorem st3 {W : World} {p : Nat} {T : TypeId} {r0 r1 r2 : Value} (h : W.heap[p]? = some (.cells #[r0, r1, r2] T (0, 0))) (v0 v1 v2 : Value) :
    (((W.setCell ⟨p, 0, none⟩ v0).setCell ⟨p, 1, none⟩ v1).setCell ⟨p, 2, none⟩ v2).heap[p]? = some (.cells #[v0, v1, v2] T (0, 0)) := (heap_setCell_same _ p 2 #[v0, v1, r2] T v2 (heap_setCell_same _ p 1 #[v0, r1, r2] T v1 (heap_setCell_same _ p 0 #[r0, r1, r2] T v0 h)))
theorem st3_below {W a : World} {p : Nat} {B : Nat} (h : Below B a W) (hB : B ≤ p) (v0 v1 v2 : Value) : Below B a (((W.setCell ⟨p, 0, none⟩ v0).setCell ⟨p, 1, none⟩ v1).setCell ⟨p, 2, none⟩ v2) := (Below.setCell (Below.setCell (Below.setCell h hB _) hB _) hB _)
theorem st5 {W : World} {p : Nat} {T : TypeId} {r0 r1 r2 r3 r4 : Value} (h : W.heap[p]? = some (.cells #[r0, r1, r2, r3, r4] T (0, 0))) (v0 v1 v2 v3 v4 : Value) :
    (((((W.setCell ⟨p, 0, none⟩ v0).setCell ⟨p, 1, none⟩ v1).setCell ⟨p, 2, none⟩ v2).setCell ⟨p, 3, none⟩ v3).setCell ⟨p, 4, none⟩ v4).heap[p]? = some (.cells #[v0, v1, v2, v3, v4] T (0, 0)) := (heap_setCell_same _ p 4 #[v0, v1, v2, v3, r4] T v4 (heap_setCell_same _ p 3 #[v0, v1, v2, r3, r4] T v3 (heap_setCell_same _ p 2 #[v0, v1, r2, r3, r4] T v2 (heap_setCell_same _ p 1 #[v0, r1, r2, r3, r4] T v1 (heap_setCell_same _ p 0 #[r0, r1, r2, r3, r4] T v0 h)))))
theorem st5_below {W a : World} {p : Nat} {B : Nat} (h : Below B a W) (hB : B ≤ p) (v0 v1 v2 v3 v4 : Value) : Below B a (((((W.setCell ⟨p, 0, none⟩ v0).setCell ⟨p, 1, none⟩ v1).setCell ⟨p, 2, none⟩ v2).setCell ⟨p, 3, none⟩ v3).setCell ⟨p, 4, none⟩ v4) := (Below.setCell (Below.setCell (Below.setCell (Below.setCell (Below.setCell h hB _) hB _) hB _) hB _) hB _)
theorem st6 {W : World} {p : Nat} {T : TypeId} {r0 r1 r2 r3 r4 r5 : Value} (h : W.heap[p]? = some (.cells #[r0, r1, r2, r3, r4, r5] T (0, 0))) (v0 v1 v2 v3 v4 v5 : Value) :
    ((((((W.setCell ⟨p, 0, none⟩ v0).setCell ⟨p, 1, none⟩ v1).setCell ⟨p, 2, none⟩ v2).setCell ⟨p, 3, none⟩ v3).setCell ⟨p, 4, none⟩ v4).setCell ⟨p, 5, none⟩ v5).heap[p]? = some (.cells #[v0, v1, v2, v3, v4, v5] T (0, 0)) := (heap_setCell_same _ p 5 #[v0, v1, v2, v3, v4, r5] T v5 (heap_setCell_same _ p 4 #[v0, v1, v2, v3, r4, r5] T v4 (heap_setCell_same _ p 3 #[v0, v1, v2, r3, r4, r5] T v3 (heap_setCell_same _ p 2 #[v0, v1, r2, r3, r4, r5] T v2 (heap_setCell_same _ p 1 #[v0, r1, r2, r3, r4, r5] T v1 (heap_setCell_same _ p 0 #[r0, r1, r2, r3, r4, r5] T v0 h))))))
theorem st6_below {W a : World} {p : Nat} {B : Nat} (h : Below B a W) (hB : B ≤ p) (v0 v1 v2 v3 v4 v5 : Value) : Below B a ((((((W.setCell ⟨p, 0, none⟩ v0).setCell ⟨p, 1, none⟩ v1).setCell ⟨p, 2, none⟩ v2).setCell ⟨p, 3, none⟩ v3).setCell ⟨p, 4, none⟩ v4).setCell ⟨p, 5, none⟩ v5) := (Below.setCell (Below.setCell (Below.setCell (Below.setCell (Below.setCell (Below.setCell h hB _) hB _) hB _) hB _) hB _) hB _)

theorem eE_era : Tryz.prog.elem 55 = 59 := by kernel_rfl

set_option maxRecDepth 100000 in
set_option maxHeartbeats 8000000 in
theorem peraAt (A : Option Addr) (c : Nat) (es : List EraD) (t : Int) (w : World) (hr : Row w 5 EraD.cells A es) (hl : 1 ≤ es.length) (hm : es.length ≤ 700) (hc : es.length ≤ c) :
    Calls Tryz.prog 43 #[.slice A es.length c, .int .i64 t] w fun e w' => e = .returned (.agg #[.int .i64 (eraE es t).off, .string (eraE es t).ru, .int .i64 (eraE es t).sv, .string (eraE es t).fm, .int .i64 (eraE es t).un]) ∧ Gr w w' := by
  have HR := Lib.hid hr
  have FA := Lib.hid (row_flat hr (by omega))
  have XS := Lib.hid (fun w => sl_upto Tryz.underlying55 eE_era Tryz.sizeOf59 A (es.length - 1) es.length c w (by omega) FA.out)
  have B0 := Lib.hid (box_one w (.cells #[.int .i64 0, .string ⟨#[]⟩, .int .i64 0, .string ⟨#[]⟩, .int .i64 0] 59))
  have eL : ((es.length : Int) - 1) = ((es.length - 1 : Nat) : Int) := by omega
  clear hr
  go_enter Tryz.func43, Tryz.ntmps43
  go_wp2_with fail
  generalize w.alloc (.cells #[.int .i64 0, .string ⟨#[]⟩, .int .i64 0, .string ⟨#[]⟩, .int .i64 0] 59) = w1 at B0 ⊢
  obtain ⟨q, hq⟩ : ∃ q, w.heap.size = q := ⟨_, rfl⟩
  have NQ : Hid (w.heap.size ≤ q) := Nat.le_of_eq hq
  rw [hq] at B0 ⊢
  clear hq
  have G1 := Lib.hid B0.out.1
  have HQ := Lib.hid B0.out.2
  clear B0
  go_loopw [15] (fun i W => ∃ k : Nat, k ≤ es.length - 1 ∧ i = .int .i64 k ∧ Hid (∀ j x, j < k → es[j]? = some x → ¬ t < x.un) ∧ Hid (Gr w1 W)) (fun i W => es.length - (intOf i).toNat)
  case atStart => exact ⟨0, Nat.zero_le _, rfl, fun j x hj _ => by omega, Gr.refl _⟩
  case round =>
    obtain ⟨k, hk, rfl, hb, hg⟩ := hrel
    by_cases hlt : k < es.length - 1
    · obtain ⟨⟨eo, ru, sv, fm, un⟩, hx⟩ := get_lt (show k < es.length by omega)
      obtain ⟨b, off, rfl, c0, c1, c2, c3, c4⟩ := HR.out.five hx rfl (G1.out.trans hg.out)
      have HX := Lib.hid hx
      clear hx
      have NB := Lib.hid (box_one wr (.cells #[.int .i64 eo, .string ru, .int .i64 sv, .string fm, .int .i64 un] 59))
      by_cases hu : t < un
      · have HQ1 := Lib.hid (bheap_gr (hg.out.trans NB.out.1) HQ.out)
        have GW := Lib.hid (G1.out.trans (hg.out.trans NB.out.1))
        have EE := Lib.hid (eraE_at (eraI_hit (by omega) HX.out hu hb.out) HX.out)
        have y0 : (wr.alloc (.cells #[.int .i64 eo, .string ru, .int .i64 sv, .string fm, .int .i64 un] 59)).cell? ⟨q, 0, none⟩ = some (.int .i64 0) := bcell_row HQ1.out rfl
        have y1 : (wr.alloc (.cells #[.int .i64 eo, .string ru, .int .i64 sv, .string fm, .int .i64 un] 59)).cell? ⟨q, 1, none⟩ = some (.string ⟨#[]⟩) := bcell_row HQ1.out rfl
        have y2 : (wr.alloc (.cells #[.int .i64 eo, .string ru, .int .i64 sv, .string fm, .int .i64 un] 59)).cell? ⟨q, 2, none⟩ = some (.int .i64 0) := bcell_row HQ1.out rfl
        have y3 : (wr.alloc (.cells #[.int .i64 eo, .string ru, .int .i64 sv, .string fm, .int .i64 un] 59)).cell? ⟨q, 3, none⟩ = some (.string ⟨#[]⟩) := bcell_row HQ1.out rfl
        have y4 : (wr.alloc (.cells #[.int .i64 eo, .string ru, .int .i64 sv, .string fm, .int .i64 un] 59)).cell? ⟨q, 4, none⟩ = some (.int .i64 0) := bcell_row HQ1.out rfl
        have f0 : (wr.alloc (.cells #[.int .i64 eo, .string ru, .int .i64 sv, .string fm, .int .i64 un] 59)).frozen? ⟨q, 0, none⟩ = false := unfrozen HQ1.out
        have f1 : (wr.alloc (.cells #[.int .i64 eo, .string ru, .int .i64 sv, .string fm, .int .i64 un] 59)).frozen? ⟨q, 1, none⟩ = false := unfrozen HQ1.out
        have f2 : (wr.alloc (.cells #[.int .i64 eo, .string ru, .int .i64 sv, .string fm, .int .i64 un] 59)).frozen? ⟨q, 2, none⟩ = false := unfrozen HQ1.out
        have f3 : (wr.alloc (.cells #[.int .i64 eo, .string ru, .int .i64 sv, .string fm, .int .i64 un] 59)).frozen? ⟨q, 3, none⟩ = false := unfrozen HQ1.out
        have f4 : (wr.alloc (.cells #[.int .i64 eo, .string ru, .int .i64 sv, .string fm, .int .i64 un] 59)).frozen? ⟨q, 4, none⟩ = false := unfrozen HQ1.out
        have s0 : ((((((wr.alloc (.cells #[.int .i64 eo, .string ru, .int .i64 sv, .string fm, .int .i64 un] 59)).setCell ⟨q, 0, none⟩ (.int .i64 eo)).setCell ⟨q, 1, none⟩ (.string ru)).setCell ⟨q, 2, none⟩ (.int .i64 sv)).setCell ⟨q, 3, none⟩ (.string fm)).setCell ⟨q, 4, none⟩ (.int .i64 un)).cell? ⟨q, 0, none⟩ = some (.int .i64 eo) := bcell_row (st5 HQ1.out (.int .i64 eo) (.string ru) (.int .i64 sv) (.string fm) (.int .i64 un)) rfl
        have s1 : ((((((wr.alloc (.cells #[.int .i64 eo, .string ru, .int .i64 sv, .string fm, .int .i64 un] 59)).setCell ⟨q, 0, none⟩ (.int .i64 eo)).setCell ⟨q, 1, none⟩ (.string ru)).setCell ⟨q, 2, none⟩ (.int .i64 sv)).setCell ⟨q, 3, none⟩ (.string fm)).setCell ⟨q, 4, none⟩ (.int .i64 un)).cell? ⟨q, 1, none⟩ = some (.string ru) := bcell_row (st5 HQ1.out (.int .i64 eo) (.string ru) (.int .i64 sv) (.string fm) (.int .i64 un)) rfl
        have s2 : ((((((wr.alloc (.cells #[.int .i64 eo, .string ru, .int .i64 sv, .string fm, .int .i64 un] 59)).setCell ⟨q, 0, none⟩ (.int .i64 eo)).setCell ⟨q, 1, none⟩ (.string ru)).setCell ⟨q, 2, none⟩ (.int .i64 sv)).setCell ⟨q, 3, none⟩ (.string fm)).setCell ⟨q, 4, none⟩ (.int .i64 un)).cell? ⟨q, 2, none⟩ = some (.int .i64 sv) := bcell_row (st5 HQ1.out (.int .i64 eo) (.string ru) (.int .i64 sv) (.string fm) (.int .i64 un)) rfl
        have s3 : ((((((wr.alloc (.cells #[.int .i64 eo, .string ru, .int .i64 sv, .string fm, .int .i64 un] 59)).setCell ⟨q, 0, none⟩ (.int .i64 eo)).setCell ⟨q, 1, none⟩ (.string ru)).setCell ⟨q, 2, none⟩ (.int .i64 sv)).setCell ⟨q, 3, none⟩ (.string fm)).setCell ⟨q, 4, none⟩ (.int .i64 un)).cell? ⟨q, 3, none⟩ = some (.string fm) := bcell_row (st5 HQ1.out (.int .i64 eo) (.string ru) (.int .i64 sv) (.string fm) (.int .i64 un)) rfl
        have s4 : ((((((wr.alloc (.cells #[.int .i64 eo, .string ru, .int .i64 sv, .string fm, .int .i64 un] 59)).setCell ⟨q, 0, none⟩ (.int .i64 eo)).setCell ⟨q, 1, none⟩ (.string ru)).setCell ⟨q, 2, none⟩ (.int .i64 sv)).setCell ⟨q, 3, none⟩ (.string fm)).setCell ⟨q, 4, none⟩ (.int .i64 un)).cell? ⟨q, 4, none⟩ = some (.int .i64 un) := bcell_row (st5 HQ1.out (.int .i64 eo) (.string ru) (.int .i64 sv) (.string fm) (.int .i64 un)) rfl
        go_wp2_with fail
        exact bodyPost_ret (v := .agg #[.int .i64 eo, .string ru, .int .i64 sv, .string fm, .int .i64 un]) (by simp [results, Tryz.results43, go_sem, s0, s1, s2, s3, s4]) rfl ⟨by rw [EE.out], (st5_below GW.out NQ.out (.int .i64 eo) (.string ru) (.int .i64 sv) (.string fm) (.int .i64 un))⟩
      · go_wp2_with fail
        go_roundw
        case rel => exact ⟨k + 1, by omega, by go_num, fun j x hj hx => by
          by_cases e : j = k
          · subst e; rw [HX.out] at hx; injection hx with hx; rw [← hx]; exact hu
          · exact hb.out j x (by omega) hx, hg.out.alloc' _⟩
        case measure => simp [intOf]; omega
    · have e : k = es.length - 1 := by omega
      subst e
      obtain ⟨⟨eo, ru, sv, fm, un⟩, hx⟩ := get_lt (show es.length - 1 < es.length by omega)
      obtain ⟨b, off, rfl, c0, c1, c2, c3, c4⟩ := HR.out.five hx rfl (G1.out.trans hg.out)
      have EE := Lib.hid (eraE_at (eraI_end fun j x hj hx => hb.out j x (by omega) hx) hx)
      clear hx
      have HQ1 := Lib.hid (bheap_gr hg.out HQ.out)
      have GW := Lib.hid (G1.out.trans hg.out)
      have y0 : wr.cell? ⟨q, 0, none⟩ = some (.int .i64 0) := bcell_row HQ1.out rfl
      have y1 : wr.cell? ⟨q, 1, none⟩ = some (.string ⟨#[]⟩) := bcell_row HQ1.out rfl
      have y2 : wr.cell? ⟨q, 2, none⟩ = some (.int .i64 0) := bcell_row HQ1.out rfl
      have y3 : wr.cell? ⟨q, 3, none⟩ = some (.string ⟨#[]⟩) := bcell_row HQ1.out rfl
      have y4 : wr.cell? ⟨q, 4, none⟩ = some (.int .i64 0) := bcell_row HQ1.out rfl
      have f0 : wr.frozen? ⟨q, 0, none⟩ = false := unfrozen HQ1.out
      have f1 : wr.frozen? ⟨q, 1, none⟩ = false := unfrozen HQ1.out
      have f2 : wr.frozen? ⟨q, 2, none⟩ = false := unfrozen HQ1.out
      have f3 : wr.frozen? ⟨q, 3, none⟩ = false := unfrozen HQ1.out
      have f4 : wr.frozen? ⟨q, 4, none⟩ = false := unfrozen HQ1.out
      have s0 : (((((wr.setCell ⟨q, 0, none⟩ (.int .i64 eo)).setCell ⟨q, 1, none⟩ (.string ru)).setCell ⟨q, 2, none⟩ (.int .i64 sv)).setCell ⟨q, 3, none⟩ (.string fm)).setCell ⟨q, 4, none⟩ (.int .i64 un)).cell? ⟨q, 0, none⟩ = some (.int .i64 eo) := bcell_row (st5 HQ1.out (.int .i64 eo) (.string ru) (.int .i64 sv) (.string fm) (.int .i64 un)) rfl
      have s1 : (((((wr.setCell ⟨q, 0, none⟩ (.int .i64 eo)).setCell ⟨q, 1, none⟩ (.string ru)).setCell ⟨q, 2, none⟩ (.int .i64 sv)).setCell ⟨q, 3, none⟩ (.string fm)).setCell ⟨q, 4, none⟩ (.int .i64 un)).cell? ⟨q, 1, none⟩ = some (.string ru) := bcell_row (st5 HQ1.out (.int .i64 eo) (.string ru) (.int .i64 sv) (.string fm) (.int .i64 un)) rfl
      have s2 : (((((wr.setCell ⟨q, 0, none⟩ (.int .i64 eo)).setCell ⟨q, 1, none⟩ (.string ru)).setCell ⟨q, 2, none⟩ (.int .i64 sv)).setCell ⟨q, 3, none⟩ (.string fm)).setCell ⟨q, 4, none⟩ (.int .i64 un)).cell? ⟨q, 2, none⟩ = some (.int .i64 sv) := bcell_row (st5 HQ1.out (.int .i64 eo) (.string ru) (.int .i64 sv) (.string fm) (.int .i64 un)) rfl
      have s3 : (((((wr.setCell ⟨q, 0, none⟩ (.int .i64 eo)).setCell ⟨q, 1, none⟩ (.string ru)).setCell ⟨q, 2, none⟩ (.int .i64 sv)).setCell ⟨q, 3, none⟩ (.string fm)).setCell ⟨q, 4, none⟩ (.int .i64 un)).cell? ⟨q, 3, none⟩ = some (.string fm) := bcell_row (st5 HQ1.out (.int .i64 eo) (.string ru) (.int .i64 sv) (.string fm) (.int .i64 un)) rfl
      have s4 : (((((wr.setCell ⟨q, 0, none⟩ (.int .i64 eo)).setCell ⟨q, 1, none⟩ (.string ru)).setCell ⟨q, 2, none⟩ (.int .i64 sv)).setCell ⟨q, 3, none⟩ (.string fm)).setCell ⟨q, 4, none⟩ (.int .i64 un)).cell? ⟨q, 4, none⟩ = some (.int .i64 un) := bcell_row (st5 HQ1.out (.int .i64 eo) (.string ru) (.int .i64 sv) (.string fm) (.int .i64 un)) rfl
      go_wp2_with fail
      exact bodyPost_ret (v := .agg #[.int .i64 eo, .string ru, .int .i64 sv, .string fm, .int .i64 un]) (by simp [results, Tryz.results43, go_sem, s0, s1, s2, s3, s4]) rfl ⟨by rw [EE.out], (st5_below GW.out NQ.out (.int .i64 eo) (.string ru) (.int .i64 sv) (.string fm) (.int .i64 un))⟩

end Go.Proofs.YtkmgildnhnjepaaGreatDoor
namespace Go.Proofs.YtkmgildnhnjepaaGreatDoor
open Go
set_option linter.unusedVariables false
section
variable {P : Program} {ops : Array Oper} {Q : Exit → Act → World → Prop} {md : Region.Mode} {T : World → Prop} {k : Nat}
theorem till_firstP {i : Nat} {oi : Oper} {v : Value} (hi : ops[i]? = some oi) (hsel : ∀ (j : Nat) (o : Oper) cs b, ops[j]? = some o → o.op ≠ .select cs b)
    (hQ : ∀ c a w, Q (.panic c) (a.put oi.dst v) w → Q (.panic c) a w) (hki : k ≠ i) :
    ∀ (n : Nat) (L : Array Bool) (a : Act) (w : World),
      (∀ j oj, ops[j]? = some oj → j ≠ i → L.getD j true = false → (∀ e ∈ oj.after, Region.binds md e = true → e.on ≠ i) → oi.apart ops oj = true) →
      i ∈ Region.ready md ops L → YieldsIf P ops (fun _ => True) oi v a → Till k T L w →
      wpTill P md ops Q k T n (L.setIfInBounds i true) (a.put oi.dst v) w → wpTill P md ops Q k T (n + 1) L a w := by
  have tset : ∀ (L : Array Bool) (w : World), Till k T (L.setIfInBounds i true) w ↔ Till k T L w := fun L w => by unfold Till; rw [getD_set_ne true (Ne.symm hki)]
  intro n
  induction n with
  | zero =>
    intro L a w _ hr hy hT H
    refine ⟨fun h => (by rw [h] at hr; cases hr), fun j hj => ?_⟩
    by_cases hji : j = i
    · subst hji; exact hy.wpOp hi trivial ⟨(tset L w).2 hT, H⟩
    · have := ready_mono hj hji
      rw [H.1] at this
      cases this
  | succ n ih =>
    intro L a w hfree hr hy hT H
    refine ⟨fun h => (by rw [h] at hr; cases hr), fun j hj => ?_⟩
    by_cases hji : j = i
    · subst hji; exact hy.wpOp hi trivial ⟨(tset L w).2 hT, H⟩
    · have h1 := H.2 j (ready_mono hj hji)
      obtain ⟨hjun, oj, hoj, hall⟩ := mem_ready.1 hj
      have hnot : ∀ e ∈ oj.after, Region.binds md e = true → e.on ≠ i := fun e he hb heq => by
        have g1 := hall e he hb
        have g0 := (mem_ready.1 hr).1
        rw [heq] at g1
        rcases Nat.lt_or_ge i L.size with h' | h'
        · simp [h'] at g0 g1; rw [g0] at g1; cases g1
        · simp [Array.getElem?_eq_none h'] at g1
      have h1' := wpOp_mono (K' := fun a' w' => (fun _ : World => True) w' ∧ (Till k T ((L.setIfInBounds i true).setIfInBounds j true) w' ∧ wpTill P md ops Q k T n ((L.setIfInBounds i true).setIfInBounds j true) a' w')) (fun a' w' q => ⟨trivial, q⟩) h1
      have h2 := wpOp_putIf hoj (hfree j oj hoj hji hjun hnot) (fun cs b => hsel i oi cs b hi) (fun cs b => hsel j oj cs b hoj) hQ hy h1'
      have hfree' : ∀ m om, ops[m]? = some om → m ≠ i → (L.setIfInBounds j true).getD m true = false → (∀ e ∈ om.after, Region.binds md e = true → e.on ≠ i) → oi.apart ops om = true := fun m om hm hmi hun hno => by
        refine hfree m om hm hmi ?_ hno
        by_cases hjm : j = m
        · subst hjm; exact hjun
        · rw [getD_set_ne true hjm] at hun; exact hun
      refine wpOp_mono (fun a' w' h3 => ?_) h2
      have hc : (L.setIfInBounds i true).setIfInBounds j true = (L.setIfInBounds j true).setIfInBounds i true := Array.setIfInBounds_comm _ _ (Ne.symm hji)
      have h4 := h3.2.2
      rw [hc] at h4
      have hT' : Till k T (L.setIfInBounds j true) w' := (tset _ w').1 h4.1
      exact ⟨hT', ih (L.setIfInBounds j true) a' w' hfree' (ready_mono hr (Ne.symm hji)) h3.1 hT' h4.2⟩
/-- take number i first, which looks at no memory -/
theorem till_pure {i : Nat} {oi : Oper} {v : Value} {n : Nat} {L : Array Bool} {a : Act} {w : World} (hi : ops[i]? = some oi) (hs : Region.noSelect ops = true) (hf : Region.free md ops L i = true) (hr : (Region.ready md ops L).contains i = true)
    (hki : (k != i) = true) (hQ : ∀ c a w, Q (.panic c) (a.put oi.dst v) w → Q (.panic c) a w) (hy : YieldsIf P ops (fun _ => True) oi v a) (hT : T w)
    (h : wpTill P md ops Q k T n (L.setIfInBounds i true) (a.put oi.dst v) w) : wpTill P md ops Q k T (n + 1) L a w :=
  till_firstP hi (Region.noSelect_spec hs) hQ (by simpa using hki) n L a w (Region.free_spec hi hf) (by simpa using hr) hy (Or.inr hT) h
end
end Go.Proofs.YtkmgildnhnjepaaGreatDoor
