/- A whole value stored; the era that applies: the project's eraAt and the reference's. -/
import Derived.Test.YtbagdlafpahgdaaGreatDoorPM16
import Derived.Test.YtbagdlafpahgdaaGreatDoorPM17
namespace Go.Proofs.YtbagdlafpahgdaaGreatDoor
set_option linter.unusedVariables false
set_option linter.unusedSimpArgs false
open Go.RowKit
theorem st3 {W : World} {p : Nat} {T : TypeId} {r0 r1 r2 : Value} (h : W.heap[p]? = some (.cells #[r0, r1, r2] T (0, 0))) (v0 v1 v2 : Value) :
    (((W.setCell ⟨p, 0, none⟩ v0).setCell ⟨p, 1, none⟩ v1).setCell ⟨p, 2, none⟩ v2).heap[p]? = some (.cells #[v0, v1, v2] T (0, 0)) := (heap_setCell_same _ p 2 #[v0, v1, r2] T v2 (heap_setCell_same _ p 1 #[v0, r1, r2] T v1 (heap_setCell_same _ p 0 #[r0, r1, r2] T v0 h)))
theorem st3_below {W a : World} {p : Nat} {B : Nat} (h : Below B a W) (hB : B ≤ p) (v0 v1 v2 : Value) : Below B a (((W.setCell ⟨p, 0, none⟩ v0).setCell ⟨p, 1, none⟩ v1).setCell ⟨p, 2, none⟩ v2) := (Below.setCell (Below.setCell (Below.setCell h hB _) hB _) hB _)
theorem st5 {W : World} {p : Nat} {T : TypeId} {r0 r1 r2 r3 r4 : Value} (h : W.heap[p]? = some (.cells #[r0, r1, r2, r3, r4] T (0, 0))) (v0 v1 v2 v3 v4 : Value) :
    (((((W.setCell ⟨p, 0, none⟩ v0).setCell ⟨p, 1, none⟩ v1).setCell ⟨p, 2, none⟩ v2).setCell ⟨p, 3, none⟩ v3).setCell ⟨p, 4, none⟩ v4).heap[p]? = some (.cells #[v0, v1, v2, v3, v4] T (0, 0)) := (heap_setCell_same _ p 4 #[v0, v1, v2, v3, r4] T v4 (heap_setCell_same _ p 3 #[v0, v1, v2, r3, r4] T v3 (heap_setCell_same _ p 2 #[v0, v1, r2, r3, r4] T v2 (heap_setCell_same _ p 1 #[v0, r1, r2, r3, r4] T v1 (heap_setCell_same _ p 0 #[r0, r1, r2, r3, r4] T v0 h)))))
theorem st5_below {W a : World} {p : Nat} {B : Nat} (h : Below B a W) (hB : B ≤ p) (v0 v1 v2 v3 v4 : Value) : Below B a (((((W.setCell ⟨p, 0, none⟩ v0).setCell ⟨p, 1, none⟩ v1).setCell ⟨p, 2, none⟩ v2).setCell ⟨p, 3, none⟩ v3).setCell ⟨p, 4, none⟩ v4) := (Below.setCell (Below.setCell (Below.setCell (Below.setCell (Below.setCell h hB _) hB _) hB _) hB _) hB _)
theorem st6 {W : World} {p : Nat} {T : TypeId} {r0 r1 r2 r3 r4 r5 : Value} (h : W.heap[p]? = some (.cells #[r0, r1, r2, r3, r4, r5] T (0, 0))) (v0 v1 v2 v3 v4 v5 : Value) :
    ((((((W.setCell ⟨p, 0, none⟩ v0).setCell ⟨p, 1, none⟩ v1).setCell ⟨p, 2, none⟩ v2).setCell ⟨p, 3, none⟩ v3).setCell ⟨p, 4, none⟩ v4).setCell ⟨p, 5, none⟩ v5).heap[p]? = some (.cells #[v0, v1, v2, v3, v4, v5] T (0, 0)) := (heap_setCell_same _ p 5 #[v0, v1, v2, v3, v4, r5] T v5 (heap_setCell_same _ p 4 #[v0, v1, v2, v3, r4, r5] T v4 (heap_setCell_same _ p 3 #[v0, v1, v2, r3, r4, r5] T v3 (heap_setCell_same _ p 2 #[v0, v1, r2, r3, r4, r5] T v2 (heap_setCell_same _ p 1 #[v0, r1, r2, r3, r4, r5] T v1 (heap_setCell_same _ p 0 #[r0, r1, r2, r3, r4, r5] T v0 h))))))
theorem st6_below {W a : World} {p : Nat} {B : Nat} (h : Below B a W) (hB : B ≤ p) (v0 v1 v2 v3 v4 v5 : Value) : Below B a ((((((W.setCell ⟨p, 0, none⟩ v0).setCell ⟨p, 1, none⟩ v1).setCell ⟨p, 2, none⟩ v2).setCell ⟨p, 3, none⟩ v3).setCell ⟨p, 4, none⟩ v4).setCell ⟨p, 5, none⟩ v5) := (Below.setCell (Below.setCell (Below.setCell (Below.setCell (Below.setCell (Below.setCell h hB _) hB _) hB _) hB _) hB _) hB _)

theorem eE_era : Tryz.prog.elem 34 = 40 := by kernel_rfl

set_option maxRecDepth 100000 in
set_option maxHeartbeats 8000000 in
theorem peraAt (A : Option Addr) (c : Nat) (es : List EraD) (t : Int) (w : World) (hr : Row w 5 EraD.cells A es) (hl : 1 ≤ es.length) (hm : es.length ≤ 700) (hc : es.length ≤ c) :
    Calls Tryz.prog 18 #[.slice A es.length c, .int .i64 t] w fun e w' => e = .returned (.agg #[.int .i64 (eraE es t).off, .string (eraE es t).ru, .int .i64 (eraE es t).sv, .string (eraE es t).fm, .int .i64 (eraE es t).un]) ∧ Gr w w' := by
  have HR := Lib.hid hr
  have FA := Lib.hid (row_flat hr (by omega))
  have XS := Lib.hid (fun w => sl_upto Tryz.underlying34 eE_era Tryz.sizeOf40 A (es.length - 1) es.length c w (by omega) FA.out)
  have B0 := Lib.hid (box_one w (.cells #[.int .i64 0, .string ⟨#[]⟩, .int .i64 0, .string ⟨#[]⟩, .int .i64 0] 40))
  have eL : ((es.length : Int) - 1) = ((es.length - 1 : Nat) : Int) := by omega
  clear hr
  go_enter Tryz.func18, Tryz.ntmps18
  go_wp2_with fail
  generalize w.alloc (.cells #[.int .i64 0, .string ⟨#[]⟩, .int .i64 0, .string ⟨#[]⟩, .int .i64 0] 40) = w1 at B0 ⊢
  obtain ⟨q, hq⟩ : ∃ q, w.heap.size = q := ⟨_, rfl⟩
  have NQ : Hid (w.heap.size ≤ q) := Nat.le_of_eq hq
  rw [hq] at B0 ⊢
  clear hq
  have G1 := Lib.hid B0.out.1
  have HQ := Lib.hid B0.out.2
  clear B0
  go_loopw [15] (fun i W => ∃ k : Nat, k ≤ es.length - 1 ∧ i = .int .i64 k ∧ Hid (∀ j x, j < k → es[j]? = some x → ¬ t < x.un) ∧ Hid (Gr w1 W)) (fun i W => es.length - (intOf i).toNat)
  case atStart => exact ⟨0, Nat.zero_le _, rfl, fun j x hj _ => by omega, Gr.refl _⟩
  case round =>
    obtain ⟨k, hk, rfl, hb, hg⟩ := hrel
    by_cases hlt : k < es.length - 1
    · obtain ⟨⟨eo, ru, sv, fm, un⟩, hx⟩ := get_lt (show k < es.length by omega)
      obtain ⟨b, off, rfl, c0, c1, c2, c3, c4⟩ := HR.out.five hx rfl (G1.out.trans hg.out)
      have HX := Lib.hid hx
      clear hx
      have NB := Lib.hid (box_one wr (.cells #[.int .i64 eo, .string ru, .int .i64 sv, .string fm, .int .i64 un] 40))
      by_cases hu : t < un
      · have HQ1 := Lib.hid (bheap_gr (hg.out.trans NB.out.1) HQ.out)
        have GW := Lib.hid (G1.out.trans (hg.out.trans NB.out.1))
        have EE := Lib.hid (eraE_at (eraI_hit (by omega) HX.out hu hb.out) HX.out)
        have y0 : (wr.alloc (.cells #[.int .i64 eo, .string ru, .int .i64 sv, .string fm, .int .i64 un] 40)).cell? ⟨q, 0, none⟩ = some (.int .i64 0) := bcell_row HQ1.out rfl
        have y1 : (wr.alloc (.cells #[.int .i64 eo, .string ru, .int .i64 sv, .string fm, .int .i64 un] 40)).cell? ⟨q, 1, none⟩ = some (.string ⟨#[]⟩) := bcell_row HQ1.out rfl
        have y2 : (wr.alloc (.cells #[.int .i64 eo, .string ru, .int .i64 sv, .string fm, .int .i64 un] 40)).cell? ⟨q, 2, none⟩ = some (.int .i64 0) := bcell_row HQ1.out rfl
        have y3 : (wr.alloc (.cells #[.int .i64 eo, .string ru, .int .i64 sv, .string fm, .int .i64 un] 40)).cell? ⟨q, 3, none⟩ = some (.string ⟨#[]⟩) := bcell_row HQ1.out rfl
        have y4 : (wr.alloc (.cells #[.int .i64 eo, .string ru, .int .i64 sv, .string fm, .int .i64 un] 40)).cell? ⟨q, 4, none⟩ = some (.int .i64 0) := bcell_row HQ1.out rfl
        have f0 : (wr.alloc (.cells #[.int .i64 eo, .string ru, .int .i64 sv, .string fm, .int .i64 un] 40)).frozen? ⟨q, 0, none⟩ = false := unfrozen HQ1.out
        have f1 : (wr.alloc (.cells #[.int .i64 eo, .string ru, .int .i64 sv, .string fm, .int .i64 un] 40)).frozen? ⟨q, 1, none⟩ = false := unfrozen HQ1.out
        have f2 : (wr.alloc (.cells #[.int .i64 eo, .string ru, .int .i64 sv, .string fm, .int .i64 un] 40)).frozen? ⟨q, 2, none⟩ = false := unfrozen HQ1.out
        have f3 : (wr.alloc (.cells #[.int .i64 eo, .string ru, .int .i64 sv, .string fm, .int .i64 un] 40)).frozen? ⟨q, 3, none⟩ = false := unfrozen HQ1.out
        have f4 : (wr.alloc (.cells #[.int .i64 eo, .string ru, .int .i64 sv, .string fm, .int .i64 un] 40)).frozen? ⟨q, 4, none⟩ = false := unfrozen HQ1.out
        have s0 : ((((((wr.alloc (.cells #[.int .i64 eo, .string ru, .int .i64 sv, .string fm, .int .i64 un] 40)).setCell ⟨q, 0, none⟩ (.int .i64 eo)).setCell ⟨q, 1, none⟩ (.string ru)).setCell ⟨q, 2, none⟩ (.int .i64 sv)).setCell ⟨q, 3, none⟩ (.string fm)).setCell ⟨q, 4, none⟩ (.int .i64 un)).cell? ⟨q, 0, none⟩ = some (.int .i64 eo) := bcell_row (st5 HQ1.out (.int .i64 eo) (.string ru) (.int .i64 sv) (.string fm) (.int .i64 un)) rfl
        have s1 : ((((((wr.alloc (.cells #[.int .i64 eo, .string ru, .int .i64 sv, .string fm, .int .i64 un] 40)).setCell ⟨q, 0, none⟩ (.int .i64 eo)).setCell ⟨q, 1, none⟩ (.string ru)).setCell ⟨q, 2, none⟩ (.int .i64 sv)).setCell ⟨q, 3, none⟩ (.string fm)).setCell ⟨q, 4, none⟩ (.int .i64 un)).cell? ⟨q, 1, none⟩ = some (.string ru) := bcell_row (st5 HQ1.out (.int .i64 eo) (.string ru) (.int .i64 sv) (.string fm) (.int .i64 un)) rfl
        have s2 : ((((((wr.alloc (.cells #[.int .i64 eo, .string ru, .int .i64 sv, .string fm, .int .i64 un] 40)).setCell ⟨q, 0, none⟩ (.int .i64 eo)).setCell ⟨q, 1, none⟩ (.string ru)).setCell ⟨q, 2, none⟩ (.int .i64 sv)).setCell ⟨q, 3, none⟩ (.string fm)).setCell ⟨q, 4, none⟩ (.int .i64 un)).cell? ⟨q, 2, none⟩ = some (.int .i64 sv) := bcell_row (st5 HQ1.out (.int .i64 eo) (.string ru) (.int .i64 sv) (.string fm) (.int .i64 un)) rfl
        have s3 : ((((((wr.alloc (.cells #[.int .i64 eo, .string ru, .int .i64 sv, .string fm, .int .i64 un] 40)).setCell ⟨q, 0, none⟩ (.int .i64 eo)).setCell ⟨q, 1, none⟩ (.string ru)).setCell ⟨q, 2, none⟩ (.int .i64 sv)).setCell ⟨q, 3, none⟩ (.string fm)).setCell ⟨q, 4, none⟩ (.int .i64 un)).cell? ⟨q, 3, none⟩ = some (.string fm) := bcell_row (st5 HQ1.out (.int .i64 eo) (.string ru) (.int .i64 sv) (.string fm) (.int .i64 un)) rfl
        have s4 : ((((((wr.alloc (.cells #[.int .i64 eo, .string ru, .int .i64 sv, .string fm, .int .i64 un] 40)).setCell ⟨q, 0, none⟩ (.int .i64 eo)).setCell ⟨q, 1, none⟩ (.string ru)).setCell ⟨q, 2, none⟩ (.int .i64 sv)).setCell ⟨q, 3, none⟩ (.string fm)).setCell ⟨q, 4, none⟩ (.int .i64 un)).cell? ⟨q, 4, none⟩ = some (.int .i64 un) := bcell_row (st5 HQ1.out (.int .i64 eo) (.string ru) (.int .i64 sv) (.string fm) (.int .i64 un)) rfl
        go_wp2_with fail
        exact bodyPost_ret (v := .agg #[.int .i64 eo, .string ru, .int .i64 sv, .string fm, .int .i64 un]) (by simp [results, Tryz.results18, go_sem, s0, s1, s2, s3, s4]) rfl ⟨by rw [EE.out], (st5_below GW.out NQ.out (.int .i64 eo) (.string ru) (.int .i64 sv) (.string fm) (.int .i64 un))⟩
      · go_wp2_with fail
        go_roundw
        case rel => exact ⟨k + 1, by omega, by go_num, fun j x hj hx => by
          by_cases e : j = k
          · subst e; rw [HX.out] at hx; injection hx with hx; rw [← hx]; exact hu
          · exact hb.out j x (by omega) hx, hg.out.alloc' _⟩
        case measure => simp [intOf]; omega
    · have e : k = es.length - 1 := by omega
      subst e
      obtain ⟨⟨eo, ru, sv, fm, un⟩, hx⟩ := get_lt (show es.length - 1 < es.length by omega)
      obtain ⟨b, off, rfl, c0, c1, c2, c3, c4⟩ := HR.out.five hx rfl (G1.out.trans hg.out)
      have EE := Lib.hid (eraE_at (eraI_end fun j x hj hx => hb.out j x (by omega) hx) hx)
      clear hx
      have HQ1 := Lib.hid (bheap_gr hg.out HQ.out)
      have GW := Lib.hid (G1.out.trans hg.out)
      have y0 : wr.cell? ⟨q, 0, none⟩ = some (.int .i64 0) := bcell_row HQ1.out rfl
      have y1 : wr.cell? ⟨q, 1, none⟩ = some (.string ⟨#[]⟩) := bcell_row HQ1.out rfl
      have y2 : wr.cell? ⟨q, 2, none⟩ = some (.int .i64 0) := bcell_row HQ1.out rfl
      have y3 : wr.cell? ⟨q, 3, none⟩ = some (.string ⟨#[]⟩) := bcell_row HQ1.out rfl
      have y4 : wr.cell? ⟨q, 4, none⟩ = some (.int .i64 0) := bcell_row HQ1.out rfl
      have f0 : wr.frozen? ⟨q, 0, none⟩ = false := unfrozen HQ1.out
      have f1 : wr.frozen? ⟨q, 1, none⟩ = false := unfrozen HQ1.out
      have f2 : wr.frozen? ⟨q, 2, none⟩ = false := unfrozen HQ1.out
      have f3 : wr.frozen? ⟨q, 3, none⟩ = false := unfrozen HQ1.out
      have f4 : wr.frozen? ⟨q, 4, none⟩ = false := unfrozen HQ1.out
      have s0 : (((((wr.setCell ⟨q, 0, none⟩ (.int .i64 eo)).setCell ⟨q, 1, none⟩ (.string ru)).setCell ⟨q, 2, none⟩ (.int .i64 sv)).setCell ⟨q, 3, none⟩ (.string fm)).setCell ⟨q, 4, none⟩ (.int .i64 un)).cell? ⟨q, 0, none⟩ = some (.int .i64 eo) := bcell_row (st5 HQ1.out (.int .i64 eo) (.string ru) (.int .i64 sv) (.string fm) (.int .i64 un)) rfl
      have s1 : (((((wr.setCell ⟨q, 0, none⟩ (.int .i64 eo)).setCell ⟨q, 1, none⟩ (.string ru)).setCell ⟨q, 2, none⟩ (.int .i64 sv)).setCell ⟨q, 3, none⟩ (.string fm)).setCell ⟨q, 4, none⟩ (.int .i64 un)).cell? ⟨q, 1, none⟩ = some (.string ru) := bcell_row (st5 HQ1.out (.int .i64 eo) (.string ru) (.int .i64 sv) (.string fm) (.int .i64 un)) rfl
      have s2 : (((((wr.setCell ⟨q, 0, none⟩ (.int .i64 eo)).setCell ⟨q, 1, none⟩ (.string ru)).setCell ⟨q, 2, none⟩ (.int .i64 sv)).setCell ⟨q, 3, none⟩ (.string fm)).setCell ⟨q, 4, none⟩ (.int .i64 un)).cell? ⟨q, 2, none⟩ = some (.int .i64 sv) := bcell_row (st5 HQ1.out (.int .i64 eo) (.string ru) (.int .i64 sv) (.string fm) (.int .i64 un)) rfl
      have s3 : (((((wr.setCell ⟨q, 0, none⟩ (.int .i64 eo)).setCell ⟨q, 1, none⟩ (.string ru)).setCell ⟨q, 2, none⟩ (.int .i64 sv)).setCell ⟨q, 3, none⟩ (.string fm)).setCell ⟨q, 4, none⟩ (.int .i64 un)).cell? ⟨q, 3, none⟩ = some (.string fm) := bcell_row (st5 HQ1.out (.int .i64 eo) (.string ru) (.int .i64 sv) (.string fm) (.int .i64 un)) rfl
      have s4 : (((((wr.setCell ⟨q, 0, none⟩ (.int .i64 eo)).setCell ⟨q, 1, none⟩ (.string ru)).setCell ⟨q, 2, none⟩ (.int .i64 sv)).setCell ⟨q, 3, none⟩ (.string fm)).setCell ⟨q, 4, none⟩ (.int .i64 un)).cell? ⟨q, 4, none⟩ = some (.int .i64 un) := bcell_row (st5 HQ1.out (.int .i64 eo) (.string ru) (.int .i64 sv) (.string fm) (.int .i64 un)) rfl
      go_wp2_with fail
      exact bodyPost_ret (v := .agg #[.int .i64 eo, .string ru, .int .i64 sv, .string fm, .int .i64 un]) (by simp [results, Tryz.results18, go_sem, s0, s1, s2, s3, s4]) rfl ⟨by rw [EE.out], (st5_below GW.out NQ.out (.int .i64 eo) (.string ru) (.int .i64 sv) (.string fm) (.int .i64 un))⟩

set_option maxRecDepth 100000 in
set_option maxHeartbeats 8000000 in
theorem reraAt (nm : ByteArray) (A : Option Addr) (c : Nat) (es : List EraD) (t : Int) (w : World) (hr : Row w 5 EraD.cells A es) (hl : 1 ≤ es.length) (hm : es.length ≤ 700) (hc : es.length ≤ c) :
    Calls Tryz.prog 23 #[.agg #[.string nm, .slice A es.length c], .int .i64 t] w fun e w' => e = .returned (.int .i64 (eraI es t)) ∧ Gr w w' := by
  have HR := Lib.hid hr
  have FA := Lib.hid (row_flat hr (by omega))
  have XS := Lib.hid (fun w => sl_upto Tryz.underlying34 eE_era Tryz.sizeOf40 A (es.length - 1) es.length c w (by omega) FA.out)
  have B0 := Lib.hid (box_one w (.cells #[.string nm, .slice A es.length c] 36))
  have eL : ((es.length : Int) - 1) = ((es.length - 1 : Nat) : Int) := by omega
  clear hr
  go_enter Tryz.func23, Tryz.ntmps23
  go_wp2_with fail
  generalize w.alloc (.cells #[.string nm, .slice A es.length c] 36) = w1 at B0 ⊢
  generalize w.heap.size = q at B0 ⊢
  go_loopw [15] (fun i W => ∃ k : Nat, k ≤ es.length - 1 ∧ i = .int .i64 k ∧ Hid (∀ j x, j < k → es[j]? = some x → ¬ t < x.un) ∧ Hid (Gr w1 W)) (fun i W => es.length - (intOf i).toNat)
  case atStart => exact ⟨0, Nat.zero_le _, rfl, fun j x hj _ => by omega, Gr.refl _⟩
  case round =>
    obtain ⟨k, hk, rfl, hb, hg⟩ := hrel
    by_cases hlt : k < es.length - 1
    · obtain ⟨⟨eo, ru, sv, fm, un⟩, hx⟩ := get_lt (show k < es.length by omega)
      obtain ⟨b, off, rfl, c0, c1, c2, c3, c4⟩ := HR.out.five hx rfl (B0.out.1.trans hg.out)
      have HX := Lib.hid hx
      clear hx
      have NB := Lib.hid (box_one wr (.cells #[.int .i64 eo, .string ru, .int .i64 sv, .string fm, .int .i64 un] 40))
      by_cases hu : t < un
      · have GW := Lib.hid (B0.out.1.trans (hg.out.trans NB.out.1))
        have EE := Lib.hid (eraI_hit (by omega) HX.out hu hb.out)
        go_wp2_with fail
        go_ret
        exact ⟨by rw [EE.out]; rfl, GW.out⟩
      · go_wp2_with fail
        go_roundw
        case rel => exact ⟨k + 1, by omega, by go_num, fun j x hj hx => by
          by_cases e : j = k
          · subst e; rw [HX.out] at hx; injection hx with hx; rw [← hx]; exact hu
          · exact hb.out j x (by omega) hx, hg.out.alloc' _⟩
        case measure => simp [intOf]; omega
    · have e : k = es.length - 1 := by omega
      subst e
      have EE := Lib.hid (eraI_end (es := es) (t := t) fun j x hj hx => hb.out j x (by omega) hx)
      have HQ1 := Lib.hid (bheap_gr hg.out B0.out.2)
      have y0 : wr.cell? ⟨q, 1, none⟩ = some (.slice A es.length c) := bcell_row HQ1.out rfl
      go_wp2_with fail
      go_ret
      exact ⟨by rw [EE.out]; rfl, B0.out.1.trans hg.out⟩
end Go.Proofs.YtbagdlafpahgdaaGreatDoor
