/- The literal of StateUntil: an era of the zone alone in a book. -/
import Derived.Test.YtbagdlafpahgdaaGreatDoorRM50
namespace Go.Proofs.YtbagdlafpahgdaaGreatDoor
set_option linter.unusedVariables false
set_option linter.unusedSimpArgs false
open Go.RowKit
theorem box_4 (w : World) (o1 o2 o3 o4 : Obj) : Gr w ((((w.alloc o1).alloc o2).alloc o3).alloc o4) ∧ ((((w.alloc o1).alloc o2).alloc o3).alloc o4).heap[w.heap.size]? = some o1 ∧ ((((w.alloc o1).alloc o2).alloc o3).alloc o4).heap[w.heap.size + 1]? = some o2 ∧ ((((w.alloc o1).alloc o2).alloc o3).alloc o4).heap[w.heap.size + 1 + 1]? = some o3 ∧ ((((w.alloc o1).alloc o2).alloc o3).alloc o4).heap[w.heap.size + 1 + 1 + 1]? = some o4 := by
  obtain ⟨g1, h1, h2, h3⟩ := box_three w o1 o2 o3
  have g4 := Gr.alloc (((w.alloc o1).alloc o2).alloc o3) o4
  refine ⟨g1.trans g4, bheap_gr g4 h1, bheap_gr g4 h2, bheap_gr g4 h3, ?_⟩
  have := bheap_new (((w.alloc o1).alloc o2).alloc o3) o4
  have sz : ∀ (W : World) (o : Obj), (W.alloc o).heap.size = W.heap.size + 1 := fun W o => by unfold World.alloc; simp
  rwa [sz, sz, sz] at this

set_option maxRecDepth 100000 in
set_option maxHeartbeats 8000000 in
theorem alone_any (k qz q : Nat) (A : Option Addr) (c : Nat) (es : List EraD) (Ar : Option Addr) (cr : Nat) (rs : List RuD) (x : EraD) (W : World) (h0 : W.cell? ⟨qz, 1, none⟩ = some (.slice A es.length c)) (h1 : W.cell? ⟨q, 0, none⟩ = some (.slice Ar rs.length cr))
    (hr : Row W 5 EraD.cells A es) (hx : es[k]? = some x) (hi : x.In) (hrs : RusAt W Ar cr rs) :
    Calls Tryz.prog 13 #[.int .i64 k, .pointer (some ⟨qz, 0, none⟩), .pointer (some ⟨q, 0, none⟩)] W fun e w' => ∃ q1, e = .returned (.agg #[.slice Ar rs.length cr, .slice (some ⟨q1 + 1, 0, none⟩) 1 1, .slice none 0 0]) ∧ (aloneB Ar cr rs q1 (q1 + 1) (S [90]) x.open_).At w' ∧ Gr W w' := by
  obtain ⟨eo, ru, sv, fm, un⟩ := x
  obtain ⟨b, off, rfl, c0, c1, c2, c3, c4⟩ := Row.five hr hx rfl (Gr.alloc W (.cells #[.slice none 0 0, .slice none 0 0, .slice none 0 0] 26))
  have HI := Lib.hid hi
  have HRS := Lib.hid hrs
  have hlt := (List.getElem?_eq_some_iff.1 hx).1
  have l0 : (0 : Int) ≤ (k : Int) := by omega
  have l1 : (k : Int) < (es.length : Int) := by omega
  have G0 := Lib.hid (Gr.alloc W (.cells #[.slice none 0 0, .slice none 0 0, .slice none 0 0] 26))
  have d0 : (W.alloc (.cells #[.slice none 0 0, .slice none 0 0, .slice none 0 0] 26)).cell? ⟨qz, 1, none⟩ = some (.slice (some ⟨b, off, none⟩) es.length c) := G0.out.holds h0
  have d1 : ((W.alloc (.cells #[.slice none 0 0, .slice none 0 0, .slice none 0 0] 26)).alloc (.cells #[.int .i64 eo, .string ru, .int .i64 sv, .string fm, .int .i64 0] 40)).cell? ⟨q, 0, none⟩ = some (.slice Ar rs.length cr) := (G0.out.trans (Gr.alloc _ _)).holds h1
  clear hr hx hi hrs hlt
  go_enter Tryz.func13, Tryz.ntmps13
  go_wp2_with (first | (refine lay_one _ _ _ (by rfl) (bsn_era1 _ eo sv 0 ru fm) ?_) | (refine lay_one _ _ _ (by rfl) (bsn_zone1 _ ⟨#[90]⟩ _ 1 1) ?_))
  have B := Lib.hid (box_4 W (.cells #[.slice Ar rs.length cr, .slice (some ⟨W.heap.size + 1 + 1 + 1, 0, none⟩) 1 1, .slice none 0 0] 26) (.cells #[.int .i64 eo, .string ru, .int .i64 sv, .string fm, .int .i64 0] 40) (.cells #[.int .i64 eo, .string ru, .int .i64 sv, .string fm, .int .i64 0] 40) (.cells #[.string ⟨#[90]⟩, .slice (some ⟨W.heap.size + 1 + 1, 0, none⟩) 1 1] 36))
  generalize (((W.alloc (.cells #[.slice Ar rs.length cr, .slice (some ⟨W.heap.size + 1 + 1 + 1, 0, none⟩) 1 1, .slice none 0 0] 26)).alloc (.cells #[.int .i64 eo, .string ru, .int .i64 sv, .string fm, .int .i64 0] 40)).alloc (.cells #[.int .i64 eo, .string ru, .int .i64 sv, .string fm, .int .i64 0] 40)).alloc (.cells #[.string ⟨#[90]⟩, .slice (some ⟨W.heap.size + 1 + 1, 0, none⟩) 1 1] 36) = w1 at B ⊢
  generalize W.heap.size = p at B ⊢
  have s0 : w1.cell? ⟨p, 0, none⟩ = some (.slice Ar rs.length cr) := bcell_row B.out.2.1 rfl
  have s1 : w1.cell? ⟨p, 1, none⟩ = some (.slice (some ⟨p + 1 + 1 + 1, 0, none⟩) 1 1) := bcell_row B.out.2.1 rfl
  have s2 : w1.cell? ⟨p, 2, none⟩ = some (.slice none 0 0) := bcell_row B.out.2.1 rfl
  exact bodyPost_ret (v := .agg #[.slice Ar rs.length cr, .slice (some ⟨p + 1 + 1 + 1, 0, none⟩) 1 1, .slice none 0 0]) (by simp [results, Tryz.results13, go_sem, s0, s1, s2]) rfl ⟨p + 1 + 1, rfl, aloneB_at (e := EraD.open_ ⟨eo, ru, sv, fm, un⟩) (HRS.out.gr B.out.1) (by rw [S_size]; unfold maxLen; decide) ⟨HI.out.1, HI.out.2.1, by show (-9223372036854775808 : Int) ≤ 0; decide, by show (0 : Int) ≤ 9223372036854775807; decide⟩ B.out.2.2.2.1 B.out.2.2.2.2, B.out.1⟩
end Go.Proofs.YtbagdlafpahgdaaGreatDoor
