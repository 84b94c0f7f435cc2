/- A slice without room appended tto: the row of both in a new block. No function of the program in it. Slices cut: x[:j], x[:j:j], x[j:] at whatever element; own rows tto which nothing or a row is appended. No function of the program in it. A whole value stored; the era that applies: the project's eraAt and the reference's. -/
import Derived.Deep.Upon
import Derived.Test.YtkmgildnhnjepaaGreatDoorTM17
import Derived.Test.YtkmgildnhnjepaaGreatDoorTM13
namespace Go.Proofs.YtkmgildnhnjepaaGreatDoor
set_option linter.unusedVariables false
set_option linter.unusedSimpArgs false
open Go.RowKit
theorem addr_zero (b off j : Nat) : (⟨b, off, none⟩ : Addr).add j = ⟨b, off + j, none⟩ := by unfold Addr.add; split <;> simp_all
/-- a row in a new block, with room behind it -/
theorem row_new {α : Type} {w : World} {k : Nat} {enc : α → List Value} (hk : ∀ x, (enc x).length = k) (l : List α) (e : TypeId) (zs : Array Value) : Row (w.alloc (.cells ((l.flatMap enc).toArray ++ zs) e)) k enc (some ⟨w.heap.size, 0, none⟩) l := fun i x hx => by
  refine ⟨w.heap.size, 0, rfl, by simp, fun j v hv => ?_⟩
  have hf := flat_get hk l i x hx j v hv
  have hlt := (List.getElem?_eq_some_iff.1 hf).1
  rw [World.cell?_alloc_new, Nat.zero_add, Array.getElem?_append_left (by simpa using hlt)]
  simpa using hf
/-- append onto a slice without room -/
theorem run_app_full {P : Program} {α : Type} (w : World) (t ty e : TypeId) (i : TypeInfo) (z : Value) (k bytes : Nat) (ht : P.underlying t = some (.slice e)) (hi : P.info? e = some i) (hz : i.zero = some z) (hsize : i.size = k) (hby : i.bytes = bytes) (hbytes : bytes ≤ 1000)
    (enc : α → List Value) (hk : ∀ x, (enc x).length = k) (l1 l2 : List α) (A1 A2 : Option Addr) (c2 : Nat) (h1 : Row w k enc A1 l1) (h2 : Row w k enc A2 l2) (hA : A1 = none ∨ ∃ b off, A1 = some ⟨b, off, none⟩) (h63 : l1.length + l2.length ≤ 100000) :
    ∃ A c w', (Builtin.append_ #[t, t] ty #[.slice A1 l1.length l1.length, .slice A2 l2.length c2]).run P w = .ok (.slice A (l1 ++ l2).length c) w' ∧ Row w' k enc A (l1 ++ l2) ∧ (l1 ++ l2).length ≤ c ∧ c ≤ maxLen ∧ Gr w w' ∧
      (l2 ≠ [] → A = some ⟨w.heap.size, 0, none⟩ ∧ w.heap.size < w'.heap.size) ∧ (l2 = [] → A = A1 ∧ w' = w ∧ c = l1.length) := by
  subst hsize
  have hmul : (l1.length + l2.length) * bytes ≤ 100000 * 1000 := Nat.mul_le_mul h63 hbytes
  have hcap : ∀ n old : Nat, n ≤ 100000 → grownCap w n old e ≤ maxLen := fun n old hn => grownCap_le_maxLen w n old e (by unfold maxLen; omega)
  cases l2 with
  | nil =>
    refine ⟨A1, l1.length, w, ?_, by simpa using h1, by simp, by unfold maxLen; simp at h63; omega, Gr.refl w, fun q => absurd rfl q, fun _ => ⟨rfl, rfl, rfl⟩⟩
    rw [List.append_nil]
    cases A1 <;> cases A2 <;> simp [Builtin.append_, run_underlying ht, sizeOf, typeInfo, hi, Builtin.lenOf, Builtin.firstCells, loadCells, loadCellsFrom, storeCells]
  | cons y l2 =>
    obtain ⟨b, off, rfl, _⟩ := h2 0 y rfl
    have fin : ∀ c, c ≤ maxLen → (l1 ++ y :: l2).length ≤ c → ∀ zs : Array Value, Row (w.drew.alloc (.cells (((l1 ++ y :: l2).flatMap enc).toArray ++ zs) e)) i.size enc (some ⟨w.heap.size, 0, none⟩) (l1 ++ y :: l2) ∧ Gr w (w.drew.alloc (.cells (((l1 ++ y :: l2).flatMap enc).toArray ++ zs) e)) ∧ w.heap.size < (w.drew.alloc (.cells (((l1 ++ y :: l2).flatMap enc).toArray ++ zs) e)).heap.size := fun c _ _ zs =>
      ⟨row_new (w := w.drew) hk _ e zs, (Gr.drew w).alloc' _, by simp⟩
    have hlen : (l1 ++ y :: l2).length = l1.length + (y :: l2).length := by simp
    by_cases h0 : l1 = []
    · subst h0
      rcases hA with rfl | ⟨b1, o1, rfl⟩
      · have hr := run_append_nil (P := P) w t ty e i z ht hi hz ⟨b, off, none⟩ (y :: l2).length c2 ((y :: l2).flatMap enc) (flat_len hk _) (Row.news hk h2) (by simp) (by simp only [List.length_nil, Nat.zero_add] at h63; omega) (by rw [hby]; simp only [List.length_nil, Nat.zero_add] at hmul; omega)
        have hc := hcap (y :: l2).length 0 (by simp only [List.length_nil, Nat.zero_add] at h63; omega)
        have hge := grownCap_ge w (y :: l2).length 0 e
        obtain ⟨f1, f2, f3⟩ := fin _ hc (by simpa using hge) (Builtin.zeroCells z.cells (grownCap w (y :: l2).length 0 e - (y :: l2).length))
        exact ⟨_, _, _, hr, by simpa using f1, by simpa using hge, hc, by simpa using f2, fun _ => ⟨rfl, by simp⟩, fun q => absurd q (by simp)⟩
      · have hr := run_append_grow (P := P) w t ty e i z ht hi hz ⟨b1, o1, none⟩ 0 0 [] (by simp) (fun j v hv => by simp at hv) ⟨b, off, none⟩ (y :: l2).length c2 ((y :: l2).flatMap enc) (flat_len hk _) (Row.news hk h2) (by simp) (by simp only [List.length_nil, Nat.zero_add] at h63; omega) (growslice_fits (by simp) (by rw [hby]; simp only [List.length_nil] at hmul; omega))
        simp only [Nat.zero_add] at hr
        have hc := hcap (y :: l2).length 0 (by simp only [List.length_nil, Nat.zero_add] at h63; omega)
        have hge := grownCap_ge w (y :: l2).length 0 e
        obtain ⟨f1, f2, f3⟩ := fin _ hc (by simpa using hge) (Builtin.zeroCells z.cells (grownCap w (y :: l2).length 0 e - (y :: l2).length))
        exact ⟨_, _, _, hr, by simpa using f1, by simpa using hge, hc, by simpa using f2, fun _ => ⟨rfl, by simp⟩, fun q => absurd q (by simp)⟩
    · obtain ⟨x, l1', rfl⟩ := List.exists_cons_of_ne_nil h0
      obtain ⟨b1, o1, rfl, _⟩ := h1 0 x rfl
      have hr := run_append_grow (P := P) w t ty e i z ht hi hz ⟨b1, o1, none⟩ (x :: l1').length (x :: l1').length ((x :: l1').flatMap enc) (flat_len hk _) (Row.news hk h1) ⟨b, off, none⟩ (y :: l2).length c2 ((y :: l2).flatMap enc) (flat_len hk _) (Row.news hk h2) (by simp) (by omega) (growslice_fits (by simp) (by rw [hby]; omega))
      have hc := hcap ((x :: l1').length + (y :: l2).length) (x :: l1').length h63
      have hge := grownCap_ge w ((x :: l1').length + (y :: l2).length) (x :: l1').length e
      obtain ⟨f1, f2, f3⟩ := fin _ hc (by rw [hlen]; exact hge) (Builtin.zeroCells z.cells (grownCap w ((x :: l1').length + (y :: l2).length) (x :: l1').length e - ((x :: l1').length + (y :: l2).length)))
      have eapp : ((x :: l1').flatMap enc).toArray ++ ((y :: l2).flatMap enc).toArray = ((x :: l1' ++ y :: l2).flatMap enc).toArray := by rw [List.flatMap_append]; simp
      rw [eapp] at hr
      exact ⟨_, _, _, by rw [hlen]; exact hr, f1, by rw [hlen]; exact hge, hc, f2, fun _ => ⟨rfl, f3⟩, fun q => absurd q (by simp)⟩
/-- the same at a step of a region that draws its order -/
theorem step_app_full {P : Program} {α : Type} (w : World) {ops : Array Oper} {o : Oper} {a : Act} {K : Act → World → Prop} {Q : Exit → Act → World → Prop} {E : Prop} (hgd : o.guard = none) (s x : Operand) (t : TypeId)
    (ho : o.op = .call { callee := .builtin .append, args := #[s, x], argTypes := #[t, t] }) (e : TypeId) (i : TypeInfo) (z : Value) (k bytes : Nat) (ht : P.underlying t = some (.slice e)) (hi : P.info? e = some i) (hz : i.zero = some z)
    (hsize : i.size = k) (hby : i.bytes = bytes) (hbytes : bytes ≤ 1000) (enc : α → List Value) (hk : ∀ x, (enc x).length = k) (l1 l2 : List α) (A1 A2 : Option Addr) (n1 n2 c2 : Nat) (hs : a.eval s = .slice A1 n1 n1) (hx : a.eval x = .slice A2 n2 c2) (hn1 : n1 = l1.length) (hn2 : n2 = l2.length)
    (h1 : Row w k enc A1 l1) (h2 : Row w k enc A2 l2) (hA : A1 = none ∨ ∃ b off, A1 = some ⟨b, off, none⟩) (h63 : l1.length + l2.length ≤ 100000)
    (h : ∀ A c w', Row w' k enc A (l1 ++ l2) → (l1 ++ l2).length ≤ c → c ≤ maxLen → Gr w w' → (l2 ≠ [] → A = some ⟨w.heap.size, 0, none⟩ ∧ w.heap.size < w'.heap.size) → (l2 = [] → A = A1 ∧ w' = w ∧ c = l1.length) → K (a.put o.dst (.slice A (l1 ++ l2).length c)) w') :
    if Region.wanted o (yielded ops a.tmps) = true then Oper.wp P o a w K Q else E := by
  have hw : Region.wanted o (yielded ops a.tmps) = true := by simp [Region.wanted, hgd]
  rw [if_pos hw]
  subst hn1; subst hn2
  obtain ⟨A, c, w', hr, r1, r2, r3, r4, r5, r6⟩ := run_app_full (P := P) w t o.type e i z k bytes ht hi hz hsize hby hbytes enc hk l1 l2 A1 A2 c2 h1 h2 hA h63
  unfold Oper.wp execOp
  simp only [ho, resolve, invoke, builtin, Sem.run_bind, Sem.run_pure, Result.andThen_ok, List.map_toArray, List.map_cons, List.map_nil, hs, hx, hr]
  exact h A c w' r1 r2 r3 r4 r5 r6
end Go.Proofs.YtkmgildnhnjepaaGreatDoor
namespace Go.Proofs.YtkmgildnhnjepaaGreatDoor
set_option linter.unusedVariables false
set_option linter.unusedSimpArgs false
open Go.RowKit
/-- where what is behind the j-th lies -/
def tailG (A : Option Addr) (j k c : Nat) : Option Addr := if c = j then A else A.map (·.add (j * k))
/-- an address as rows have it -/
def Flat (A : Option Addr) : Prop := A = none ∨ ∃ b off, A = some ⟨b, off, none⟩
theorem flat_map {A : Option Addr} (h : Flat A) : A.map (·.add 0) = A := by
  rcases h with rfl | ⟨b, off, rfl⟩
  · rfl
  · simp [addr_zero]
theorem sl_upto {P : Program} {T E : TypeId} {k : Nat} (hu : P.underlying T = some (.slice E)) (he : P.elem T = E) (hz : ∀ w, (Go.sizeOf E).run P w = .ok k w) (A : Option Addr) (j n c : Nat) (w : World) (hj : j ≤ c) (h : Flat A) : (Instr.sliceAt T (.slice A n c) none (some (.int .i64 j)) none).run P w = .ok (.slice A j c) w := by
  have hu' : P.underlying T = some (.slice (P.elem T)) := by rw [he]; exact hu
  rw [run_sliceAt_slice _ _ _ _ _ _ hu', run_slice_h w T A n c hu' .i64 j (by omega) (by omega), he, hz w]
  simp only [Result.andThen, Int.toNat_natCast]
  unfold sliced
  rw [Nat.zero_mul, flat_map h]
  simp
theorem sl_cut {P : Program} {T E : TypeId} {k : Nat} (hu : P.underlying T = some (.slice E)) (he : P.elem T = E) (hz : ∀ w, (Go.sizeOf E).run P w = .ok k w) (A : Option Addr) (j n c : Nat) (w : World) (hj : j ≤ c) (h : Flat A) : (Instr.sliceAt T (.slice A n c) none (some (.int .i64 j)) (some (.int .i64 j))).run P w = .ok (.slice A j j) w := by
  have hu' : P.underlying T = some (.slice (P.elem T)) := by rw [he]; exact hu
  rw [run_sliceAt_slice _ _ _ _ _ _ hu', run_slice_hm w T A n c hu' .i64 .i64 j j (by omega) (Int.le_refl _) (by omega), he, hz w]
  simp only [Result.andThen, Int.toNat_natCast]
  unfold sliced
  rw [Nat.zero_mul, flat_map h]
  simp
theorem sl_from {P : Program} {T E : TypeId} {k : Nat} (hu : P.underlying T = some (.slice E)) (he : P.elem T = E) (hz : ∀ w, (Go.sizeOf E).run P w = .ok k w) (A : Option Addr) (j n c : Nat) (w : World) (hj : j ≤ n) (hn : n ≤ c) : (Instr.sliceAt T (.slice A n c) (some (.int .i64 j)) none none).run P w = .ok (.slice (tailG A j k c) (n - j) (c - j)) w := by
  have hu' : P.underlying T = some (.slice (P.elem T)) := by rw [he]; exact hu
  rw [run_sliceAt_slice _ _ _ _ _ _ hu', run_slice_l w T A n c hu' .i64 j (by omega) (by omega), he, hz w]
  rfl
theorem row_from {α : Type} {w : World} {k : Nat} {enc : α → List Value} {A : Option Addr} {L : List α} {j c : Nat} (h : Row w k enc A L) (hc : L.length ≤ c) : Row w k enc (tailG A j k c) (L.drop j) := fun i x hx => by
  rw [List.getElem?_drop] at hx
  obtain ⟨b, off, rfl, hb, hce⟩ := h _ x hx
  have hl := (List.getElem?_eq_some_iff.1 hx).1
  refine ⟨b, off + j * k, ?_, hb, fun m v hv => ?_⟩
  · unfold tailG
    rw [if_neg (by omega)]
    simp [addr_zero]
  · have := hce m v hv
    rwa [show off + (j + i) * k + m = off + j * k + i * k + m by rw [Nat.add_mul]; omega] at this
theorem row_flat {α : Type} {w : World} {k : Nat} {enc : α → List Value} {A : Option Addr} {L : List α} (h : Row w k enc A L) (hl : 0 < L.length) : Flat A := by
  obtain ⟨x, hx⟩ := get_lt hl
  obtain ⟨b, off, rfl, _⟩ := h 0 x hx
  exact Or.inr ⟨b, off, rfl⟩
end Go.Proofs.YtkmgildnhnjepaaGreatDoor
namespace Go.Proofs.YtkmgildnhnjepaaGreatDoor
set_option linter.unusedVariables false
set_option linter.unusedSimpArgs false
open Go.RowKit
theorem st3 {W : World} {p : Nat} {T : TypeId} {r0 r1 r2 : Value} (h : W.heap[p]? = some (.cells #[r0, r1, r2] T (0, 0))) (v0 v1 v2 : Value) :
    (((W.setCell ⟨p, 0, none⟩ v0).setCell ⟨p, 1, none⟩ v1).setCell ⟨p, 2, none⟩ v2).heap[p]? = some (.cells #[v0, v1, v2] T (0, 0)) := (heap_setCell_same _ p 2 #[v0, v1, r2] T v2 (heap_setCell_same _ p 1 #[v0, r1, r2] T v1 (heap_setCell_same _ p 0 #[r0, r1, r2] T v0 h)))
theorem st3_below {W a : World} {p : Nat} {B : Nat} (h : Below B a W) (hB : B ≤ p) (v0 v1 v2 : Value) : Below B a (((W.setCell ⟨p, 0, none⟩ v0).setCell ⟨p, 1, none⟩ v1).setCell ⟨p, 2, none⟩ v2) := (Below.setCell (Below.setCell (Below.setCell h hB _) hB _) hB _)
theorem st5 {W : World} {p : Nat} {T : TypeId} {r0 r1 r2 r3 r4 : Value} (h : W.heap[p]? = some (.cells #[r0, r1, r2, r3, r4] T (0, 0))) (v0 v1 v2 v3 v4 : Value) :
    (((((W.setCell ⟨p, 0, none⟩ v0).setCell ⟨p, 1, none⟩ v1).setCell ⟨p, 2, none⟩ v2).setCell ⟨p, 3, none⟩ v3).setCell ⟨p, 4, none⟩ v4).heap[p]? = some (.cells #[v0, v1, v2, v3, v4] T (0, 0)) := (heap_setCell_same _ p 4 #[v0, v1, v2, v3, r4] T v4 (heap_setCell_same _ p 3 #[v0, v1, v2, r3, r4] T v3 (heap_setCell_same _ p 2 #[v0, v1, r2, r3, r4] T v2 (heap_setCell_same _ p 1 #[v0, r1, r2, r3, r4] T v1 (heap_setCell_same _ p 0 #[r0, r1, r2, r3, r4] T v0 h)))))
theorem st5_below {W a : World} {p : Nat} {B : Nat} (h : Below B a W) (hB : B ≤ p) (v0 v1 v2 v3 v4 : Value) : Below B a (((((W.setCell ⟨p, 0, none⟩ v0).setCell ⟨p, 1, none⟩ v1).setCell ⟨p, 2, none⟩ v2).setCell ⟨p, 3, none⟩ v3).setCell ⟨p, 4, none⟩ v4) := (Below.setCell (Below.setCell (Below.setCell (Below.setCell (Below.setCell h hB _) hB _) hB _) hB _) hB _)
theorem st6 {W : World} {p : Nat} {T : TypeId} {r0 r1 r2 r3 r4 r5 : Value} (h : W.heap[p]? = some (.cells #[r0, r1, r2, r3, r4, r5] T (0, 0))) (v0 v1 v2 v3 v4 v5 : Value) :
    ((((((W.setCell ⟨p, 0, none⟩ v0).setCell ⟨p, 1, none⟩ v1).setCell ⟨p, 2, none⟩ v2).setCell ⟨p, 3, none⟩ v3).setCell ⟨p, 4, none⟩ v4).setCell ⟨p, 5, none⟩ v5).heap[p]? = some (.cells #[v0, v1, v2, v3, v4, v5] T (0, 0)) := (heap_setCell_same _ p 5 #[v0, v1, v2, v3, v4, r5] T v5 (heap_setCell_same _ p 4 #[v0, v1, v2, v3, r4, r5] T v4 (heap_setCell_same _ p 3 #[v0, v1, v2, r3, r4, r5] T v3 (heap_setCell_same _ p 2 #[v0, v1, r2, r3, r4, r5] T v2 (heap_setCell_same _ p 1 #[v0, r1, r2, r3, r4, r5] T v1 (heap_setCell_same _ p 0 #[r0, r1, r2, r3, r4, r5] T v0 h))))))
theorem st6_below {W a : World} {p : Nat} {B : Nat} (h : Below B a W) (hB : B ≤ p) (v0 v1 v2 v3 v4 v5 : Value) : Below B a ((((((W.setCell ⟨p, 0, none⟩ v0).setCell ⟨p, 1, none⟩ v1).setCell ⟨p, 2, none⟩ v2).setCell ⟨p, 3, none⟩ v3).setCell ⟨p, 4, none⟩ v4).setCell ⟨p, 5, none⟩ v5) := (Below.setCell (Below.setCell (Below.setCell (Below.setCell (Below.setCell (Below.setCell h hB _) hB _) hB _) hB _) hB _) hB _)

theorem eE_era : Tryz.prog.elem 55 = 59 := by kernel_rfl

set_option maxRecDepth 100000 in
set_option maxHeartbeats 8000000 in
theorem peraAt (A : Option Addr) (c : Nat) (es : List EraD) (t : Int) (w : World) (hr : Row w 5 EraD.cells A es) (hl : 1 ≤ es.length) (hm : es.length ≤ 700) (hc : es.length ≤ c) :
    Calls Tryz.prog 43 #[.slice A es.length c, .int .i64 t] w fun e w' => e = .returned (.agg #[.int .i64 (eraE es t).off, .string (eraE es t).ru, .int .i64 (eraE es t).sv, .string (eraE es t).fm, .int .i64 (eraE es t).un]) ∧ Gr w w' := by
  have HR := Lib.hid hr
  have FA := Lib.hid (row_flat hr (by omega))
  have XS := Lib.hid (fun w => sl_upto Tryz.underlying55 eE_era Tryz.sizeOf59 A (es.length - 1) es.length c w (by omega) FA.out)
  have B0 := Lib.hid (box_one w (.cells #[.int .i64 0, .string ⟨#[]⟩, .int .i64 0, .string ⟨#[]⟩, .int .i64 0] 59))
  have eL : ((es.length : Int) - 1) = ((es.length - 1 : Nat) : Int) := by omega
  clear hr
  go_enter Tryz.func43, Tryz.ntmps43
  go_wp2_with fail
  generalize w.alloc (.cells #[.int .i64 0, .string ⟨#[]⟩, .int .i64 0, .string ⟨#[]⟩, .int .i64 0] 59) = w1 at B0 ⊢
  obtain ⟨q, hq⟩ : ∃ q, w.heap.size = q := ⟨_, rfl⟩
  have NQ : Hid (w.heap.size ≤ q) := Nat.le_of_eq hq
  rw [hq] at B0 ⊢
  clear hq
  have G1 := Lib.hid B0.out.1
  have HQ := Lib.hid B0.out.2
  clear B0
  go_loopw [15] (fun i W => ∃ k : Nat, k ≤ es.length - 1 ∧ i = .int .i64 k ∧ Hid (∀ j x, j < k → es[j]? = some x → ¬ t < x.un) ∧ Hid (Gr w1 W)) (fun i W => es.length - (intOf i).toNat)
  case atStart => exact ⟨0, Nat.zero_le _, rfl, fun j x hj _ => by omega, Gr.refl _⟩
  case round =>
    obtain ⟨k, hk, rfl, hb, hg⟩ := hrel
    by_cases hlt : k < es.length - 1
    · obtain ⟨⟨eo, ru, sv, fm, un⟩, hx⟩ := get_lt (show k < es.length by omega)
      obtain ⟨b, off, rfl, c0, c1, c2, c3, c4⟩ := HR.out.five hx rfl (G1.out.trans hg.out)
      have HX := Lib.hid hx
      clear hx
      have NB := Lib.hid (box_one wr (.cells #[.int .i64 eo, .string ru, .int .i64 sv, .string fm, .int .i64 un] 59))
      by_cases hu : t < un
      · have HQ1 := Lib.hid (bheap_gr (hg.out.trans NB.out.1) HQ.out)
        have GW := Lib.hid (G1.out.trans (hg.out.trans NB.out.1))
        have EE := Lib.hid (eraE_at (eraI_hit (by omega) HX.out hu hb.out) HX.out)
        have y0 : (wr.alloc (.cells #[.int .i64 eo, .string ru, .int .i64 sv, .string fm, .int .i64 un] 59)).cell? ⟨q, 0, none⟩ = some (.int .i64 0) := bcell_row HQ1.out rfl
        have y1 : (wr.alloc (.cells #[.int .i64 eo, .string ru, .int .i64 sv, .string fm, .int .i64 un] 59)).cell? ⟨q, 1, none⟩ = some (.string ⟨#[]⟩) := bcell_row HQ1.out rfl
        have y2 : (wr.alloc (.cells #[.int .i64 eo, .string ru, .int .i64 sv, .string fm, .int .i64 un] 59)).cell? ⟨q, 2, none⟩ = some (.int .i64 0) := bcell_row HQ1.out rfl
        have y3 : (wr.alloc (.cells #[.int .i64 eo, .string ru, .int .i64 sv, .string fm, .int .i64 un] 59)).cell? ⟨q, 3, none⟩ = some (.string ⟨#[]⟩) := bcell_row HQ1.out rfl
        have y4 : (wr.alloc (.cells #[.int .i64 eo, .string ru, .int .i64 sv, .string fm, .int .i64 un] 59)).cell? ⟨q, 4, none⟩ = some (.int .i64 0) := bcell_row HQ1.out rfl
        have f0 : (wr.alloc (.cells #[.int .i64 eo, .string ru, .int .i64 sv, .string fm, .int .i64 un] 59)).frozen? ⟨q, 0, none⟩ = false := unfrozen HQ1.out
        have f1 : (wr.alloc (.cells #[.int .i64 eo, .string ru, .int .i64 sv, .string fm, .int .i64 un] 59)).frozen? ⟨q, 1, none⟩ = false := unfrozen HQ1.out
        have f2 : (wr.alloc (.cells #[.int .i64 eo, .string ru, .int .i64 sv, .string fm, .int .i64 un] 59)).frozen? ⟨q, 2, none⟩ = false := unfrozen HQ1.out
        have f3 : (wr.alloc (.cells #[.int .i64 eo, .string ru, .int .i64 sv, .string fm, .int .i64 un] 59)).frozen? ⟨q, 3, none⟩ = false := unfrozen HQ1.out
        have f4 : (wr.alloc (.cells #[.int .i64 eo, .string ru, .int .i64 sv, .string fm, .int .i64 un] 59)).frozen? ⟨q, 4, none⟩ = false := unfrozen HQ1.out
        have s0 : ((((((wr.alloc (.cells #[.int .i64 eo, .string ru, .int .i64 sv, .string fm, .int .i64 un] 59)).setCell ⟨q, 0, none⟩ (.int .i64 eo)).setCell ⟨q, 1, none⟩ (.string ru)).setCell ⟨q, 2, none⟩ (.int .i64 sv)).setCell ⟨q, 3, none⟩ (.string fm)).setCell ⟨q, 4, none⟩ (.int .i64 un)).cell? ⟨q, 0, none⟩ = some (.int .i64 eo) := bcell_row (st5 HQ1.out (.int .i64 eo) (.string ru) (.int .i64 sv) (.string fm) (.int .i64 un)) rfl
        have s1 : ((((((wr.alloc (.cells #[.int .i64 eo, .string ru, .int .i64 sv, .string fm, .int .i64 un] 59)).setCell ⟨q, 0, none⟩ (.int .i64 eo)).setCell ⟨q, 1, none⟩ (.string ru)).setCell ⟨q, 2, none⟩ (.int .i64 sv)).setCell ⟨q, 3, none⟩ (.string fm)).setCell ⟨q, 4, none⟩ (.int .i64 un)).cell? ⟨q, 1, none⟩ = some (.string ru) := bcell_row (st5 HQ1.out (.int .i64 eo) (.string ru) (.int .i64 sv) (.string fm) (.int .i64 un)) rfl
        have s2 : ((((((wr.alloc (.cells #[.int .i64 eo, .string ru, .int .i64 sv, .string fm, .int .i64 un] 59)).setCell ⟨q, 0, none⟩ (.int .i64 eo)).setCell ⟨q, 1, none⟩ (.string ru)).setCell ⟨q, 2, none⟩ (.int .i64 sv)).setCell ⟨q, 3, none⟩ (.string fm)).setCell ⟨q, 4, none⟩ (.int .i64 un)).cell? ⟨q, 2, none⟩ = some (.int .i64 sv) := bcell_row (st5 HQ1.out (.int .i64 eo) (.string ru) (.int .i64 sv) (.string fm) (.int .i64 un)) rfl
        have s3 : ((((((wr.alloc (.cells #[.int .i64 eo, .string ru, .int .i64 sv, .string fm, .int .i64 un] 59)).setCell ⟨q, 0, none⟩ (.int .i64 eo)).setCell ⟨q, 1, none⟩ (.string ru)).setCell ⟨q, 2, none⟩ (.int .i64 sv)).setCell ⟨q, 3, none⟩ (.string fm)).setCell ⟨q, 4, none⟩ (.int .i64 un)).cell? ⟨q, 3, none⟩ = some (.string fm) := bcell_row (st5 HQ1.out (.int .i64 eo) (.string ru) (.int .i64 sv) (.string fm) (.int .i64 un)) rfl
        have s4 : ((((((wr.alloc (.cells #[.int .i64 eo, .string ru, .int .i64 sv, .string fm, .int .i64 un] 59)).setCell ⟨q, 0, none⟩ (.int .i64 eo)).setCell ⟨q, 1, none⟩ (.string ru)).setCell ⟨q, 2, none⟩ (.int .i64 sv)).setCell ⟨q, 3, none⟩ (.string fm)).setCell ⟨q, 4, none⟩ (.int .i64 un)).cell? ⟨q, 4, none⟩ = some (.int .i64 un) := bcell_row (st5 HQ1.out (.int .i64 eo) (.string ru) (.int .i64 sv) (.string fm) (.int .i64 un)) rfl
        go_wp2_with fail
        exact bodyPost_ret (v := .agg #[.int .i64 eo, .string ru, .int .i64 sv, .string fm, .int .i64 un]) (by simp [results, Tryz.results43, go_sem, s0, s1, s2, s3, s4]) rfl ⟨by rw [EE.out], (st5_below GW.out NQ.out (.int .i64 eo) (.string ru) (.int .i64 sv) (.string fm) (.int .i64 un))⟩
      · go_wp2_with fail
        go_roundw
        case rel => exact ⟨k + 1, by omega, by go_num, fun j x hj hx => by
          by_cases e : j = k
          · subst e; rw [HX.out] at hx; injection hx with hx; rw [← hx]; exact hu
          · exact hb.out j x (by omega) hx, hg.out.alloc' _⟩
        case measure => simp [intOf]; omega
    · have e : k = es.length - 1 := by omega
      subst e
      obtain ⟨⟨eo, ru, sv, fm, un⟩, hx⟩ := get_lt (show es.length - 1 < es.length by omega)
      obtain ⟨b, off, rfl, c0, c1, c2, c3, c4⟩ := HR.out.five hx rfl (G1.out.trans hg.out)
      have EE := Lib.hid (eraE_at (eraI_end fun j x hj hx => hb.out j x (by omega) hx) hx)
      clear hx
      have HQ1 := Lib.hid (bheap_gr hg.out HQ.out)
      have GW := Lib.hid (G1.out.trans hg.out)
      have y0 : wr.cell? ⟨q, 0, none⟩ = some (.int .i64 0) := bcell_row HQ1.out rfl
      have y1 : wr.cell? ⟨q, 1, none⟩ = some (.string ⟨#[]⟩) := bcell_row HQ1.out rfl
      have y2 : wr.cell? ⟨q, 2, none⟩ = some (.int .i64 0) := bcell_row HQ1.out rfl
      have y3 : wr.cell? ⟨q, 3, none⟩ = some (.string ⟨#[]⟩) := bcell_row HQ1.out rfl
      have y4 : wr.cell? ⟨q, 4, none⟩ = some (.int .i64 0) := bcell_row HQ1.out rfl
      have f0 : wr.frozen? ⟨q, 0, none⟩ = false := unfrozen HQ1.out
      have f1 : wr.frozen? ⟨q, 1, none⟩ = false := unfrozen HQ1.out
      have f2 : wr.frozen? ⟨q, 2, none⟩ = false := unfrozen HQ1.out
      have f3 : wr.frozen? ⟨q, 3, none⟩ = false := unfrozen HQ1.out
      have f4 : wr.frozen? ⟨q, 4, none⟩ = false := unfrozen HQ1.out
      have s0 : (((((wr.setCell ⟨q, 0, none⟩ (.int .i64 eo)).setCell ⟨q, 1, none⟩ (.string ru)).setCell ⟨q, 2, none⟩ (.int .i64 sv)).setCell ⟨q, 3, none⟩ (.string fm)).setCell ⟨q, 4, none⟩ (.int .i64 un)).cell? ⟨q, 0, none⟩ = some (.int .i64 eo) := bcell_row (st5 HQ1.out (.int .i64 eo) (.string ru) (.int .i64 sv) (.string fm) (.int .i64 un)) rfl
      have s1 : (((((wr.setCell ⟨q, 0, none⟩ (.int .i64 eo)).setCell ⟨q, 1, none⟩ (.string ru)).setCell ⟨q, 2, none⟩ (.int .i64 sv)).setCell ⟨q, 3, none⟩ (.string fm)).setCell ⟨q, 4, none⟩ (.int .i64 un)).cell? ⟨q, 1, none⟩ = some (.string ru) := bcell_row (st5 HQ1.out (.int .i64 eo) (.string ru) (.int .i64 sv) (.string fm) (.int .i64 un)) rfl
      have s2 : (((((wr.setCell ⟨q, 0, none⟩ (.int .i64 eo)).setCell ⟨q, 1, none⟩ (.string ru)).setCell ⟨q, 2, none⟩ (.int .i64 sv)).setCell ⟨q, 3, none⟩ (.string fm)).setCell ⟨q, 4, none⟩ (.int .i64 un)).cell? ⟨q, 2, none⟩ = some (.int .i64 sv) := bcell_row (st5 HQ1.out (.int .i64 eo) (.string ru) (.int .i64 sv) (.string fm) (.int .i64 un)) rfl
      have s3 : (((((wr.setCell ⟨q, 0, none⟩ (.int .i64 eo)).setCell ⟨q, 1, none⟩ (.string ru)).setCell ⟨q, 2, none⟩ (.int .i64 sv)).setCell ⟨q, 3, none⟩ (.string fm)).setCell ⟨q, 4, none⟩ (.int .i64 un)).cell? ⟨q, 3, none⟩ = some (.string fm) := bcell_row (st5 HQ1.out (.int .i64 eo) (.string ru) (.int .i64 sv) (.string fm) (.int .i64 un)) rfl
      have s4 : (((((wr.setCell ⟨q, 0, none⟩ (.int .i64 eo)).setCell ⟨q, 1, none⟩ (.string ru)).setCell ⟨q, 2, none⟩ (.int .i64 sv)).setCell ⟨q, 3, none⟩ (.string fm)).setCell ⟨q, 4, none⟩ (.int .i64 un)).cell? ⟨q, 4, none⟩ = some (.int .i64 un) := bcell_row (st5 HQ1.out (.int .i64 eo) (.string ru) (.int .i64 sv) (.string fm) (.int .i64 un)) rfl
      go_wp2_with fail
      exact bodyPost_ret (v := .agg #[.int .i64 eo, .string ru, .int .i64 sv, .string fm, .int .i64 un]) (by simp [results, Tryz.results43, go_sem, s0, s1, s2, s3, s4]) rfl ⟨by rw [EE.out], (st5_below GW.out NQ.out (.int .i64 eo) (.string ru) (.int .i64 sv) (.string fm) (.int .i64 un))⟩

set_option maxRecDepth 100000 in
set_option maxHeartbeats 8000000 in
theorem reraAt (nm : ByteArray) (A : Option Addr) (c : Nat) (es : List EraD) (t : Int) (w : World) (hr : Row w 5 EraD.cells A es) (hl : 1 ≤ es.length) (hm : es.length ≤ 700) (hc : es.length ≤ c) :
    Calls Tryz.prog 27 #[.agg #[.string nm, .slice A es.length c], .int .i64 t] w fun e w' => e = .returned (.int .i64 (eraI es t)) ∧ Gr w w' := by
  have HR := Lib.hid hr
  have FA := Lib.hid (row_flat hr (by omega))
  have XS := Lib.hid (fun w => sl_upto Tryz.underlying55 eE_era Tryz.sizeOf59 A (es.length - 1) es.length c w (by omega) FA.out)
  have B0 := Lib.hid (box_one w (.cells #[.string nm, .slice A es.length c] 57))
  have eL : ((es.length : Int) - 1) = ((es.length - 1 : Nat) : Int) := by omega
  clear hr
  go_enter Tryz.func27, Tryz.ntmps27
  go_wp2_with fail
  generalize w.alloc (.cells #[.string nm, .slice A es.length c] 57) = w1 at B0 ⊢
  generalize w.heap.size = q at B0 ⊢
  go_loopw [15] (fun i W => ∃ k : Nat, k ≤ es.length - 1 ∧ i = .int .i64 k ∧ Hid (∀ j x, j < k → es[j]? = some x → ¬ t < x.un) ∧ Hid (Gr w1 W)) (fun i W => es.length - (intOf i).toNat)
  case atStart => exact ⟨0, Nat.zero_le _, rfl, fun j x hj _ => by omega, Gr.refl _⟩
  case round =>
    obtain ⟨k, hk, rfl, hb, hg⟩ := hrel
    by_cases hlt : k < es.length - 1
    · obtain ⟨⟨eo, ru, sv, fm, un⟩, hx⟩ := get_lt (show k < es.length by omega)
      obtain ⟨b, off, rfl, c0, c1, c2, c3, c4⟩ := HR.out.five hx rfl (B0.out.1.trans hg.out)
      have HX := Lib.hid hx
      clear hx
      have NB := Lib.hid (box_one wr (.cells #[.int .i64 eo, .string ru, .int .i64 sv, .string fm, .int .i64 un] 59))
      by_cases hu : t < un
      · have GW := Lib.hid (B0.out.1.trans (hg.out.trans NB.out.1))
        have EE := Lib.hid (eraI_hit (by omega) HX.out hu hb.out)
        go_wp2_with fail
        go_ret
        exact ⟨by rw [EE.out]; rfl, GW.out⟩
      · go_wp2_with fail
        go_roundw
        case rel => exact ⟨k + 1, by omega, by go_num, fun j x hj hx => by
          by_cases e : j = k
          · subst e; rw [HX.out] at hx; injection hx with hx; rw [← hx]; exact hu
          · exact hb.out j x (by omega) hx, hg.out.alloc' _⟩
        case measure => simp [intOf]; omega
    · have e : k = es.length - 1 := by omega
      subst e
      have EE := Lib.hid (eraI_end (es := es) (t := t) fun j x hj hx => hb.out j x (by omega) hx)
      have HQ1 := Lib.hid (bheap_gr hg.out B0.out.2)
      have y0 : wr.cell? ⟨q, 1, none⟩ = some (.slice A es.length c) := bcell_row HQ1.out rfl
      go_wp2_with fail
      go_ret
      exact ⟨by rw [EE.out]; rfl, B0.out.1.trans hg.out⟩
end Go.Proofs.YtkmgildnhnjepaaGreatDoor
