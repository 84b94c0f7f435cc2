/- A slice without room appended tto: the row of both in a new block. No function of the program in it. -/
import Derived.Deep.Upon
import Derived.Test.YtkbegommjlmfmaaGreatDoorQM27
namespace Go.Proofs.YtkbegommjlmfmaaGreatDoor
set_option linter.unusedVariables false
set_option linter.unusedSimpArgs false
open Go.RowKit
theorem addr_zero (b off j : Nat) : (⟨b, off, none⟩ : Addr).add j = ⟨b, off + j, none⟩ := by unfold Addr.add; split <;> simp_all
/-- a row in a new block, with room behind it -/
theorem row_new {α : Type} {w : World} {k : Nat} {enc : α → List Value} (hk : ∀ x, (enc x).length = k) (l : List α) (e : TypeId) (zs : Array Value) : Row (w.alloc (.cells ((l.flatMap enc).toArray ++ zs) e)) k enc (some ⟨w.heap.size, 0, none⟩) l := fun i x hx => by
  refine ⟨w.heap.size, 0, rfl, by simp, fun j v hv => ?_⟩
  have hf := flat_get hk l i x hx j v hv
  have hlt := (List.getElem?_eq_some_iff.1 hf).1
  rw [World.cell?_alloc_new, Nat.zero_add, Array.getElem?_append_left (by simpa using hlt)]
  simpa using hf
/-- append onto a slice without room -/
theorem run_app_full {P : Program} {α : Type} (w : World) (t ty e : TypeId) (i : TypeInfo) (z : Value) (k bytes : Nat) (ht : P.underlying t = some (.slice e)) (hi : P.info? e = some i) (hz : i.zero = some z) (hsize : i.size = k) (hby : i.bytes = bytes) (hbytes : bytes ≤ 1000)
    (enc : α → List Value) (hk : ∀ x, (enc x).length = k) (l1 l2 : List α) (A1 A2 : Option Addr) (c2 : Nat) (h1 : Row w k enc A1 l1) (h2 : Row w k enc A2 l2) (hA : A1 = none ∨ ∃ b off, A1 = some ⟨b, off, none⟩) (h63 : l1.length + l2.length ≤ 100000) :
    ∃ A c w', (Builtin.append_ #[t, t] ty #[.slice A1 l1.length l1.length, .slice A2 l2.length c2]).run P w = .ok (.slice A (l1 ++ l2).length c) w' ∧ Row w' k enc A (l1 ++ l2) ∧ (l1 ++ l2).length ≤ c ∧ c ≤ maxLen ∧ Gr w w' ∧
      (l2 ≠ [] → A = some ⟨w.heap.size, 0, none⟩ ∧ w.heap.size < w'.heap.size) ∧ (l2 = [] → A = A1 ∧ w' = w ∧ c = l1.length) := by
  subst hsize
  have hmul : (l1.length + l2.length) * bytes ≤ 100000 * 1000 := Nat.mul_le_mul h63 hbytes
  have hcap : ∀ n old : Nat, n ≤ 100000 → grownCap w n old e ≤ maxLen := fun n old hn => grownCap_le_maxLen w n old e (by unfold maxLen; omega)
  cases l2 with
  | nil =>
    refine ⟨A1, l1.length, w, ?_, by simpa using h1, by simp, by unfold maxLen; simp at h63; omega, Gr.refl w, fun q => absurd rfl q, fun _ => ⟨rfl, rfl, rfl⟩⟩
    rw [List.append_nil]
    cases A1 <;> cases A2 <;> simp [Builtin.append_, run_underlying ht, sizeOf, typeInfo, hi, Builtin.lenOf, Builtin.firstCells, loadCells, loadCellsFrom, storeCells]
  | cons y l2 =>
    obtain ⟨b, off, rfl, _⟩ := h2 0 y rfl
    have fin : ∀ c, c ≤ maxLen → (l1 ++ y :: l2).length ≤ c → ∀ zs : Array Value, Row (w.drew.alloc (.cells (((l1 ++ y :: l2).flatMap enc).toArray ++ zs) e)) i.size enc (some ⟨w.heap.size, 0, none⟩) (l1 ++ y :: l2) ∧ Gr w (w.drew.alloc (.cells (((l1 ++ y :: l2).flatMap enc).toArray ++ zs) e)) ∧ w.heap.size < (w.drew.alloc (.cells (((l1 ++ y :: l2).flatMap enc).toArray ++ zs) e)).heap.size := fun c _ _ zs =>
      ⟨row_new (w := w.drew) hk _ e zs, (Gr.drew w).alloc' _, by simp⟩
    have hlen : (l1 ++ y :: l2).length = l1.length + (y :: l2).length := by simp
    by_cases h0 : l1 = []
    · subst h0
      rcases hA with rfl | ⟨b1, o1, rfl⟩
      · have hr := run_append_nil (P := P) w t ty e i z ht hi hz ⟨b, off, none⟩ (y :: l2).length c2 ((y :: l2).flatMap enc) (flat_len hk _) (Row.news hk h2) (by simp) (by simp only [List.length_nil, Nat.zero_add] at h63; omega) (by rw [hby]; simp only [List.length_nil, Nat.zero_add] at hmul; omega)
        have hc := hcap (y :: l2).length 0 (by simp only [List.length_nil, Nat.zero_add] at h63; omega)
        have hge := grownCap_ge w (y :: l2).length 0 e
        obtain ⟨f1, f2, f3⟩ := fin _ hc (by simpa using hge) (Builtin.zeroCells z.cells (grownCap w (y :: l2).length 0 e - (y :: l2).length))
        exact ⟨_, _, _, hr, by simpa using f1, by simpa using hge, hc, by simpa using f2, fun _ => ⟨rfl, by simp⟩, fun q => absurd q (by simp)⟩
      · have hr := run_append_grow (P := P) w t ty e i z ht hi hz ⟨b1, o1, none⟩ 0 0 [] (by simp) (fun j v hv => by simp at hv) ⟨b, off, none⟩ (y :: l2).length c2 ((y :: l2).flatMap enc) (flat_len hk _) (Row.news hk h2) (by simp) (by simp only [List.length_nil, Nat.zero_add] at h63; omega) (growslice_fits (by simp) (by rw [hby]; simp only [List.length_nil] at hmul; omega))
        simp only [Nat.zero_add] at hr
        have hc := hcap (y :: l2).length 0 (by simp only [List.length_nil, Nat.zero_add] at h63; omega)
        have hge := grownCap_ge w (y :: l2).length 0 e
        obtain ⟨f1, f2, f3⟩ := fin _ hc (by simpa using hge) (Builtin.zeroCells z.cells (grownCap w (y :: l2).length 0 e - (y :: l2).length))
        exact ⟨_, _, _, hr, by simpa using f1, by simpa using hge, hc, by simpa using f2, fun _ => ⟨rfl, by simp⟩, fun q => absurd q (by simp)⟩
    · obtain ⟨x, l1', rfl⟩ := List.exists_cons_of_ne_nil h0
      obtain ⟨b1, o1, rfl, _⟩ := h1 0 x rfl
      have hr := run_append_grow (P := P) w t ty e i z ht hi hz ⟨b1, o1, none⟩ (x :: l1').length (x :: l1').length ((x :: l1').flatMap enc) (flat_len hk _) (Row.news hk h1) ⟨b, off, none⟩ (y :: l2).length c2 ((y :: l2).flatMap enc) (flat_len hk _) (Row.news hk h2) (by simp) (by omega) (growslice_fits (by simp) (by rw [hby]; omega))
      have hc := hcap ((x :: l1').length + (y :: l2).length) (x :: l1').length h63
      have hge := grownCap_ge w ((x :: l1').length + (y :: l2).length) (x :: l1').length e
      obtain ⟨f1, f2, f3⟩ := fin _ hc (by rw [hlen]; exact hge) (Builtin.zeroCells z.cells (grownCap w ((x :: l1').length + (y :: l2).length) (x :: l1').length e - ((x :: l1').length + (y :: l2).length)))
      have eapp : ((x :: l1').flatMap enc).toArray ++ ((y :: l2).flatMap enc).toArray = ((x :: l1' ++ y :: l2).flatMap enc).toArray := by rw [List.flatMap_append]; simp
      rw [eapp] at hr
      exact ⟨_, _, _, by rw [hlen]; exact hr, f1, by rw [hlen]; exact hge, hc, f2, fun _ => ⟨rfl, f3⟩, fun q => absurd q (by simp)⟩
/-- the same at a step of a region that draws its order -/
theorem step_app_full {P : Program} {α : Type} (w : World) {ops : Array Oper} {o : Oper} {a : Act} {K : Act → World → Prop} {Q : Exit → Act → World → Prop} {E : Prop} (hgd : o.guard = none) (s x : Operand) (t : TypeId)
    (ho : o.op = .call { callee := .builtin .append, args := #[s, x], argTypes := #[t, t] }) (e : TypeId) (i : TypeInfo) (z : Value) (k bytes : Nat) (ht : P.underlying t = some (.slice e)) (hi : P.info? e = some i) (hz : i.zero = some z)
    (hsize : i.size = k) (hby : i.bytes = bytes) (hbytes : bytes ≤ 1000) (enc : α → List Value) (hk : ∀ x, (enc x).length = k) (l1 l2 : List α) (A1 A2 : Option Addr) (n1 n2 c2 : Nat) (hs : a.eval s = .slice A1 n1 n1) (hx : a.eval x = .slice A2 n2 c2) (hn1 : n1 = l1.length) (hn2 : n2 = l2.length)
    (h1 : Row w k enc A1 l1) (h2 : Row w k enc A2 l2) (hA : A1 = none ∨ ∃ b off, A1 = some ⟨b, off, none⟩) (h63 : l1.length + l2.length ≤ 100000)
    (h : ∀ A c w', Row w' k enc A (l1 ++ l2) → (l1 ++ l2).length ≤ c → c ≤ maxLen → Gr w w' → (l2 ≠ [] → A = some ⟨w.heap.size, 0, none⟩ ∧ w.heap.size < w'.heap.size) → (l2 = [] → A = A1 ∧ w' = w ∧ c = l1.length) → K (a.put o.dst (.slice A (l1 ++ l2).length c)) w') :
    if Region.wanted o (yielded ops a.tmps) = true then Oper.wp P o a w K Q else E := by
  have hw : Region.wanted o (yielded ops a.tmps) = true := by simp [Region.wanted, hgd]
  rw [if_pos hw]
  subst hn1; subst hn2
  obtain ⟨A, c, w', hr, r1, r2, r3, r4, r5, r6⟩ := run_app_full (P := P) w t o.type e i z k bytes ht hi hz hsize hby hbytes enc hk l1 l2 A1 A2 c2 h1 h2 hA h63
  unfold Oper.wp execOp
  simp only [ho, resolve, invoke, builtin, Sem.run_bind, Sem.run_pure, Result.andThen_ok, List.map_toArray, List.map_cons, List.map_nil, hs, hx, hr]
  exact h A c w' r1 r2 r3 r4 r5 r6
end Go.Proofs.YtkbegommjlmfmaaGreatDoor
