/- Slices cut: x[:j], x[:j:j], x[j:] at whatever element; own rows tto which nothing or a row is appended. No function of the program in it. -/
import Derived.Test.YtkbegommjlmfmaaGreatDoorQM30
namespace Go.Proofs.YtkbegommjlmfmaaGreatDoor
set_option linter.unusedVariables false
set_option linter.unusedSimpArgs false
open Go.RowKit
/-- where what is behind the j-th lies -/
def tailG (A : Option Addr) (j k c : Nat) : Option Addr := if c = j then A else A.map (·.add (j * k))
/-- an address as rows have it -/
def Flat (A : Option Addr) : Prop := A = none ∨ ∃ b off, A = some ⟨b, off, none⟩
theorem flat_map {A : Option Addr} (h : Flat A) : A.map (·.add 0) = A := by
  rcases h with rfl | ⟨b, off, rfl⟩
  · rfl
  · simp [addr_zero]
theorem sl_upto {P : Program} {T E : TypeId} {k : Nat} (hu : P.underlying T = some (.slice E)) (he : P.elem T = E) (hz : ∀ w, (Go.sizeOf E).run P w = .ok k w) (A : Option Addr) (j n c : Nat) (w : World) (hj : j ≤ c) (h : Flat A) : (Instr.sliceAt T (.slice A n c) none (some (.int .i64 j)) none).run P w = .ok (.slice A j c) w := by
  have hu' : P.underlying T = some (.slice (P.elem T)) := by rw [he]; exact hu
  rw [run_sliceAt_slice _ _ _ _ _ _ hu', run_slice_h w T A n c hu' .i64 j (by omega) (by omega), he, hz w]
  simp only [Result.andThen, Int.toNat_natCast]
  unfold sliced
  rw [Nat.zero_mul, flat_map h]
  simp
theorem sl_cut {P : Program} {T E : TypeId} {k : Nat} (hu : P.underlying T = some (.slice E)) (he : P.elem T = E) (hz : ∀ w, (Go.sizeOf E).run P w = .ok k w) (A : Option Addr) (j n c : Nat) (w : World) (hj : j ≤ c) (h : Flat A) : (Instr.sliceAt T (.slice A n c) none (some (.int .i64 j)) (some (.int .i64 j))).run P w = .ok (.slice A j j) w := by
  have hu' : P.underlying T = some (.slice (P.elem T)) := by rw [he]; exact hu
  rw [run_sliceAt_slice _ _ _ _ _ _ hu', run_slice_hm w T A n c hu' .i64 .i64 j j (by omega) (Int.le_refl _) (by omega), he, hz w]
  simp only [Result.andThen, Int.toNat_natCast]
  unfold sliced
  rw [Nat.zero_mul, flat_map h]
  simp
theorem sl_from {P : Program} {T E : TypeId} {k : Nat} (hu : P.underlying T = some (.slice E)) (he : P.elem T = E) (hz : ∀ w, (Go.sizeOf E).run P w = .ok k w) (A : Option Addr) (j n c : Nat) (w : World) (hj : j ≤ n) (hn : n ≤ c) : (Instr.sliceAt T (.slice A n c) (some (.int .i64 j)) none none).run P w = .ok (.slice (tailG A j k c) (n - j) (c - j)) w := by
  have hu' : P.underlying T = some (.slice (P.elem T)) := by rw [he]; exact hu
  rw [run_sliceAt_slice _ _ _ _ _ _ hu', run_slice_l w T A n c hu' .i64 j (by omega) (by omega), he, hz w]
  rfl
theorem row_from {α : Type} {w : World} {k : Nat} {enc : α → List Value} {A : Option Addr} {L : List α} {j c : Nat} (h : Row w k enc A L) (hc : L.length ≤ c) : Row w k enc (tailG A j k c) (L.drop j) := fun i x hx => by
  rw [List.getElem?_drop] at hx
  obtain ⟨b, off, rfl, hb, hce⟩ := h _ x hx
  have hl := (List.getElem?_eq_some_iff.1 hx).1
  refine ⟨b, off + j * k, ?_, hb, fun m v hv => ?_⟩
  · unfold tailG
    rw [if_neg (by omega)]
    simp [addr_zero]
  · have := hce m v hv
    rwa [show off + (j + i) * k + m = off + j * k + i * k + m by rw [Nat.add_mul]; omega] at this
/-- an own row tto which a row is appended, an empty one too -/
theorem step_app_own {P : Program} {α : Type} (w : World) {ops : Array Oper} {o : Oper} {a : Act} {K : Act → World → Prop} {Q : Exit → Act → World → Prop} {E : Prop} (hgd : o.guard = none) (s x : Operand) (t : TypeId)
    (ho : o.op = .call { callee := .builtin .append, args := #[s, x], argTypes := #[t, t] }) (base : Nat) (e : TypeId) (i : TypeInfo) (z : Value) (k bytes : Nat) (ht : P.underlying t = some (.slice e)) (hi : P.info? e = some i) (hz : i.zero = some z)
    (hsize : i.size = k) (hby : i.bytes = bytes) (hzs : z.cells.size = k) (hsz : 0 < k) (enc : α → List Value) (hk : ∀ x, (enc x).length = k) (h1 : ∀ x, ∀ u ∈ enc x, u.oneCell' = true) (v : Value) (L l : List α) (hs : a.eval s = v) (hown : Own w base e k enc v L)
    (A : Option Addr) (n c : Nat) (hx : a.eval x = .slice A n c) (hn : n = l.length) (hr : Row w k enc A l) (h63 : L.length + l.length ≤ 100000) (hbytes : bytes ≤ 1000) (hbase : base ≤ w.heap.size)
    (h : ∀ v' w', Own w' base e k enc v' (L ++ l) → w.grownBy w' v.ownBlock → K (a.put o.dst v') w') :
    if Region.wanted o (yielded ops a.tmps) = true then Oper.wp P o a w K Q else E := by
  subst hn
  cases l with
  | nil =>
    have hw : Region.wanted o (yielded ops a.tmps) = true := by simp [Region.wanted, hgd]
    rw [if_pos hw]
    have hrun : (Builtin.append_ #[t, t] o.type #[v, .slice A 0 c]).run P w = .ok v w := by
      rcases hown.2 with ⟨rfl, h0⟩ | ⟨g, cap, cur, rfl, _, _, q1, q2, _⟩
      · cases A <;> simp [Builtin.append_, run_underlying ht, sizeOf, typeInfo, hi, Builtin.lenOf, Builtin.firstCells, loadCells, loadCellsFrom]
      · cases A <;> simp [Builtin.append_, run_underlying ht, sizeOf, typeInfo, hi, Builtin.lenOf, Builtin.firstCells, loadCells, loadCellsFrom, storeCells, q1]
    unfold Oper.wp execOp
    simp only [ho, resolve, invoke, builtin, Sem.run_bind, Sem.run_pure, Result.andThen_ok, List.map_toArray, List.map_cons, List.map_nil, hs, hx, List.length_nil, hrun]
    exact h _ _ (by simpa using hown) (World.grownBy.refl w _)
  | cons y l =>
    obtain ⟨b, off, rfl, _⟩ := hr 0 y rfl
    have hmul : (L.length + (y :: l).length) * bytes ≤ 100000 * 1000 := Nat.mul_le_mul h63 hbytes
    refine step_append_lies w hgd s x t ho base e i z k bytes ht hi hz hsize hby hzs hsz v L.length (L.flatMap enc) hs hown ⟨b, off, none⟩ (y :: l).length c ((y :: l).flatMap enc) hx (flat_len hk _) (Row.news hk hr) ?_ (by simp) (by unfold maxLen; omega) (by omega) hbase w.heap.size rfl ?_
    · intro u hu
      obtain ⟨x', _, hx'⟩ := List.mem_flatMap.1 hu
      exact h1 x' u hx'
    · intro g cap w' hown' hgrow _ _
      refine h _ _ ?_ hgrow
      unfold Own
      rw [List.length_append, List.flatMap_append]
      exact hown'
theorem own_low {α : Type} {w : World} {base k : Nat} {e : TypeId} {enc : α → List Value} {v : Value} {l : List α} {q : Nat} (h : Own w base e k enc v l) (hq : q < base) : some q ≠ v.ownBlock := fun e1 => by
  have := own_base h q e1.symm; omega
theorem grown_set1 (w : World) (q o : Nat) (v : Value) : w.grownBy (w.setCell ⟨q, o, none⟩ v) (some q) :=
  ⟨rfl, rfl, rfl, by simp [World.setCell], fun i hi hne => RowKit.Below.heap_setCell _ _ _ _ (fun e => hne (by rw [e]))⟩
theorem own_set1 {α : Type} {w : World} {base k : Nat} {e : TypeId} {enc : α → List Value} {v : Value} {l : List α} {q : Nat} (h : Own w base e k enc v l) (hq : q < base) (o : Nat) (u : Value) : Own (w.setCell ⟨q, o, none⟩ u) base e k enc v l :=
  World.ownsRow.kept h (grown_set1 w q o u) (Or.inr (fun e1 => own_low h hq e1.symm))
end Go.Proofs.YtkbegommjlmfmaaGreatDoor
