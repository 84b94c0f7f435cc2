/- A region that draws its order and ends in a store: what it reads may be taken first, though the store turns what was read. No program in it. Slices written out in a plain region; rows of one thing or two. No function of the program in it. A slice without room appended tto: the row of both in a new block. No function of the program in it. Slices cut: x[:j], x[:j:j], x[j:] at whatever element; own rows tto which nothing or a row is appended. No function of the program in it. -/
import Derived.Deep.RegionHeld3
import Derived.Deep.Upon
import Derived.Test.YtkmgildnhnjepaaGreatDoorRM16
namespace Go.Proofs.YtkmgildnhnjepaaGreatDoor
open Go
set_option linter.unusedVariables false
section
variable {P : Program} {ops : Array Oper} {Q : Exit → Act → World → Prop} {md : Region.Mode} {T : World → Prop} {k : Nat}
/-- the last one has come up, or the world is as it is tto be -/
def Till (k : Nat) (T : World → Prop) (L : Array Bool) (w : World) : Prop := L.getD k true = true ∨ T w
/-- whatever order is picked from here on; behind each operation, but the last one, T is so -/
def wpTill (P : Program) (md : Region.Mode) (ops : Array Oper) (Q : Exit → Act → World → Prop) (k : Nat) (T : World → Prop) : Nat → Array Bool → Act → World → Prop
  | 0, L, a, w => Region.ready md ops L = [] ∧ Q .normal a w
  | n + 1, L, a, w => (Region.ready md ops L = [] → Q .normal a w) ∧
    ∀ i ∈ Region.ready md ops L, wpOp P ops Q i (fun a' w' => Till k T (L.setIfInBounds i true) w' ∧ wpTill P md ops Q k T n (L.setIfInBounds i true) a' w') a w
theorem till_any : ∀ (n : Nat) (L : Array Bool) (a : Act) (w : World), wpTill P md ops Q k T n L a w → wpAny P md ops Q n L a w
  | 0, _, _, _, h => h
  | n + 1, _, _, _, h => ⟨h.1, fun i hi => wpOp_mono (fun a' w' q => till_any n _ a' w' q.2) (h.2 i hi)⟩
/-- does the last one wait for i? -/
def waits (md : Region.Mode) (ops : Array Oper) (k i : Nat) : Bool := match ops[k]? with
  | some o => o.after.any fun e => Region.binds md e && e.on == i
  | none => false
theorem till_first {i : Nat} {oi : Oper} {v : Value} (hi : ops[i]? = some oi) (hsel : ∀ (j : Nat) (o : Oper) cs b, ops[j]? = some o → o.op ≠ .select cs b)
    (hQ : ∀ c a w, Q (.panic c) (a.put oi.dst v) w → Q (.panic c) a w) (hki : k ≠ i) (hw : waits md ops k i = true) :
    ∀ (n : Nat) (L : Array Bool) (a : Act) (w : World), L.getD k true = false →
      (∀ j oj, ops[j]? = some oj → j ≠ i → L.getD j true = false → (∀ e ∈ oj.after, Region.binds md e = true → e.on ≠ i) → oi.apart ops oj = true) →
      i ∈ Region.ready md ops L → YieldsIf P ops T oi v a → T w →
      wpTill P md ops Q k T n (L.setIfInBounds i true) (a.put oi.dst v) w → wpTill P md ops Q k T (n + 1) L a w := by
  intro n
  induction n with
  | zero =>
    intro L a w hk _ hr hy hT H
    refine ⟨fun h => (by rw [h] at hr; cases hr), fun j hj => ?_⟩
    by_cases hji : j = i
    · subst hji; exact hy.wpOp hi hT ⟨Or.inr hT, H⟩
    · have := ready_mono hj hji
      rw [H.1] at this
      cases this
  | succ n ih =>
    intro L a w hk hfree hr hy hT H
    refine ⟨fun h => (by rw [h] at hr; cases hr), fun j hj => ?_⟩
    by_cases hji : j = i
    · subst hji; exact hy.wpOp hi hT ⟨Or.inr hT, H⟩
    · have h1 := H.2 j (ready_mono hj hji)
      obtain ⟨hjun, oj, hoj, hall⟩ := mem_ready.1 hj
      have hnot : ∀ e ∈ oj.after, Region.binds md e = true → e.on ≠ i := fun e he hb heq => by
        have g1 := hall e he hb
        have g0 := (mem_ready.1 hr).1
        rw [heq] at g1
        rcases Nat.lt_or_ge i L.size with h' | h'
        · simp [h'] at g0 g1; rw [g0] at g1; cases g1
        · simp [Array.getElem?_eq_none h'] at g1
      have hjk : j ≠ k := fun e => by
        subst e
        unfold waits at hw
        rw [hoj] at hw
        simp only [Array.any_eq_true', Bool.and_eq_true, beq_iff_eq] at hw
        obtain ⟨e, he, hb, ho⟩ := hw
        exact hnot e he hb ho
      have hk' : (L.setIfInBounds j true).getD k true = false := by rw [getD_set_ne true hjk]; exact hk
      have hk2 : ((L.setIfInBounds i true).setIfInBounds j true).getD k true = false := by rw [getD_set_ne true hjk, getD_set_ne true (Ne.symm hki)]; exact hk
      have h1' := wpOp_mono (K' := fun a' w' => T w' ∧ wpTill P md ops Q k T n ((L.setIfInBounds i true).setIfInBounds j true) a' w') (fun a' w' q => ⟨q.1.resolve_left (by rw [hk2]; simp), q.2⟩) h1
      have h2 := wpOp_putIf hoj (hfree j oj hoj hji hjun hnot) (fun cs b => hsel i oi cs b hi) (fun cs b => hsel j oj cs b hoj) hQ hy h1'
      have hfree' : ∀ m om, ops[m]? = some om → m ≠ i → (L.setIfInBounds j true).getD m true = false → (∀ e ∈ om.after, Region.binds md e = true → e.on ≠ i) → oi.apart ops om = true := fun m om hm hmi hun hno => by
        refine hfree m om hm hmi ?_ hno
        by_cases hjm : j = m
        · subst hjm; exact hjun
        · rw [getD_set_ne true hjm] at hun; exact hun
      refine wpOp_mono (fun a' w' h3 => ⟨Or.inr h3.2.1, ih (L.setIfInBounds j true) a' w' hk' hfree' (ready_mono hr (Ne.symm hji)) h3.1 h3.2.1 ?_⟩) h2
      rw [Array.setIfInBounds_comm _ _ hji]
      exact h3.2.2
/-- take number i first -/
theorem till_take {i : Nat} {oi : Oper} {v : Value} {n : Nat} {L : Array Bool} {a : Act} {w : World} (hi : ops[i]? = some oi) (hs : Region.noSelect ops = true) (hf : Region.free md ops L i = true) (hr : (Region.ready md ops L).contains i = true)
    (hki : (L.getD k true == false && k != i && waits md ops k i) = true) (hQ : ∀ c a w, Q (.panic c) (a.put oi.dst v) w → Q (.panic c) a w) (hy : YieldsIf P ops T oi v a) (hT : T w)
    (h : wpTill P md ops Q k T n (L.setIfInBounds i true) (a.put oi.dst v) w) : wpTill P md ops Q k T (n + 1) L a w := by
  simp only [Bool.and_eq_true, bne_iff_ne, beq_iff_eq] at hki
  exact till_first hi (Region.noSelect_spec hs) hQ hki.1.2 hki.2 n L a w hki.1.1 (Region.free_spec hi hf) (by simpa using hr) hy hT h
/-- one of those that may come up comes up; the step is handed over behind a letter -/
theorem till_one {i : Nat} {o : Oper} {n : Nat} {L : Array Bool} {a : Act} {w : World} (hr : Region.ready md ops L = [i]) (ho : ops[i]? = some o)
    (h : ∀ K' : Act → World → Prop, Shut (∀ a w, Till k T (L.setIfInBounds i true) w → wpTill P md ops Q k T n (L.setIfInBounds i true) a w → K' a w) → if Region.wanted o (yielded ops a.tmps) = true then Oper.wp P o a w K' Q else K' (a.put o.dst undef) w) :
    wpTill P md ops Q k T (n + 1) L a w :=
  ⟨(fun h0 => by rw [hr] at h0; cases h0), fun j hj => by
    rw [hr] at hj
    obtain rfl : j = i := by simpa using hj
    exact wpOp_step ho (fun K' hK => h K' (fun a w hS hW => hK a w ⟨hS, hW⟩))⟩
/-- one of two comes up -/
theorem till_two {i j : Nat} {o o' : Oper} {n : Nat} {L : Array Bool} {a : Act} {w : World} (hr : Region.ready md ops L = [i, j]) (ho : ops[i]? = some o) (ho' : ops[j]? = some o')
    (h : ∀ K' : Act → World → Prop, Shut (∀ a w, Till k T (L.setIfInBounds i true) w → wpTill P md ops Q k T n (L.setIfInBounds i true) a w → K' a w) → if Region.wanted o (yielded ops a.tmps) = true then Oper.wp P o a w K' Q else K' (a.put o.dst undef) w)
    (h' : ∀ K' : Act → World → Prop, Shut (∀ a w, Till k T (L.setIfInBounds j true) w → wpTill P md ops Q k T n (L.setIfInBounds j true) a w → K' a w) → if Region.wanted o' (yielded ops a.tmps) = true then Oper.wp P o' a w K' Q else K' (a.put o'.dst undef) w) :
    wpTill P md ops Q k T (n + 1) L a w :=
  ⟨(fun h0 => by rw [hr] at h0; cases h0), fun m hm => by
    rw [hr] at hm
    have hm' : m = i ∨ m = j := by simpa using hm
    rcases hm' with rfl | rfl
    · exact wpOp_step ho (fun K' hK => h K' (fun a w hS hW => hK a w ⟨hS, hW⟩))
    · exact wpOp_step ho' (fun K' hK => h' K' (fun a w hS hW => hK a w ⟨hS, hW⟩))⟩
/-- all have come up -/
theorem till_done {L : Array Bool} {a : Act} {w : World} (hr : Region.ready md ops L = []) (h : Q .normal a w) : ∀ n, wpTill P md ops Q k T n L a w
  | 0 => ⟨hr, h⟩
  | _ + 1 => ⟨fun _ => h, by rw [hr]; simp⟩
/-- the beginning -/
theorem till_start {id : Nat} {a : Act} {w : World} (k : Nat) (T : World → Prop) (hm : P.follows .mixedOrders = true) (hT : T w.drew)
    (h : T w.drew → wpTill P .any ops Q k T ops.size (Array.replicate ops.size false) a w.drew) : (Code.region id ops true).wp P Q a w :=
  wp_region_any hm (till_any _ _ _ _ (h hT))
end
end Go.Proofs.YtkmgildnhnjepaaGreatDoor
namespace Go.Proofs.YtkmgildnhnjepaaGreatDoor
set_option linter.unusedVariables false
set_option linter.unusedSimpArgs false
open Go.RowKit
theorem lay_one {P : Program} {w : World} {ops : Array Oper} {rest : List Oper} {Q : Exit → Act → World → Prop} {a : Act} {d : Option Nat} {t ty : TypeId} {ps : String} {af : Array Edge} {x : Operand} (v0 v : Value) (w' : World)
    (hx : a.eval x = v0) (hr : (Instr.buildSlice t 1 #[(0, v0)]).run P w = .ok v w') (h : wpList P ops Q rest (a.put d v) w') :
    wpList P ops Q ({ dst := d, op := .buildSlice t 1 #[(0, x)], type := ty, pos := ps, after := af, guard := none } :: rest) a w := by
  refine wpList_plain rfl fun _ hK => ?_
  unfold Oper.wp execOp
  simp only [List.map_toArray, List.map_cons, List.map_nil, hx, Sem.run_bind, hr, Result.andThen_ok, Sem.run_pure]
  exact hK _ _ h
/-- one thing in a block of its own -/
theorem row_sgl {α : Type} {w : World} {b k : Nat} {T : TypeId} {enc : α → List Value} {x : α} {cs : Array Value} (h : w.heap[b]? = some (.cells cs T (0, 0))) (hc : cs.toList = enc x) : Row w k enc (some ⟨b, 0, none⟩) [x] := fun i y hy => by
  have hi := (List.getElem?_eq_some_iff.1 hy).1
  have e : i = 0 := by simp at hi; exact hi
  subst e
  have ey : x = y := by simpa using hy
  subst ey
  refine ⟨b, 0, rfl, (Array.getElem?_eq_some_iff.1 h).1, fun j v hv => ?_⟩
  rw [Nat.zero_mul, Nat.add_zero, Nat.zero_add]
  refine bcell_row h ?_
  rw [← Array.getElem?_toList, hc]; exact hv
end Go.Proofs.YtkmgildnhnjepaaGreatDoor
namespace Go.Proofs.YtkmgildnhnjepaaGreatDoor
set_option linter.unusedVariables false
set_option linter.unusedSimpArgs false
open Go.RowKit
theorem addr_zero (b off j : Nat) : (⟨b, off, none⟩ : Addr).add j = ⟨b, off + j, none⟩ := by unfold Addr.add; split <;> simp_all
end Go.Proofs.YtkmgildnhnjepaaGreatDoor
namespace Go.Proofs.YtkmgildnhnjepaaGreatDoor
set_option linter.unusedVariables false
set_option linter.unusedSimpArgs false
open Go.RowKit
/-- an address as rows have it -/
def Flat (A : Option Addr) : Prop := A = none ∨ ∃ b off, A = some ⟨b, off, none⟩
theorem flat_map {A : Option Addr} (h : Flat A) : A.map (·.add 0) = A := by
  rcases h with rfl | ⟨b, off, rfl⟩
  · rfl
  · simp [addr_zero]
theorem sl_upto {P : Program} {T E : TypeId} {k : Nat} (hu : P.underlying T = some (.slice E)) (he : P.elem T = E) (hz : ∀ w, (Go.sizeOf E).run P w = .ok k w) (A : Option Addr) (j n c : Nat) (w : World) (hj : j ≤ c) (h : Flat A) : (Instr.sliceAt T (.slice A n c) none (some (.int .i64 j)) none).run P w = .ok (.slice A j c) w := by
  have hu' : P.underlying T = some (.slice (P.elem T)) := by rw [he]; exact hu
  rw [run_sliceAt_slice _ _ _ _ _ _ hu', run_slice_h w T A n c hu' .i64 j (by omega) (by omega), he, hz w]
  simp only [Result.andThen, Int.toNat_natCast]
  unfold sliced
  rw [Nat.zero_mul, flat_map h]
  simp
theorem row_flat {α : Type} {w : World} {k : Nat} {enc : α → List Value} {A : Option Addr} {L : List α} (h : Row w k enc A L) (hl : 0 < L.length) : Flat A := by
  obtain ⟨x, hx⟩ := get_lt hl
  obtain ⟨b, off, rfl, _⟩ := h 0 x hx
  exact Or.inr ⟨b, off, rfl⟩
end Go.Proofs.YtkmgildnhnjepaaGreatDoor
