/- A slice copied by append. No function of the program in it. A region that draws its order and ends in a store: what it reads may be taken first, though the store turns what was read. No program in it. -/
import Derived.Laws.AppendOwn
import Derived.Test.YtkbegommjlmfmaaGreatDoorQM25
import Derived.Deep.RegionHeld3
namespace Go.Proofs.YtkbegommjlmfmaaGreatDoor
set_option linter.unusedVariables false
set_option linter.unusedSimpArgs false
open Go.RowKit
/-- the cells of a row, one after another -/
theorem Row.news {α : Type} {w : World} {k : Nat} {enc : α → List Value} {b off : Nat} {l : List α} (hk : ∀ x, (enc x).length = k) (h : Row w k enc (some ⟨b, off, none⟩) l) :
    ∀ j u, (l.flatMap enc)[j]? = some u → w.cell? ((⟨b, off, none⟩ : Addr).add j) = some u := fun j u hu => by
  have hj := (List.getElem?_eq_some_iff.1 hu).1
  rw [flat_len hk] at hj
  have hk0 : 0 < k := by
    cases k with
    | zero => simp at hj
    | succ k => omega
  have hi : j / k < l.length := by rw [Nat.div_lt_iff_lt_mul hk0]; exact hj
  have hr : j % k < k := Nat.mod_lt _ hk0
  have he := Nat.div_add_mod j k
  obtain ⟨x, hx⟩ := get_lt hi
  have hv : (enc x)[j % k]? = some ((enc x)[j % k]'(by rw [hk]; exact hr)) := List.getElem?_eq_getElem _
  have hf := flat_get hk l (j / k) x hx (j % k) _ hv
  rw [show j / k * k + j % k = j by rw [Nat.mul_comm]; exact he] at hf
  rw [hu] at hf
  injection hf with hf
  obtain ⟨b', off', e, _, hc⟩ := h (j / k) x hx
  injection e with e; injection e with e1 e2; subst e1; subst e2
  have := hc (j % k) _ hv
  rw [← hf] at this
  rw [show (⟨b, off, none⟩ : Addr).add j = ⟨b, off + (j / k) * k + j % k, none⟩ by
    have q : off + (j / k) * k + j % k = off + j := by rw [Nat.add_assoc, Nat.mul_comm (j / k) k, he]
    rw [q]; unfold Addr.add; split <;> simp_all]
  exact this
theorem run_app0 {P : Program} (w : World) (t ty e : TypeId) (i : TypeInfo) (ht : P.underlying t = some (.slice e)) (hi : P.info? e = some i) (A : Option Addr) (c : Nat) :
    (Builtin.append_ #[t, t] ty #[.slice none 0 0, .slice A 0 c]).run P w = .ok (.slice none 0 0) w := by
  cases A <;> simp [Builtin.append_, run_underlying ht, sizeOf, typeInfo, hi, Builtin.lenOf, Builtin.firstCells, loadCells, loadCellsFrom]
/-- a slice copied: append(nil, l...) -/
theorem step_copy {P : Program} {α : Type} (w : World) {ops : Array Oper} {o : Oper} {a : Act} {K : Act → World → Prop} {Q : Exit → Act → World → Prop} {E : Prop} (hgd : o.guard = none) (s x : Operand) (t : TypeId)
    (ho : o.op = .call { callee := .builtin .append, args := #[s, x], argTypes := #[t, t] }) (base : Nat) (e : TypeId) (i : TypeInfo) (z : Value) (k bytes : Nat) (ht : P.underlying t = some (.slice e)) (hi : P.info? e = some i) (hz : i.zero = some z)
    (hsize : i.size = k) (hby : i.bytes = bytes) (hzs : z.cells.size = k) (hsz : 0 < k) (enc : α → List Value) (hk : ∀ x, (enc x).length = k) (h1 : ∀ x, ∀ u ∈ enc x, u.oneCell' = true) (l : List α) (A : Option Addr) (c : Nat) (hs : a.eval s = .slice none 0 0) (hx : a.eval x = .slice A l.length c)
    (hr : Row w k enc A l) (h63 : l.length ≤ 100000) (hbytes : bytes ≤ 1000) (hbase : base ≤ w.heap.size)
    (h : ∀ v' w', Own w' base e k enc v' l → w.grownBy w' none → K (a.put o.dst v') w') :
    if Region.wanted o (yielded ops a.tmps) = true then Oper.wp P o a w K Q else E := by
  cases l with
  | nil =>
    have hw : Region.wanted o (yielded ops a.tmps) = true := by simp [Region.wanted, hgd]
    rw [if_pos hw]
    unfold Oper.wp execOp
    simp only [ho, resolve, invoke, builtin, Sem.run_bind, Sem.run_pure, Result.andThen_ok, List.map_toArray, List.map_cons, List.map_nil, hs, hx, List.length_nil, run_app0 w t o.type e i ht hi A c]
    exact h _ _ (Own.nil_ _ _ _ _ _) (World.grownBy.refl w _)
  | cons y l =>
    obtain ⟨b, off, rfl, _⟩ := hr 0 y rfl
    have hmul : (0 + (y :: l).length) * bytes ≤ 100000 * 1000 := Nat.mul_le_mul (by omega) hbytes
    refine step_append_lies w hgd s x t ho base e i z k bytes ht hi hz hsize hby hzs hsz (.slice none 0 0) 0 [] hs ⟨by simp, Or.inl ⟨rfl, rfl⟩⟩ ⟨b, off, none⟩ (y :: l).length c ((y :: l).flatMap enc) hx (flat_len hk _) (Row.news hk hr) ?_ (by simp) (by unfold maxLen; omega) (by omega) hbase w.heap.size rfl ?_
    · intro u hu
      obtain ⟨x', _, hx'⟩ := List.mem_flatMap.1 hu
      exact h1 x' u hx'
    · intro g cap w' hown hgrow _ _
      refine h _ _ ?_ hgrow
      unfold Own
      simpa using hown
theorem gr_of_none {w w' : World} (h : w.grownBy w' none) : Gr w w' := ⟨h.os, h.tape, h.output, h.size, fun i hi => h.block i hi (by simp)⟩
end Go.Proofs.YtkbegommjlmfmaaGreatDoor
namespace Go.Proofs.YtkbegommjlmfmaaGreatDoor
open Go
set_option linter.unusedVariables false
section
variable {P : Program} {ops : Array Oper} {Q : Exit → Act → World → Prop} {md : Region.Mode} {T : World → Prop} {k : Nat}
/-- the last one has come up, or the world is as it is tto be -/
def Till (k : Nat) (T : World → Prop) (L : Array Bool) (w : World) : Prop := L.getD k true = true ∨ T w
/-- whatever order is picked from here on; behind each operation, but the last one, T is so -/
def wpTill (P : Program) (md : Region.Mode) (ops : Array Oper) (Q : Exit → Act → World → Prop) (k : Nat) (T : World → Prop) : Nat → Array Bool → Act → World → Prop
  | 0, L, a, w => Region.ready md ops L = [] ∧ Q .normal a w
  | n + 1, L, a, w => (Region.ready md ops L = [] → Q .normal a w) ∧
    ∀ i ∈ Region.ready md ops L, wpOp P ops Q i (fun a' w' => Till k T (L.setIfInBounds i true) w' ∧ wpTill P md ops Q k T n (L.setIfInBounds i true) a' w') a w
theorem till_any : ∀ (n : Nat) (L : Array Bool) (a : Act) (w : World), wpTill P md ops Q k T n L a w → wpAny P md ops Q n L a w
  | 0, _, _, _, h => h
  | n + 1, _, _, _, h => ⟨h.1, fun i hi => wpOp_mono (fun a' w' q => till_any n _ a' w' q.2) (h.2 i hi)⟩
/-- does the last one wait for i? -/
def waits (md : Region.Mode) (ops : Array Oper) (k i : Nat) : Bool := match ops[k]? with
  | some o => o.after.any fun e => Region.binds md e && e.on == i
  | none => false
theorem till_first {i : Nat} {oi : Oper} {v : Value} (hi : ops[i]? = some oi) (hsel : ∀ (j : Nat) (o : Oper) cs b, ops[j]? = some o → o.op ≠ .select cs b)
    (hQ : ∀ c a w, Q (.panic c) (a.put oi.dst v) w → Q (.panic c) a w) (hki : k ≠ i) (hw : waits md ops k i = true) :
    ∀ (n : Nat) (L : Array Bool) (a : Act) (w : World), L.getD k true = false →
      (∀ j oj, ops[j]? = some oj → j ≠ i → L.getD j true = false → (∀ e ∈ oj.after, Region.binds md e = true → e.on ≠ i) → oi.apart ops oj = true) →
      i ∈ Region.ready md ops L → YieldsIf P ops T oi v a → T w →
      wpTill P md ops Q k T n (L.setIfInBounds i true) (a.put oi.dst v) w → wpTill P md ops Q k T (n + 1) L a w := by
  intro n
  induction n with
  | zero =>
    intro L a w hk _ hr hy hT H
    refine ⟨fun h => (by rw [h] at hr; cases hr), fun j hj => ?_⟩
    by_cases hji : j = i
    · subst hji; exact hy.wpOp hi hT ⟨Or.inr hT, H⟩
    · have := ready_mono hj hji
      rw [H.1] at this
      cases this
  | succ n ih =>
    intro L a w hk hfree hr hy hT H
    refine ⟨fun h => (by rw [h] at hr; cases hr), fun j hj => ?_⟩
    by_cases hji : j = i
    · subst hji; exact hy.wpOp hi hT ⟨Or.inr hT, H⟩
    · have h1 := H.2 j (ready_mono hj hji)
      obtain ⟨hjun, oj, hoj, hall⟩ := mem_ready.1 hj
      have hnot : ∀ e ∈ oj.after, Region.binds md e = true → e.on ≠ i := fun e he hb heq => by
        have g1 := hall e he hb
        have g0 := (mem_ready.1 hr).1
        rw [heq] at g1
        rcases Nat.lt_or_ge i L.size with h' | h'
        · simp [h'] at g0 g1; rw [g0] at g1; cases g1
        · simp [Array.getElem?_eq_none h'] at g1
      have hjk : j ≠ k := fun e => by
        subst e
        unfold waits at hw
        rw [hoj] at hw
        simp only [Array.any_eq_true', Bool.and_eq_true, beq_iff_eq] at hw
        obtain ⟨e, he, hb, ho⟩ := hw
        exact hnot e he hb ho
      have hk' : (L.setIfInBounds j true).getD k true = false := by rw [getD_set_ne true hjk]; exact hk
      have hk2 : ((L.setIfInBounds i true).setIfInBounds j true).getD k true = false := by rw [getD_set_ne true hjk, getD_set_ne true (Ne.symm hki)]; exact hk
      have h1' := wpOp_mono (K' := fun a' w' => T w' ∧ wpTill P md ops Q k T n ((L.setIfInBounds i true).setIfInBounds j true) a' w') (fun a' w' q => ⟨q.1.resolve_left (by rw [hk2]; simp), q.2⟩) h1
      have h2 := wpOp_putIf hoj (hfree j oj hoj hji hjun hnot) (fun cs b => hsel i oi cs b hi) (fun cs b => hsel j oj cs b hoj) hQ hy h1'
      have hfree' : ∀ m om, ops[m]? = some om → m ≠ i → (L.setIfInBounds j true).getD m true = false → (∀ e ∈ om.after, Region.binds md e = true → e.on ≠ i) → oi.apart ops om = true := fun m om hm hmi hun hno => by
        refine hfree m om hm hmi ?_ hno
        by_cases hjm : j = m
        · subst hjm; exact hjun
        · rw [getD_set_ne true hjm] at hun; exact hun
      refine wpOp_mono (fun a' w' h3 => ⟨Or.inr h3.2.1, ih (L.setIfInBounds j true) a' w' hk' hfree' (ready_mono hr (Ne.symm hji)) h3.1 h3.2.1 ?_⟩) h2
      rw [Array.setIfInBounds_comm _ _ hji]
      exact h3.2.2
/-- take number i first -/
theorem till_take {i : Nat} {oi : Oper} {v : Value} {n : Nat} {L : Array Bool} {a : Act} {w : World} (hi : ops[i]? = some oi) (hs : Region.noSelect ops = true) (hf : Region.free md ops L i = true) (hr : (Region.ready md ops L).contains i = true)
    (hki : (L.getD k true == false && k != i && waits md ops k i) = true) (hQ : ∀ c a w, Q (.panic c) (a.put oi.dst v) w → Q (.panic c) a w) (hy : YieldsIf P ops T oi v a) (hT : T w)
    (h : wpTill P md ops Q k T n (L.setIfInBounds i true) (a.put oi.dst v) w) : wpTill P md ops Q k T (n + 1) L a w := by
  simp only [Bool.and_eq_true, bne_iff_ne, beq_iff_eq] at hki
  exact till_first hi (Region.noSelect_spec hs) hQ hki.1.2 hki.2 n L a w hki.1.1 (Region.free_spec hi hf) (by simpa using hr) hy hT h
/-- one of those that may come up comes up; the step is handed over behind a letter -/
theorem till_one {i : Nat} {o : Oper} {n : Nat} {L : Array Bool} {a : Act} {w : World} (hr : Region.ready md ops L = [i]) (ho : ops[i]? = some o)
    (h : ∀ K' : Act → World → Prop, Shut (∀ a w, Till k T (L.setIfInBounds i true) w → wpTill P md ops Q k T n (L.setIfInBounds i true) a w → K' a w) → if Region.wanted o (yielded ops a.tmps) = true then Oper.wp P o a w K' Q else K' (a.put o.dst undef) w) :
    wpTill P md ops Q k T (n + 1) L a w :=
  ⟨(fun h0 => by rw [hr] at h0; cases h0), fun j hj => by
    rw [hr] at hj
    obtain rfl : j = i := by simpa using hj
    exact wpOp_step ho (fun K' hK => h K' (fun a w hS hW => hK a w ⟨hS, hW⟩))⟩
/-- one of two comes up -/
theorem till_two {i j : Nat} {o o' : Oper} {n : Nat} {L : Array Bool} {a : Act} {w : World} (hr : Region.ready md ops L = [i, j]) (ho : ops[i]? = some o) (ho' : ops[j]? = some o')
    (h : ∀ K' : Act → World → Prop, Shut (∀ a w, Till k T (L.setIfInBounds i true) w → wpTill P md ops Q k T n (L.setIfInBounds i true) a w → K' a w) → if Region.wanted o (yielded ops a.tmps) = true then Oper.wp P o a w K' Q else K' (a.put o.dst undef) w)
    (h' : ∀ K' : Act → World → Prop, Shut (∀ a w, Till k T (L.setIfInBounds j true) w → wpTill P md ops Q k T n (L.setIfInBounds j true) a w → K' a w) → if Region.wanted o' (yielded ops a.tmps) = true then Oper.wp P o' a w K' Q else K' (a.put o'.dst undef) w) :
    wpTill P md ops Q k T (n + 1) L a w :=
  ⟨(fun h0 => by rw [hr] at h0; cases h0), fun m hm => by
    rw [hr] at hm
    have hm' : m = i ∨ m = j := by simpa using hm
    rcases hm' with rfl | rfl
    · exact wpOp_step ho (fun K' hK => h K' (fun a w hS hW => hK a w ⟨hS, hW⟩))
    · exact wpOp_step ho' (fun K' hK => h' K' (fun a w hS hW => hK a w ⟨hS, hW⟩))⟩
/-- all have come up -/
theorem till_done {L : Array Bool} {a : Act} {w : World} (hr : Region.ready md ops L = []) (h : Q .normal a w) : ∀ n, wpTill P md ops Q k T n L a w
  | 0 => ⟨hr, h⟩
  | _ + 1 => ⟨fun _ => h, by rw [hr]; simp⟩
/-- the beginning -/
theorem till_start {id : Nat} {a : Act} {w : World} (k : Nat) (T : World → Prop) (hm : P.follows .mixedOrders = true) (hT : T w.drew)
    (h : T w.drew → wpTill P .any ops Q k T ops.size (Array.replicate ops.size false) a w.drew) : (Code.region id ops true).wp P Q a w :=
  wp_region_any hm (till_any _ _ _ _ (h hT))
end
end Go.Proofs.YtkbegommjlmfmaaGreatDoor
