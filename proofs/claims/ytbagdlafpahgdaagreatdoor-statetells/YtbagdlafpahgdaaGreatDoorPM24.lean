/- A region that draws its order and ends in a store: what it reads may be taken first, though the store turns what was read. No program in it. Slices written out in a plain region; rows of one thing or two. No function of the program in it. A region that draws its order and ends in a store: what looks at no memory may be taken first, though the store does not wait for it. No program in it. Where the reference's zoneAt and linkAt find a name. -/
import Derived.Deep.RegionHeld3
import Derived.Deep.Upon
import Derived.Test.YtbagdlafpahgdaaGreatDoorPM17
import Derived.Test.YtbagdlafpahgdaaGreatDoorPM11
namespace Go.Proofs.YtbagdlafpahgdaaGreatDoor
open Go
set_option linter.unusedVariables false
section
variable {P : Program} {ops : Array Oper} {Q : Exit → Act → World → Prop} {md : Region.Mode} {T : World → Prop} {k : Nat}
/-- the last one has come up, or the world is as it is tto be -/
def Till (k : Nat) (T : World → Prop) (L : Array Bool) (w : World) : Prop := L.getD k true = true ∨ T w
/-- whatever order is picked from here on; behind each operation, but the last one, T is so -/
def wpTill (P : Program) (md : Region.Mode) (ops : Array Oper) (Q : Exit → Act → World → Prop) (k : Nat) (T : World → Prop) : Nat → Array Bool → Act → World → Prop
  | 0, L, a, w => Region.ready md ops L = [] ∧ Q .normal a w
  | n + 1, L, a, w => (Region.ready md ops L = [] → Q .normal a w) ∧
    ∀ i ∈ Region.ready md ops L, wpOp P ops Q i (fun a' w' => Till k T (L.setIfInBounds i true) w' ∧ wpTill P md ops Q k T n (L.setIfInBounds i true) a' w') a w
theorem till_any : ∀ (n : Nat) (L : Array Bool) (a : Act) (w : World), wpTill P md ops Q k T n L a w → wpAny P md ops Q n L a w
  | 0, _, _, _, h => h
  | n + 1, _, _, _, h => ⟨h.1, fun i hi => wpOp_mono (fun a' w' q => till_any n _ a' w' q.2) (h.2 i hi)⟩
/-- does the last one wait for i? -/
def waits (md : Region.Mode) (ops : Array Oper) (k i : Nat) : Bool := match ops[k]? with
  | some o => o.after.any fun e => Region.binds md e && e.on == i
  | none => false
theorem till_first {i : Nat} {oi : Oper} {v : Value} (hi : ops[i]? = some oi) (hsel : ∀ (j : Nat) (o : Oper) cs b, ops[j]? = some o → o.op ≠ .select cs b)
    (hQ : ∀ c a w, Q (.panic c) (a.put oi.dst v) w → Q (.panic c) a w) (hki : k ≠ i) (hw : waits md ops k i = true) :
    ∀ (n : Nat) (L : Array Bool) (a : Act) (w : World), L.getD k true = false →
      (∀ j oj, ops[j]? = some oj → j ≠ i → L.getD j true = false → (∀ e ∈ oj.after, Region.binds md e = true → e.on ≠ i) → oi.apart ops oj = true) →
      i ∈ Region.ready md ops L → YieldsIf P ops T oi v a → T w →
      wpTill P md ops Q k T n (L.setIfInBounds i true) (a.put oi.dst v) w → wpTill P md ops Q k T (n + 1) L a w := by
  intro n
  induction n with
  | zero =>
    intro L a w hk _ hr hy hT H
    refine ⟨fun h => (by rw [h] at hr; cases hr), fun j hj => ?_⟩
    by_cases hji : j = i
    · subst hji; exact hy.wpOp hi hT ⟨Or.inr hT, H⟩
    · have := ready_mono hj hji
      rw [H.1] at this
      cases this
  | succ n ih =>
    intro L a w hk hfree hr hy hT H
    refine ⟨fun h => (by rw [h] at hr; cases hr), fun j hj => ?_⟩
    by_cases hji : j = i
    · subst hji; exact hy.wpOp hi hT ⟨Or.inr hT, H⟩
    · have h1 := H.2 j (ready_mono hj hji)
      obtain ⟨hjun, oj, hoj, hall⟩ := mem_ready.1 hj
      have hnot : ∀ e ∈ oj.after, Region.binds md e = true → e.on ≠ i := fun e he hb heq => by
        have g1 := hall e he hb
        have g0 := (mem_ready.1 hr).1
        rw [heq] at g1
        rcases Nat.lt_or_ge i L.size with h' | h'
        · simp [h'] at g0 g1; rw [g0] at g1; cases g1
        · simp [Array.getElem?_eq_none h'] at g1
      have hjk : j ≠ k := fun e => by
        subst e
        unfold waits at hw
        rw [hoj] at hw
        simp only [Array.any_eq_true', Bool.and_eq_true, beq_iff_eq] at hw
        obtain ⟨e, he, hb, ho⟩ := hw
        exact hnot e he hb ho
      have hk' : (L.setIfInBounds j true).getD k true = false := by rw [getD_set_ne true hjk]; exact hk
      have hk2 : ((L.setIfInBounds i true).setIfInBounds j true).getD k true = false := by rw [getD_set_ne true hjk, getD_set_ne true (Ne.symm hki)]; exact hk
      have h1' := wpOp_mono (K' := fun a' w' => T w' ∧ wpTill P md ops Q k T n ((L.setIfInBounds i true).setIfInBounds j true) a' w') (fun a' w' q => ⟨q.1.resolve_left (by rw [hk2]; simp), q.2⟩) h1
      have h2 := wpOp_putIf hoj (hfree j oj hoj hji hjun hnot) (fun cs b => hsel i oi cs b hi) (fun cs b => hsel j oj cs b hoj) hQ hy h1'
      have hfree' : ∀ m om, ops[m]? = some om → m ≠ i → (L.setIfInBounds j true).getD m true = false → (∀ e ∈ om.after, Region.binds md e = true → e.on ≠ i) → oi.apart ops om = true := fun m om hm hmi hun hno => by
        refine hfree m om hm hmi ?_ hno
        by_cases hjm : j = m
        · subst hjm; exact hjun
        · rw [getD_set_ne true hjm] at hun; exact hun
      refine wpOp_mono (fun a' w' h3 => ⟨Or.inr h3.2.1, ih (L.setIfInBounds j true) a' w' hk' hfree' (ready_mono hr (Ne.symm hji)) h3.1 h3.2.1 ?_⟩) h2
      rw [Array.setIfInBounds_comm _ _ hji]
      exact h3.2.2
/-- take number i first -/
theorem till_take {i : Nat} {oi : Oper} {v : Value} {n : Nat} {L : Array Bool} {a : Act} {w : World} (hi : ops[i]? = some oi) (hs : Region.noSelect ops = true) (hf : Region.free md ops L i = true) (hr : (Region.ready md ops L).contains i = true)
    (hki : (L.getD k true == false && k != i && waits md ops k i) = true) (hQ : ∀ c a w, Q (.panic c) (a.put oi.dst v) w → Q (.panic c) a w) (hy : YieldsIf P ops T oi v a) (hT : T w)
    (h : wpTill P md ops Q k T n (L.setIfInBounds i true) (a.put oi.dst v) w) : wpTill P md ops Q k T (n + 1) L a w := by
  simp only [Bool.and_eq_true, bne_iff_ne, beq_iff_eq] at hki
  exact till_first hi (Region.noSelect_spec hs) hQ hki.1.2 hki.2 n L a w hki.1.1 (Region.free_spec hi hf) (by simpa using hr) hy hT h
/-- one of those that may come up comes up; the step is handed over behind a letter -/
theorem till_one {i : Nat} {o : Oper} {n : Nat} {L : Array Bool} {a : Act} {w : World} (hr : Region.ready md ops L = [i]) (ho : ops[i]? = some o)
    (h : ∀ K' : Act → World → Prop, Shut (∀ a w, Till k T (L.setIfInBounds i true) w → wpTill P md ops Q k T n (L.setIfInBounds i true) a w → K' a w) → if Region.wanted o (yielded ops a.tmps) = true then Oper.wp P o a w K' Q else K' (a.put o.dst undef) w) :
    wpTill P md ops Q k T (n + 1) L a w :=
  ⟨(fun h0 => by rw [hr] at h0; cases h0), fun j hj => by
    rw [hr] at hj
    obtain rfl : j = i := by simpa using hj
    exact wpOp_step ho (fun K' hK => h K' (fun a w hS hW => hK a w ⟨hS, hW⟩))⟩
/-- one of two comes up -/
theorem till_two {i j : Nat} {o o' : Oper} {n : Nat} {L : Array Bool} {a : Act} {w : World} (hr : Region.ready md ops L = [i, j]) (ho : ops[i]? = some o) (ho' : ops[j]? = some o')
    (h : ∀ K' : Act → World → Prop, Shut (∀ a w, Till k T (L.setIfInBounds i true) w → wpTill P md ops Q k T n (L.setIfInBounds i true) a w → K' a w) → if Region.wanted o (yielded ops a.tmps) = true then Oper.wp P o a w K' Q else K' (a.put o.dst undef) w)
    (h' : ∀ K' : Act → World → Prop, Shut (∀ a w, Till k T (L.setIfInBounds j true) w → wpTill P md ops Q k T n (L.setIfInBounds j true) a w → K' a w) → if Region.wanted o' (yielded ops a.tmps) = true then Oper.wp P o' a w K' Q else K' (a.put o'.dst undef) w) :
    wpTill P md ops Q k T (n + 1) L a w :=
  ⟨(fun h0 => by rw [hr] at h0; cases h0), fun m hm => by
    rw [hr] at hm
    have hm' : m = i ∨ m = j := by simpa using hm
    rcases hm' with rfl | rfl
    · exact wpOp_step ho (fun K' hK => h K' (fun a w hS hW => hK a w ⟨hS, hW⟩))
    · exact wpOp_step ho' (fun K' hK => h' K' (fun a w hS hW => hK a w ⟨hS, hW⟩))⟩
/-- all have come up -/
theorem till_done {L : Array Bool} {a : Act} {w : World} (hr : Region.ready md ops L = []) (h : Q .normal a w) : ∀ n, wpTill P md ops Q k T n L a w
  | 0 => ⟨hr, h⟩
  | _ + 1 => ⟨fun _ => h, by rw [hr]; simp⟩
/-- the beginning -/
theorem till_start {id : Nat} {a : Act} {w : World} (k : Nat) (T : World → Prop) (hm : P.follows .mixedOrders = true) (hT : T w.drew)
    (h : T w.drew → wpTill P .any ops Q k T ops.size (Array.replicate ops.size false) a w.drew) : (Code.region id ops true).wp P Q a w :=
  wp_region_any hm (till_any _ _ _ _ (h hT))
end
end Go.Proofs.YtbagdlafpahgdaaGreatDoor
namespace Go.Proofs.YtbagdlafpahgdaaGreatDoor
set_option linter.unusedVariables false
set_option linter.unusedSimpArgs false
open Go.RowKit
theorem step_one {P : Program} {w : World} {ops : Array Oper} {o : Oper} {a : Act} {K : Act → World → Prop} {Q : Exit → Act → World → Prop} {E : Prop} (hgd : o.guard = none) {t : TypeId} {x : Operand} (ho : o.op = .buildSlice t 1 #[(0, x)]) (v0 v : Value) (w' : World)
    (hx : a.eval x = v0) (hr : (Instr.buildSlice t 1 #[(0, v0)]).run P w = .ok v w') (h : K (a.put o.dst v) w') :
    if Region.wanted o (yielded ops a.tmps) = true then Oper.wp P o a w K Q else E := by
  have hw : Region.wanted o (yielded ops a.tmps) = true := by simp [Region.wanted, hgd]
  rw [if_pos hw]
  unfold Oper.wp execOp
  simp only [ho, List.map_toArray, List.map_cons, List.map_nil, hx, Sem.run_bind, hr, Result.andThen_ok, Sem.run_pure]
  exact h
/-- one thing in a block of its own -/
theorem row_sgl {α : Type} {w : World} {b k : Nat} {T : TypeId} {enc : α → List Value} {x : α} {cs : Array Value} (h : w.heap[b]? = some (.cells cs T (0, 0))) (hc : cs.toList = enc x) : Row w k enc (some ⟨b, 0, none⟩) [x] := fun i y hy => by
  have hi := (List.getElem?_eq_some_iff.1 hy).1
  have e : i = 0 := by simp at hi; exact hi
  subst e
  have ey : x = y := by simpa using hy
  subst ey
  refine ⟨b, 0, rfl, (Array.getElem?_eq_some_iff.1 h).1, fun j v hv => ?_⟩
  rw [Nat.zero_mul, Nat.add_zero, Nat.zero_add]
  refine bcell_row h ?_
  rw [← Array.getElem?_toList, hc]; exact hv
end Go.Proofs.YtbagdlafpahgdaaGreatDoor
namespace Go.Proofs.YtbagdlafpahgdaaGreatDoor
open Go
set_option linter.unusedVariables false
section
variable {P : Program} {ops : Array Oper} {Q : Exit → Act → World → Prop} {md : Region.Mode} {T : World → Prop} {k : Nat}
theorem till_firstP {i : Nat} {oi : Oper} {v : Value} (hi : ops[i]? = some oi) (hsel : ∀ (j : Nat) (o : Oper) cs b, ops[j]? = some o → o.op ≠ .select cs b)
    (hQ : ∀ c a w, Q (.panic c) (a.put oi.dst v) w → Q (.panic c) a w) (hki : k ≠ i) :
    ∀ (n : Nat) (L : Array Bool) (a : Act) (w : World),
      (∀ j oj, ops[j]? = some oj → j ≠ i → L.getD j true = false → (∀ e ∈ oj.after, Region.binds md e = true → e.on ≠ i) → oi.apart ops oj = true) →
      i ∈ Region.ready md ops L → YieldsIf P ops (fun _ => True) oi v a → Till k T L w →
      wpTill P md ops Q k T n (L.setIfInBounds i true) (a.put oi.dst v) w → wpTill P md ops Q k T (n + 1) L a w := by
  have tset : ∀ (L : Array Bool) (w : World), Till k T (L.setIfInBounds i true) w ↔ Till k T L w := fun L w => by unfold Till; rw [getD_set_ne true (Ne.symm hki)]
  intro n
  induction n with
  | zero =>
    intro L a w _ hr hy hT H
    refine ⟨fun h => (by rw [h] at hr; cases hr), fun j hj => ?_⟩
    by_cases hji : j = i
    · subst hji; exact hy.wpOp hi trivial ⟨(tset L w).2 hT, H⟩
    · have := ready_mono hj hji
      rw [H.1] at this
      cases this
  | succ n ih =>
    intro L a w hfree hr hy hT H
    refine ⟨fun h => (by rw [h] at hr; cases hr), fun j hj => ?_⟩
    by_cases hji : j = i
    · subst hji; exact hy.wpOp hi trivial ⟨(tset L w).2 hT, H⟩
    · have h1 := H.2 j (ready_mono hj hji)
      obtain ⟨hjun, oj, hoj, hall⟩ := mem_ready.1 hj
      have hnot : ∀ e ∈ oj.after, Region.binds md e = true → e.on ≠ i := fun e he hb heq => by
        have g1 := hall e he hb
        have g0 := (mem_ready.1 hr).1
        rw [heq] at g1
        rcases Nat.lt_or_ge i L.size with h' | h'
        · simp [h'] at g0 g1; rw [g0] at g1; cases g1
        · simp [Array.getElem?_eq_none h'] at g1
      have h1' := wpOp_mono (K' := fun a' w' => (fun _ : World => True) w' ∧ (Till k T ((L.setIfInBounds i true).setIfInBounds j true) w' ∧ wpTill P md ops Q k T n ((L.setIfInBounds i true).setIfInBounds j true) a' w')) (fun a' w' q => ⟨trivial, q⟩) h1
      have h2 := wpOp_putIf hoj (hfree j oj hoj hji hjun hnot) (fun cs b => hsel i oi cs b hi) (fun cs b => hsel j oj cs b hoj) hQ hy h1'
      have hfree' : ∀ m om, ops[m]? = some om → m ≠ i → (L.setIfInBounds j true).getD m true = false → (∀ e ∈ om.after, Region.binds md e = true → e.on ≠ i) → oi.apart ops om = true := fun m om hm hmi hun hno => by
        refine hfree m om hm hmi ?_ hno
        by_cases hjm : j = m
        · subst hjm; exact hjun
        · rw [getD_set_ne true hjm] at hun; exact hun
      refine wpOp_mono (fun a' w' h3 => ?_) h2
      have hc : (L.setIfInBounds i true).setIfInBounds j true = (L.setIfInBounds j true).setIfInBounds i true := Array.setIfInBounds_comm _ _ (Ne.symm hji)
      have h4 := h3.2.2
      rw [hc] at h4
      have hT' : Till k T (L.setIfInBounds j true) w' := (tset _ w').1 h4.1
      exact ⟨hT', ih (L.setIfInBounds j true) a' w' hfree' (ready_mono hr (Ne.symm hji)) h3.1 hT' h4.2⟩
/-- take number i first, which looks at no memory -/
theorem till_pure {i : Nat} {oi : Oper} {v : Value} {n : Nat} {L : Array Bool} {a : Act} {w : World} (hi : ops[i]? = some oi) (hs : Region.noSelect ops = true) (hf : Region.free md ops L i = true) (hr : (Region.ready md ops L).contains i = true)
    (hki : (k != i) = true) (hQ : ∀ c a w, Q (.panic c) (a.put oi.dst v) w → Q (.panic c) a w) (hy : YieldsIf P ops (fun _ => True) oi v a) (hT : T w)
    (h : wpTill P md ops Q k T n (L.setIfInBounds i true) (a.put oi.dst v) w) : wpTill P md ops Q k T (n + 1) L a w :=
  till_firstP hi (Region.noSelect_spec hs) hQ (by simpa using hki) n L a w (Region.free_spec hi hf) (by simpa using hr) hy (Or.inr hT) h
end
end Go.Proofs.YtbagdlafpahgdaaGreatDoor
namespace Go.Proofs.YtbagdlafpahgdaaGreatDoor
set_option linter.unusedVariables false
set_option linter.unusedSimpArgs false
open Go.RowKit
/-- the place of a zone of this name; -1 where there is none -/
def FindsZ (l : List ZonD) (nm : ByteArray) (w : World) (e : Ending) (w' : World) : Prop := ∃ n : Int, e = .returned (.int .i64 n) ∧ ((∃ (k : Nat) (z : ZonD), n = k ∧ l[k]? = some z ∧ z.nm.toList = nm.toList) ∨ (n = -1 ∧ hasZ l nm = false)) ∧ Gr w w'
def FindsL (l : List LinD) (nm : ByteArray) (w : World) (e : Ending) (w' : World) : Prop := ∃ n : Int, e = .returned (.int .i64 n) ∧ ((∃ (k : Nat) (z : LinD), n = k ∧ l[k]? = some z ∧ z.nm.toList = nm.toList) ∨ (n = -1 ∧ hasL l nm = false)) ∧ Gr w w'

set_option maxHeartbeats 4000000 in
theorem rzoneAt2 (A : Option Addr) (c : Nat) (l : List ZonD) (nm : ByteArray) (w : World) (hl : l.length ≤ maxLen) (h : Row w 2 ZonD.cells A l) :
    Calls Tryz.prog 45 #[.slice A l.length c, .string nm] w (FindsZ l nm w) := by
  have H := Lib.hid h
  unfold maxLen at hl
  clear h
  go_enter Tryz.func45, Tryz.ntmps45
  go_wp2_with fail
  go_loopw [9] (fun i W => ∃ k : Nat, k ≤ l.length ∧ i = .int .i64 k ∧ Hid (hasZ (l.take k) nm = false) ∧ Hid (Gr w W)) (fun i W => l.length - (intOf i).toNat)
  case atStart => exact ⟨0, Nat.zero_le _, rfl, rfl, Gr.refl _⟩
  case round =>
    obtain ⟨k, hk, rfl, hf, hg⟩ := hrel
    by_cases hlt : k < l.length
    · obtain ⟨⟨znm, zA, zc, ze⟩, hz⟩ := get_lt hlt
      obtain ⟨b, off, rfl, c0, c1⟩ := H.out.two hz rfl hg.out
      have HT : Hid (hasZ (l.take (k + 1)) nm = (hasZ (l.take k) nm || (znm.toList == nm.toList))) := any_take hz
      have HZ := Lib.hid hz
      clear hz H
      obtain ⟨q, eq⟩ : ∃ q, (znm.toList == nm.toList) = q := ⟨_, rfl⟩
      have EQ := Lib.hid eq
      rw [eq] at HT
      cases q with
      | true =>
        clear HT hf
        go_wp2_with fail
        go_ret
        exact ⟨k, rfl, Or.inl ⟨k, _, rfl, HZ.out, eq_of_beq EQ.out⟩, hg.out.alloc' _⟩
      | false =>
        clear HZ EQ
        go_wp2_with fail
        go_roundw
        case rel => exact ⟨k + 1, by omega, by go_num, by unfold Hid; rw [HT.out, hf.out]; rfl, hg.out.alloc' _⟩
        case measure => simp [intOf]; omega
    · have e : k = l.length := by omega
      have HA : Hid (hasZ l nm = false) := by unfold Hid; have := hf.out; rw [e, List.take_length] at this; exact this
      clear e hf H
      go_wp2_with fail
      go_ret
      exact ⟨-1, rfl, Or.inr ⟨rfl, HA.out⟩, hg.out⟩

set_option maxHeartbeats 4000000 in
theorem rlinkAt2 (A : Option Addr) (c : Nat) (l : List LinD) (nm : ByteArray) (w : World) (hl : l.length ≤ maxLen) (h : Row w 2 LinD.cells A l) :
    Calls Tryz.prog 46 #[.slice A l.length c, .string nm] w (FindsL l nm w) := by
  have H := Lib.hid h
  unfold maxLen at hl
  clear h
  go_enter Tryz.func46, Tryz.ntmps46
  go_wp2_with fail
  go_loopw [9] (fun i W => ∃ k : Nat, k ≤ l.length ∧ i = .int .i64 k ∧ Hid (hasL (l.take k) nm = false) ∧ Hid (Gr w W)) (fun i W => l.length - (intOf i).toNat)
  case atStart => exact ⟨0, Nat.zero_le _, rfl, rfl, Gr.refl _⟩
  case round =>
    obtain ⟨k, hk, rfl, hf, hg⟩ := hrel
    by_cases hlt : k < l.length
    · obtain ⟨⟨znm, zt⟩, hz⟩ := get_lt hlt
      obtain ⟨b, off, rfl, c0, c1⟩ := H.out.two hz rfl hg.out
      have HT : Hid (hasL (l.take (k + 1)) nm = (hasL (l.take k) nm || (znm.toList == nm.toList))) := any_take hz
      have HZ := Lib.hid hz
      clear hz H
      obtain ⟨q, eq⟩ : ∃ q, (znm.toList == nm.toList) = q := ⟨_, rfl⟩
      have EQ := Lib.hid eq
      rw [eq] at HT
      cases q with
      | true =>
        clear HT hf
        go_wp2_with fail
        go_ret
        exact ⟨k, rfl, Or.inl ⟨k, _, rfl, HZ.out, eq_of_beq EQ.out⟩, hg.out.alloc' _⟩
      | false =>
        clear HZ EQ
        go_wp2_with fail
        go_roundw
        case rel => exact ⟨k + 1, by omega, by go_num, by unfold Hid; rw [HT.out, hf.out]; rfl, hg.out.alloc' _⟩
        case measure => simp [intOf]; omega
    · have e : k = l.length := by omega
      have HA : Hid (hasL l nm = false) := by unfold Hid; have := hf.out; rw [e, List.take_length] at this; exact this
      clear e hf H
      go_wp2_with fail
      go_ret
      exact ⟨-1, rfl, Or.inr ⟨rfl, HA.out⟩, hg.out⟩

end Go.Proofs.YtbagdlafpahgdaaGreatDoor
