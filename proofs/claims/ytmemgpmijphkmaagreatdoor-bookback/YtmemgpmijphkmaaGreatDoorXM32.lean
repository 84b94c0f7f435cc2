/- A book under way in memory: one rule, one zone, one link, one era more. No function of the program in it. A region that draws its order and ends in a store: what it reads may be taken first, though the store turns what was read. No program in it. -/
import Derived.Test.YtmemgpmijphkmaaGreatDoorXM31
import Derived.Deep.RegionHeld3
namespace Go.Proofs.YtmemgpmijphkmaaGreatDoor
set_option linter.unusedVariables false
set_option linter.unusedSimpArgs false
open Go.RowKit
theorem far_pb {α : Type} {w : World} {base k pb : Nat} {e : TypeId} {enc : α → List Value} {v : Value} {l : List α} (h : Own w base e k enc v l) (hp : pb < base) : v.ownBlock = none ∨ v.ownBlock ≠ some pb := by
  cases hv : v.ownBlock with
  | none => exact Or.inl rfl
  | some j => exact Or.inr (fun e => by have := (own_block_lt h j hv).1; injection e with e; omega)
theorem pb_ne {α : Type} {w : World} {base k pb : Nat} {e : TypeId} {enc : α → List Value} {v : Value} {l : List α} (h : Own w base e k enc v l) (hp : pb < base) : some pb ≠ v.ownBlock := fun e => by
  have := (own_block_lt h pb e.symm).1; omega
theorem zs_far_pb {w : World} {base pb : Nat} {zs : List ZonD} (h : ZsAt w base zs) (hp : pb < base) : ∀ z ∈ zs, (Value.slice z.A z.eras.length z.c).ownBlock = none ∨ (Value.slice z.A z.eras.length z.c).ownBlock ≠ some pb := fun z hz => far_pb (h.base_le z hz).1 hp
theorem set_lt {w : World} {q : Addr} {u : Value} {n : Nat} (h : n ≤ w.heap.size) : n ≤ (w.setCell q u).heap.size := by simpa [World.setCell] using h
theorem blk_set {w : World} {pb : Nat} {T : TypeId} {cs : Array Value} {j : Nat} {u : Value} (h : w.heap[pb]? = some (.cells cs T (0, 0))) : (w.setCell ⟨pb, j, none⟩ u).heap[pb]? = some (.cells (cs.setIfInBounds j u) T (0, 0)) := by
  rw [heap_setCell_same w pb j cs T u h]

theorem PAt.addRule {w W2 W3 : World} {base pb n : Nat} {p : BkS} {v0 v1 v2 v' : Value} {zs : List ZonD} {r : RuD} (h : PAt w base pb n p v0 v1 v2 zs) (g : Gr w W2) (ho : Own W3 base 56 11 RuD.cells v' (p.rs ++ [r])) (hg : W2.grownBy W3 v0.ownBlock) (hr : r.In) :
    PAt (W3.setCell ⟨pb, 0, none⟩ v') base pb (n + 1) { p with rs := p.rs ++ [r] } v' v1 v2 zs ∧ Tch base pb w (W3.setCell ⟨pb, 0, none⟩ v') := by
  have h2 := h.gr g
  have hz : base ≤ W3.heap.size := Nat.le_trans h2.le hg.size
  have z3 := h2.zz.other h2.rs (by decide) hg
  have b3 : W3.heap[pb]? = some (.cells #[v0, v1, v2, .int .i64 p.st] 67 (0, 0)) := (hg.block pb (Nat.lt_of_lt_of_le h2.lt h2.le) (pb_ne h2.rs h2.lt)).trans h2.blk
  refine ⟨⟨h.lt, set_lt hz, blk_set b3, ho.far _ (far_pb ho h.lt), (h2.zr.kept hg (own_ne h2.zr h2.rs (by decide))).far _ (far_pb h2.zr h.lt), (h2.lr.kept hg (own_ne h2.lr h2.rs (by decide))).far _ (far_pb h2.lr h.lt), ?_, h.li, z3.far _ (zs_far_pb z3 h.lt), h.zm, ?_, Nat.le_succ_of_le h.nz, Nat.le_succ_of_le h.nl, fun z q => Nat.le_succ_of_le (h.ne z q)⟩, ?_⟩
  · intro x hx
    rcases List.mem_append.1 hx with hx | hx
    · exact h.ri x hx
    · have : x = r := by simpa using hx
      rw [this]; exact hr
  · have := h.nr; simp; omega
  · exact (((Tch.refl base pb w).gr g h.le).grown hg h2.le (fun j hj => (own_block_lt h2.rs j hj).1)).set (Or.inl rfl) _

theorem PAt.addLink {w W2 W3 : World} {base pb n : Nat} {p : BkS} {v0 v1 v2 v' : Value} {zs : List ZonD} {r : LinD} (h : PAt w base pb n p v0 v1 v2 zs) (g : Gr w W2) (ho : Own W3 base 49 2 LinD.cells v' (p.ls ++ [r])) (hg : W2.grownBy W3 v2.ownBlock) (hr : r.In) :
    PAt ((W3.setCell ⟨pb, 2, none⟩ v').setCell ⟨pb, 3, none⟩ (.int .i64 3)) base pb (n + 1) { p with ls := p.ls ++ [r], st := 3 } v0 v1 v' zs ∧ Tch base pb w ((W3.setCell ⟨pb, 2, none⟩ v').setCell ⟨pb, 3, none⟩ (.int .i64 3)) := by
  have h2 := h.gr g
  have hz : base ≤ W3.heap.size := Nat.le_trans h2.le hg.size
  have z3 := h2.zz.other h2.lr (by decide) hg
  have z4 := z3.far (q := ⟨pb, 2, none⟩) v' (zs_far_pb z3 h.lt)
  have b3 : W3.heap[pb]? = some (.cells #[v0, v1, v2, .int .i64 p.st] 67 (0, 0)) := (hg.block pb (Nat.lt_of_lt_of_le h2.lt h2.le) (pb_ne h2.lr h2.lt)).trans h2.blk
  refine ⟨⟨h.lt, set_lt (set_lt hz), blk_set (blk_set b3), ((h2.rs.kept hg (own_ne h2.rs h2.lr (by decide))).far _ (far_pb h2.rs h.lt)).far _ (far_pb h2.rs h.lt), ((h2.zr.kept hg (own_ne h2.zr h2.lr (by decide))).far _ (far_pb h2.zr h.lt)).far _ (far_pb h2.zr h.lt), (ho.far _ (far_pb ho h.lt)).far _ (far_pb ho h.lt), h.ri, ?_, z4.far _ (zs_far_pb z4 h.lt), h.zm, Nat.le_succ_of_le h.nr, Nat.le_succ_of_le h.nz, ?_, fun z q => Nat.le_succ_of_le (h.ne z q)⟩, ?_⟩
  · intro x hx
    rcases List.mem_append.1 hx with hx | hx
    · exact h.li x hx
    · have : x = r := by simpa using hx
      rw [this]; exact hr
  · have := h.nl; simp; omega
  · exact ((((Tch.refl base pb w).gr g h.le).grown hg h2.le (fun j hj => (own_block_lt h2.lr j hj).1)).set (Or.inl rfl) _).set (Or.inl rfl) _

theorem PAt.addZone {w W2 W3 : World} {base pb n : Nat} {p : BkS} {v0 v1 v2 v' : Value} {zs : List ZonD} {nm : ByteArray} (h : PAt w base pb n p v0 v1 v2 zs) (g : Gr w W2) (ho : Own W3 base 47 2 ZonD.cells v' (zs ++ [⟨nm, none, 0, []⟩])) (hg : W2.grownBy W3 v1.ownBlock) (hr : nm.size ≤ maxLen) :
    PAt ((W3.setCell ⟨pb, 1, none⟩ v').setCell ⟨pb, 3, none⟩ (.int .i64 1)) base pb (n + 1) { p with zs := p.zs ++ [(nm, [])], st := 1 } v0 v' v2 (zs ++ [⟨nm, none, 0, []⟩]) ∧ Tch base pb w ((W3.setCell ⟨pb, 1, none⟩ v').setCell ⟨pb, 3, none⟩ (.int .i64 1)) := by
  have h2 := h.gr g
  have hz : base ≤ W3.heap.size := Nat.le_trans h2.le hg.size
  have z3 := h2.zz.other h2.zr (by decide) hg
  have z5 : ZsAt W3 base (zs ++ [⟨nm, none, 0, []⟩]) := by
    refine ⟨W3.heap.size, hz, Nat.le_refl _, fun z hz' => ?_, fun z hz' => ?_⟩
    · have hm : z ∈ zs := by simpa using hz'
      exact ⟨z3.base_le z hm, fun j hj => (own_block_lt (z3.base_le z hm).1 j hj).2⟩
    · have : z = ⟨nm, none, 0, []⟩ := by simpa using hz'.symm
      subst this
      exact ⟨Own.nil_ _ _ _ _ _, hr, fun e he => by cases he⟩
  have z4 := z5.far (q := ⟨pb, 1, none⟩) v' (zs_far_pb z5 h.lt)
  have b3 : W3.heap[pb]? = some (.cells #[v0, v1, v2, .int .i64 p.st] 67 (0, 0)) := (hg.block pb (Nat.lt_of_lt_of_le h2.lt h2.le) (pb_ne h2.zr h2.lt)).trans h2.blk
  refine ⟨⟨h.lt, set_lt (set_lt hz), blk_set (blk_set b3), ((h2.rs.kept hg (own_ne h2.rs h2.zr (by decide))).far _ (far_pb h2.rs h.lt)).far _ (far_pb h2.rs h.lt), (ho.far _ (far_pb ho h.lt)).far _ (far_pb ho h.lt), ((h2.lr.kept hg (own_ne h2.lr h2.zr (by decide))).far _ (far_pb h2.lr h.lt)).far _ (far_pb h2.lr h.lt), h.ri, h.li, z4.far _ (zs_far_pb z4 h.lt), ?_, Nat.le_succ_of_le h.nr, ?_, Nat.le_succ_of_le h.nl, fun z q => ?_⟩, ?_⟩
  · show (zs ++ [_]).map _ = p.zs ++ [(nm, [])]
    rw [List.map_append, h.zm]; rfl
  · have := h.nz; simp; omega
  · rcases List.mem_append.1 q with q | q
    · exact Nat.le_succ_of_le (h.ne z q)
    · have : z = ⟨nm, none, 0, []⟩ := by simpa using q
      rw [this]; exact Nat.zero_le _
  · exact ((((Tch.refl base pb w).gr g h.le).grown hg h2.le (fun j hj => (own_block_lt h2.zr j hj).1)).set (Or.inl rfl) _).set (Or.inl rfl) _

theorem PAt.setSt {w : World} {base pb n : Nat} {p : BkS} {v0 v1 v2 : Value} {zs : List ZonD} (k : Nat) (h : PAt w base pb n p v0 v1 v2 zs) : PAt (w.setCell ⟨pb, 3, none⟩ (.int .i64 (k : Int))) base pb n { p with st := k } v0 v1 v2 zs ∧ Tch base pb w (w.setCell ⟨pb, 3, none⟩ (.int .i64 (k : Int))) :=
  ⟨⟨h.lt, set_lt h.le, blk_set h.blk, h.rs.far _ (far_pb h.rs h.lt), h.zr.far _ (far_pb h.zr h.lt), h.lr.far _ (far_pb h.lr h.lt), h.ri, h.li, h.zz.far _ (zs_far_pb h.zz h.lt), h.zm, h.nr, h.nz, h.nl, h.ne⟩, (Tch.refl base pb w).set (Or.inl rfl) _⟩

/-- the last zone and where its eras lie -/
theorem ZsAt.last {w : World} {base : Nat} {zi : List ZonD} {z : ZonD} (h : ZsAt w base (zi ++ [z])) : ∃ bl, base ≤ bl ∧ bl ≤ w.heap.size ∧ (∀ x ∈ zi, ErAt w base x ∧ ∀ j, (Value.slice x.A x.eras.length x.c).ownBlock = some j → j < bl) ∧ ErAt w bl z := by
  obtain ⟨bl, h1, h2, h3, h4⟩ := h
  exact ⟨bl, h1, h2, fun x hx => h3 x (by simpa using hx), h4 z (by simp)⟩

theorem PAt.addEra {w W2 W3 : World} {base pb n g1 c1 g cap bl nz : Nat} {p : BkS} {v0 v2 : Value} {zi : List ZonD} {z : ZonD} {e : EraD} (h : PAt w base pb n p v0 (.slice (some ⟨g1, 0, none⟩) nz c1) v2 (zi ++ [z]))
    (h1 : base ≤ bl) (h2 : bl ≤ w.heap.size) (h3 : ∀ x ∈ zi, ErAt w base x ∧ ∀ j, (Value.slice x.A x.eras.length x.c).ownBlock = some j → j < bl) (h4 : ErAt w bl z) (gr : Gr w W2)
    (ho : Own W3 bl 44 5 EraD.cells (.slice (some ⟨g, 0, none⟩) (z.eras.length + 1) cap) (z.eras ++ [e])) (hg : W2.grownBy W3 (Value.slice z.A z.eras.length z.c).ownBlock) (he : e.In) :
    PAt (W3.setCell ⟨g1, zi.length * 2 + 1, none⟩ (.slice (some ⟨g, 0, none⟩) (z.eras.length + 1) cap)) base pb (n + 1) { p with zs := addE p.zs e } v0 (.slice (some ⟨g1, 0, none⟩) nz c1) v2 (zi ++ [⟨z.nm, some ⟨g, 0, none⟩, cap, z.eras ++ [e]⟩]) ∧
      Tch base pb w (W3.setCell ⟨g1, zi.length * 2 + 1, none⟩ (.slice (some ⟨g, 0, none⟩) (z.eras.length + 1) cap)) := by
  have k2 := h.gr gr
  have hz : base ≤ W3.heap.size := Nat.le_trans k2.le hg.size
  have e2 := h4.gr gr
  have g1b : base ≤ g1 := (own_block_lt k2.zr g1 rfl).1
  have r3 := k2.rs.kept hg (own_ne k2.rs e2.1 (by decide))
  have z3 := k2.zr.kept hg (own_ne k2.zr e2.1 (by decide))
  have l3 := k2.lr.kept hg (own_ne k2.lr e2.1 (by decide))
  have b3 : W3.heap[pb]? = some (.cells #[v0, .slice (some ⟨g1, 0, none⟩) nz c1, v2, .int .i64 p.st] 67 (0, 0)) := (hg.block pb (Nat.lt_of_lt_of_le k2.lt k2.le) (pb_ne e2.1 (Nat.lt_of_lt_of_le h.lt h1))).trans k2.blk
  have o3 : ∀ x ∈ zi, Own W3 base 44 5 EraD.cells (.slice x.A x.eras.length x.c) x.eras := fun x hx => (h3 x hx).1.1.gr gr |>.kept hg (by
    cases hv : (Value.slice x.A x.eras.length x.c).ownBlock with
    | none => exact Or.inl rfl
    | some j =>
      right
      intro q
      have a := (h3 x hx).2 j hv
      have b := (own_block_lt e2.1 j q.symm).1
      omega)
  refine ⟨⟨h.lt, set_lt hz, ?_, r3.far _ (own_ne r3 z3 (by decide)), Own.last zo_len z3 (by unfold ZonD.cells; simp) (by omega), l3.far _ (own_ne l3 z3 (by decide)), h.ri, h.li, ?_, ?_, Nat.le_succ_of_le h.nr, ?_, Nat.le_succ_of_le h.nl, fun x q => ?_⟩, ?_⟩
  · rw [heap_set_ne _ _ _ (show pb ≠ g1 by have := h.lt; omega)]; exact b3
  · refine ⟨bl, h1, set_lt (Nat.le_trans h2 (Nat.le_trans (Below.size gr) hg.size)), fun x hx => ?_, fun x hx => ?_⟩
    · have hm : x ∈ zi := by simpa using hx
      exact ⟨⟨(o3 x hm).far _ (own_ne (o3 x hm) z3 (by decide)), (h3 x hm).1.2⟩, (h3 x hm).2⟩
    · have : x = ⟨z.nm, some ⟨g, 0, none⟩, cap, z.eras ++ [e]⟩ := by simpa using hx.symm
      subst this
      refine ⟨?_, h4.2.1, fun y hy => ?_⟩
      · have := ho.far (q := ⟨g1, zi.length * 2 + 1, none⟩) (.slice (some ⟨g, 0, none⟩) (z.eras.length + 1) cap) (own_ne ho z3 (by decide))
        simpa using this
      · rcases List.mem_append.1 hy with hy | hy
        · exact h4.2.2 y hy
        · have : y = e := by simpa using hy
          rw [this]; exact he
  · show (zi ++ [_]).map _ = addE p.zs e
    rw [← h.zm, List.map_append, List.map_append]
    simp only [List.map_cons, List.map_nil]
    rw [addE_snoc]
  · have := h.nz; simp at this ⊢; omega
  · rcases List.mem_append.1 q with q | q
    · exact Nat.le_succ_of_le (h.ne x (List.mem_append_left _ q))
    · have : x = ⟨z.nm, some ⟨g, 0, none⟩, cap, z.eras ++ [e]⟩ := by simpa using q
      rw [this]
      have := h.ne z (by simp)
      simp; omega
  · exact (((Tch.refl base pb w).gr gr h.le).grown hg k2.le (fun j hj => Nat.le_trans h1 (own_block_lt e2.1 j hj).1)).set (Or.inr g1b) _
end Go.Proofs.YtmemgpmijphkmaaGreatDoor
namespace Go.Proofs.YtmemgpmijphkmaaGreatDoor
open Go
set_option linter.unusedVariables false
section
variable {P : Program} {ops : Array Oper} {Q : Exit → Act → World → Prop} {md : Region.Mode} {T : World → Prop} {k : Nat}
/-- the last one has come up, or the world is as it is tto be -/
def Till (k : Nat) (T : World → Prop) (L : Array Bool) (w : World) : Prop := L.getD k true = true ∨ T w
/-- whatever order is picked from here on; behind each operation, but the last one, T is so -/
def wpTill (P : Program) (md : Region.Mode) (ops : Array Oper) (Q : Exit → Act → World → Prop) (k : Nat) (T : World → Prop) : Nat → Array Bool → Act → World → Prop
  | 0, L, a, w => Region.ready md ops L = [] ∧ Q .normal a w
  | n + 1, L, a, w => (Region.ready md ops L = [] → Q .normal a w) ∧
    ∀ i ∈ Region.ready md ops L, wpOp P ops Q i (fun a' w' => Till k T (L.setIfInBounds i true) w' ∧ wpTill P md ops Q k T n (L.setIfInBounds i true) a' w') a w
theorem till_any : ∀ (n : Nat) (L : Array Bool) (a : Act) (w : World), wpTill P md ops Q k T n L a w → wpAny P md ops Q n L a w
  | 0, _, _, _, h => h
  | n + 1, _, _, _, h => ⟨h.1, fun i hi => wpOp_mono (fun a' w' q => till_any n _ a' w' q.2) (h.2 i hi)⟩
/-- does the last one wait for i? -/
def waits (md : Region.Mode) (ops : Array Oper) (k i : Nat) : Bool := match ops[k]? with
  | some o => o.after.any fun e => Region.binds md e && e.on == i
  | none => false
theorem till_first {i : Nat} {oi : Oper} {v : Value} (hi : ops[i]? = some oi) (hsel : ∀ (j : Nat) (o : Oper) cs b, ops[j]? = some o → o.op ≠ .select cs b)
    (hQ : ∀ c a w, Q (.panic c) (a.put oi.dst v) w → Q (.panic c) a w) (hki : k ≠ i) (hw : waits md ops k i = true) :
    ∀ (n : Nat) (L : Array Bool) (a : Act) (w : World), L.getD k true = false →
      (∀ j oj, ops[j]? = some oj → j ≠ i → L.getD j true = false → (∀ e ∈ oj.after, Region.binds md e = true → e.on ≠ i) → oi.apart ops oj = true) →
      i ∈ Region.ready md ops L → YieldsIf P ops T oi v a → T w →
      wpTill P md ops Q k T n (L.setIfInBounds i true) (a.put oi.dst v) w → wpTill P md ops Q k T (n + 1) L a w := by
  intro n
  induction n with
  | zero =>
    intro L a w hk _ hr hy hT H
    refine ⟨fun h => (by rw [h] at hr; cases hr), fun j hj => ?_⟩
    by_cases hji : j = i
    · subst hji; exact hy.wpOp hi hT ⟨Or.inr hT, H⟩
    · have := ready_mono hj hji
      rw [H.1] at this
      cases this
  | succ n ih =>
    intro L a w hk hfree hr hy hT H
    refine ⟨fun h => (by rw [h] at hr; cases hr), fun j hj => ?_⟩
    by_cases hji : j = i
    · subst hji; exact hy.wpOp hi hT ⟨Or.inr hT, H⟩
    · have h1 := H.2 j (ready_mono hj hji)
      obtain ⟨hjun, oj, hoj, hall⟩ := mem_ready.1 hj
      have hnot : ∀ e ∈ oj.after, Region.binds md e = true → e.on ≠ i := fun e he hb heq => by
        have g1 := hall e he hb
        have g0 := (mem_ready.1 hr).1
        rw [heq] at g1
        rcases Nat.lt_or_ge i L.size with h' | h'
        · simp [h'] at g0 g1; rw [g0] at g1; cases g1
        · simp [Array.getElem?_eq_none h'] at g1
      have hjk : j ≠ k := fun e => by
        subst e
        unfold waits at hw
        rw [hoj] at hw
        simp only [Array.any_eq_true', Bool.and_eq_true, beq_iff_eq] at hw
        obtain ⟨e, he, hb, ho⟩ := hw
        exact hnot e he hb ho
      have hk' : (L.setIfInBounds j true).getD k true = false := by rw [getD_set_ne true hjk]; exact hk
      have hk2 : ((L.setIfInBounds i true).setIfInBounds j true).getD k true = false := by rw [getD_set_ne true hjk, getD_set_ne true (Ne.symm hki)]; exact hk
      have h1' := wpOp_mono (K' := fun a' w' => T w' ∧ wpTill P md ops Q k T n ((L.setIfInBounds i true).setIfInBounds j true) a' w') (fun a' w' q => ⟨q.1.resolve_left (by rw [hk2]; simp), q.2⟩) h1
      have h2 := wpOp_putIf hoj (hfree j oj hoj hji hjun hnot) (fun cs b => hsel i oi cs b hi) (fun cs b => hsel j oj cs b hoj) hQ hy h1'
      have hfree' : ∀ m om, ops[m]? = some om → m ≠ i → (L.setIfInBounds j true).getD m true = false → (∀ e ∈ om.after, Region.binds md e = true → e.on ≠ i) → oi.apart ops om = true := fun m om hm hmi hun hno => by
        refine hfree m om hm hmi ?_ hno
        by_cases hjm : j = m
        · subst hjm; exact hjun
        · rw [getD_set_ne true hjm] at hun; exact hun
      refine wpOp_mono (fun a' w' h3 => ⟨Or.inr h3.2.1, ih (L.setIfInBounds j true) a' w' hk' hfree' (ready_mono hr (Ne.symm hji)) h3.1 h3.2.1 ?_⟩) h2
      rw [Array.setIfInBounds_comm _ _ hji]
      exact h3.2.2
/-- take number i first -/
theorem till_take {i : Nat} {oi : Oper} {v : Value} {n : Nat} {L : Array Bool} {a : Act} {w : World} (hi : ops[i]? = some oi) (hs : Region.noSelect ops = true) (hf : Region.free md ops L i = true) (hr : (Region.ready md ops L).contains i = true)
    (hki : (L.getD k true == false && k != i && waits md ops k i) = true) (hQ : ∀ c a w, Q (.panic c) (a.put oi.dst v) w → Q (.panic c) a w) (hy : YieldsIf P ops T oi v a) (hT : T w)
    (h : wpTill P md ops Q k T n (L.setIfInBounds i true) (a.put oi.dst v) w) : wpTill P md ops Q k T (n + 1) L a w := by
  simp only [Bool.and_eq_true, bne_iff_ne, beq_iff_eq] at hki
  exact till_first hi (Region.noSelect_spec hs) hQ hki.1.2 hki.2 n L a w hki.1.1 (Region.free_spec hi hf) (by simpa using hr) hy hT h
/-- one of those that may come up comes up; the step is handed over behind a letter -/
theorem till_one {i : Nat} {o : Oper} {n : Nat} {L : Array Bool} {a : Act} {w : World} (hr : Region.ready md ops L = [i]) (ho : ops[i]? = some o)
    (h : ∀ K' : Act → World → Prop, Shut (∀ a w, Till k T (L.setIfInBounds i true) w → wpTill P md ops Q k T n (L.setIfInBounds i true) a w → K' a w) → if Region.wanted o (yielded ops a.tmps) = true then Oper.wp P o a w K' Q else K' (a.put o.dst undef) w) :
    wpTill P md ops Q k T (n + 1) L a w :=
  ⟨(fun h0 => by rw [hr] at h0; cases h0), fun j hj => by
    rw [hr] at hj
    obtain rfl : j = i := by simpa using hj
    exact wpOp_step ho (fun K' hK => h K' (fun a w hS hW => hK a w ⟨hS, hW⟩))⟩
/-- one of two comes up -/
theorem till_two {i j : Nat} {o o' : Oper} {n : Nat} {L : Array Bool} {a : Act} {w : World} (hr : Region.ready md ops L = [i, j]) (ho : ops[i]? = some o) (ho' : ops[j]? = some o')
    (h : ∀ K' : Act → World → Prop, Shut (∀ a w, Till k T (L.setIfInBounds i true) w → wpTill P md ops Q k T n (L.setIfInBounds i true) a w → K' a w) → if Region.wanted o (yielded ops a.tmps) = true then Oper.wp P o a w K' Q else K' (a.put o.dst undef) w)
    (h' : ∀ K' : Act → World → Prop, Shut (∀ a w, Till k T (L.setIfInBounds j true) w → wpTill P md ops Q k T n (L.setIfInBounds j true) a w → K' a w) → if Region.wanted o' (yielded ops a.tmps) = true then Oper.wp P o' a w K' Q else K' (a.put o'.dst undef) w) :
    wpTill P md ops Q k T (n + 1) L a w :=
  ⟨(fun h0 => by rw [hr] at h0; cases h0), fun m hm => by
    rw [hr] at hm
    have hm' : m = i ∨ m = j := by simpa using hm
    rcases hm' with rfl | rfl
    · exact wpOp_step ho (fun K' hK => h K' (fun a w hS hW => hK a w ⟨hS, hW⟩))
    · exact wpOp_step ho' (fun K' hK => h' K' (fun a w hS hW => hK a w ⟨hS, hW⟩))⟩
/-- all have come up -/
theorem till_done {L : Array Bool} {a : Act} {w : World} (hr : Region.ready md ops L = []) (h : Q .normal a w) : ∀ n, wpTill P md ops Q k T n L a w
  | 0 => ⟨hr, h⟩
  | _ + 1 => ⟨fun _ => h, by rw [hr]; simp⟩
/-- the beginning -/
theorem till_start {id : Nat} {a : Act} {w : World} (k : Nat) (T : World → Prop) (hm : P.follows .mixedOrders = true) (hT : T w.drew)
    (h : T w.drew → wpTill P .any ops Q k T ops.size (Array.replicate ops.size false) a w.drew) : (Code.region id ops true).wp P Q a w :=
  wp_region_any hm (till_any _ _ _ _ (h hT))
end
end Go.Proofs.YtmemgpmijphkmaaGreatDoor
