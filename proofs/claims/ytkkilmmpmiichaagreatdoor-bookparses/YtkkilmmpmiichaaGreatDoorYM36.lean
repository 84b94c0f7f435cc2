/- A book under way in memory: one rule, one zone, one link, one era more. No function of the program in it. What the project's checkEra and checkZone of package book return. -/
import Derived.Test.YtkkilmmpmiichaaGreatDoorYM35
import Derived.Test.YtkkilmmpmiichaaGreatDoorYM34
namespace Go.Proofs.YtkkilmmpmiichaaGreatDoor
set_option linter.unusedVariables false
set_option linter.unusedSimpArgs false
open Go.RowKit
theorem far_pb {α : Type} {w : World} {base k pb : Nat} {e : TypeId} {enc : α → List Value} {v : Value} {l : List α} (h : Own w base e k enc v l) (hp : pb < base) : v.ownBlock = none ∨ v.ownBlock ≠ some pb := by
  cases hv : v.ownBlock with
  | none => exact Or.inl rfl
  | some j => exact Or.inr (fun e => by have := (own_block_lt h j hv).1; injection e with e; omega)
theorem pb_ne {α : Type} {w : World} {base k pb : Nat} {e : TypeId} {enc : α → List Value} {v : Value} {l : List α} (h : Own w base e k enc v l) (hp : pb < base) : some pb ≠ v.ownBlock := fun e => by
  have := (own_block_lt h pb e.symm).1; omega
theorem zs_far_pb {w : World} {base pb : Nat} {zs : List ZonD} (h : ZsAt w base zs) (hp : pb < base) : ∀ z ∈ zs, (Value.slice z.A z.eras.length z.c).ownBlock = none ∨ (Value.slice z.A z.eras.length z.c).ownBlock ≠ some pb := fun z hz => far_pb (h.base_le z hz).1 hp
theorem set_lt {w : World} {q : Addr} {u : Value} {n : Nat} (h : n ≤ w.heap.size) : n ≤ (w.setCell q u).heap.size := by simpa [World.setCell] using h
theorem blk_set {w : World} {pb : Nat} {T : TypeId} {cs : Array Value} {j : Nat} {u : Value} (h : w.heap[pb]? = some (.cells cs T (0, 0))) : (w.setCell ⟨pb, j, none⟩ u).heap[pb]? = some (.cells (cs.setIfInBounds j u) T (0, 0)) := by
  rw [heap_setCell_same w pb j cs T u h]

theorem PAt.addRule {w W2 W3 : World} {base pb n : Nat} {p : BkS} {v0 v1 v2 v' : Value} {zs : List ZonD} {r : RuD} (h : PAt w base pb n p v0 v1 v2 zs) (g : Gr w W2) (ho : Own W3 base 42 11 RuD.cells v' (p.rs ++ [r])) (hg : W2.grownBy W3 v0.ownBlock) (hr : r.In) :
    PAt (W3.setCell ⟨pb, 0, none⟩ v') base pb (n + 1) { p with rs := p.rs ++ [r] } v' v1 v2 zs ∧ Tch base pb w (W3.setCell ⟨pb, 0, none⟩ v') := by
  have h2 := h.gr g
  have hz : base ≤ W3.heap.size := Nat.le_trans h2.le hg.size
  have z3 := h2.zz.other h2.rs (by decide) hg
  have b3 : W3.heap[pb]? = some (.cells #[v0, v1, v2, .int .i64 p.st] 35 (0, 0)) := (hg.block pb (Nat.lt_of_lt_of_le h2.lt h2.le) (pb_ne h2.rs h2.lt)).trans h2.blk
  refine ⟨⟨h.lt, set_lt hz, blk_set b3, ho.far _ (far_pb ho h.lt), (h2.zr.kept hg (own_ne h2.zr h2.rs (by decide))).far _ (far_pb h2.zr h.lt), (h2.lr.kept hg (own_ne h2.lr h2.rs (by decide))).far _ (far_pb h2.lr h.lt), ?_, h.li, z3.far _ (zs_far_pb z3 h.lt), h.zm, ?_, Nat.le_succ_of_le h.nz, Nat.le_succ_of_le h.nl, fun z q => Nat.le_succ_of_le (h.ne z q)⟩, ?_⟩
  · intro x hx
    rcases List.mem_append.1 hx with hx | hx
    · exact h.ri x hx
    · have : x = r := by simpa using hx
      rw [this]; exact hr
  · have := h.nr; simp; omega
  · exact (((Tch.refl base pb w).gr g h.le).grown hg h2.le (fun j hj => (own_block_lt h2.rs j hj).1)).set (Or.inl rfl) _

theorem PAt.addLink {w W2 W3 : World} {base pb n : Nat} {p : BkS} {v0 v1 v2 v' : Value} {zs : List ZonD} {r : LinD} (h : PAt w base pb n p v0 v1 v2 zs) (g : Gr w W2) (ho : Own W3 base 49 2 LinD.cells v' (p.ls ++ [r])) (hg : W2.grownBy W3 v2.ownBlock) (hr : r.In) :
    PAt ((W3.setCell ⟨pb, 2, none⟩ v').setCell ⟨pb, 3, none⟩ (.int .i64 3)) base pb (n + 1) { p with ls := p.ls ++ [r], st := 3 } v0 v1 v' zs ∧ Tch base pb w ((W3.setCell ⟨pb, 2, none⟩ v').setCell ⟨pb, 3, none⟩ (.int .i64 3)) := by
  have h2 := h.gr g
  have hz : base ≤ W3.heap.size := Nat.le_trans h2.le hg.size
  have z3 := h2.zz.other h2.lr (by decide) hg
  have z4 := z3.far (q := ⟨pb, 2, none⟩) v' (zs_far_pb z3 h.lt)
  have b3 : W3.heap[pb]? = some (.cells #[v0, v1, v2, .int .i64 p.st] 35 (0, 0)) := (hg.block pb (Nat.lt_of_lt_of_le h2.lt h2.le) (pb_ne h2.lr h2.lt)).trans h2.blk
  refine ⟨⟨h.lt, set_lt (set_lt hz), blk_set (blk_set b3), ((h2.rs.kept hg (own_ne h2.rs h2.lr (by decide))).far _ (far_pb h2.rs h.lt)).far _ (far_pb h2.rs h.lt), ((h2.zr.kept hg (own_ne h2.zr h2.lr (by decide))).far _ (far_pb h2.zr h.lt)).far _ (far_pb h2.zr h.lt), (ho.far _ (far_pb ho h.lt)).far _ (far_pb ho h.lt), h.ri, ?_, z4.far _ (zs_far_pb z4 h.lt), h.zm, Nat.le_succ_of_le h.nr, Nat.le_succ_of_le h.nz, ?_, fun z q => Nat.le_succ_of_le (h.ne z q)⟩, ?_⟩
  · intro x hx
    rcases List.mem_append.1 hx with hx | hx
    · exact h.li x hx
    · have : x = r := by simpa using hx
      rw [this]; exact hr
  · have := h.nl; simp; omega
  · exact ((((Tch.refl base pb w).gr g h.le).grown hg h2.le (fun j hj => (own_block_lt h2.lr j hj).1)).set (Or.inl rfl) _).set (Or.inl rfl) _

theorem PAt.addZone {w W2 W3 : World} {base pb n : Nat} {p : BkS} {v0 v1 v2 v' : Value} {zs : List ZonD} {nm : ByteArray} (h : PAt w base pb n p v0 v1 v2 zs) (g : Gr w W2) (ho : Own W3 base 47 2 ZonD.cells v' (zs ++ [⟨nm, none, 0, []⟩])) (hg : W2.grownBy W3 v1.ownBlock) (hr : nm.size ≤ maxLen) :
    PAt ((W3.setCell ⟨pb, 1, none⟩ v').setCell ⟨pb, 3, none⟩ (.int .i64 1)) base pb (n + 1) { p with zs := p.zs ++ [(nm, [])], st := 1 } v0 v' v2 (zs ++ [⟨nm, none, 0, []⟩]) ∧ Tch base pb w ((W3.setCell ⟨pb, 1, none⟩ v').setCell ⟨pb, 3, none⟩ (.int .i64 1)) := by
  have h2 := h.gr g
  have hz : base ≤ W3.heap.size := Nat.le_trans h2.le hg.size
  have z3 := h2.zz.other h2.zr (by decide) hg
  have z5 : ZsAt W3 base (zs ++ [⟨nm, none, 0, []⟩]) := by
    refine ⟨W3.heap.size, hz, Nat.le_refl _, fun z hz' => ?_, fun z hz' => ?_⟩
    · have hm : z ∈ zs := by simpa using hz'
      exact ⟨z3.base_le z hm, fun j hj => (own_block_lt (z3.base_le z hm).1 j hj).2⟩
    · have : z = ⟨nm, none, 0, []⟩ := by simpa using hz'.symm
      subst this
      exact ⟨Own.nil_ _ _ _ _ _, hr, fun e he => by cases he⟩
  have z4 := z5.far (q := ⟨pb, 1, none⟩) v' (zs_far_pb z5 h.lt)
  have b3 : W3.heap[pb]? = some (.cells #[v0, v1, v2, .int .i64 p.st] 35 (0, 0)) := (hg.block pb (Nat.lt_of_lt_of_le h2.lt h2.le) (pb_ne h2.zr h2.lt)).trans h2.blk
  refine ⟨⟨h.lt, set_lt (set_lt hz), blk_set (blk_set b3), ((h2.rs.kept hg (own_ne h2.rs h2.zr (by decide))).far _ (far_pb h2.rs h.lt)).far _ (far_pb h2.rs h.lt), (ho.far _ (far_pb ho h.lt)).far _ (far_pb ho h.lt), ((h2.lr.kept hg (own_ne h2.lr h2.zr (by decide))).far _ (far_pb h2.lr h.lt)).far _ (far_pb h2.lr h.lt), h.ri, h.li, z4.far _ (zs_far_pb z4 h.lt), ?_, Nat.le_succ_of_le h.nr, ?_, Nat.le_succ_of_le h.nl, fun z q => ?_⟩, ?_⟩
  · show (zs ++ [_]).map _ = p.zs ++ [(nm, [])]
    rw [List.map_append, h.zm]; rfl
  · have := h.nz; simp; omega
  · rcases List.mem_append.1 q with q | q
    · exact Nat.le_succ_of_le (h.ne z q)
    · have : z = ⟨nm, none, 0, []⟩ := by simpa using q
      rw [this]; exact Nat.zero_le _
  · exact ((((Tch.refl base pb w).gr g h.le).grown hg h2.le (fun j hj => (own_block_lt h2.zr j hj).1)).set (Or.inl rfl) _).set (Or.inl rfl) _

theorem PAt.setSt {w : World} {base pb n : Nat} {p : BkS} {v0 v1 v2 : Value} {zs : List ZonD} (k : Nat) (h : PAt w base pb n p v0 v1 v2 zs) : PAt (w.setCell ⟨pb, 3, none⟩ (.int .i64 (k : Int))) base pb n { p with st := k } v0 v1 v2 zs ∧ Tch base pb w (w.setCell ⟨pb, 3, none⟩ (.int .i64 (k : Int))) :=
  ⟨⟨h.lt, set_lt h.le, blk_set h.blk, h.rs.far _ (far_pb h.rs h.lt), h.zr.far _ (far_pb h.zr h.lt), h.lr.far _ (far_pb h.lr h.lt), h.ri, h.li, h.zz.far _ (zs_far_pb h.zz h.lt), h.zm, h.nr, h.nz, h.nl, h.ne⟩, (Tch.refl base pb w).set (Or.inl rfl) _⟩

/-- the last zone and where its eras lie -/
theorem ZsAt.last {w : World} {base : Nat} {zi : List ZonD} {z : ZonD} (h : ZsAt w base (zi ++ [z])) : ∃ bl, base ≤ bl ∧ bl ≤ w.heap.size ∧ (∀ x ∈ zi, ErAt w base x ∧ ∀ j, (Value.slice x.A x.eras.length x.c).ownBlock = some j → j < bl) ∧ ErAt w bl z := by
  obtain ⟨bl, h1, h2, h3, h4⟩ := h
  exact ⟨bl, h1, h2, fun x hx => h3 x (by simpa using hx), h4 z (by simp)⟩

theorem PAt.addEra {w W2 W3 : World} {base pb n g1 c1 g cap bl nz : Nat} {p : BkS} {v0 v2 : Value} {zi : List ZonD} {z : ZonD} {e : EraD} (h : PAt w base pb n p v0 (.slice (some ⟨g1, 0, none⟩) nz c1) v2 (zi ++ [z]))
    (h1 : base ≤ bl) (h2 : bl ≤ w.heap.size) (h3 : ∀ x ∈ zi, ErAt w base x ∧ ∀ j, (Value.slice x.A x.eras.length x.c).ownBlock = some j → j < bl) (h4 : ErAt w bl z) (gr : Gr w W2)
    (ho : Own W3 bl 52 5 EraD.cells (.slice (some ⟨g, 0, none⟩) (z.eras.length + 1) cap) (z.eras ++ [e])) (hg : W2.grownBy W3 (Value.slice z.A z.eras.length z.c).ownBlock) (he : e.In) :
    PAt (W3.setCell ⟨g1, zi.length * 2 + 1, none⟩ (.slice (some ⟨g, 0, none⟩) (z.eras.length + 1) cap)) base pb (n + 1) { p with zs := addE p.zs e } v0 (.slice (some ⟨g1, 0, none⟩) nz c1) v2 (zi ++ [⟨z.nm, some ⟨g, 0, none⟩, cap, z.eras ++ [e]⟩]) ∧
      Tch base pb w (W3.setCell ⟨g1, zi.length * 2 + 1, none⟩ (.slice (some ⟨g, 0, none⟩) (z.eras.length + 1) cap)) := by
  have k2 := h.gr gr
  have hz : base ≤ W3.heap.size := Nat.le_trans k2.le hg.size
  have e2 := h4.gr gr
  have g1b : base ≤ g1 := (own_block_lt k2.zr g1 rfl).1
  have r3 := k2.rs.kept hg (own_ne k2.rs e2.1 (by decide))
  have z3 := k2.zr.kept hg (own_ne k2.zr e2.1 (by decide))
  have l3 := k2.lr.kept hg (own_ne k2.lr e2.1 (by decide))
  have b3 : W3.heap[pb]? = some (.cells #[v0, .slice (some ⟨g1, 0, none⟩) nz c1, v2, .int .i64 p.st] 35 (0, 0)) := (hg.block pb (Nat.lt_of_lt_of_le k2.lt k2.le) (pb_ne e2.1 (Nat.lt_of_lt_of_le h.lt h1))).trans k2.blk
  have o3 : ∀ x ∈ zi, Own W3 base 52 5 EraD.cells (.slice x.A x.eras.length x.c) x.eras := fun x hx => (h3 x hx).1.1.gr gr |>.kept hg (by
    cases hv : (Value.slice x.A x.eras.length x.c).ownBlock with
    | none => exact Or.inl rfl
    | some j =>
      right
      intro q
      have a := (h3 x hx).2 j hv
      have b := (own_block_lt e2.1 j q.symm).1
      omega)
  refine ⟨⟨h.lt, set_lt hz, ?_, r3.far _ (own_ne r3 z3 (by decide)), Own.last zo_len z3 (by unfold ZonD.cells; simp) (by omega), l3.far _ (own_ne l3 z3 (by decide)), h.ri, h.li, ?_, ?_, Nat.le_succ_of_le h.nr, ?_, Nat.le_succ_of_le h.nl, fun x q => ?_⟩, ?_⟩
  · rw [heap_set_ne _ _ _ (show pb ≠ g1 by have := h.lt; omega)]; exact b3
  · refine ⟨bl, h1, set_lt (Nat.le_trans h2 (Nat.le_trans (Below.size gr) hg.size)), fun x hx => ?_, fun x hx => ?_⟩
    · have hm : x ∈ zi := by simpa using hx
      exact ⟨⟨(o3 x hm).far _ (own_ne (o3 x hm) z3 (by decide)), (h3 x hm).1.2⟩, (h3 x hm).2⟩
    · have : x = ⟨z.nm, some ⟨g, 0, none⟩, cap, z.eras ++ [e]⟩ := by simpa using hx.symm
      subst this
      refine ⟨?_, h4.2.1, fun y hy => ?_⟩
      · have := ho.far (q := ⟨g1, zi.length * 2 + 1, none⟩) (.slice (some ⟨g, 0, none⟩) (z.eras.length + 1) cap) (own_ne ho z3 (by decide))
        simpa using this
      · rcases List.mem_append.1 hy with hy | hy
        · exact h4.2.2 y hy
        · have : y = e := by simpa using hy
          rw [this]; exact he
  · show (zi ++ [_]).map _ = addE p.zs e
    rw [← h.zm, List.map_append, List.map_append]
    simp only [List.map_cons, List.map_nil]
    rw [addE_snoc]
  · have := h.nz; simp at this ⊢; omega
  · rcases List.mem_append.1 q with q | q
    · exact Nat.le_succ_of_le (h.ne x (List.mem_append_left _ q))
    · have : x = ⟨z.nm, some ⟨g, 0, none⟩, cap, z.eras ++ [e]⟩ := by simpa using q
      rw [this]
      have := h.ne z (by simp)
      simp; omega
  · exact (((Tch.refl base pb w).gr gr h.le).grown hg k2.le (fun j hj => Nat.le_trans h1 (own_block_lt e2.1 j hj).1)).set (Or.inr g1b) _
end Go.Proofs.YtkkilmmpmiichaaGreatDoor
namespace Go.Proofs.YtkkilmmpmiichaaGreatDoor
set_option linter.unusedVariables false
set_option linter.unusedSimpArgs false
open Go.RowKit
theorem str_nil {s : ByteArray} (h : s.toList = []) : s = ⟨#[]⟩ := by rw [S_of s, h]; rfl
theorem str_nonnil {s : ByteArray} (h : ¬ s.toList = []) : (¬ s = ⟨#[]⟩) ∧ (s.toList == []) = false ∧ (s.toList != []) = true := by
  refine ⟨fun e => h (by rw [e]; exact lit0), ?_, ?_⟩
  · cases hs : s.toList with
    | nil => exact absurd hs h
    | cons a b => rfl
  · cases hs : s.toList with
    | nil => exact absurd hs h
    | cons a b => rfl

set_option maxHeartbeats 8000000 in
theorem pcheckEra (b : BokD) (e : EraD) (w : World) (hb : RusAt w b.Ar b.cr b.rs) (ht : BkTab w) :
    Calls Tryz.prog 63 #[bookV b, eraV e] w fun e' w' => e' = .returned (.int .i64 (eraA b.rs e)) ∧ Gr w w' := by
  have KR := Lib.hid (fun w hb ht => pcheckRules b e w hb ht)
  obtain ⟨Ar, cr, rs, Az, cz, zs, Al, cl, ls⟩ := b
  obtain ⟨eo, ru, sv, fm, un⟩ := e
  have HR := Lib.hid hb
  have HT := Lib.hid ht
  have KD := Lib.hid (fun w hm => abbrDash fm sv w hm)
  have KS := Lib.hid (fun w => isSave_any sv w)
  have EA : Hid (eraA rs ⟨eo, ru, sv, fm, un⟩ = if eo < -64800 ∨ 64800 < eo ∨ svB sv = false then 1 else if ru.toList = [] then abbrC fm sv dash else if sv ≠ 0 then 5 else rulC rs ⟨eo, ru, sv, fm, un⟩) := rfl
  show Calls _ _ _ _ fun e' w' => e' = .returned (.int .i64 (eraA rs ⟨eo, ru, sv, fm, un⟩)) ∧ Gr w w'
  generalize eraA rs ⟨eo, ru, sv, fm, un⟩ = C at EA ⊢
  simp only at KR HR
  generalize rulC rs ⟨eo, ru, sv, fm, un⟩ = C2 at EA KR
  clear hb ht
  have B0 := Lib.hid (box_two w (.cells #[.slice Ar rs.length cr, .slice Az zs.length cz, .slice Al ls.length cl] 68) (.cells #[.int .i64 eo, .string ru, .int .i64 sv, .string fm, .int .i64 un] 52))
  by_cases q1 : eo < -64800
  · have E : Hid (C = 1) := by unfold Hid; rw [EA.out, if_pos (Or.inl q1)]
    clear EA
    go_enter Tryz.func63, Tryz.ntmps63
    go_wp2_with fail
    go_ret
    exact ⟨ret_int E.out.symm, B0.out.1⟩
  by_cases q2 : 64800 < eo
  · have E : Hid (C = 1) := by unfold Hid; rw [EA.out, if_pos (Or.inr (Or.inl q2))]
    have q1' := ltF q1
    clear EA
    go_enter Tryz.func63, Tryz.ntmps63
    go_wp2_with fail
    go_ret
    exact ⟨ret_int E.out.symm, B0.out.1⟩
  have q1' := ltF q1
  have q2' := ltF q2
  have EA2 : Hid (C = if svB sv = false then 1 else if ru.toList = [] then abbrC fm sv dash else if sv ≠ 0 then 5 else C2) := by
    unfold Hid; rw [EA.out]
    cases svB sv with
    | false => rw [if_pos (Or.inr (Or.inr rfl)), if_pos rfl]
    | true => rw [if_neg (show ¬ (eo < -64800 ∨ 64800 < eo ∨ true = false) by simp [q1, q2])]; exact (if_neg (by simp)).symm
  clear EA
  generalize svB sv = bs at KS EA2
  cases bs with
  | false =>
    have E : Hid (C = 1) := by unfold Hid; rw [EA2.out, if_pos rfl]
    clear EA2
    go_enter Tryz.func63, Tryz.ntmps63
    go_wp2_with fail
    refine (KS.out _).mono ?_
    rintro e w1 ⟨rfl, rfl⟩
    go_wp2_with fail
    go_ret
    exact ⟨ret_int E.out.symm, B0.out.1⟩
  | true =>
  have EA3 : Hid (C = if ru.toList = [] then abbrC fm sv dash else if sv ≠ 0 then 5 else C2) := by unfold Hid; rw [EA2.out, if_neg (by simp)]
  clear EA2
  by_cases hru : ru.toList = []
  · have E : Hid (C = abbrC fm sv dash) := by unfold Hid; rw [EA3.out, if_pos hru]
    obtain rfl := str_nil hru
    clear EA3 hru
    go_enter Tryz.func63, Tryz.ntmps63
    go_wp2_with fail
    refine (KS.out _).mono ?_
    rintro e w1 ⟨rfl, rfl⟩
    go_wp2_with fail
    generalize (w.alloc (.cells #[.slice Ar rs.length cr, .slice Az zs.length cz, .slice Al ls.length cl] 68)).alloc (.cells #[.int .i64 eo, .string ⟨#[]⟩, .int .i64 sv, .string fm, .int .i64 un] 52) = w0 at B0 ⊢
    refine (KD.out w0 (B0.out.1.max HT.out.2.2)).mono ?_
    rintro e w1 ⟨rfl, g1⟩
    go_wp2_with fail
    go_ret
    exact ⟨ret_int E.out.symm, B0.out.1.trans g1⟩
  obtain ⟨n1, n2, n3⟩ := str_nonnil hru
  by_cases h0 : sv = 0
  · have E : Hid (C = C2) := by unfold Hid; rw [EA3.out, if_neg hru, if_neg (by simp [h0])]
    have t0 := bneF h0
    clear EA3 hru h0
    go_enter Tryz.func63, Tryz.ntmps63
    go_wp2_with fail
    refine (KS.out _).mono ?_
    rintro e w1 ⟨rfl, rfl⟩
    go_wp2_with fail
    generalize (w.alloc (.cells #[.slice Ar rs.length cr, .slice Az zs.length cz, .slice Al ls.length cl] 68)).alloc (.cells #[.int .i64 eo, .string ru, .int .i64 sv, .string fm, .int .i64 un] 52) = w0 at B0 ⊢
    refine (KR.out w0 (HR.out.gr B0.out.1) (B0.out.1.bk HT.out)).mono ?_
    rintro e w1 ⟨rfl, g1⟩
    go_wp2_with fail
    go_ret
    exact ⟨ret_int E.out.symm, B0.out.1.trans g1⟩
  · have E : Hid (C = 5) := by unfold Hid; rw [EA3.out, if_neg hru, if_pos h0]
    have t0 := bneT h0
    clear EA3 hru h0
    go_enter Tryz.func63, Tryz.ntmps63
    go_wp2_with fail
    refine (KS.out _).mono ?_
    rintro e w1 ⟨rfl, rfl⟩
    go_wp2_with fail
    go_ret
    exact ⟨ret_int E.out.symm, B0.out.1⟩

set_option maxHeartbeats 8000000 in
theorem pcheckZone (b : BokD) (i : Nat) (w : World) (hb : b.At w) (hi : i < b.zs.length) (ht : BkTab w) :
    Calls Tryz.prog 33 #[bookV b, .int .i64 i] w fun e' w' => e' = .returned (.int .i64 (zonC b.rs b.zs i)) ∧ Gr w w' := by
  have KE := Lib.hid (fun e w hb ht => pcheckEra b e w hb ht)
  obtain ⟨Ar, cr, rs, Az, cz, zs, Al, cl, ls⟩ := b
  have HR : Hid (RusAt w Ar cr rs) := hb.1
  have hl : zs.length ≤ maxLen := Nat.le_trans hb.2.1.1.1 hb.2.1.1.2
  have hlc : zs.length ≤ cz := hb.2.1.1.1
  have hcc : cz ≤ maxLen := hb.2.1.1.2
  have HRow : Hid (Row w 2 ZonD.cells Az zs) := hb.2.1.2.1
  obtain ⟨⟨nm, eA, ec, es⟩, hz⟩ := get_lt hi
  have hzat := hb.2.1.2.2 _ (get_mem hz)
  have hn : nm.size ≤ maxLen := hzat.1
  have hel : es.length ≤ maxLen := Nat.le_trans hzat.2.1.1 hzat.2.1.2
  have HErow : Hid (Row w 5 EraD.cells eA es) := hzat.2.2.1
  have HEin : Hid (∀ e ∈ es, e.In) := hzat.2.2.2
  have ZC : Hid (zonC rs zs i = if isNameB nm.toList = false then 3 else if hasZ (zs.take i) nm = true then 7 else if es.length = 0 then 5 else if 700 < es.length then 2 else fe (eraC rs es) es.length) := zonC_at hz
  have KN := Lib.hid (fun w => pname_any nm w hn)
  have KC := Lib.hid (fun B w h hc => con_z1 Az i cz (zs.take i) nm B w (by rw [List.length_take]; simp only at hi; omega) (by simp only at hi; omega) h hc)
  have KU := Lib.hid (fun k w h hk ht => pcheckUntil eA es.length ec es k w rfl hel h hzat.2.2.2 hk ht)
  have HT := Lib.hid ht
  show Calls _ _ _ _ fun e' w' => e' = .returned (.int .i64 (zonC rs zs i)) ∧ Gr w w'
  generalize zonC rs zs i = C at ZC ⊢
  have B0 := Lib.hid (box_two w (.cells #[.slice Ar rs.length cr, .slice Az zs.length cz, .slice Al ls.length cl] 68) (.cells #[.string nm, .slice eA es.length ec] 47))
  obtain ⟨b, off, rfl, c0, c1⟩ := HRow.out.two hz rfl (Gr.alloc w (.cells #[.slice Ar rs.length cr, .slice Az zs.length cz, .slice Al ls.length cl] 68))
  unfold maxLen at hl hel hcc
  have hi' : i < zs.length := hi
  clear hb ht hz hzat hn hi
  have i0 : (0 : Int) ≤ (i : Int) := by omega
  have i1 : (i : Int) < (zs.length : Int) := by omega
  have i2 : (i : Int) ≤ (cz : Int) := by omega
  go_enter Tryz.func33, Tryz.ntmps33
  go_wp2_with fail
  generalize (w.alloc (.cells #[.slice Ar rs.length cr, .slice (some ⟨b, off, none⟩) zs.length cz, .slice Al ls.length cl] 68)).alloc (.cells #[.string nm, .slice eA es.length ec] 47) = w0 at B0 ⊢
  clear c0 c1
  generalize w.heap.size = q at B0 ⊢
  have G0 := Lib.hid B0.out.1
  have HB1 := Lib.hid B0.out.2.1
  have HB2 := Lib.hid B0.out.2.2
  clear B0
  generalize isNameB nm.toList = bn at KN ZC
  refine (KN.out w0).mono ?_
  rintro e w1 ⟨rfl, rfl⟩
  cases bn with
  | false =>
    have E : Hid (C = 3) := by unfold Hid; rw [ZC.out, if_pos rfl]
    clear ZC
    go_wp2_with fail
    go_ret
    exact ⟨ret_int E.out.symm, G0.out⟩
  | true =>
  have ZC2 : Hid (C = if hasZ (zs.take i) nm = true then 7 else if es.length = 0 then 5 else if 700 < es.length then 2 else fe (eraC rs es) es.length) := by unfold Hid; rw [ZC.out, if_neg (by simp)]
  clear ZC KN
  have y1 : w0.cell? ⟨q, 1, none⟩ = some (.slice (some ⟨b, off, none⟩) zs.length cz) := bcell_row HB1.out rfl
  go_wp2_with fail
  clear y1
  refine (KC.out (q + 1) w0 ((HRow.out.gr G0.out).take i) (bcell_row HB2.out rfl)).mono ?_
  rintro e w1 ⟨rfl, g1⟩
  have G1 := Lib.hid (G0.out.trans g1)
  have HC1 := Lib.hid (bheap_gr g1 HB1.out)
  have HC2 := Lib.hid (bheap_gr g1 HB2.out)
  clear G0 HB1 HB2 g1 KC HRow
  generalize hasZ (zs.take i) nm = bz at ZC2
  cases bz with
  | true =>
    have E : Hid (C = 7) := by unfold Hid; rw [ZC2.out, if_pos rfl]
    clear ZC2
    go_wp2_with fail
    go_ret
    exact ⟨ret_int E.out.symm, G1.out⟩
  | false =>
  have ZC3 : Hid (C = if es.length = 0 then 5 else if 700 < es.length then 2 else fe (eraC rs es) es.length) := by unfold Hid; rw [ZC2.out, if_neg (by simp)]
  clear ZC2
  have y1 : w1.cell? ⟨q + 1, 1, none⟩ = some (.slice eA es.length ec) := bcell_row HC2.out rfl
  by_cases e0 : es.length = 0
  · have E : Hid (C = 5) := by unfold Hid; rw [ZC3.out, if_pos e0]
    have t0 : ((es.length : Int) == 0) = true := beqT (by omega)
    clear ZC3 e0
    go_wp2_with fail
    go_ret
    exact ⟨ret_int E.out.symm, G1.out⟩
  have t0 : ((es.length : Int) == 0) = false := beqF (by omega)
  by_cases e7 : 700 < es.length
  · have E : Hid (C = 2) := by unfold Hid; rw [ZC3.out, if_neg e0, if_pos e7]
    have t7 : decide (700 < (es.length : Int)) = true := ltT (by omega)
    clear ZC3 e0
    go_wp2_with fail
    go_ret
    exact ⟨ret_int E.out.symm, G1.out⟩
  have t7 : decide (700 < (es.length : Int)) = false := ltF (by omega)
  have ZC4 : Hid (C = fe (eraC rs es) es.length) := by unfold Hid; rw [ZC3.out, if_neg e0, if_neg e7]
  clear ZC3 e0 e7
  go_wp2_with fail
  clear y1 t0 t7
  have EC : Hid (∀ k e, es[k]? = some e → eraC rs es k = if eraA rs e = 0 then untC es k else eraA rs e) := fun k e h => eraC_at h
  have F0 : Hid (fe (eraC rs es) 0 = 0) := rfl
  have FS : Hid (∀ k, fe (eraC rs es) k = 0 → eraC rs es k = 0 → fe (eraC rs es) (k + 1) = 0) := fun k a b => fe_step a b
  have FH : Hid (∀ k, k < es.length → fe (eraC rs es) k = 0 → eraC rs es k ≠ 0 → C = eraC rs es k) := fun k hk a b => ZC4.out.trans (fe_hit a b _ hk)
  generalize eraC rs es = fc at ZC4 EC F0 FS FH
  go_loopw [44] (fun i W => ∃ k : Nat, k ≤ es.length ∧ i = .int .i64 k ∧ Hid (fe fc k = 0) ∧ Hid (Gr w1 W)) (fun i W => es.length - (intOf i).toNat)
  case atStart => exact ⟨0, Nat.zero_le _, rfl, F0, Gr.refl _⟩
  case round =>
    obtain ⟨k, hk, rfl, hf, hg⟩ := hrel
    by_cases hlt : k < es.length
    · obtain ⟨x, hx⟩ := get_lt hlt
      have RK := Lib.hid (EC.out k x hx)
      have FK := Lib.hid (FS.out k hf.out)
      have HK := Lib.hid (FH.out k hlt hf.out)
      have KX := Lib.hid (fun w hb ht => KE.out x w hb ht)
      have KY := Lib.hid (fun w h ht => KU.out k w h hlt ht)
      obtain ⟨eo, ru, sv, fm, un⟩ := x
      have GR := Lib.hid (G1.out.trans hg.out)
      obtain ⟨eb, eoff, rfl, c0, c1, c2, c3, c4⟩ := HErow.out.five hx rfl GR.out
      have HNB := Lib.hid (box_one wr (.cells #[.int .i64 eo, .string ru, .int .i64 sv, .string fm, .int .i64 un] 52))
      have D1 := Lib.hid (bheap_gr hg.out HC1.out)
      have D2 := Lib.hid (bheap_gr hg.out HC2.out)
      have v0 : wr.cell? ⟨q, 0, none⟩ = some (.slice Ar rs.length cr) := bcell_row D1.out rfl
      have v1 : wr.cell? ⟨q, 1, none⟩ = some (.slice (some ⟨b, off, none⟩) zs.length cz) := bcell_row D1.out rfl
      have v2 : wr.cell? ⟨q, 2, none⟩ = some (.slice Al ls.length cl) := bcell_row D1.out rfl
      have qq : q < wr.heap.size := World.block_lt_of_cell? wr ⟨q, 0, none⟩ v0
      have qn : ¬ q = wr.heap.size := by omega
      clear hx EC FS FH KE KU HEin
      go_wp2_with fail
      generalize wr.alloc (.cells #[.int .i64 eo, .string ru, .int .i64 sv, .string fm, .int .i64 un] 52) = w2 at HNB ⊢
      clear c0 c1 c2 c3 c4 v0 v1 v2 qn qq
      generalize wr.heap.size = q2 at HNB ⊢
      have G2 := Lib.hid (GR.out.trans HNB.out.1)
      refine (KX.out w2 (HR.out.gr G2.out) (G2.out.bk HT.out)).mono ?_
      rintro e w3 ⟨rfl, g3⟩
      have G3 := Lib.hid (G2.out.trans g3)
      have D3 := Lib.hid (bheap_gr (HNB.out.1.trans g3) D2.out)
      have GW := Lib.hid (hg.out.trans (HNB.out.1.trans g3))
      clear KX G2 g3 HNB D1 D2 GR
      generalize eraA rs ⟨eo, ru, sv, fm, un⟩ = ea at RK
      by_cases h0 : ea = 0
      · have t0 := bneF h0
        have RK2 : Hid (fc k = untC es k) := by unfold Hid; rw [RK.out, if_pos h0]
        have y1 : w3.cell? ⟨q + 1, 1, none⟩ = some (.slice (some ⟨eb, eoff, none⟩) es.length ec) := bcell_row D3.out rfl
        clear RK h0
        go_wp2_with fail
        clear y1
        refine (KY.out w3 (HErow.out.gr G3.out) (G3.out.bk HT.out)).mono ?_
        rintro e w4 ⟨rfl, g4⟩
        clear KY
        generalize untC es k = uc at RK2
        by_cases h1 : uc = 0
        · have t1 := bneF h1
          have Z : Hid (fc k = 0) := by unfold Hid; rw [RK2.out]; exact h1
          clear RK2 HK h1
          go_wp2_with fail
          go_roundw
          case rel => exact ⟨k + 1, by omega, by go_num, FK.out Z.out, GW.out.trans g4⟩
          case measure => simp [intOf]; omega
        · have t1 := bneT h1
          have E : Hid (C = uc) := by unfold Hid; rw [HK.out (by rw [RK2.out]; exact h1), RK2.out]
          clear RK2 HK h1
          go_wp2_with fail
          go_ret
          exact ⟨ret_int E.out.symm, G3.out.trans g4⟩
      · have t0 := bneT h0
        have RK2 : Hid (fc k = ea) := by unfold Hid; rw [RK.out, if_neg h0]
        have E : Hid (C = ea) := by unfold Hid; rw [HK.out (by rw [RK2.out]; exact h0), RK2.out]
        clear RK RK2 HK h0
        go_wp2_with fail
        go_ret
        exact ⟨ret_int E.out.symm, G3.out⟩
    · have e : k = es.length := by omega
      have E : Hid (C = 0) := by unfold Hid; rw [ZC4.out, ← e]; exact hf.out
      clear e hf
      go_wp2_with fail
      go_ret
      exact ⟨ret_int E.out.symm, G1.out.trans hg.out⟩
end Go.Proofs.YtkkilmmpmiichaaGreatDoor
