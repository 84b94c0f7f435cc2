/- A book under way in memory, as the reference's BookParse holds it: its block, its rows, one rule, zone, link, era more. No function of the program in it. -/
import Derived.Test.YtkkilmmpmiichaaGreatDoorYM36
import Derived.Test.YtkkilmmpmiichaaGreatDoorYM46
namespace Go.Proofs.YtkkilmmpmiichaaGreatDoor
set_option linter.unusedVariables false
set_option linter.unusedSimpArgs false
open Go.RowKit
/-- the book under way: its block, its rows -/
structure QAt (w : World) (base pb n : Nat) (p : BkS) (v0 v1 v2 : Value) (zs : List ZonD) : Prop where
  lt : pb < base
  le : base ≤ w.heap.size
  blk : w.heap[pb]? = some (.cells #[v0, v1, v2] 26 (0, 0))
  rs : Own w base 42 11 RuD.cells v0 p.rs
  zr : Own w base 47 2 ZonD.cells v1 zs
  lr : Own w base 49 2 LinD.cells v2 p.ls
  ri : ∀ r ∈ p.rs, r.In
  li : ∀ x ∈ p.ls, x.In
  zz : ZsAt w base zs
  zm : zs.map (fun z => (z.nm, z.eras)) = p.zs
  nr : p.rs.length ≤ n
  nz : zs.length ≤ n
  nl : p.ls.length ≤ n
  ne : ∀ z ∈ zs, z.eras.length ≤ n
/-- .. somewhere -/
def QSt (w : World) (base pb n : Nat) (p : BkS) : Prop := ∃ v0 v1 v2 zs, QAt w base pb n p v0 v1 v2 zs
theorem QAt.gr {w w' : World} {base pb n : Nat} {p : BkS} {v0 v1 v2 : Value} {zs : List ZonD} (h : QAt w base pb n p v0 v1 v2 zs) (g : Gr w w') : QAt w' base pb n p v0 v1 v2 zs :=
  { h with le := Nat.le_trans h.le (Below.size g), blk := bheap_gr g h.blk, rs := h.rs.gr g, zr := h.zr.gr g, lr := h.lr.gr g, zz := h.zz.gr g }
theorem QAt.more {w : World} {base pb n m : Nat} {p : BkS} {v0 v1 v2 : Value} {zs : List ZonD} (h : QAt w base pb n p v0 v1 v2 zs) (hm : n ≤ m) : QAt w base pb m p v0 v1 v2 zs :=
  { h with nr := Nat.le_trans h.nr hm, nz := Nat.le_trans h.nz hm, nl := Nat.le_trans h.nl hm, ne := fun z hz => Nat.le_trans (h.ne z hz) hm }
/-- what the lines ended with stands in no cell -/
theorem QAt.st {w : World} {base pb n : Nat} {p : BkS} {v0 v1 v2 : Value} {zs : List ZonD} (h : QAt w base pb n p v0 v1 v2 zs) (k : Nat) : QAt w base pb n { p with st := k } v0 v1 v2 zs := { h with }
theorem QAt.addRule {w W2 W3 : World} {base pb n : Nat} {p : BkS} {v0 v1 v2 v' : Value} {zs : List ZonD} {r : RuD} (h : QAt w base pb n p v0 v1 v2 zs) (g : Gr w W2) (ho : Own W3 base 42 11 RuD.cells v' (p.rs ++ [r])) (hg : W2.grownBy W3 v0.ownBlock) (hr : r.In) :
    QAt (W3.setCell ⟨pb, 0, none⟩ v') base pb (n + 1) { p with rs := p.rs ++ [r] } v' v1 v2 zs ∧ Tch base pb w (W3.setCell ⟨pb, 0, none⟩ v') := by
  have h2 := h.gr g
  have hz : base ≤ W3.heap.size := Nat.le_trans h2.le hg.size
  have z3 := h2.zz.other h2.rs (by decide) hg
  have b3 : W3.heap[pb]? = some (.cells #[v0, v1, v2] 26 (0, 0)) := (hg.block pb (Nat.lt_of_lt_of_le h2.lt h2.le) (pb_ne h2.rs h2.lt)).trans h2.blk
  refine ⟨⟨h.lt, set_lt hz, blk_set b3, ho.far _ (far_pb ho h.lt), (h2.zr.kept hg (own_ne h2.zr h2.rs (by decide))).far _ (far_pb h2.zr h.lt), (h2.lr.kept hg (own_ne h2.lr h2.rs (by decide))).far _ (far_pb h2.lr h.lt), ?_, h.li, z3.far _ (zs_far_pb z3 h.lt), h.zm, ?_, Nat.le_succ_of_le h.nz, Nat.le_succ_of_le h.nl, fun z q => Nat.le_succ_of_le (h.ne z q)⟩, ?_⟩
  · intro x hx
    rcases List.mem_append.1 hx with hx | hx
    · exact h.ri x hx
    · have : x = r := by simpa using hx
      rw [this]; exact hr
  · have := h.nr; simp; omega
  · exact (((Tch.refl base pb w).gr g h.le).grown hg h2.le (fun j hj => (own_block_lt h2.rs j hj).1)).set (Or.inl rfl) _

theorem QAt.addLink {w W2 W3 : World} {base pb n : Nat} {p : BkS} {v0 v1 v2 v' : Value} {zs : List ZonD} {r : LinD} (h : QAt w base pb n p v0 v1 v2 zs) (g : Gr w W2) (ho : Own W3 base 49 2 LinD.cells v' (p.ls ++ [r])) (hg : W2.grownBy W3 v2.ownBlock) (hr : r.In) :
    QAt (W3.setCell ⟨pb, 2, none⟩ v') base pb (n + 1) { p with ls := p.ls ++ [r], st := 3 } v0 v1 v' zs ∧ Tch base pb w (W3.setCell ⟨pb, 2, none⟩ v') := by
  have h2 := h.gr g
  have hz : base ≤ W3.heap.size := Nat.le_trans h2.le hg.size
  have z3 := h2.zz.other h2.lr (by decide) hg
  have b3 : W3.heap[pb]? = some (.cells #[v0, v1, v2] 26 (0, 0)) := (hg.block pb (Nat.lt_of_lt_of_le h2.lt h2.le) (pb_ne h2.lr h2.lt)).trans h2.blk
  refine ⟨⟨h.lt, set_lt hz, blk_set b3, (h2.rs.kept hg (own_ne h2.rs h2.lr (by decide))).far _ (far_pb h2.rs h.lt), (h2.zr.kept hg (own_ne h2.zr h2.lr (by decide))).far _ (far_pb h2.zr h.lt), ho.far _ (far_pb ho h.lt), h.ri, ?_, z3.far _ (zs_far_pb z3 h.lt), h.zm, Nat.le_succ_of_le h.nr, Nat.le_succ_of_le h.nz, ?_, fun z q => Nat.le_succ_of_le (h.ne z q)⟩, ?_⟩
  · intro x hx
    rcases List.mem_append.1 hx with hx | hx
    · exact h.li x hx
    · have : x = r := by simpa using hx
      rw [this]; exact hr
  · have := h.nl; simp; omega
  · exact (((Tch.refl base pb w).gr g h.le).grown hg h2.le (fun j hj => (own_block_lt h2.lr j hj).1)).set (Or.inl rfl) _

theorem QAt.addZone {w W2 W3 : World} {base pb n : Nat} {p : BkS} {v0 v1 v2 v' : Value} {zs : List ZonD} {nm : ByteArray} (h : QAt w base pb n p v0 v1 v2 zs) (g : Gr w W2) (ho : Own W3 base 47 2 ZonD.cells v' (zs ++ [⟨nm, none, 0, []⟩])) (hg : W2.grownBy W3 v1.ownBlock) (hr : nm.size ≤ maxLen) :
    QAt (W3.setCell ⟨pb, 1, none⟩ v') base pb (n + 1) { p with zs := p.zs ++ [(nm, [])], st := 1 } v0 v' v2 (zs ++ [⟨nm, none, 0, []⟩]) ∧ Tch base pb w (W3.setCell ⟨pb, 1, none⟩ v') := by
  have h2 := h.gr g
  have hz : base ≤ W3.heap.size := Nat.le_trans h2.le hg.size
  have z3 := h2.zz.other h2.zr (by decide) hg
  have z5 : ZsAt W3 base (zs ++ [⟨nm, none, 0, []⟩]) := by
    refine ⟨W3.heap.size, hz, Nat.le_refl _, fun z hz' => ?_, fun z hz' => ?_⟩
    · have hm : z ∈ zs := by simpa using hz'
      exact ⟨z3.base_le z hm, fun j hj => (own_block_lt (z3.base_le z hm).1 j hj).2⟩
    · have : z = ⟨nm, none, 0, []⟩ := by simpa using hz'.symm
      subst this
      exact ⟨Own.nil_ _ _ _ _ _, hr, fun e he => by cases he⟩
  have b3 : W3.heap[pb]? = some (.cells #[v0, v1, v2] 26 (0, 0)) := (hg.block pb (Nat.lt_of_lt_of_le h2.lt h2.le) (pb_ne h2.zr h2.lt)).trans h2.blk
  refine ⟨⟨h.lt, set_lt hz, blk_set b3, (h2.rs.kept hg (own_ne h2.rs h2.zr (by decide))).far _ (far_pb h2.rs h.lt), ho.far _ (far_pb ho h.lt), (h2.lr.kept hg (own_ne h2.lr h2.zr (by decide))).far _ (far_pb h2.lr h.lt), h.ri, h.li, z5.far _ (zs_far_pb z5 h.lt), ?_, Nat.le_succ_of_le h.nr, ?_, Nat.le_succ_of_le h.nl, fun z q => ?_⟩, ?_⟩
  · show (zs ++ [_]).map _ = p.zs ++ [(nm, [])]
    rw [List.map_append, h.zm]; rfl
  · have := h.nz; simp; omega
  · rcases List.mem_append.1 q with q | q
    · exact Nat.le_succ_of_le (h.ne z q)
    · have : z = ⟨nm, none, 0, []⟩ := by simpa using q
      rw [this]; exact Nat.zero_le _
  · exact (((Tch.refl base pb w).gr g h.le).grown hg h2.le (fun j hj => (own_block_lt h2.zr j hj).1)).set (Or.inl rfl) _

theorem QAt.addEra {w W2 W3 : World} {base pb n g1 c1 g cap bl nz : Nat} {p : BkS} {v0 v2 : Value} {zi : List ZonD} {z : ZonD} {e : EraD} (h : QAt w base pb n p v0 (.slice (some ⟨g1, 0, none⟩) nz c1) v2 (zi ++ [z]))
    (h1 : base ≤ bl) (h2 : bl ≤ w.heap.size) (h3 : ∀ x ∈ zi, ErAt w base x ∧ ∀ j, (Value.slice x.A x.eras.length x.c).ownBlock = some j → j < bl) (h4 : ErAt w bl z) (gr : Gr w W2)
    (ho : Own W3 bl 52 5 EraD.cells (.slice (some ⟨g, 0, none⟩) (z.eras.length + 1) cap) (z.eras ++ [e])) (hg : W2.grownBy W3 (Value.slice z.A z.eras.length z.c).ownBlock) (he : e.In) :
    QAt (W3.setCell ⟨g1, zi.length * 2 + 1, none⟩ (.slice (some ⟨g, 0, none⟩) (z.eras.length + 1) cap)) base pb (n + 1) { p with zs := addE p.zs e } v0 (.slice (some ⟨g1, 0, none⟩) nz c1) v2 (zi ++ [⟨z.nm, some ⟨g, 0, none⟩, cap, z.eras ++ [e]⟩]) ∧
      Tch base pb w (W3.setCell ⟨g1, zi.length * 2 + 1, none⟩ (.slice (some ⟨g, 0, none⟩) (z.eras.length + 1) cap)) := by
  have k2 := h.gr gr
  have hz : base ≤ W3.heap.size := Nat.le_trans k2.le hg.size
  have e2 := h4.gr gr
  have g1b : base ≤ g1 := (own_block_lt k2.zr g1 rfl).1
  have r3 := k2.rs.kept hg (own_ne k2.rs e2.1 (by decide))
  have z3 := k2.zr.kept hg (own_ne k2.zr e2.1 (by decide))
  have l3 := k2.lr.kept hg (own_ne k2.lr e2.1 (by decide))
  have b3 : W3.heap[pb]? = some (.cells #[v0, .slice (some ⟨g1, 0, none⟩) nz c1, v2] 26 (0, 0)) := (hg.block pb (Nat.lt_of_lt_of_le k2.lt k2.le) (pb_ne e2.1 (Nat.lt_of_lt_of_le h.lt h1))).trans k2.blk
  have o3 : ∀ x ∈ zi, Own W3 base 52 5 EraD.cells (.slice x.A x.eras.length x.c) x.eras := fun x hx => (h3 x hx).1.1.gr gr |>.kept hg (by
    cases hv : (Value.slice x.A x.eras.length x.c).ownBlock with
    | none => exact Or.inl rfl
    | some j =>
      right
      intro q
      have a := (h3 x hx).2 j hv
      have b := (own_block_lt e2.1 j q.symm).1
      omega)
  refine ⟨⟨h.lt, set_lt hz, ?_, r3.far _ (own_ne r3 z3 (by decide)), Own.last zo_len z3 (by unfold ZonD.cells; simp) (by omega), l3.far _ (own_ne l3 z3 (by decide)), h.ri, h.li, ?_, ?_, Nat.le_succ_of_le h.nr, ?_, Nat.le_succ_of_le h.nl, fun x q => ?_⟩, ?_⟩
  · rw [heap_set_ne _ _ _ (show pb ≠ g1 by have := h.lt; omega)]; exact b3
  · refine ⟨bl, h1, set_lt (Nat.le_trans h2 (Nat.le_trans (Below.size gr) hg.size)), fun x hx => ?_, fun x hx => ?_⟩
    · have hm : x ∈ zi := by simpa using hx
      exact ⟨⟨(o3 x hm).far _ (own_ne (o3 x hm) z3 (by decide)), (h3 x hm).1.2⟩, (h3 x hm).2⟩
    · have : x = ⟨z.nm, some ⟨g, 0, none⟩, cap, z.eras ++ [e]⟩ := by simpa using hx.symm
      subst this
      refine ⟨?_, h4.2.1, fun y hy => ?_⟩
      · have := ho.far (q := ⟨g1, zi.length * 2 + 1, none⟩) (.slice (some ⟨g, 0, none⟩) (z.eras.length + 1) cap) (own_ne ho z3 (by decide))
        simpa using this
      · rcases List.mem_append.1 hy with hy | hy
        · exact h4.2.2 y hy
        · have : y = e := by simpa using hy
          rw [this]; exact he
  · show (zi ++ [_]).map _ = addE p.zs e
    rw [← h.zm, List.map_append, List.map_append]
    simp only [List.map_cons, List.map_nil]
    rw [addE_snoc]
  · have := h.nz; simp at this ⊢; omega
  · rcases List.mem_append.1 q with q | q
    · exact Nat.le_succ_of_le (h.ne x (List.mem_append_left _ q))
    · have : x = ⟨z.nm, some ⟨g, 0, none⟩, cap, z.eras ++ [e]⟩ := by simpa using q
      rw [this]
      have := h.ne z (by simp)
      simp; omega
  · exact (((Tch.refl base pb w).gr gr h.le).grown hg k2.le (fun j hj => Nat.le_trans h1 (own_block_lt e2.1 j hj).1)).set (Or.inr g1b) _
/-- the book as a value -/
theorem QAt.forms {W : World} {base pb n : Nat} {p : BkS} {v0 v1 v2 : Value} {zs : List ZonD} (h : QAt W base pb n p v0 v1 v2 zs) : ∃ Ar cr Az cz Al cl, v0 = .slice Ar p.rs.length cr ∧ v1 = .slice Az zs.length cz ∧ v2 = .slice Al p.ls.length cl := by
  obtain ⟨Ar, cr, e0, _⟩ := h.rs.form
  obtain ⟨Az, cz, e1, _⟩ := h.zr.form
  obtain ⟨Al, cl, e2, _⟩ := h.lr.form
  exact ⟨Ar, cr, Az, cz, Al, cl, e0, e1, e2⟩
theorem QAt.at' {W : World} {base pb n cr cz cl : Nat} {Ar Az Al : Option Addr} {p : BkS} {zs : List ZonD} (h : QAt W base pb n p (.slice Ar p.rs.length cr) (.slice Az zs.length cz) (.slice Al p.ls.length cl) zs) :
    BokD.At W ⟨Ar, cr, p.rs, Az, cz, zs, Al, cl, p.ls⟩ ∧ BokD.Is ⟨Ar, cr, p.rs, Az, cz, zs, Al, cl, p.ls⟩ p := by
  have sl : ∀ {α : Type} {w : World} {bs k c : Nat} {e : TypeId} {enc : α → List Value} {A : Option Addr} {l : List α}, Own w bs e k enc (.slice A l.length c) l → SlOk l.length c := fun h => by
    obtain ⟨A', c', e', d1, d2, _⟩ := h.form
    injection e' with _ _ ec
    subst ec
    exact ⟨d1, d2⟩
  refine ⟨⟨⟨sl h.rs, h.rs.row ru_len, h.ri⟩, ⟨sl h.zr, h.zr.row zo_len, fun z hz => ?_⟩, ⟨sl h.lr, h.lr.row li_len, h.li⟩⟩, rfl, h.zm, rfl⟩
  have hz' := h.zz.base_le z hz
  exact ⟨hz'.2.1, sl hz'.1, hz'.1.row er_len, hz'.2.2⟩
theorem QAt.farq {W : World} {base pb n : Nat} {p : BkS} {v0 v1 v2 : Value} {zs : List ZonD} (h : QAt W base pb n p v0 v1 v2 zs) {q : Addr} (hq : q.block < base) (hp : q.block ≠ pb) (u : Value) : QAt (W.setCell q u) base pb n p v0 v1 v2 zs :=
  ⟨h.lt, set_lt h.le, (heap_set_ne W q u (Ne.symm hp)).trans h.blk, h.rs.far _ (far_pb h.rs hq), h.zr.far _ (far_pb h.zr hq), h.lr.far _ (far_pb h.lr hq), h.ri, h.li, h.zz.far _ (zs_far_pb h.zz hq), h.zm, h.nr, h.nz, h.nl, h.ne⟩
theorem QAt.first {w : World} {base pb : Nat} (h : w.heap[pb]? = some (.cells #[.slice none 0 0, .slice none 0 0, .slice none 0 0] 26 (0, 0))) (hp : pb < base) (hb : base ≤ w.heap.size) : QSt w base pb 0 BkS.zero :=
  ⟨_, _, _, [], hp, hb, h, Own.nil_ _ _ _ _ _, Own.nil_ _ _ _ _ _, Own.nil_ _ _ _ _ _, (fun r hr => by cases hr), (fun r hr => by cases hr), ⟨base, Nat.le_refl _, hb, (fun z hz => by cases hz), (fun z hz => by cases hz)⟩, rfl, Nat.le_refl _, Nat.le_refl _, Nat.le_refl _, (fun z hz => by cases hz)⟩

end Go.Proofs.YtkkilmmpmiichaaGreatDoor
