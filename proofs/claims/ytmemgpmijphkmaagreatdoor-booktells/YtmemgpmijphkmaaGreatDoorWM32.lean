/- A book under way in memory: what the parser of package book holds, and how it is kept. No function of the program in it. A book under way in memory: one rule, one zone, one link, one era more. No function of the program in it. -/
import Derived.Deep.AppendLies
import Derived.Laws.Rows
import Derived.Test.YtmemgpmijphkmaaGreatDoorWM27
import Derived.Test.YtmemgpmijphkmaaGreatDoorWM31
namespace Go.Proofs.YtmemgpmijphkmaaGreatDoor
set_option linter.unusedVariables false
set_option linter.unusedSimpArgs false
open Go.RowKit
/-- what lay below B, but for block p, lies so still -/
structure Tch (B p : Nat) (a w : World) : Prop where
  os : w.os = a.os
  tape : w.tape = a.tape
  output : w.output = a.output
  size : a.heap.size ≤ w.heap.size
  block : ∀ i, i < B → i ≠ p → w.heap[i]? = a.heap[i]?
theorem Tch.refl (B p : Nat) (w : World) : Tch B p w w := ⟨rfl, rfl, rfl, Nat.le_refl _, fun _ _ _ => rfl⟩
theorem Tch.trans {B p : Nat} {a b c : World} (h : Tch B p a b) (k : Tch B p b c) : Tch B p a c :=
  ⟨k.os.trans h.os, k.tape.trans h.tape, k.output.trans h.output, Nat.le_trans h.size k.size, fun i hi hp => (k.block i hi hp).trans (h.block i hi hp)⟩
theorem Tch.gr {B p : Nat} {a b c : World} (h : Tch B p a b) (g : Gr b c) (hB : B ≤ b.heap.size) : Tch B p a c :=
  h.trans ⟨g.os, g.tape, g.output, Below.size g, fun i hi _ => g.block i (Nat.lt_of_lt_of_le hi hB)⟩
theorem Tch.set {B p : Nat} {a w : World} (h : Tch B p a w) {q : Addr} (hq : q.block = p ∨ B ≤ q.block) (u : Value) : Tch B p a (w.setCell q u) :=
  h.trans ⟨rfl, rfl, rfl, by simp [World.setCell], fun i hi hp => Below.heap_setCell w q u i (by rintro rfl; rcases hq with e | e <;> omega)⟩
theorem Tch.grown {B p : Nat} {a w w' : World} (h : Tch B p a w) {row : Option Nat} (g : w.grownBy w' row) (hB : B ≤ w.heap.size) (hr : ∀ j, row = some j → B ≤ j) : Tch B p a w' :=
  h.trans ⟨g.os, g.tape, g.output, g.size, fun i hi hp => g.block i (Nat.lt_of_lt_of_le hi hB) (fun e => by have := hr _ e.symm; omega)⟩
theorem Tch.cell {B p : Nat} {a w : World} (h : Tch B p a w) {b o : Nat} (hb : b < B) (hp : b ≠ p) : w.cell? ⟨b, o, none⟩ = a.cell? ⟨b, o, none⟩ := World.cell?_of_block (h.block b hb hp)
theorem Tch.below {B p : Nat} {a w x : World} (h : Tch B p a w) (g : Gr x a) (hp : x.heap.size ≤ p) (hB : x.heap.size ≤ B) : Gr x w :=
  ⟨h.os.trans g.os, h.tape.trans g.tape, h.output.trans g.output, Nat.le_trans (Below.size g) h.size, fun i hi => (h.block i (by omega) (by omega)).trans (g.block i hi)⟩

theorem heap_set_ne (w : World) (q : Addr) (u : Value) {i : Nat} (h : i ≠ q.block) : (w.setCell q u).heap[i]? = w.heap[i]? := Below.heap_setCell w q u i h
section
variable {α β : Type} {w w' : World} {base base' k k' : Nat} {e e' : TypeId} {enc : α → List Value} {enc' : β → List Value} {v v' : Value} {l : List α} {l' : List β}
/-- rows of different types lie apart -/
theorem own_ne (h : Own w base e k enc v l) (h' : Own w base' e' k' enc' v' l') (hne : e ≠ e') : v.ownBlock = none ∨ v.ownBlock ≠ v'.ownBlock := by
  rcases h.2 with ⟨rfl, _⟩ | ⟨g, cap, cur, rfl, _, hh, _⟩
  · exact Or.inl rfl
  · right
    rcases h'.2 with ⟨rfl, _⟩ | ⟨g', cap', cur', rfl, _, hh', _⟩
    · simp [Value.ownBlock]
    · simp only [Value.ownBlock]
      intro q
      injection q with q
      subst q
      rw [hh] at hh'
      injection hh' with hh'
      injection hh' with _ ht
      exact hne ht
theorem Own.kept {row : Option Nat} (h : Own w base e k enc v l) (hg : w.grownBy w' row) (hne : v.ownBlock = none ∨ v.ownBlock ≠ row) : Own w' base e k enc v l := World.ownsRow.kept h hg hne
theorem Own.less {b2 : Nat} (h : Own w base e k enc v l) (hb : b2 ≤ base) : Own w b2 e k enc v l := by
  refine ⟨h.1, ?_⟩
  rcases h.2 with hn | ⟨g, cap, cur, rfl, hbb, rest⟩
  · exact Or.inl hn
  · exact Or.inr ⟨g, cap, cur, rfl, Nat.le_trans hb hbb, rest⟩
/-- a store elsewhere -/
theorem Own.far (h : Own w base e k enc v l) {q : Addr} (u : Value) (hq : v.ownBlock = none ∨ v.ownBlock ≠ some q.block) : Own (w.setCell q u) base e k enc v l := by
  refine ⟨h.1, ?_⟩
  rcases h.2 with hn | ⟨g, cap, cur, rfl, hbb, hg, rest⟩
  · exact Or.inl hn
  · refine Or.inr ⟨g, cap, cur, rfl, hbb, ?_, rest⟩
    rw [heap_set_ne w q u (fun e => by
      rcases hq with hq | hq
      · cases hq
      · exact hq (by rw [e]; rfl))]
    exact hg
/-- the last thing of a row has turned -/
theorem Own.last {x y : α} {g n c j : Nat} {u : Value} (hk : ∀ z, (enc z).length = k) (h : Own w base e k enc (.slice (some ⟨g, 0, none⟩) n c) (l ++ [x])) (hy : (enc x).set j u = enc y) (hj : j < k) :
    Own (w.setCell ⟨g, l.length * k + j, none⟩ u) base e k enc (.slice (some ⟨g, 0, none⟩) n c) (l ++ [y]) := by
  rcases h.2 with ⟨hn, _⟩ | ⟨g', cap, cur, hv, hbb, hg, h1, h2, h3, h4⟩
  · cases hn
  · injection hv with hA hn hc
    injection hA with hA
    injection hA with hA
    subst hA; subst hn; subst hc
    have hlen := h.1
    have hcur : (l.length + 1) * k ≤ cur.size := by
      rw [h3]; exact Nat.mul_le_mul_right _ (by simp at h1; omega)
    have hin : l.length * k + j < cur.size := by
      have : (l.length + 1) * k = l.length * k + k := by rw [Nat.add_mul, Nat.one_mul]
      omega
    refine ⟨by rw [flat_len hk], Or.inr ⟨g, c, cur.set! (l.length * k + j) u, by simp, hbb, ?_, by simpa using h1, h2, by simpa using h3, ?_⟩⟩
    · rw [heap_setCell_same w g (l.length * k + j) cur e u hg]
      simp [Array.set!]
    · have hl2 : (l ++ [y]).length = (l ++ [x]).length := by simp
      rw [hl2]
      have ht : (cur.set! (l.length * k + j) u).toList = cur.toList.set (l.length * k + j) u := by simp [Array.set!]
      rw [ht, List.take_set, h4, List.flatMap_append, List.flatMap_append]
      have fl := flat_len hk l
      rw [List.set_append_right _ _ (by omega)]
      simp only [List.flatMap_cons, List.flatMap_nil, List.append_nil]
      rw [show l.length * k + j - (l.flatMap enc).length = j by omega, hy]
end
/-- the eras of a zone, in a block of the call's own -/
def ErAt (w : World) (base : Nat) (z : ZonD) : Prop := Own w base 44 5 EraD.cells (.slice z.A z.eras.length z.c) z.eras ∧ z.nm.size ≤ maxLen ∧ ∀ e ∈ z.eras, e.In
/-- zones: the last one's eras lie behind the others' -/
def ZsAt (w : World) (base : Nat) (zs : List ZonD) : Prop := ∃ bl, base ≤ bl ∧ bl ≤ w.heap.size ∧ (∀ z ∈ zs.dropLast, ErAt w base z ∧ ∀ j, (Value.slice z.A z.eras.length z.c).ownBlock = some j → j < bl) ∧ ∀ z, zs.getLast? = some z → ErAt w bl z
/-- the book under way: the parser's block, its rows -/
structure PAt (w : World) (base pb n : Nat) (p : BkS) (v0 v1 v2 : Value) (zs : List ZonD) : Prop where
  lt : pb < base
  le : base ≤ w.heap.size
  blk : w.heap[pb]? = some (.cells #[v0, v1, v2, .int .i64 p.st] 67 (0, 0))
  rs : Own w base 56 11 RuD.cells v0 p.rs
  zr : Own w base 47 2 ZonD.cells v1 zs
  lr : Own w base 49 2 LinD.cells v2 p.ls
  ri : ∀ r ∈ p.rs, r.In
  li : ∀ x ∈ p.ls, x.In
  zz : ZsAt w base zs
  zm : zs.map (fun z => (z.nm, z.eras)) = p.zs
  nr : p.rs.length ≤ n
  nz : zs.length ≤ n
  nl : p.ls.length ≤ n
  ne : ∀ z ∈ zs, z.eras.length ≤ n
/-- .. somewhere -/
def PSt (w : World) (base pb n : Nat) (p : BkS) : Prop := ∃ v0 v1 v2 zs, PAt w base pb n p v0 v1 v2 zs
theorem ErAt.gr {w w' : World} {base : Nat} {z : ZonD} (h : ErAt w base z) (g : Gr w w') : ErAt w' base z := ⟨h.1.gr g, h.2⟩
theorem ZsAt.gr {w w' : World} {base : Nat} {zs : List ZonD} (h : ZsAt w base zs) (g : Gr w w') : ZsAt w' base zs := by
  obtain ⟨bl, h1, h2, h3, h4⟩ := h
  exact ⟨bl, h1, Nat.le_trans h2 (Below.size g), fun z hz => ⟨(h3 z hz).1.gr g, (h3 z hz).2⟩, fun z hz => (h4 z hz).gr g⟩
theorem PAt.gr {w w' : World} {base pb n : Nat} {p : BkS} {v0 v1 v2 : Value} {zs : List ZonD} (h : PAt w base pb n p v0 v1 v2 zs) (g : Gr w w') : PAt w' base pb n p v0 v1 v2 zs :=
  { h with le := Nat.le_trans h.le (Below.size g), blk := bheap_gr g h.blk, rs := h.rs.gr g, zr := h.zr.gr g, lr := h.lr.gr g, zz := h.zz.gr g }
theorem PAt.more {w : World} {base pb n m : Nat} {p : BkS} {v0 v1 v2 : Value} {zs : List ZonD} (h : PAt w base pb n p v0 v1 v2 zs) (hm : n ≤ m) : PAt w base pb m p v0 v1 v2 zs :=
  { h with nr := Nat.le_trans h.nr hm, nz := Nat.le_trans h.nz hm, nl := Nat.le_trans h.nl hm, ne := fun z hz => Nat.le_trans (h.ne z hz) hm }
/-- eras of zones where a row of another type has grown -/
theorem ZsAt.other {α : Type} {w w' : World} {base b2 k : Nat} {e : TypeId} {enc : α → List Value} {v : Value} {l : List α} {zs : List ZonD} (h : ZsAt w base zs) (ho : Own w b2 e k enc v l) (hne : 44 ≠ e) (g : w.grownBy w' v.ownBlock) : ZsAt w' base zs := by
  obtain ⟨bl, h1, h2, h3, h4⟩ := h
  exact ⟨bl, h1, Nat.le_trans h2 g.size, fun z hz => ⟨⟨(h3 z hz).1.1.kept g (own_ne (h3 z hz).1.1 ho hne), (h3 z hz).1.2⟩, (h3 z hz).2⟩, fun z hz => ⟨(h4 z hz).1.kept g (own_ne (h4 z hz).1 ho hne), (h4 z hz).2⟩⟩
/-- eras of zones where a cell of another block has turned -/
theorem ZsAt.far {w : World} {base : Nat} {zs : List ZonD} (h : ZsAt w base zs) {q : Addr} (u : Value) (hq : ∀ z ∈ zs, (Value.slice z.A z.eras.length z.c).ownBlock = none ∨ (Value.slice z.A z.eras.length z.c).ownBlock ≠ some q.block) : ZsAt (w.setCell q u) base zs := by
  obtain ⟨bl, h1, h2, h3, h4⟩ := h
  refine ⟨bl, h1, by simpa [World.setCell] using h2, fun z hz => ⟨⟨(h3 z hz).1.1.far u (hq z (List.dropLast_subset _ hz)), (h3 z hz).1.2⟩, (h3 z hz).2⟩, fun z hz => ⟨(h4 z hz).1.far u (hq z (List.mem_of_getLast? hz)), (h4 z hz).2⟩⟩
theorem ZsAt.base_le {w : World} {base : Nat} {zs : List ZonD} (h : ZsAt w base zs) : ∀ z ∈ zs, ErAt w base z := by
  obtain ⟨bl, h1, h2, h3, h4⟩ := h
  intro z hz
  rcases List.eq_nil_or_concat zs with rfl | ⟨zi, zl, rfl⟩
  · cases hz
  · rw [List.concat_eq_append] at *
    rcases List.mem_append.1 hz with hz | hz
    · exact (h3 z (by simpa using hz)).1
    · have e : z = zl := by simpa using hz
      subst e
      have := h4 z (by simp)
      exact ⟨this.1.less h1, this.2⟩
end Go.Proofs.YtmemgpmijphkmaaGreatDoor
namespace Go.Proofs.YtmemgpmijphkmaaGreatDoor
set_option linter.unusedVariables false
set_option linter.unusedSimpArgs false
open Go.RowKit
theorem blk_set {w : World} {pb : Nat} {T : TypeId} {cs : Array Value} {j : Nat} {u : Value} (h : w.heap[pb]? = some (.cells cs T (0, 0))) : (w.setCell ⟨pb, j, none⟩ u).heap[pb]? = some (.cells (cs.setIfInBounds j u) T (0, 0)) := by
  rw [heap_setCell_same w pb j cs T u h]

/-- the last zone and where its eras lie -/
theorem ZsAt.last {w : World} {base : Nat} {zi : List ZonD} {z : ZonD} (h : ZsAt w base (zi ++ [z])) : ∃ bl, base ≤ bl ∧ bl ≤ w.heap.size ∧ (∀ x ∈ zi, ErAt w base x ∧ ∀ j, (Value.slice x.A x.eras.length x.c).ownBlock = some j → j < bl) ∧ ErAt w bl z := by
  obtain ⟨bl, h1, h2, h3, h4⟩ := h
  exact ⟨bl, h1, h2, fun x hx => h3 x (by simpa using hx), h4 z (by simp)⟩

end Go.Proofs.YtmemgpmijphkmaaGreatDoor
