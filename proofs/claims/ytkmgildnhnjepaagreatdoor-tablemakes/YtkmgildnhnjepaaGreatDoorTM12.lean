/- Names of a book and where they lead: positions, links followed, the names that lead tto zones. No function of the program in it. Rows of names in memory; two cells stored; what the reference's Has returns for a text; the way of Resolve through links. What a zone's own name and a link's names lead tto. No function of the program in it. -/
import Derived.Maps.OwnSet
import Derived.Test.YtkmgildnhnjepaaGreatDoorTM11
import Derived.Laws.Rows
import Derived.Test.YtkmgildnhnjepaaGreatDoorTM10
namespace Go.Proofs.YtkmgildnhnjepaaGreatDoor
set_option linter.unusedVariables false
set_option linter.unusedSimpArgs false
open Go.RowKit
/-- all names of a book: the zones', then the links' -/
def nms (zs : List ZonD) (ls : List LinD) : List (List UInt8) := zs.map (fun z => z.nm.toList) ++ ls.map (fun x => x.nm.toList)
theorem nms_len (zs : List ZonD) (ls : List LinD) : (nms zs ls).length = zs.length + ls.length := by simp [nms]
theorem nms_zone {zs : List ZonD} {ls : List LinD} {i : Nat} {z : ZonD} (h : zs[i]? = some z) : (nms zs ls)[i]? = some z.nm.toList := by
  have hi := (List.getElem?_eq_some_iff.1 h).1
  unfold nms
  rw [List.getElem?_append_left (by simpa using hi), List.getElem?_map, h]; rfl
theorem nms_link {zs : List ZonD} {ls : List LinD} {i : Nat} {x : LinD} (h : ls[i]? = some x) : (nms zs ls)[zs.length + i]? = some x.nm.toList := by
  unfold nms
  rw [List.getElem?_append_right (by simp), List.getElem?_map]; simp [h]
theorem hasZ_mem {zs : List ZonD} {nm : ByteArray} : hasZ zs nm = true ↔ nm.toList ∈ zs.map (fun z => z.nm.toList) := by
  unfold hasZ
  rw [List.any_eq_true, List.mem_map]
  constructor
  · rintro ⟨z, hz, h⟩; exact ⟨z, hz, eq_of_beq h⟩
  · rintro ⟨z, hz, h⟩; exact ⟨z, hz, by rw [h]; simp⟩
theorem hasL_mem {ls : List LinD} {nm : ByteArray} : hasL ls nm = true ↔ nm.toList ∈ ls.map (fun z => z.nm.toList) := by
  unfold hasL
  rw [List.any_eq_true, List.mem_map]
  constructor
  · rintro ⟨z, hz, h⟩; exact ⟨z, hz, eq_of_beq h⟩
  · rintro ⟨z, hz, h⟩; exact ⟨z, hz, by rw [h]; simp⟩
theorem mem_nms {zs : List ZonD} {ls : List LinD} {nm : ByteArray} : nm.toList ∈ nms zs ls ↔ (hasZ zs nm = true ∨ hasL ls nm = true) := by
  unfold nms
  rw [List.mem_append, hasZ_mem, hasL_mem]
theorem nodup_take {α β : Type} {f : α → β} {l : List α} (h : ∀ i x, l[i]? = some x → f x ∉ (l.take i).map f) : (l.map f).Nodup := by
  refine List.pairwise_iff_getElem.2 fun i j hi hj hij e => ?_
  simp only [List.length_map] at hi hj
  simp only [List.getElem_map] at e
  refine h j l[j] (List.getElem?_eq_getElem hj) (List.mem_map.2 ⟨l[i], ?_, e⟩)
  exact List.mem_of_getElem? (i := i) (by rw [List.getElem?_take, if_pos hij, List.getElem?_eq_getElem hi])

/-- a book that Check lets pass -/
structure GoodB (zs : List ZonD) (ls : List LinD) : Prop where
  z20 : zs.length ≤ 20
  l20 : ls.length ≤ 20
  nd : (nms zs ls).Nodup
  to_ : ∀ x ∈ ls, x.to'.toList ∈ nms zs ls
  es : ∀ z ∈ zs, z.eras.length ≤ 700
theorem good_of {rs : List RuD} {zs : List ZonD} {ls : List LinD} (h : bokC rs zs ls = 0) : GoodB zs ls := by
  obtain ⟨a, _, c, d⟩ := bokC_ok.1 h
  have hz : ∀ i z, zs[i]? = some z → hasZ (zs.take i) z.nm = false ∧ z.eras.length ≤ 700 := fun i z hz => by
    have h0 := (fe_zero _).1 c i (List.getElem?_eq_some_iff.1 hz).1
    rw [zonC_at hz] at h0
    split at h0
    · cases h0
    · split at h0
      · cases h0
      · rename_i q
        split at h0
        · cases h0
        · split at h0
          · cases h0
          · rename_i q2
            exact ⟨by simpa using q, by omega⟩
  have hl : ∀ i x, ls[i]? = some x → hasZ zs x.nm = false ∧ hasL (ls.take i) x.nm = false ∧ x.to'.toList ∈ nms zs ls := fun i x hx => by
    have h0 := (fe_zero _).1 d i (List.getElem?_eq_some_iff.1 hx).1
    rw [linC_at hx] at h0
    split at h0
    · cases h0
    · split at h0
      · cases h0
      · rename_i q
        split at h0
        · cases h0
        · rename_i q2
          simp only [Bool.or_eq_true, not_or, Bool.not_eq_true] at q
          refine ⟨q.1, q.2, mem_nms.2 ?_⟩
          simpa only [Bool.not_eq_false, Bool.or_eq_true] using q2
  refine ⟨by omega, by omega, ?_, fun x hx => ?_, fun z hz' => ?_⟩
  · refine List.nodup_append.2 ⟨nodup_take fun i z hz' hm => ?_, nodup_take fun i x hx hm => ?_, fun a ha b hb e => ?_⟩
    · have := (hz i z hz').1
      rw [hasZ_mem.2 hm] at this; cases this
    · have := (hl i x hx).2.1
      rw [hasL_mem.2 hm] at this; cases this
    · subst e
      obtain ⟨x, hx, rfl⟩ := List.mem_map.1 hb
      obtain ⟨i, hi, e⟩ := List.getElem_of_mem hx
      have := (hl i x (by rw [List.getElem?_eq_getElem hi, e])).1
      rw [hasZ_mem.2 ha] at this; cases this
  · obtain ⟨i, hi, e⟩ := List.getElem_of_mem hx
    exact (hl i x (by rw [List.getElem?_eq_getElem hi, e])).2.2
  · obtain ⟨i, hi, e⟩ := List.getElem_of_mem hz'
    exact (hz i z (by rw [List.getElem?_eq_getElem hi, e])).2

/-- one link further, in positions -/
def nx (zs : List ZonD) (ls : List LinD) (p : Nat) : Nat := if p < zs.length then p else match ls[p - zs.length]? with
  | some x => (nms zs ls).idxOf x.to'.toList
  | none => p
/-- n links further -/
def ends (zs : List ZonD) (ls : List LinD) : Nat → Nat → Nat
  | 0, p => p
  | n + 1, p => ends zs ls n (nx zs ls p)
section
variable {zs : List ZonD} {ls : List LinD}
theorem nx_zone {p : Nat} (h : p < zs.length) : nx zs ls p = p := if_pos h
theorem nx_link {i : Nat} {x : LinD} (h : ls[i]? = some x) : nx zs ls (zs.length + i) = (nms zs ls).idxOf x.to'.toList := by
  unfold nx
  rw [if_neg (by omega), Nat.add_sub_cancel_left, h]
theorem ends_zone {p : Nat} (h : p < zs.length) : ∀ n, ends zs ls n p = p
  | 0 => rfl
  | n + 1 => by unfold ends; rw [nx_zone h]; exact ends_zone h n
theorem ends_add : ∀ n m p, ends zs ls (n + m) p = ends zs ls m (ends zs ls n p)
  | 0, m, p => by rw [Nat.zero_add]; rfl
  | n + 1, m, p => by rw [Nat.add_right_comm]; exact ends_add n m (nx zs ls p)
theorem ends_succ (n p : Nat) : ends zs ls (n + 1) p = nx zs ls (ends zs ls n p) := ends_add n 1 p
theorem idx_lt {L : List (List UInt8)} {x : List UInt8} (h : x ∈ L) : L.idxOf x < L.length := List.idxOf_lt_length_of_mem h
theorem idx_get {L : List (List UInt8)} {x : List UInt8} (h : x ∈ L) : L[L.idxOf x]? = some x := by
  rw [List.getElem?_eq_getElem (idx_lt h), List.getElem_idxOf]
theorem nodup_inj {L : List (List UInt8)} (nd : L.Nodup) {i j : Nat} {x : List UInt8} (hi : L[i]? = some x) (hj : L[j]? = some x) : i = j := by
  obtain ⟨h1, e1⟩ := List.getElem?_eq_some_iff.1 hi
  obtain ⟨h2, e2⟩ := List.getElem?_eq_some_iff.1 hj
  have hp := List.pairwise_iff_getElem.1 nd
  rcases Nat.lt_trichotomy i j with h | h | h
  · exact absurd (e1.trans e2.symm) (hp i j h1 h2 h)
  · exact h
  · exact absurd (e2.trans e1.symm) (hp j i h2 h1 h)
theorem idx_of {L : List (List UInt8)} (nd : L.Nodup) {p : Nat} {x : List UInt8} (h : L[p]? = some x) : L.idxOf x = p := nodup_inj nd (idx_get (List.mem_of_getElem? h)) h
theorem idx_zone (g : GoodB zs ls) {i : Nat} {z : ZonD} (h : zs[i]? = some z) : (nms zs ls).idxOf z.nm.toList = i := idx_of g.nd (nms_zone h)
theorem idx_link (g : GoodB zs ls) {i : Nat} {x : LinD} (h : ls[i]? = some x) : (nms zs ls).idxOf x.nm.toList = zs.length + i := idx_of g.nd (nms_link h)
theorem nx_lt (g : GoodB zs ls) {p : Nat} (h : p < zs.length + ls.length) : nx zs ls p < zs.length + ls.length := by
  by_cases hz : p < zs.length
  · rw [nx_zone hz]; exact h
  · obtain ⟨x, hx⟩ := get_lt (show p - zs.length < ls.length by omega)
    have := nx_link (zs := zs) hx
    rw [show zs.length + (p - zs.length) = p by omega] at this
    rw [this, ← nms_len]
    exact idx_lt (g.to_ x (get_mem hx))
theorem ends_lt (g : GoodB zs ls) {p : Nat} (h : p < zs.length + ls.length) : ∀ n, ends zs ls n p < zs.length + ls.length
  | 0 => h
  | n + 1 => by rw [ends_succ]; exact nx_lt g (ends_lt g h n)
/-- what stands at a position is a zone or a link -/
theorem at_pos {p : Nat} (h : p < zs.length + ls.length) : (∃ z, zs[p]? = some z) ∨ ∃ i x, p = zs.length + i ∧ ls[i]? = some x := by
  by_cases hz : p < zs.length
  · exact Or.inl (get_lt hz)
  · obtain ⟨x, hx⟩ := get_lt (show p - zs.length < ls.length by omega)
    exact Or.inr ⟨p - zs.length, x, by omega, hx⟩
theorem pigeon : ∀ (n j : Nat) (f : Nat → Nat), (∀ i, i < j → f i < n) → (∀ i k, i < k → k < j → f i ≠ f k) → j ≤ n
  | 0, j, f, h, _ => by
    cases j with
    | zero => exact Nat.le_refl _
    | succ j => exact absurd (h 0 (by omega)) (by omega)
  | n + 1, j, f, h, d => by
    by_cases e : ∃ i, i < j ∧ f i = n
    · obtain ⟨i0, hi0, e0⟩ := e
      have := pigeon n (j - 1) (fun i => f (if i < i0 then i else i + 1)) (fun i hi => by
          have h1 : (if i < i0 then i else i + 1) < j := by split <;> omega
          have h2 := h _ h1
          have h3 : f (if i < i0 then i else i + 1) ≠ n := fun e => by
            rcases Nat.lt_trichotomy (if i < i0 then i else i + 1) i0 with q | q | q
            · exact d _ _ q hi0 (e.trans e0.symm)
            · split at q <;> omega
            · exact d _ _ q h1 (e0.trans e.symm)
          show f (if i < i0 then i else i + 1) < n
          omega) (fun i k hik hk => d _ _ (by split <;> split <;> omega) (by split <;> omega))
      omega
    · have := pigeon n j f (fun i hi => by
        have := h i hi
        have : f i ≠ n := fun q => e ⟨i, hi, q⟩
        omega) d
      omega
/-- who comes tto where it was goes round for ever -/
theorem path_loop {p j : Nat} (hS : ∀ i, i < j → zs.length ≤ ends zs ls i p) (hc : ∃ i, i < j ∧ ends zs ls i p = ends zs ls j p) (n : Nat) : zs.length ≤ ends zs ls n p := by
  have hj : 0 < j := by obtain ⟨i, hi, _⟩ := hc; omega
  have H : ∀ n, ∃ i, i < j ∧ ends zs ls i p = ends zs ls n p := by
    intro n
    induction n with
    | zero => exact ⟨0, hj, rfl⟩
    | succ n ih =>
      obtain ⟨i, hi, e⟩ := ih
      rw [ends_succ, ← e, ← ends_succ]
      by_cases hij : i + 1 = j
      · rw [hij]; exact hc
      · exact ⟨i + 1, by omega, rfl⟩
  obtain ⟨i, hi, e⟩ := H n
  rw [← e]; exact hS i hi
/-- at as many links as were passed without meeting one again there are no more than all -/
theorem path_few (g : GoodB zs ls) {p j : Nat} (hp : p < zs.length + ls.length) (hS : ∀ i, i < j → zs.length ≤ ends zs ls i p) (d : ∀ i k, i < k → k < j → ends zs ls i p ≠ ends zs ls k p) : j ≤ ls.length :=
  pigeon ls.length j (fun i => ends zs ls i p - zs.length) (fun i hi => by have := ends_lt g hp i; have := hS i hi; show ends zs ls i p - zs.length < ls.length; omega)
    (fun i k hik hk => by have := d i k hik hk; have := hS i (by omega); have := hS k hk; show ends zs ls i p - zs.length ≠ ends zs ls k p - zs.length; omega)
/-- who is at a zone stays there -/
theorem path_end {p j n : Nat} (h : ends zs ls j p < zs.length) (hn : j ≤ n) : ends zs ls n p = ends zs ls j p := by
  rw [show n = j + (n - j) by omega, ends_add, ends_zone h]
end
/-- the position tto which a name leads -/
def endN (zs : List ZonD) (ls : List LinD) (x : List UInt8) : Nat := ends zs ls ls.length ((nms zs ls).idxOf x)
/-- the error of Resolve -/
def resC (rs : List RuD) (zs : List ZonD) (ls : List LinD) (nm : ByteArray) : Int :=
  if bokC rs zs ls ≠ 0 then bokC rs zs ls else if nm.toList ∈ nms zs ls then (if endN zs ls nm.toList < zs.length then 0 else 8) else 6
theorem resC_bad {rs : List RuD} {zs : List ZonD} {ls : List LinD} {nm : ByteArray} (h : bokC rs zs ls ≠ 0) : resC rs zs ls nm = bokC rs zs ls := by unfold resC; rw [if_pos h]
theorem resC_none {rs : List RuD} {zs : List ZonD} {ls : List LinD} {nm : ByteArray} (h : bokC rs zs ls = 0) (k : nm.toList ∉ nms zs ls) : resC rs zs ls nm = 6 := by unfold resC; rw [if_neg (by simpa using h), if_neg k]
theorem resC_loop {rs : List RuD} {zs : List ZonD} {ls : List LinD} {nm : ByteArray} (h : bokC rs zs ls = 0) (k : nm.toList ∈ nms zs ls) (e : ¬ endN zs ls nm.toList < zs.length) : resC rs zs ls nm = 8 := by unfold resC; rw [if_neg (by simpa using h), if_pos k, if_neg e]
theorem resC_ok {rs : List RuD} {zs : List ZonD} {ls : List LinD} {nm : ByteArray} (h : bokC rs zs ls = 0) (k : nm.toList ∈ nms zs ls) (e : endN zs ls nm.toList < zs.length) : resC rs zs ls nm = 0 := by unfold resC; rw [if_neg (by simpa using h), if_pos k, if_pos e]
theorem resC_zero {rs : List RuD} {zs : List ZonD} {ls : List LinD} {nm : ByteArray} : resC rs zs ls nm = 0 ↔ bokC rs zs ls = 0 ∧ nm.toList ∈ nms zs ls ∧ endN zs ls nm.toList < zs.length := by
  constructor
  · intro h
    unfold resC at h
    split at h
    · rename_i q; exact absurd h q
    · rename_i q
      split at h
      · rename_i q2
        split at h
        · rename_i q3; exact ⟨by simpa using q, q2, q3⟩
        · cases h
      · cases h
  · rintro ⟨a, b, c⟩; exact resC_ok a b c
/-- what Resolve leaves: a zone that holds what the one holds tto which the name leads, or an empty one; the error -/
def ResE (rs : List RuD) (zs : List ZonD) (ls : List LinD) (nm : ByteArray) (w : World) (e : Ending) (w' : World) : Prop :=
  ∃ z : ZonD, e = .returned (.tuple #[.agg #[.string z.nm, .slice z.A z.eras.length z.c], .int .i64 (resC rs zs ls nm)]) ∧ z.At w' ∧ Gr w w' ∧
    (resC rs zs ls nm = 0 → ∃ y, zs[endN zs ls nm.toList]? = some y ∧ z.nm = y.nm ∧ z.eras = y.eras) ∧ (resC rs zs ls nm ≠ 0 → z.nm = .empty ∧ z.eras = [])
def noZone : ZonD := ⟨.empty, none, 0, []⟩
theorem noZone_at (w : World) : noZone.At w := ⟨by unfold maxLen; decide, ⟨Nat.le_refl _, by unfold maxLen; decide⟩, Row.nil _ _ _ _, fun e he => by cases he⟩
theorem resE_no {rs : List RuD} {zs : List ZonD} {ls : List LinD} {nm : ByteArray} {w w' : World} {c : Int} (h : resC rs zs ls nm = c) (hc : c ≠ 0) (g : Gr w w') : ResE rs zs ls nm w (.returned (.tuple #[.agg #[.string .empty, .slice none 0 0], .int .i64 c])) w' :=
  ⟨noZone, by rw [h]; rfl, noZone_at _, g, fun q => absurd (h.symm.trans q) hc, fun _ => ⟨rfl, rfl⟩⟩
/-- the map of the positions of the names of a list -/
def Places (D : DataW Unit) (L : List (List UInt8)) : Prop :=
  Maps.IsMap D ∧ (∀ (p : Nat) x, L[p]? = some x → Maps.has D (.string x) = true ∧ ∀ zd, D.atKey (.string x) zd = .lit (.int .i64 (p : Int))) ∧ ∀ x, x ∉ L → Maps.has D (.string x) = false
theorem places_nil : Places (.map []) [] := ⟨Maps.isMap_empty, fun p x h => by simp at h, fun x _ => rfl⟩
theorem places_put {D : DataW Unit} {L : List (List UInt8)} {y : List UInt8} {n : Int} (h : Places D L) (hy : y ∉ L) (hn : n = L.length) : Places (D.put (.string y) (.lit (.int .i64 n))) (L ++ [y]) := by
  subst hn
  obtain ⟨h0, h1, h2⟩ := h
  have hk : WideAt.IsKeyLit (.string y) := trivial
  refine ⟨h0.put _ _, fun p x hx => ?_, fun x hx => ?_⟩
  · by_cases e : p < L.length
    · rw [List.getElem?_append_left e] at hx
      have hne : x ≠ y := fun q => hy (q ▸ List.mem_of_getElem? hx)
      have hne' : Lit.string x ≠ .string y := fun q => hne (Lit.string.inj q)
      obtain ⟨a, b⟩ := h1 p x hx
      exact ⟨by rw [Maps.has_put_other hne']; exact a, fun zd => by rw [Maps.atKey_put_other hne']; exact b zd⟩
    · have hp := (List.getElem?_eq_some_iff.1 hx).1
      simp only [List.length_append, List.length_cons, List.length_nil] at hp
      have ep : p = L.length := by omega
      subst ep
      have ex : y = x := by simpa using hx
      subst ex
      exact ⟨Maps.has_put_same h0 hk _, fun zd => Maps.atKey_put_same h0 hk _ _⟩
  · have hne' : Lit.string x ≠ .string y := fun q => hx (by rw [Lit.string.inj q]; simp)
    rw [Maps.has_put_other hne']
    exact h2 x (fun q => hx (by simp [q]))
end Go.Proofs.YtkmgildnhnjepaaGreatDoor
namespace Go.Proofs.YtkmgildnhnjepaaGreatDoor
set_option linter.unusedVariables false
set_option linter.unusedSimpArgs false
open Go.RowKit
/-- a name in its cell -/
abbrev nmC (x : List UInt8) : List Value := [.string (S x)]
theorem nm_len (x : List UInt8) : (nmC x).length = 1 := rfl
theorem nm_one (x : List UInt8) : ∀ u ∈ nmC x, u.oneCell' = true := fun u hu => by simp [nmC] at hu; rw [hu]; rfl
theorem Row.one {α : Type} {w W : World} {e : α → List Value} {A : Option Addr} {l : List α} {i : Nat} {x : α} {v0 : Value} (h : Row w 1 e A l) (hx : l[i]? = some x) (he : e x = [v0]) (g : Gr w W) :
    ∃ b off, A = some ⟨b, off, none⟩ ∧ W.cell? ⟨b, off + i, none⟩ = some v0 := by
  obtain ⟨b, off, rfl, hb, hc⟩ := h i x hx
  rw [he] at hc
  have := hc 0 v0 rfl
  rw [Nat.mul_one, Nat.add_zero] at this
  exact ⟨b, off, rfl, g.holds this⟩
/-- two cells stored one behind the other -/
theorem store2 {W : World} {p : Nat} {T : TypeId} {r0 r1 : Value} (h : W.heap[p]? = some (.cells #[r0, r1] T (0, 0))) (v0 v1 : Value) :
    ((W.setCell ⟨p, 0, none⟩ v0).setCell ⟨p, 1, none⟩ v1).heap[p]? = some (.cells #[v0, v1] T (0, 0)) := by
  have e0 : (W.setCell ⟨p, 0, none⟩ v0).heap[p]? = some (.cells #[v0, r1] T (0, 0)) := heap_setCell_same W p 0 #[r0, r1] T v0 h
  exact heap_setCell_same (W.setCell ⟨p, 0, none⟩ v0) p 1 #[v0, r1] T v1 e0
theorem store2_below {W a : World} {p : Nat} {B : Nat} (h : Below B a W) (hB : B ≤ p) (v0 v1 : Value) : Below B a ((W.setCell ⟨p, 0, none⟩ v0).setCell ⟨p, 1, none⟩ v1) := Below.setCell (Below.setCell h hB _) hB _
theorem unfrozen {W : World} {p i : Nat} {cs : Array Value} {T : TypeId} (h : W.heap[p]? = some (.cells cs T (0, 0))) : W.frozen? ⟨p, i, none⟩ = false := by simp [World.frozen?, h]

theorem con_take {l : List (List UInt8)} {k : Nat} {y x : List UInt8} (h : l[k]? = some y) : (l.take (k + 1)).contains x = ((l.take k).contains x || (x == y)) := by
  have hk : k < l.length := (List.getElem?_eq_some_iff.1 h).1
  have e : l[k] = y := (List.getElem?_eq_some_iff.1 h).2
  rw [List.take_succ_eq_append_getElem hk, e]
  simp [List.contains_eq_any_beq, List.any_append]
  congr 1
  by_cases q : x = y <;> simp [q]
theorem con_hit {l : List (List UInt8)} {k : Nat} {y x : List UInt8} (h : l[k]? = some y) (e : (x == y) = true) : l.contains x = true := by
  have := eq_of_beq e
  subst this
  simpa using List.mem_of_getElem? h

set_option maxHeartbeats 4000000 in
theorem rhas (A : Option Addr) (c : Nat) (l : List (List UInt8)) (nm : ByteArray) (w : World) (hl : l.length ≤ maxLen) (h : Row w 1 nmC A l) :
    Calls Tryz.prog 57 #[.slice A l.length c, .string nm] w fun e w' => e = .returned (.bool (l.contains nm.toList)) ∧ Gr w w' := by
  have H := Lib.hid h
  unfold maxLen at hl
  clear h
  go_enter Tryz.func57, Tryz.ntmps57
  go_wp2_with fail
  go_loopw [9] (fun i W => ∃ k : Nat, k ≤ l.length ∧ i = .int .i64 k ∧ Hid ((l.take k).contains nm.toList = false) ∧ Hid (Gr w W)) (fun i W => l.length - (intOf i).toNat)
  case atStart => exact ⟨0, Nat.zero_le _, rfl, (by unfold Hid; simp), Gr.refl _⟩
  case round =>
    obtain ⟨k, hk, rfl, hf, hg⟩ := hrel
    by_cases hlt : k < l.length
    · obtain ⟨y, hy⟩ := get_lt hlt
      obtain ⟨b, off, rfl, c0⟩ := H.out.one hy rfl hg.out
      have HT : Hid ((l.take (k + 1)).contains nm.toList = ((l.take k).contains nm.toList || (nm.toList == y))) := con_take hy
      have HH : Hid ((nm.toList == y) = true → l.contains nm.toList = true) := fun q => con_hit hy q
      clear hy H
      obtain ⟨q, eq⟩ : ∃ q, (nm.toList == y) = q := ⟨_, rfl⟩
      rw [eq] at HT HH
      cases q with
      | true =>
        have HA := Lib.hid (HH.out rfl)
        clear HH HT hf
        go_wp2_with fail
        go_ret
        exact ⟨ret_bool HA.out.symm, hg.out⟩
      | false =>
        clear HH
        go_wp2_with fail
        go_roundw
        case rel => exact ⟨k + 1, by omega, by go_num, by unfold Hid; rw [HT.out, hf.out]; rfl, hg.out⟩
        case measure => simp [intOf]; omega
    · have e : k = l.length := by omega
      have HA : Hid (l.contains nm.toList = false) := by unfold Hid; have := hf.out; rw [e, List.take_length] at this; exact this
      clear e hf H
      go_wp2_with fail
      go_ret
      exact ⟨ret_bool HA.out.symm, hg.out⟩

/-- the way through links: the names met so far, and the one under way -/
structure Pth (zs : List ZonD) (ls : List LinD) (nm : List UInt8) (L : List (List UInt8)) (cur : List UInt8) : Prop where
  st : (L = [] ∧ cur = nm) ∨ nm ∈ nms zs ls
  at_ : nm ∈ nms zs ls → cur ∈ nms zs ls ∧ (nms zs ls).idxOf cur = ends zs ls L.length ((nms zs ls).idxOf nm)
  seen : ∀ (i : Nat) (x : List UInt8), L[i]? = some x → x ∈ nms zs ls ∧ (nms zs ls).idxOf x = ends zs ls i ((nms zs ls).idxOf nm) ∧ zs.length ≤ ends zs ls i ((nms zs ls).idxOf nm)
  dis : ∀ i k, i < k → k < L.length → ends zs ls i ((nms zs ls).idxOf nm) ≠ ends zs ls k ((nms zs ls).idxOf nm)
section
variable {zs : List ZonD} {ls : List LinD} {nm cur : List UInt8} {L : List (List UInt8)}
theorem pth_start : Pth zs ls nm [] nm := ⟨Or.inl ⟨rfl, rfl⟩, fun h => ⟨h, rfl⟩, fun i x h => by simp at h, fun i k _ h => by simp at h⟩
theorem Pth.few (g : GoodB zs ls) (h : Pth zs ls nm L cur) (hn : nm ∈ nms zs ls) : L.length ≤ ls.length :=
  path_few g (p := (nms zs ls).idxOf nm) (by rw [← nms_len]; exact idx_lt hn) (fun i hi => by obtain ⟨x, hx⟩ := get_lt hi; exact (h.seen i x hx).2.2) h.dis
theorem mem_zone {k : Nat} {z : ZonD} (hz : zs[k]? = some z) : z.nm.toList ∈ nms zs ls := List.mem_of_getElem? (nms_zone hz)
theorem mem_link {k : Nat} {x : LinD} (hx : ls[k]? = some x) : x.nm.toList ∈ nms zs ls := List.mem_of_getElem? (nms_link (zs := zs) hx)
theorem Pth.zone (g : GoodB zs ls) (h : Pth zs ls nm L cur) {k : Nat} {z : ZonD} (hz : zs[k]? = some z) (e : z.nm.toList = cur) : nm ∈ nms zs ls ∧ endN zs ls nm = k := by
  have hc : cur ∈ nms zs ls := e ▸ mem_zone hz
  have hn : nm ∈ nms zs ls := by rcases h.st with ⟨_, q⟩ | q
                                 · rw [← q]; exact hc
                                 · exact q
  have hi := (h.at_ hn).2
  rw [← e, idx_zone g hz] at hi
  have hk := (List.getElem?_eq_some_iff.1 hz).1
  exact ⟨hn, by unfold endN; rw [path_end (j := L.length) (by omega) (h.few g hn)]; exact hi.symm⟩
theorem Pth.none {c : ByteArray} (h : Pth zs ls nm L c.toList) (hz : hasZ zs c = false) (hl : hasL ls c = false) : nm ∉ nms zs ls := fun hn => by
  rcases mem_nms.1 (h.at_ hn).1 with q | q
  · rw [hz] at q; cases q
  · rw [hl] at q; cases q
theorem Pth.loop (g : GoodB zs ls) (h : Pth zs ls nm L cur) {k : Nat} {x : LinD} (hx : ls[k]? = some x) (e : x.nm.toList = cur) (hc : L.contains cur = true) : nm ∈ nms zs ls ∧ ¬ endN zs ls nm < zs.length := by
  have hm : cur ∈ L := by simpa using hc
  obtain ⟨i, hi, ei⟩ := List.getElem_of_mem hm
  have hi' : L[i]? = some cur := by rw [List.getElem?_eq_getElem hi, ei]
  have hn : nm ∈ nms zs ls := by rcases h.st with ⟨q, _⟩ | q
                                 · rw [q] at hm; cases hm
                                 · exact q
  refine ⟨hn, ?_⟩
  have hp := path_loop (zs := zs) (ls := ls) (p := (nms zs ls).idxOf nm) (j := L.length) (fun i hi => by obtain ⟨x, hx⟩ := get_lt hi; exact (h.seen i x hx).2.2)
    ⟨i, hi, by rw [← (h.seen i cur hi').2.1, ← (h.at_ hn).2]⟩ ls.length
  unfold endN
  omega
theorem Pth.step (g : GoodB zs ls) (h : Pth zs ls nm L cur) {k : Nat} {x : LinD} (hx : ls[k]? = some x) (e : x.nm.toList = cur) (hc : L.contains cur = false) : Pth zs ls nm (L ++ [cur]) x.to'.toList ∧ L.length < ls.length := by
  have hcm : cur ∈ nms zs ls := e ▸ mem_link hx
  have hn : nm ∈ nms zs ls := by rcases h.st with ⟨_, q⟩ | q
                                 · rw [← q]; exact hcm
                                 · exact q
  have hi := (h.at_ hn).2
  have hik : (nms zs ls).idxOf cur = zs.length + k := by rw [← e]; exact idx_link g hx
  have P : Pth zs ls nm (L ++ [cur]) x.to'.toList := by
    refine ⟨Or.inr hn, fun _ => ⟨g.to_ x (get_mem hx), ?_⟩, fun i y hy => ?_, fun i m him hm => ?_⟩
    · rw [List.length_append, List.length_cons, List.length_nil, Nat.zero_add, ends_succ, ← hi, hik, nx_link hx]
    · by_cases c : i < L.length
      · rw [List.getElem?_append_left c] at hy; exact h.seen i y hy
      · have hl := (List.getElem?_eq_some_iff.1 hy).1
        simp only [List.length_append, List.length_cons, List.length_nil] at hl
        have ei : i = L.length := by omega
        subst ei
        have ey : cur = y := by simpa using hy
        subst ey
        exact ⟨hcm, hi, by rw [← hi, hik]; omega⟩
    · simp only [List.length_append, List.length_cons, List.length_nil] at hm
      by_cases c : m < L.length
      · exact h.dis i m him c
      · have em : m = L.length := by omega
        subst em
        obtain ⟨y, hy⟩ := get_lt him
        obtain ⟨y1, y2, _⟩ := h.seen i y hy
        intro q
        rw [← y2, ← hi] at q
        have ex : cur = y := by
          have a := idx_get hcm
          rw [← q, idx_get y1] at a
          exact (Option.some.inj a).symm
        subst ex
        have : L.contains cur = true := by simpa using List.mem_of_getElem? hy
        rw [hc] at this; cases this
  refine ⟨P, ?_⟩
  have := P.few g hn
  simp only [List.length_append, List.length_cons, List.length_nil] at this
  omega
end
end Go.Proofs.YtkmgildnhnjepaaGreatDoor
namespace Go.Proofs.YtkmgildnhnjepaaGreatDoor
set_option linter.unusedVariables false
set_option linter.unusedSimpArgs false
open Go.RowKit
section
variable {rs : List RuD} {zs : List ZonD} {ls : List LinD}
/-- who is at no zone after as many links as there are comes tto none -/
theorem over (g : GoodB zs ls) {p : Nat} (hp : p < zs.length + ls.length) (h : ¬ ends zs ls ls.length p < zs.length) (n : Nat) : zs.length ≤ ends zs ls n p := by
  have hS : ∀ i, i < ls.length + 1 → zs.length ≤ ends zs ls i p := fun i hi => by
    rcases Nat.lt_or_ge (ends zs ls i p) zs.length with c | c
    · exact absurd (by rw [path_end c (show i ≤ ls.length by omega)]; exact c) h
    · exact c
  by_cases d : ∃ i k, i < k ∧ k < ls.length + 1 ∧ ends zs ls i p = ends zs ls k p
  · obtain ⟨i, k, hik, hk, e⟩ := d
    exact path_loop (j := k) (fun m hm => hS m (by omega)) ⟨i, hik, e⟩ n
  · have := path_few g hp (j := ls.length + 1) hS (fun i k hik hk e => d ⟨i, k, hik, hk, e⟩)
    omega
theorem end_zone (g : GoodB zs ls) {i : Nat} {z : ZonD} (hz : zs[i]? = some z) : endN zs ls z.nm.toList = i := by
  unfold endN
  rw [idx_zone g hz, ends_zone (List.getElem?_eq_some_iff.1 hz).1]
theorem res_zone (h0 : bokC rs zs ls = 0) {i : Nat} {z : ZonD} (hz : zs[i]? = some z) : resC rs zs ls z.nm = 0 :=
  resC_ok h0 (mem_zone hz) (by rw [end_zone (good_of h0) hz]; exact (List.getElem?_eq_some_iff.1 hz).1)
end
end Go.Proofs.YtkmgildnhnjepaaGreatDoor
