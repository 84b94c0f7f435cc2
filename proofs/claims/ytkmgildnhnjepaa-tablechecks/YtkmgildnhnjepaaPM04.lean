/- What the reference's zoneAt and linkAt return. What the reference's small functions on texts return: chr, Digits, fixed. The transitions of rules, as data. No function of the program in it. Names of a book and where they lead: positions, links followed, the names that lead tto zones. No function of the program in it. Rows of names in memory; two cells stored; what the reference's Has returns for a text; the way of Resolve through links. What a zone's own name and a link's names lead tto. No function of the program in it. The local time of a zone at a time, as data. No function of the program in it. -/
import Derived.Deep.LoopGhost
import Derived.Laws.Cells
import Derived.Test.YtkmgildnhnjepaaPM03
import Derived.Lib.Hide
import Derived.Test.YtkmgildnhnjepaaProg
import Derived.Test.YtkmgildnhnjepaaPM01
import Derived.Deep.QuietTactic
import Derived.BigQuiet
import Derived.Lib.Strings
import Derived.Maps.OwnSet
import Derived.Laws.Rows
namespace Go.Proofs.Ytkmgildnhnjepaa
set_option linter.unusedVariables false
set_option linter.unusedSimpArgs false
open Go.RowKit
/-- is one of this name among them? -/
def hasZ (l : List ZonD) (nm : ByteArray) : Bool := l.any fun z => z.nm.toList == nm.toList
def hasL (l : List LinD) (nm : ByteArray) : Bool := l.any fun z => z.nm.toList == nm.toList
theorem Row.two {α : Type} {w W : World} {e : α → List Value} {A : Option Addr} {l : List α} {i : Nat} {x : α} {v0 v1 : Value} (h : Row w 2 e A l) (hx : l[i]? = some x) (he : e x = [v0, v1]) (g : Gr w W) :
    ∃ b off, A = some ⟨b, off, none⟩ ∧ W.cell? ⟨b, off + i * 2, none⟩ = some v0 ∧ W.cell? ⟨b, off + i * 2 + 1, none⟩ = some v1 := by
  obtain ⟨b, off, rfl, hb, hc⟩ := h i x hx
  rw [he] at hc
  exact ⟨b, off, rfl, g.holds (hc 0 v0 rfl), g.holds (hc 1 v1 rfl)⟩
end Go.Proofs.Ytkmgildnhnjepaa
namespace Go.Proofs.Ytkmgildnhnjepaa
set_option linter.unusedVariables false
set_option linter.unusedSimpArgs false
open Go.RowKit
/-- two digits -/
def d2 (n : Int) : List UInt8 := [u (48 + n / 10), u (48 + n % 10)]
/-- four digits -/
def d4 (n : Int) : List UInt8 := [u (48 + n / 1000), u (48 + n / 100 % 10), u (48 + n / 10 % 10), u (48 + n % 10)]
@[go_sem] theorem d2_length (n : Int) : (d2 n).length = 2 := rfl
@[go_sem] theorem d4_length (n : Int) : (d4 n).length = 4 := rfl
end Go.Proofs.Ytkmgildnhnjepaa
namespace Go.Proofs.Ytkmgildnhnjepaa
set_option linter.unusedVariables false
set_option linter.unusedSimpArgs false
open Go.RowKit
/-- a transition that is not settled yet: its nominal time and its rule -/
structure PenD where
  no : Int
  r : RuD
instance : Inhabited PenD := ⟨⟨0, default⟩⟩
def PenD.cells (p : PenD) : List Value := p.r.cells ++ [.int .i64 p.no]
/-- a transition -/
structure TurD where
  at' : Int
  sv : Int
  lt : ByteArray
instance : Inhabited TurD := ⟨⟨0, 0, .empty⟩⟩
def TurD.cells (t : TurD) : List Value := [.int .i64 t.at', .int .i64 t.sv, .string t.lt]
def TurD.In (t : TurD) : Prop := t.lt.size ≤ maxLen ∧ (-4000000000 ≤ t.at' ∧ t.at' ≤ 7000000000) ∧ (0 ≤ t.sv ∧ t.sv ≤ 10800)
def Rise (l : List TurD) : Prop := ∀ i x y, l[i]? = some x → l[i + 1]? = some y → x.at' < y.at'
end Go.Proofs.Ytkmgildnhnjepaa
namespace Go.Proofs.Ytkmgildnhnjepaa
set_option linter.unusedVariables false
set_option linter.unusedSimpArgs false
open Go.RowKit
/-- all names of a book: the zones', then the links' -/
def nms (zs : List ZonD) (ls : List LinD) : List (List UInt8) := zs.map (fun z => z.nm.toList) ++ ls.map (fun x => x.nm.toList)
theorem nms_len (zs : List ZonD) (ls : List LinD) : (nms zs ls).length = zs.length + ls.length := by simp [nms]
theorem nms_zone {zs : List ZonD} {ls : List LinD} {i : Nat} {z : ZonD} (h : zs[i]? = some z) : (nms zs ls)[i]? = some z.nm.toList := by
  have hi := (List.getElem?_eq_some_iff.1 h).1
  unfold nms
  rw [List.getElem?_append_left (by simpa using hi), List.getElem?_map, h]; rfl
theorem nms_link {zs : List ZonD} {ls : List LinD} {i : Nat} {x : LinD} (h : ls[i]? = some x) : (nms zs ls)[zs.length + i]? = some x.nm.toList := by
  unfold nms
  rw [List.getElem?_append_right (by simp), List.getElem?_map]; simp [h]
theorem hasZ_mem {zs : List ZonD} {nm : ByteArray} : hasZ zs nm = true ↔ nm.toList ∈ zs.map (fun z => z.nm.toList) := by
  unfold hasZ
  rw [List.any_eq_true, List.mem_map]
  constructor
  · rintro ⟨z, hz, h⟩; exact ⟨z, hz, eq_of_beq h⟩
  · rintro ⟨z, hz, h⟩; exact ⟨z, hz, by rw [h]; simp⟩
theorem hasL_mem {ls : List LinD} {nm : ByteArray} : hasL ls nm = true ↔ nm.toList ∈ ls.map (fun z => z.nm.toList) := by
  unfold hasL
  rw [List.any_eq_true, List.mem_map]
  constructor
  · rintro ⟨z, hz, h⟩; exact ⟨z, hz, eq_of_beq h⟩
  · rintro ⟨z, hz, h⟩; exact ⟨z, hz, by rw [h]; simp⟩
theorem mem_nms {zs : List ZonD} {ls : List LinD} {nm : ByteArray} : nm.toList ∈ nms zs ls ↔ (hasZ zs nm = true ∨ hasL ls nm = true) := by
  unfold nms
  rw [List.mem_append, hasZ_mem, hasL_mem]
/-- a book that Check lets pass -/
structure GoodB (zs : List ZonD) (ls : List LinD) : Prop where
  z20 : zs.length ≤ 20
  l20 : ls.length ≤ 20
  nd : (nms zs ls).Nodup
  to_ : ∀ x ∈ ls, x.to'.toList ∈ nms zs ls
  es : ∀ z ∈ zs, z.eras.length ≤ 700
/-- one link further, in positions -/
def nx (zs : List ZonD) (ls : List LinD) (p : Nat) : Nat := if p < zs.length then p else match ls[p - zs.length]? with
  | some x => (nms zs ls).idxOf x.to'.toList
  | none => p
/-- n links further -/
def ends (zs : List ZonD) (ls : List LinD) : Nat → Nat → Nat
  | 0, p => p
  | n + 1, p => ends zs ls n (nx zs ls p)
section
variable {zs : List ZonD} {ls : List LinD}
theorem nx_zone {p : Nat} (h : p < zs.length) : nx zs ls p = p := if_pos h
theorem nx_link {i : Nat} {x : LinD} (h : ls[i]? = some x) : nx zs ls (zs.length + i) = (nms zs ls).idxOf x.to'.toList := by
  unfold nx
  rw [if_neg (by omega), Nat.add_sub_cancel_left, h]
theorem ends_zone {p : Nat} (h : p < zs.length) : ∀ n, ends zs ls n p = p
  | 0 => rfl
  | n + 1 => by unfold ends; rw [nx_zone h]; exact ends_zone h n
theorem ends_add : ∀ n m p, ends zs ls (n + m) p = ends zs ls m (ends zs ls n p)
  | 0, m, p => by rw [Nat.zero_add]; rfl
  | n + 1, m, p => by rw [Nat.add_right_comm]; exact ends_add n m (nx zs ls p)
theorem ends_succ (n p : Nat) : ends zs ls (n + 1) p = nx zs ls (ends zs ls n p) := ends_add n 1 p
theorem idx_lt {L : List (List UInt8)} {x : List UInt8} (h : x ∈ L) : L.idxOf x < L.length := List.idxOf_lt_length_of_mem h
theorem idx_get {L : List (List UInt8)} {x : List UInt8} (h : x ∈ L) : L[L.idxOf x]? = some x := by
  rw [List.getElem?_eq_getElem (idx_lt h), List.getElem_idxOf]
theorem nodup_inj {L : List (List UInt8)} (nd : L.Nodup) {i j : Nat} {x : List UInt8} (hi : L[i]? = some x) (hj : L[j]? = some x) : i = j := by
  obtain ⟨h1, e1⟩ := List.getElem?_eq_some_iff.1 hi
  obtain ⟨h2, e2⟩ := List.getElem?_eq_some_iff.1 hj
  have hp := List.pairwise_iff_getElem.1 nd
  rcases Nat.lt_trichotomy i j with h | h | h
  · exact absurd (e1.trans e2.symm) (hp i j h1 h2 h)
  · exact h
  · exact absurd (e2.trans e1.symm) (hp j i h2 h1 h)
theorem idx_of {L : List (List UInt8)} (nd : L.Nodup) {p : Nat} {x : List UInt8} (h : L[p]? = some x) : L.idxOf x = p := nodup_inj nd (idx_get (List.mem_of_getElem? h)) h
theorem idx_zone (g : GoodB zs ls) {i : Nat} {z : ZonD} (h : zs[i]? = some z) : (nms zs ls).idxOf z.nm.toList = i := idx_of g.nd (nms_zone h)
theorem idx_link (g : GoodB zs ls) {i : Nat} {x : LinD} (h : ls[i]? = some x) : (nms zs ls).idxOf x.nm.toList = zs.length + i := idx_of g.nd (nms_link h)
theorem nx_lt (g : GoodB zs ls) {p : Nat} (h : p < zs.length + ls.length) : nx zs ls p < zs.length + ls.length := by
  by_cases hz : p < zs.length
  · rw [nx_zone hz]; exact h
  · obtain ⟨x, hx⟩ := get_lt (show p - zs.length < ls.length by omega)
    have := nx_link (zs := zs) hx
    rw [show zs.length + (p - zs.length) = p by omega] at this
    rw [this, ← nms_len]
    exact idx_lt (g.to_ x (get_mem hx))
theorem ends_lt (g : GoodB zs ls) {p : Nat} (h : p < zs.length + ls.length) : ∀ n, ends zs ls n p < zs.length + ls.length
  | 0 => h
  | n + 1 => by rw [ends_succ]; exact nx_lt g (ends_lt g h n)
theorem pigeon : ∀ (n j : Nat) (f : Nat → Nat), (∀ i, i < j → f i < n) → (∀ i k, i < k → k < j → f i ≠ f k) → j ≤ n
  | 0, j, f, h, _ => by
    cases j with
    | zero => exact Nat.le_refl _
    | succ j => exact absurd (h 0 (by omega)) (by omega)
  | n + 1, j, f, h, d => by
    by_cases e : ∃ i, i < j ∧ f i = n
    · obtain ⟨i0, hi0, e0⟩ := e
      have := pigeon n (j - 1) (fun i => f (if i < i0 then i else i + 1)) (fun i hi => by
          have h1 : (if i < i0 then i else i + 1) < j := by split <;> omega
          have h2 := h _ h1
          have h3 : f (if i < i0 then i else i + 1) ≠ n := fun e => by
            rcases Nat.lt_trichotomy (if i < i0 then i else i + 1) i0 with q | q | q
            · exact d _ _ q hi0 (e.trans e0.symm)
            · split at q <;> omega
            · exact d _ _ q h1 (e0.trans e.symm)
          show f (if i < i0 then i else i + 1) < n
          omega) (fun i k hik hk => d _ _ (by split <;> split <;> omega) (by split <;> omega))
      omega
    · have := pigeon n j f (fun i hi => by
        have := h i hi
        have : f i ≠ n := fun q => e ⟨i, hi, q⟩
        omega) d
      omega
/-- who comes tto where it was goes round for ever -/
theorem path_loop {p j : Nat} (hS : ∀ i, i < j → zs.length ≤ ends zs ls i p) (hc : ∃ i, i < j ∧ ends zs ls i p = ends zs ls j p) (n : Nat) : zs.length ≤ ends zs ls n p := by
  have hj : 0 < j := by obtain ⟨i, hi, _⟩ := hc; omega
  have H : ∀ n, ∃ i, i < j ∧ ends zs ls i p = ends zs ls n p := by
    intro n
    induction n with
    | zero => exact ⟨0, hj, rfl⟩
    | succ n ih =>
      obtain ⟨i, hi, e⟩ := ih
      rw [ends_succ, ← e, ← ends_succ]
      by_cases hij : i + 1 = j
      · rw [hij]; exact hc
      · exact ⟨i + 1, by omega, rfl⟩
  obtain ⟨i, hi, e⟩ := H n
  rw [← e]; exact hS i hi
/-- at as many links as were passed without meeting one again there are no more than all -/
theorem path_few (g : GoodB zs ls) {p j : Nat} (hp : p < zs.length + ls.length) (hS : ∀ i, i < j → zs.length ≤ ends zs ls i p) (d : ∀ i k, i < k → k < j → ends zs ls i p ≠ ends zs ls k p) : j ≤ ls.length :=
  pigeon ls.length j (fun i => ends zs ls i p - zs.length) (fun i hi => by have := ends_lt g hp i; have := hS i hi; show ends zs ls i p - zs.length < ls.length; omega)
    (fun i k hik hk => by have := d i k hik hk; have := hS i (by omega); have := hS k hk; show ends zs ls i p - zs.length ≠ ends zs ls k p - zs.length; omega)
/-- who is at a zone stays there -/
theorem path_end {p j n : Nat} (h : ends zs ls j p < zs.length) (hn : j ≤ n) : ends zs ls n p = ends zs ls j p := by
  rw [show n = j + (n - j) by omega, ends_add, ends_zone h]
end
/-- the position tto which a name leads -/
def endN (zs : List ZonD) (ls : List LinD) (x : List UInt8) : Nat := ends zs ls ls.length ((nms zs ls).idxOf x)
/-- the map of the positions of the names of a list -/
def Places (D : DataW Unit) (L : List (List UInt8)) : Prop :=
  Maps.IsMap D ∧ (∀ (p : Nat) x, L[p]? = some x → Maps.has D (.string x) = true ∧ ∀ zd, D.atKey (.string x) zd = .lit (.int .i64 (p : Int))) ∧ ∀ x, x ∉ L → Maps.has D (.string x) = false
end Go.Proofs.Ytkmgildnhnjepaa
namespace Go.Proofs.Ytkmgildnhnjepaa
set_option linter.unusedVariables false
set_option linter.unusedSimpArgs false
open Go.RowKit
theorem Row.one {α : Type} {w W : World} {e : α → List Value} {A : Option Addr} {l : List α} {i : Nat} {x : α} {v0 : Value} (h : Row w 1 e A l) (hx : l[i]? = some x) (he : e x = [v0]) (g : Gr w W) :
    ∃ b off, A = some ⟨b, off, none⟩ ∧ W.cell? ⟨b, off + i, none⟩ = some v0 := by
  obtain ⟨b, off, rfl, hb, hc⟩ := h i x hx
  rw [he] at hc
  have := hc 0 v0 rfl
  rw [Nat.mul_one, Nat.add_zero] at this
  exact ⟨b, off, rfl, g.holds this⟩
theorem unfrozen {W : World} {p i : Nat} {cs : Array Value} {T : TypeId} (h : W.heap[p]? = some (.cells cs T (0, 0))) : W.frozen? ⟨p, i, none⟩ = false := by simp [World.frozen?, h]

/-- the way through links: the names met so far, and the one under way -/
structure Pth (zs : List ZonD) (ls : List LinD) (nm : List UInt8) (L : List (List UInt8)) (cur : List UInt8) : Prop where
  st : (L = [] ∧ cur = nm) ∨ nm ∈ nms zs ls
  at_ : nm ∈ nms zs ls → cur ∈ nms zs ls ∧ (nms zs ls).idxOf cur = ends zs ls L.length ((nms zs ls).idxOf nm)
  seen : ∀ (i : Nat) (x : List UInt8), L[i]? = some x → x ∈ nms zs ls ∧ (nms zs ls).idxOf x = ends zs ls i ((nms zs ls).idxOf nm) ∧ zs.length ≤ ends zs ls i ((nms zs ls).idxOf nm)
  dis : ∀ i k, i < k → k < L.length → ends zs ls i ((nms zs ls).idxOf nm) ≠ ends zs ls k ((nms zs ls).idxOf nm)
section
variable {zs : List ZonD} {ls : List LinD} {nm cur : List UInt8} {L : List (List UInt8)}
theorem Pth.few (g : GoodB zs ls) (h : Pth zs ls nm L cur) (hn : nm ∈ nms zs ls) : L.length ≤ ls.length :=
  path_few g (p := (nms zs ls).idxOf nm) (by rw [← nms_len]; exact idx_lt hn) (fun i hi => by obtain ⟨x, hx⟩ := get_lt hi; exact (h.seen i x hx).2.2) h.dis
theorem mem_zone {k : Nat} {z : ZonD} (hz : zs[k]? = some z) : z.nm.toList ∈ nms zs ls := List.mem_of_getElem? (nms_zone hz)
theorem mem_link {k : Nat} {x : LinD} (hx : ls[k]? = some x) : x.nm.toList ∈ nms zs ls := List.mem_of_getElem? (nms_link (zs := zs) hx)
theorem Pth.zone (g : GoodB zs ls) (h : Pth zs ls nm L cur) {k : Nat} {z : ZonD} (hz : zs[k]? = some z) (e : z.nm.toList = cur) : nm ∈ nms zs ls ∧ endN zs ls nm = k := by
  have hc : cur ∈ nms zs ls := e ▸ mem_zone hz
  have hn : nm ∈ nms zs ls := by rcases h.st with ⟨_, q⟩ | q
                                 · rw [← q]; exact hc
                                 · exact q
  have hi := (h.at_ hn).2
  rw [← e, idx_zone g hz] at hi
  have hk := (List.getElem?_eq_some_iff.1 hz).1
  exact ⟨hn, by unfold endN; rw [path_end (j := L.length) (by omega) (h.few g hn)]; exact hi.symm⟩
theorem Pth.none {c : ByteArray} (h : Pth zs ls nm L c.toList) (hz : hasZ zs c = false) (hl : hasL ls c = false) : nm ∉ nms zs ls := fun hn => by
  rcases mem_nms.1 (h.at_ hn).1 with q | q
  · rw [hz] at q; cases q
  · rw [hl] at q; cases q
theorem Pth.step (g : GoodB zs ls) (h : Pth zs ls nm L cur) {k : Nat} {x : LinD} (hx : ls[k]? = some x) (e : x.nm.toList = cur) (hc : L.contains cur = false) : Pth zs ls nm (L ++ [cur]) x.to'.toList ∧ L.length < ls.length := by
  have hcm : cur ∈ nms zs ls := e ▸ mem_link hx
  have hn : nm ∈ nms zs ls := by rcases h.st with ⟨_, q⟩ | q
                                 · rw [← q]; exact hcm
                                 · exact q
  have hi := (h.at_ hn).2
  have hik : (nms zs ls).idxOf cur = zs.length + k := by rw [← e]; exact idx_link g hx
  have P : Pth zs ls nm (L ++ [cur]) x.to'.toList := by
    refine ⟨Or.inr hn, fun _ => ⟨g.to_ x (get_mem hx), ?_⟩, fun i y hy => ?_, fun i m him hm => ?_⟩
    · rw [List.length_append, List.length_cons, List.length_nil, Nat.zero_add, ends_succ, ← hi, hik, nx_link hx]
    · by_cases c : i < L.length
      · rw [List.getElem?_append_left c] at hy; exact h.seen i y hy
      · have hl := (List.getElem?_eq_some_iff.1 hy).1
        simp only [List.length_append, List.length_cons, List.length_nil] at hl
        have ei : i = L.length := by omega
        subst ei
        have ey : cur = y := by simpa using hy
        subst ey
        exact ⟨hcm, hi, by rw [← hi, hik]; omega⟩
    · simp only [List.length_append, List.length_cons, List.length_nil] at hm
      by_cases c : m < L.length
      · exact h.dis i m him c
      · have em : m = L.length := by omega
        subst em
        obtain ⟨y, hy⟩ := get_lt him
        obtain ⟨y1, y2, _⟩ := h.seen i y hy
        intro q
        rw [← y2, ← hi] at q
        have ex : cur = y := by
          have a := idx_get hcm
          rw [← q, idx_get y1] at a
          exact (Option.some.inj a).symm
        subst ex
        have : L.contains cur = true := by simpa using List.mem_of_getElem? hy
        rw [hc] at this; cases this
  refine ⟨P, ?_⟩
  have := P.few g hn
  simp only [List.length_append, List.length_cons, List.length_nil] at this
  omega
end
end Go.Proofs.Ytkmgildnhnjepaa
namespace Go.Proofs.Ytkmgildnhnjepaa
set_option linter.unusedVariables false
set_option linter.unusedSimpArgs false
open Go.RowKit
section
variable {rs : List RuD} {zs : List ZonD} {ls : List LinD}
/-- who is at no zone after as many links as there are comes tto none -/
theorem over (g : GoodB zs ls) {p : Nat} (hp : p < zs.length + ls.length) (h : ¬ ends zs ls ls.length p < zs.length) (n : Nat) : zs.length ≤ ends zs ls n p := by
  have hS : ∀ i, i < ls.length + 1 → zs.length ≤ ends zs ls i p := fun i hi => by
    rcases Nat.lt_or_ge (ends zs ls i p) zs.length with c | c
    · exact absurd (by rw [path_end c (show i ≤ ls.length by omega)]; exact c) h
    · exact c
  by_cases d : ∃ i k, i < k ∧ k < ls.length + 1 ∧ ends zs ls i p = ends zs ls k p
  · obtain ⟨i, k, hik, hk, e⟩ := d
    exact path_loop (j := k) (fun m hm => hS m (by omega)) ⟨i, hik, e⟩ n
  · have := path_few g hp (j := ls.length + 1) hS (fun i k hik hk e => d ⟨i, k, hik, hk, e⟩)
    omega
end
end Go.Proofs.Ytkmgildnhnjepaa
namespace Go.Proofs.Ytkmgildnhnjepaa
set_option linter.unusedVariables false
set_option linter.unusedSimpArgs false
open Go.RowKit
/-- how many transitions are not later -/
def lateI (L : List TurD) (t : Int) : Nat := L.countP fun x => decide (x.at' ≤ t)
theorem lateI_le (L : List TurD) (t : Int) : lateI L t ≤ L.length := List.countP_le_length
theorem rise_lt {L : List TurD} (h : Rise L) : ∀ (j i : Nat) (x y : TurD), i < j → L[i]? = some x → L[j]? = some y → x.at' < y.at'
  | 0, i, x, y, hij, hx, hy => by omega
  | j + 1, i, x, y, hij, hx, hy => by
    by_cases c : i = j
    · subst c; exact h i x y hx hy
    · obtain ⟨z, hz⟩ := get_lt (show j < L.length by have := (List.getElem?_eq_some_iff.1 hy).1; omega)
      have h1 := rise_lt h j i x z (by omega) hx hz
      have h2 := h j z y hz hy
      omega
theorem late_spec {t : Int} : ∀ {L : List TurD}, Rise L → ∀ (i : Nat) (x : TurD), L[i]? = some x → (x.at' ≤ t ↔ i < lateI L t)
  | [], _, i, x, hx => by simp at hx
  | y :: L, h, i, x, hx => by
    have hL : Rise L := fun i a b ha hb => h (i + 1) a b (by simpa using ha) (by simpa using hb)
    by_cases c : y.at' ≤ t
    · have e : lateI (y :: L) t = lateI L t + 1 := by unfold lateI; exact List.countP_cons_of_pos (p := fun x : TurD => decide (x.at' ≤ t)) (decide_eq_true c)
      rw [e]
      cases i with
      | zero =>
        have : y = x := by simpa using hx
        rw [← this]
        exact ⟨fun _ => by omega, fun _ => c⟩
      | succ i =>
        have := late_spec (t := t) hL i x (by simpa using hx)
        rw [this]; omega
    · have e : lateI (y :: L) t = 0 := by
        unfold lateI
        rw [List.countP_eq_zero]
        intro a ha
        obtain ⟨j, hj⟩ := List.getElem?_of_mem ha
        have : y.at' ≤ a.at' := by
          cases j with
          | zero =>
            have : y = a := by simpa using hj
            rw [this]; exact Int.le_refl _
          | succ j => exact Int.le_of_lt (rise_lt h (j + 1) 0 y a (by omega) rfl hj)
        simp only [decide_eq_true_eq]; omega
      rw [e]
      have : y.at' ≤ x.at' := by
        cases i with
        | zero =>
          have : y = x := by simpa using hx
          rw [this]; exact Int.le_refl _
        | succ j => exact Int.le_of_lt (rise_lt h (j + 1) 0 y x (by omega) rfl hx)
      omega
/-- what the last of the first m says, or d -/
def lastP (d : Int × ByteArray) (L : List TurD) (m : Nat) : Int × ByteArray := if m = 0 then d else match L[m - 1]? with
  | some x => (x.sv, x.lt)
  | none => d
theorem lastP_at {d : Int × ByteArray} {L : List TurD} {m : Nat} {x : TurD} (h : m ≠ 0) (hx : L[m - 1]? = some x) : lastP d L m = (x.sv, x.lt) := by unfold lastP; rw [if_neg h, hx]
theorem lastP_zero (d : Int × ByteArray) (L : List TurD) : lastP d L 0 = d := by unfold lastP; rw [if_pos rfl]
/-- the last up tto a place, going on by one -/
theorem lastP_yes {d : Int × ByteArray} {L : List TurD} {t : Int} {k : Nat} {x : TurD} (h : Rise L) (hx : L[k]? = some x) (c : x.at' ≤ t) : lastP d L (min (k + 1) (lateI L t)) = (x.sv, x.lt) := by
  have := (late_spec h k x hx).1 c
  rw [show min (k + 1) (lateI L t) = k + 1 by omega]
  exact lastP_at (by omega) hx
theorem lastP_no {d : Int × ByteArray} {L : List TurD} {t : Int} {k : Nat} {x : TurD} (h : Rise L) (hx : L[k]? = some x) (c : ¬ x.at' ≤ t) : lastP d L (min (k + 1) (lateI L t)) = lastP d L (min k (lateI L t)) := by
  have hk : ¬ k < lateI L t := fun q => c ((late_spec h k x hx).2 q)
  rw [show min (k + 1) (lateI L t) = min k (lateI L t) by omega]
structure TypD where
  off : Int
  sv : Bool
  nm : ByteArray
def noTyp : TypD := ⟨0, false, .empty⟩
end Go.Proofs.Ytkmgildnhnjepaa
