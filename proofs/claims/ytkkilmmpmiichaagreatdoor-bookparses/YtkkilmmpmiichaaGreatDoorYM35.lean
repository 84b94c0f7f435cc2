/- Rows of a call's own that are appended tto; the reference's rulesOf. A book under way in memory: what the parser of package book holds, and how it is kept. No function of the program in it. -/
import Derived.Deep.AppendLies
import Derived.OwnWalk
import Derived.Laws.OwnMore
import Derived.Test.YtkkilmmpmiichaaGreatDoorYM33
import Derived.Test.YtkkilmmpmiichaaGreatDoorYM34
import Derived.Laws.Rows
import Derived.Test.YtkkilmmpmiichaaGreatDoorYM31
namespace Go.Proofs.YtkkilmmpmiichaaGreatDoor
set_option linter.unusedVariables false
set_option linter.unusedSimpArgs false
open Go.RowKit
theorem flat_get {α : Type} {enc : α → List Value} {k : Nat} (hk : ∀ x, (enc x).length = k) : ∀ (l : List α) (i : Nat) (x : α), l[i]? = some x → ∀ j v, (enc x)[j]? = some v → (l.flatMap enc)[i * k + j]? = some v
  | [], i, x, h => by simp at h
  | y :: l, 0, x, h => fun j v hv => by
    have e : y = x := by simpa using h
    subst e
    have hj : j < (enc y).length := (List.getElem?_eq_some_iff.1 hv).1
    rw [List.flatMap_cons, Nat.zero_mul, Nat.zero_add, List.getElem?_append_left hj]; exact hv
  | y :: l, i + 1, x, h => fun j v hv => by
    have h' : l[i]? = some x := by simpa using h
    have := flat_get hk l i x h' j v hv
    rw [List.flatMap_cons, List.getElem?_append_right (by rw [hk y, Nat.add_mul]; omega), hk y, show (i + 1) * k + j - k = i * k + j by rw [Nat.add_mul]; omega]
    exact this
theorem flat_len {α : Type} {enc : α → List Value} {k : Nat} (hk : ∀ x, (enc x).length = k) : ∀ (l : List α), (l.flatMap enc).length = l.length * k
  | [] => by simp
  | y :: l => by rw [List.flatMap_cons, List.length_append, flat_len hk l, hk y, List.length_cons, Nat.add_mul]; omega
/-- a row of the call's own: the things of l, each in k cells -/
def Own {α : Type} (w : World) (base : Nat) (e : TypeId) (k : Nat) (enc : α → List Value) (v : Value) (l : List α) : Prop := w.ownsRow base e k v l.length (l.flatMap enc)
section
variable {α : Type} {w w' : World} {base k : Nat} {e : TypeId} {enc : α → List Value} {v : Value} {l : List α}
theorem Own.nil_ (w : World) (base : Nat) (e : TypeId) (k : Nat) (enc : α → List Value) : Own w base e k enc (.slice none 0 0) ([] : List α) := ⟨by simp, Or.inl ⟨rfl, rfl⟩⟩
theorem Own.gr (h : Own w base e k enc v l) (g : Gr w w') : Own w' base e k enc v l :=
  World.ownsRow.kept (row := none) h ⟨g.os, g.tape, g.output, Below.size g, fun i hi _ => g.block i hi⟩ (by cases v.ownBlock <;> simp)
theorem Own.form (h : Own w base e k enc v l) : ∃ A c, v = .slice A l.length c ∧ l.length ≤ c ∧ c ≤ maxLen ∧ (∀ a, A = some a → a.off = 0 ∧ a.spot = none ∧ base ≤ a.block ∧ a.block < w.heap.size) := by
  rcases h.2 with ⟨rfl, h0⟩ | ⟨g, cap, cur, rfl, hb, hg, h1, h2, _⟩
  · exact ⟨none, 0, by rw [h0], by omega, Nat.zero_le _, fun a ha => by cases ha⟩
  · exact ⟨some ⟨g, 0, none⟩, cap, rfl, h1, h2, fun a ha => by injection ha with ha; subst ha; exact ⟨rfl, rfl, hb, (Array.getElem?_eq_some_iff.1 hg).1⟩⟩
theorem Own.row {A : Option Addr} {n c : Nat} (hk : ∀ x, (enc x).length = k) (h : Own w base e k enc (.slice A n c) l) : Row w k enc A l := fun i x hx => by
  rcases h.2 with ⟨hv, h0⟩ | ⟨g, cap, cur, hv, hb, hg, _⟩
  · have : i < l.length := (List.getElem?_eq_some_iff.1 hx).1
    omega
  · injection hv with hA
    subst hA
    refine ⟨g, 0, rfl, (Array.getElem?_eq_some_iff.1 hg).1, fun j u hu => ?_⟩
    have h2 := World.ownsRow.cells h (g := g) rfl (i * k + j) u (flat_get hk l i x hx j u hu)
    rwa [show (⟨g, 0, none⟩ : Addr).add (i * k + j) = ⟨g, 0 + i * k + j, none⟩ by unfold Addr.add; split <;> simp_all] at h2
end
/-- the row with one thing more -/
theorem own_more {α : Type} {w : World} {base k : Nat} {e : TypeId} {enc : α → List Value} {v : Value} {l l' : List α} {x : α} (hl : l' = l ++ [x]) (h : w.ownsRow base e k v (l.length + 1) (l.flatMap enc ++ enc x)) : Own w base e k enc v l' := by
  subst hl
  unfold Own
  rw [List.length_append, List.flatMap_append]
  simpa using h
theorem own_base {α : Type} {w : World} {base k : Nat} {e : TypeId} {enc : α → List Value} {v : Value} {l : List α} (h : Own w base e k enc v l) : ∀ j, v.ownBlock = some j → base ≤ j := fun j hj => (World.ownsRow.lt h j hj).1
/-- what lay below the base lies so still -/
theorem grown_gr {a w w' : World} {row : Option Nat} (h : Gr a w) (g : w.grownBy w' row) (hr : ∀ j, row = some j → a.heap.size ≤ j) : Gr a w' :=
  Below.grown h g (Below.size h) (fun j hj => hr j hj)
theorem ru_len (r : RuD) : r.cells.length = 11 := rfl
theorem er_len (r : EraD) : r.cells.length = 5 := rfl
theorem zo_len (r : ZonD) : r.cells.length = 2 := rfl
theorem li_len (r : LinD) : r.cells.length = 2 := rfl
theorem ru_one (r : RuD) : ∀ u ∈ r.cells, u.oneCell' = true := fun u hu => by simp [RuD.cells] at hu; rcases hu with rfl | rfl | rfl | rfl | rfl | rfl | rfl | rfl | rfl | rfl | rfl <;> rfl
theorem er_one (r : EraD) : ∀ u ∈ r.cells, u.oneCell' = true := fun u hu => by simp [EraD.cells] at hu; rcases hu with rfl | rfl | rfl | rfl | rfl <;> rfl
theorem zo_one (r : ZonD) : ∀ u ∈ r.cells, u.oneCell' = true := fun u hu => by simp [ZonD.cells] at hu; rcases hu with rfl | rfl <;> rfl
theorem li_one (r : LinD) : ∀ u ∈ r.cells, u.oneCell' = true := fun u hu => by simp [LinD.cells] at hu; rcases hu with rfl | rfl <;> rfl

theorem infoRule : (Tryz.prog.info? 42).map (fun i => (i.zero, i.size, i.bytes)) = some (some (.agg #[.string .empty, .int .i64 0, .int .i64 0, .int .i64 0, .int .i64 0, .int .i64 0, .int .i64 0, .int .i64 0, .int .i64 0, .int .i64 0, .string .empty]), 11, 104) := by kernel_rfl

/-- the rules of a name -/
def rusOf (rs : List RuD) (nm : ByteArray) : List RuD := rs.filter fun r => r.nm.toList == nm.toList
theorem rusOf_take {rs : List RuD} {nm : ByteArray} {k : Nat} {r : RuD} (h : rs[k]? = some r) : rusOf (rs.take (k + 1)) nm = rusOf (rs.take k) nm ++ (if (r.nm.toList == nm.toList) = true then [r] else []) := by
  have hk : k < rs.length := (List.getElem?_eq_some_iff.1 h).1
  have e : rs[k] = r := (List.getElem?_eq_some_iff.1 h).2
  unfold rusOf
  rw [List.take_succ_eq_append_getElem hk, List.filter_append, e, List.filter_cons]
  simp
theorem rusOf_len (rs : List RuD) (nm : ByteArray) : (rusOf rs nm).length ≤ rs.length := List.length_filter_le _ _
/-- what rulesOf leaves -/
def RusE (rs : List RuD) (nm : ByteArray) (w : World) (e : Ending) (w' : World) : Prop := ∃ v, e = .returned v ∧ Own w' w.heap.size 42 11 RuD.cells v (rusOf rs nm) ∧ Gr w w'

set_option maxRecDepth 100000 in
set_option maxHeartbeats 8000000 in
theorem rrulesOf (b : BokD) (nm : ByteArray) (w : World) (hb : RusAt w b.Ar b.cr b.rs) (h40 : b.rs.length ≤ 40) :
    Calls Tryz.prog 78 #[bookV b, .string nm] w (RusE b.rs nm w) := by
  obtain ⟨Ar, cr, rs, Az, cz, zs, Al, cl, ls⟩ := b
  have HR : Hid (Row w 11 RuD.cells Ar rs) := hb.2.1
  simp only at h40
  obtain ⟨i0, hi, hz0, hz1, hz2⟩ := info_parts infoRule
  have B0 := Lib.hid (box_one w (.cells #[.slice Ar rs.length cr, .slice Az zs.length cz, .slice Al ls.length cl] 26))
  have I1 := Lib.hid hi
  have I2 := Lib.hid hz0
  have I3 := Lib.hid hz1
  have I4 := Lib.hid hz2
  clear hb hi hz0 hz1 hz2
  show Calls _ _ _ _ (RusE rs nm w)
  go_enter Tryz.func78, Tryz.ntmps78
  go_wp2_with fail
  generalize w.alloc (.cells #[.slice Ar rs.length cr, .slice Az zs.length cz, .slice Al ls.length cl] 26) = w1 at B0 ⊢
  have G1 := Lib.hid B0.out.1
  clear B0
  go_loopw [5, 11] (fun v i W => ∃ k : Nat, k ≤ rs.length ∧ i = .int .i64 k ∧ Hid (Own W w.heap.size 42 11 RuD.cells v (rusOf (rs.take k) nm)) ∧ Hid (Gr w W)) (fun v i W => rs.length - (intOf i).toNat)
  case atStart => exact ⟨0, Nat.zero_le _, rfl, Own.nil_ _ _ _ _ _, G1⟩
  case round =>
    obtain ⟨k, hk, rfl, ho, hg⟩ := hrel
    by_cases hlt : k < rs.length
    · obtain ⟨⟨znm, fr, tt, mo, zk, d, n, at', by', sv, lt⟩, hx⟩ := get_lt hlt
      have RT := Lib.hid (rusOf_take (nm := nm) hx)
      obtain ⟨b, off, rfl, c0, c1, c2, c3, c4, c5, c6, c7, c8, c9, c10⟩ := HR.out.eleven hx rfl hg.out
      clear hx
      obtain ⟨p, ep⟩ : ∃ p, (znm.toList == nm.toList) = p := ⟨_, rfl⟩
      simp only [ep] at RT
      cases p with
      | false =>
        go_wp2_with fail
        go_roundw
        case rel => exact ⟨k + 1, by omega, by go_num, by unfold Hid; rw [RT.out]; simpa using ho.out.gr (Gr.alloc _ _), hg.out.alloc' _⟩
        case measure => simp [intOf]; omega
      | true =>
        have OW : Hid (Own ((wr.alloc (.cells #[.string znm, .int .i64 fr, .int .i64 tt, .int .i64 mo, .int .i64 zk, .int .i64 d, .int .i64 n, .int .i64 at', .int .i64 by', .int .i64 sv, .string lt] 42)).alloc (.cells #[.string znm, .int .i64 fr, .int .i64 tt, .int .i64 mo, .int .i64 zk, .int .i64 d, .int .i64 n, .int .i64 at', .int .i64 by', .int .i64 sv, .string lt] 42)) w.heap.size 42 11 RuD.cells u5 (rusOf (rs.take k) nm)) := ho.out.gr ((Gr.alloc _ _).alloc' _)
        have NB : Hid (((wr.alloc (.cells #[.string znm, .int .i64 fr, .int .i64 tt, .int .i64 mo, .int .i64 zk, .int .i64 d, .int .i64 n, .int .i64 at', .int .i64 by', .int .i64 sv, .string lt] 42)).alloc (.cells #[.string znm, .int .i64 fr, .int .i64 tt, .int .i64 mo, .int .i64 zk, .int .i64 d, .int .i64 n, .int .i64 at', .int .i64 by', .int .i64 sv, .string lt] 42)).heap[wr.heap.size + 1]? = some (.cells #[.string znm, .int .i64 fr, .int .i64 tt, .int .i64 mo, .int .i64 zk, .int .i64 d, .int .i64 n, .int .i64 at', .int .i64 by', .int .i64 sv, .string lt] 42)) := (box_two wr (.cells #[.string znm, .int .i64 fr, .int .i64 tt, .int .i64 mo, .int .i64 zk, .int .i64 d, .int .i64 n, .int .i64 at', .int .i64 by', .int .i64 sv, .string lt] 42) (.cells #[.string znm, .int .i64 fr, .int .i64 tt, .int .i64 mo, .int .i64 zk, .int .i64 d, .int .i64 n, .int .i64 at', .int .i64 by', .int .i64 sv, .string lt] 42)).2.2
        have GB : Hid (Below w.heap.size w ((wr.alloc (.cells #[.string znm, .int .i64 fr, .int .i64 tt, .int .i64 mo, .int .i64 zk, .int .i64 d, .int .i64 n, .int .i64 at', .int .i64 by', .int .i64 sv, .string lt] 42)).alloc (.cells #[.string znm, .int .i64 fr, .int .i64 tt, .int .i64 mo, .int .i64 zk, .int .i64 d, .int .i64 n, .int .i64 at', .int .i64 by', .int .i64 sv, .string lt] 42))) := hg.out.trans ((Gr.alloc _ _).alloc' _)
        have LN : Hid ((rusOf (rs.take k) nm).length ≤ 40) := by have := rusOf_len (rs.take k) nm; rw [List.length_take] at this; unfold Hid; omega
        have RT2 : Hid (rusOf (rs.take (k + 1)) nm = rusOf (rs.take k) nm ++ [⟨znm, fr, tt, mo, zk, d, n, at', by', sv, lt⟩]) := by unfold Hid; rw [RT.out]; simp
        clear RT ho
        generalize rusOf (rs.take k) nm = L at OW LN RT2
        go_wp2_with (at_builtin; refine wpList_append_lies _ (by rfl) _ _ 22 (by rfl) w.heap.size 42 i0 (.agg #[.string .empty, .int .i64 0, .int .i64 0, .int .i64 0, .int .i64 0, .int .i64 0, .int .i64 0, .int .i64 0, .int .i64 0, .int .i64 0, .string .empty]) 11 104 Tryz.underlying22 I1.out I2.out I3.out I4.out (by rfl) (by omega) u5 L.length (L.flatMap RuD.cells) (by rfl) OW.out ⟨wr.heap.size + 1, 0, none⟩ 1 1 [.string znm, .int .i64 fr, .int .i64 tt, .int .i64 mo, .int .i64 zk, .int .i64 d, .int .i64 n, .int .i64 at', .int .i64 by', .int .i64 sv, .string lt] (by rfl) (by rfl) (World.news_of_block NB.out) (ru_one ⟨znm, fr, tt, mo, zk, d, n, at', by', sv, lt⟩) (by omega) (by have := LN.out; unfold maxLen; omega) (by have := LN.out; omega) (Below.size GB.out) (wr.heap.size + 2) (by simp) ?_; intro g cap w3 hown hgrow hat hlt3)
        go_roundw
        case rel => exact ⟨k + 1, by omega, by go_num, own_more RT2.out hown, grown_gr GB.out hgrow (own_base OW.out)⟩
        case measure => simp [intOf]; omega
    · have e : k = rs.length := by omega
      have HO : Hid (Own wr w.heap.size 42 11 RuD.cells u5 (rusOf rs nm)) := by have := ho.out; rw [e, List.take_length] at this; exact this
      clear e ho
      go_wp2_with fail
      go_ret
      exact ⟨_, rfl, HO.out, hg.out⟩
end Go.Proofs.YtkkilmmpmiichaaGreatDoor
namespace Go.Proofs.YtkkilmmpmiichaaGreatDoor
set_option linter.unusedVariables false
set_option linter.unusedSimpArgs false
open Go.RowKit
/-- what lay below B, but for block p, lies so still -/
structure Tch (B p : Nat) (a w : World) : Prop where
  os : w.os = a.os
  tape : w.tape = a.tape
  output : w.output = a.output
  size : a.heap.size ≤ w.heap.size
  block : ∀ i, i < B → i ≠ p → w.heap[i]? = a.heap[i]?
theorem Tch.refl (B p : Nat) (w : World) : Tch B p w w := ⟨rfl, rfl, rfl, Nat.le_refl _, fun _ _ _ => rfl⟩
theorem Tch.trans {B p : Nat} {a b c : World} (h : Tch B p a b) (k : Tch B p b c) : Tch B p a c :=
  ⟨k.os.trans h.os, k.tape.trans h.tape, k.output.trans h.output, Nat.le_trans h.size k.size, fun i hi hp => (k.block i hi hp).trans (h.block i hi hp)⟩
theorem Tch.gr {B p : Nat} {a b c : World} (h : Tch B p a b) (g : Gr b c) (hB : B ≤ b.heap.size) : Tch B p a c :=
  h.trans ⟨g.os, g.tape, g.output, Below.size g, fun i hi _ => g.block i (Nat.lt_of_lt_of_le hi hB)⟩
theorem Tch.set {B p : Nat} {a w : World} (h : Tch B p a w) {q : Addr} (hq : q.block = p ∨ B ≤ q.block) (u : Value) : Tch B p a (w.setCell q u) :=
  h.trans ⟨rfl, rfl, rfl, by simp [World.setCell], fun i hi hp => Below.heap_setCell w q u i (by rintro rfl; rcases hq with e | e <;> omega)⟩
theorem Tch.grown {B p : Nat} {a w w' : World} (h : Tch B p a w) {row : Option Nat} (g : w.grownBy w' row) (hB : B ≤ w.heap.size) (hr : ∀ j, row = some j → B ≤ j) : Tch B p a w' :=
  h.trans ⟨g.os, g.tape, g.output, g.size, fun i hi hp => g.block i (Nat.lt_of_lt_of_le hi hB) (fun e => by have := hr _ e.symm; omega)⟩
theorem Tch.cell {B p : Nat} {a w : World} (h : Tch B p a w) {b o : Nat} (hb : b < B) (hp : b ≠ p) : w.cell? ⟨b, o, none⟩ = a.cell? ⟨b, o, none⟩ := World.cell?_of_block (h.block b hb hp)
theorem Tch.below {B p : Nat} {a w x : World} (h : Tch B p a w) (g : Gr x a) (hp : x.heap.size ≤ p) (hB : x.heap.size ≤ B) : Gr x w :=
  ⟨h.os.trans g.os, h.tape.trans g.tape, h.output.trans g.output, Nat.le_trans (Below.size g) h.size, fun i hi => (h.block i (by omega) (by omega)).trans (g.block i hi)⟩

theorem heap_set_ne (w : World) (q : Addr) (u : Value) {i : Nat} (h : i ≠ q.block) : (w.setCell q u).heap[i]? = w.heap[i]? := Below.heap_setCell w q u i h
section
variable {α β : Type} {w w' : World} {base base' k k' : Nat} {e e' : TypeId} {enc : α → List Value} {enc' : β → List Value} {v v' : Value} {l : List α} {l' : List β}
/-- rows of different types lie apart -/
theorem own_ne (h : Own w base e k enc v l) (h' : Own w base' e' k' enc' v' l') (hne : e ≠ e') : v.ownBlock = none ∨ v.ownBlock ≠ v'.ownBlock := by
  rcases h.2 with ⟨rfl, _⟩ | ⟨g, cap, cur, rfl, _, hh, _⟩
  · exact Or.inl rfl
  · right
    rcases h'.2 with ⟨rfl, _⟩ | ⟨g', cap', cur', rfl, _, hh', _⟩
    · simp [Value.ownBlock]
    · simp only [Value.ownBlock]
      intro q
      injection q with q
      subst q
      rw [hh] at hh'
      injection hh' with hh'
      injection hh' with _ ht
      exact hne ht
theorem Own.kept {row : Option Nat} (h : Own w base e k enc v l) (hg : w.grownBy w' row) (hne : v.ownBlock = none ∨ v.ownBlock ≠ row) : Own w' base e k enc v l := World.ownsRow.kept h hg hne
theorem Own.less {b2 : Nat} (h : Own w base e k enc v l) (hb : b2 ≤ base) : Own w b2 e k enc v l := by
  refine ⟨h.1, ?_⟩
  rcases h.2 with hn | ⟨g, cap, cur, rfl, hbb, rest⟩
  · exact Or.inl hn
  · exact Or.inr ⟨g, cap, cur, rfl, Nat.le_trans hb hbb, rest⟩
/-- a store elsewhere -/
theorem Own.far (h : Own w base e k enc v l) {q : Addr} (u : Value) (hq : v.ownBlock = none ∨ v.ownBlock ≠ some q.block) : Own (w.setCell q u) base e k enc v l := by
  refine ⟨h.1, ?_⟩
  rcases h.2 with hn | ⟨g, cap, cur, rfl, hbb, hg, rest⟩
  · exact Or.inl hn
  · refine Or.inr ⟨g, cap, cur, rfl, hbb, ?_, rest⟩
    rw [heap_set_ne w q u (fun e => by
      rcases hq with hq | hq
      · cases hq
      · exact hq (by rw [e]; rfl))]
    exact hg
theorem own_block_lt (h : Own w base e k enc v l) : ∀ j, v.ownBlock = some j → base ≤ j ∧ j < w.heap.size := World.ownsRow.lt h
/-- the last thing of a row has turned -/
theorem Own.last {x y : α} {g n c j : Nat} {u : Value} (hk : ∀ z, (enc z).length = k) (h : Own w base e k enc (.slice (some ⟨g, 0, none⟩) n c) (l ++ [x])) (hy : (enc x).set j u = enc y) (hj : j < k) :
    Own (w.setCell ⟨g, l.length * k + j, none⟩ u) base e k enc (.slice (some ⟨g, 0, none⟩) n c) (l ++ [y]) := by
  rcases h.2 with ⟨hn, _⟩ | ⟨g', cap, cur, hv, hbb, hg, h1, h2, h3, h4⟩
  · cases hn
  · injection hv with hA hn hc
    injection hA with hA
    injection hA with hA
    subst hA; subst hn; subst hc
    have hlen := h.1
    have hcur : (l.length + 1) * k ≤ cur.size := by
      rw [h3]; exact Nat.mul_le_mul_right _ (by simp at h1; omega)
    have hin : l.length * k + j < cur.size := by
      have : (l.length + 1) * k = l.length * k + k := by rw [Nat.add_mul, Nat.one_mul]
      omega
    refine ⟨by rw [flat_len hk], Or.inr ⟨g, c, cur.set! (l.length * k + j) u, by simp, hbb, ?_, by simpa using h1, h2, by simpa using h3, ?_⟩⟩
    · rw [heap_setCell_same w g (l.length * k + j) cur e u hg]
      simp [Array.set!]
    · have hl2 : (l ++ [y]).length = (l ++ [x]).length := by simp
      rw [hl2]
      have ht : (cur.set! (l.length * k + j) u).toList = cur.toList.set (l.length * k + j) u := by simp [Array.set!]
      rw [ht, List.take_set, h4, List.flatMap_append, List.flatMap_append]
      have fl := flat_len hk l
      rw [List.set_append_right _ _ (by omega)]
      simp only [List.flatMap_cons, List.flatMap_nil, List.append_nil]
      rw [show l.length * k + j - (l.flatMap enc).length = j by omega, hy]
end
/-- the eras of a zone, in a block of the call's own -/
def ErAt (w : World) (base : Nat) (z : ZonD) : Prop := Own w base 52 5 EraD.cells (.slice z.A z.eras.length z.c) z.eras ∧ z.nm.size ≤ maxLen ∧ ∀ e ∈ z.eras, e.In
/-- zones: the last one's eras lie behind the others' -/
def ZsAt (w : World) (base : Nat) (zs : List ZonD) : Prop := ∃ bl, base ≤ bl ∧ bl ≤ w.heap.size ∧ (∀ z ∈ zs.dropLast, ErAt w base z ∧ ∀ j, (Value.slice z.A z.eras.length z.c).ownBlock = some j → j < bl) ∧ ∀ z, zs.getLast? = some z → ErAt w bl z
/-- the book under way: the parser's block, its rows -/
structure PAt (w : World) (base pb n : Nat) (p : BkS) (v0 v1 v2 : Value) (zs : List ZonD) : Prop where
  lt : pb < base
  le : base ≤ w.heap.size
  blk : w.heap[pb]? = some (.cells #[v0, v1, v2, .int .i64 p.st] 35 (0, 0))
  rs : Own w base 42 11 RuD.cells v0 p.rs
  zr : Own w base 47 2 ZonD.cells v1 zs
  lr : Own w base 49 2 LinD.cells v2 p.ls
  ri : ∀ r ∈ p.rs, r.In
  li : ∀ x ∈ p.ls, x.In
  zz : ZsAt w base zs
  zm : zs.map (fun z => (z.nm, z.eras)) = p.zs
  nr : p.rs.length ≤ n
  nz : zs.length ≤ n
  nl : p.ls.length ≤ n
  ne : ∀ z ∈ zs, z.eras.length ≤ n
/-- .. somewhere -/
def PSt (w : World) (base pb n : Nat) (p : BkS) : Prop := ∃ v0 v1 v2 zs, PAt w base pb n p v0 v1 v2 zs
theorem ErAt.gr {w w' : World} {base : Nat} {z : ZonD} (h : ErAt w base z) (g : Gr w w') : ErAt w' base z := ⟨h.1.gr g, h.2⟩
theorem ZsAt.gr {w w' : World} {base : Nat} {zs : List ZonD} (h : ZsAt w base zs) (g : Gr w w') : ZsAt w' base zs := by
  obtain ⟨bl, h1, h2, h3, h4⟩ := h
  exact ⟨bl, h1, Nat.le_trans h2 (Below.size g), fun z hz => ⟨(h3 z hz).1.gr g, (h3 z hz).2⟩, fun z hz => (h4 z hz).gr g⟩
theorem PAt.gr {w w' : World} {base pb n : Nat} {p : BkS} {v0 v1 v2 : Value} {zs : List ZonD} (h : PAt w base pb n p v0 v1 v2 zs) (g : Gr w w') : PAt w' base pb n p v0 v1 v2 zs :=
  { h with le := Nat.le_trans h.le (Below.size g), blk := bheap_gr g h.blk, rs := h.rs.gr g, zr := h.zr.gr g, lr := h.lr.gr g, zz := h.zz.gr g }
theorem PAt.more {w : World} {base pb n m : Nat} {p : BkS} {v0 v1 v2 : Value} {zs : List ZonD} (h : PAt w base pb n p v0 v1 v2 zs) (hm : n ≤ m) : PAt w base pb m p v0 v1 v2 zs :=
  { h with nr := Nat.le_trans h.nr hm, nz := Nat.le_trans h.nz hm, nl := Nat.le_trans h.nl hm, ne := fun z hz => Nat.le_trans (h.ne z hz) hm }
/-- eras of zones where a row of another type has grown -/
theorem ZsAt.other {α : Type} {w w' : World} {base b2 k : Nat} {e : TypeId} {enc : α → List Value} {v : Value} {l : List α} {zs : List ZonD} (h : ZsAt w base zs) (ho : Own w b2 e k enc v l) (hne : 52 ≠ e) (g : w.grownBy w' v.ownBlock) : ZsAt w' base zs := by
  obtain ⟨bl, h1, h2, h3, h4⟩ := h
  exact ⟨bl, h1, Nat.le_trans h2 g.size, fun z hz => ⟨⟨(h3 z hz).1.1.kept g (own_ne (h3 z hz).1.1 ho hne), (h3 z hz).1.2⟩, (h3 z hz).2⟩, fun z hz => ⟨(h4 z hz).1.kept g (own_ne (h4 z hz).1 ho hne), (h4 z hz).2⟩⟩
/-- eras of zones where a cell of another block has turned -/
theorem ZsAt.far {w : World} {base : Nat} {zs : List ZonD} (h : ZsAt w base zs) {q : Addr} (u : Value) (hq : ∀ z ∈ zs, (Value.slice z.A z.eras.length z.c).ownBlock = none ∨ (Value.slice z.A z.eras.length z.c).ownBlock ≠ some q.block) : ZsAt (w.setCell q u) base zs := by
  obtain ⟨bl, h1, h2, h3, h4⟩ := h
  refine ⟨bl, h1, by simpa [World.setCell] using h2, fun z hz => ⟨⟨(h3 z hz).1.1.far u (hq z (List.dropLast_subset _ hz)), (h3 z hz).1.2⟩, (h3 z hz).2⟩, fun z hz => ⟨(h4 z hz).1.far u (hq z (List.mem_of_getLast? hz)), (h4 z hz).2⟩⟩
theorem ZsAt.base_le {w : World} {base : Nat} {zs : List ZonD} (h : ZsAt w base zs) : ∀ z ∈ zs, ErAt w base z := by
  obtain ⟨bl, h1, h2, h3, h4⟩ := h
  intro z hz
  rcases List.eq_nil_or_concat zs with rfl | ⟨zi, zl, rfl⟩
  · cases hz
  · rw [List.concat_eq_append] at *
    rcases List.mem_append.1 hz with hz | hz
    · exact (h3 z (by simpa using hz)).1
    · have e : z = zl := by simpa using hz
      subst e
      have := h4 z (by simp)
      exact ⟨this.1.less h1, this.2⟩
end Go.Proofs.YtkkilmmpmiichaaGreatDoor
