/- Rows of a call's own that are appended tto; the reference's rulesOf. -/
import Derived.Deep.AppendLies
import Derived.OwnWalk
import Derived.Laws.OwnMore
import Derived.Test.YtmemgpmijphkmaaGreatDoorWM29
import Derived.Test.YtmemgpmijphkmaaGreatDoorWM30
namespace Go.Proofs.YtmemgpmijphkmaaGreatDoor
set_option linter.unusedVariables false
set_option linter.unusedSimpArgs false
open Go.RowKit
theorem flat_get {α : Type} {enc : α → List Value} {k : Nat} (hk : ∀ x, (enc x).length = k) : ∀ (l : List α) (i : Nat) (x : α), l[i]? = some x → ∀ j v, (enc x)[j]? = some v → (l.flatMap enc)[i * k + j]? = some v
  | [], i, x, h => by simp at h
  | y :: l, 0, x, h => fun j v hv => by
    have e : y = x := by simpa using h
    subst e
    have hj : j < (enc y).length := (List.getElem?_eq_some_iff.1 hv).1
    rw [List.flatMap_cons, Nat.zero_mul, Nat.zero_add, List.getElem?_append_left hj]; exact hv
  | y :: l, i + 1, x, h => fun j v hv => by
    have h' : l[i]? = some x := by simpa using h
    have := flat_get hk l i x h' j v hv
    rw [List.flatMap_cons, List.getElem?_append_right (by rw [hk y, Nat.add_mul]; omega), hk y, show (i + 1) * k + j - k = i * k + j by rw [Nat.add_mul]; omega]
    exact this
theorem flat_len {α : Type} {enc : α → List Value} {k : Nat} (hk : ∀ x, (enc x).length = k) : ∀ (l : List α), (l.flatMap enc).length = l.length * k
  | [] => by simp
  | y :: l => by rw [List.flatMap_cons, List.length_append, flat_len hk l, hk y, List.length_cons, Nat.add_mul]; omega
/-- a row of the call's own: the things of l, each in k cells -/
def Own {α : Type} (w : World) (base : Nat) (e : TypeId) (k : Nat) (enc : α → List Value) (v : Value) (l : List α) : Prop := w.ownsRow base e k v l.length (l.flatMap enc)
section
variable {α : Type} {w w' : World} {base k : Nat} {e : TypeId} {enc : α → List Value} {v : Value} {l : List α}
theorem Own.nil_ (w : World) (base : Nat) (e : TypeId) (k : Nat) (enc : α → List Value) : Own w base e k enc (.slice none 0 0) ([] : List α) := ⟨by simp, Or.inl ⟨rfl, rfl⟩⟩
theorem Own.gr (h : Own w base e k enc v l) (g : Gr w w') : Own w' base e k enc v l :=
  World.ownsRow.kept (row := none) h ⟨g.os, g.tape, g.output, Below.size g, fun i hi _ => g.block i hi⟩ (by cases v.ownBlock <;> simp)
theorem Own.form (h : Own w base e k enc v l) : ∃ A c, v = .slice A l.length c ∧ l.length ≤ c ∧ c ≤ maxLen ∧ (∀ a, A = some a → a.off = 0 ∧ a.spot = none ∧ base ≤ a.block ∧ a.block < w.heap.size) := by
  rcases h.2 with ⟨rfl, h0⟩ | ⟨g, cap, cur, rfl, hb, hg, h1, h2, _⟩
  · exact ⟨none, 0, by rw [h0], by omega, Nat.zero_le _, fun a ha => by cases ha⟩
  · exact ⟨some ⟨g, 0, none⟩, cap, rfl, h1, h2, fun a ha => by injection ha with ha; subst ha; exact ⟨rfl, rfl, hb, (Array.getElem?_eq_some_iff.1 hg).1⟩⟩
theorem Own.row {A : Option Addr} {n c : Nat} (hk : ∀ x, (enc x).length = k) (h : Own w base e k enc (.slice A n c) l) : Row w k enc A l := fun i x hx => by
  rcases h.2 with ⟨hv, h0⟩ | ⟨g, cap, cur, hv, hb, hg, _⟩
  · have : i < l.length := (List.getElem?_eq_some_iff.1 hx).1
    omega
  · injection hv with hA
    subst hA
    refine ⟨g, 0, rfl, (Array.getElem?_eq_some_iff.1 hg).1, fun j u hu => ?_⟩
    have h2 := World.ownsRow.cells h (g := g) rfl (i * k + j) u (flat_get hk l i x hx j u hu)
    rwa [show (⟨g, 0, none⟩ : Addr).add (i * k + j) = ⟨g, 0 + i * k + j, none⟩ by unfold Addr.add; split <;> simp_all] at h2
end
/-- the row with one thing more -/
theorem own_more {α : Type} {w : World} {base k : Nat} {e : TypeId} {enc : α → List Value} {v : Value} {l l' : List α} {x : α} (hl : l' = l ++ [x]) (h : w.ownsRow base e k v (l.length + 1) (l.flatMap enc ++ enc x)) : Own w base e k enc v l' := by
  subst hl
  unfold Own
  rw [List.length_append, List.flatMap_append]
  simpa using h
theorem own_base {α : Type} {w : World} {base k : Nat} {e : TypeId} {enc : α → List Value} {v : Value} {l : List α} (h : Own w base e k enc v l) : ∀ j, v.ownBlock = some j → base ≤ j := fun j hj => (World.ownsRow.lt h j hj).1
/-- what lay below the base lies so still -/
theorem grown_gr {a w w' : World} {row : Option Nat} (h : Gr a w) (g : w.grownBy w' row) (hr : ∀ j, row = some j → a.heap.size ≤ j) : Gr a w' :=
  Below.grown h g (Below.size h) (fun j hj => hr j hj)
theorem ru_len (r : RuD) : r.cells.length = 11 := rfl
theorem er_len (r : EraD) : r.cells.length = 5 := rfl
theorem zo_len (r : ZonD) : r.cells.length = 2 := rfl
theorem li_len (r : LinD) : r.cells.length = 2 := rfl
theorem ru_one (r : RuD) : ∀ u ∈ r.cells, u.oneCell' = true := fun u hu => by simp [RuD.cells] at hu; rcases hu with rfl | rfl | rfl | rfl | rfl | rfl | rfl | rfl | rfl | rfl | rfl <;> rfl
theorem infoRule : (Tryz.prog.info? 56).map (fun i => (i.zero, i.size, i.bytes)) = some (some (.agg #[.string .empty, .int .i64 0, .int .i64 0, .int .i64 0, .int .i64 0, .int .i64 0, .int .i64 0, .int .i64 0, .int .i64 0, .int .i64 0, .string .empty]), 11, 104) := by kernel_rfl

/-- the rules of a name -/
def rusOf (rs : List RuD) (nm : ByteArray) : List RuD := rs.filter fun r => r.nm.toList == nm.toList
theorem rusOf_take {rs : List RuD} {nm : ByteArray} {k : Nat} {r : RuD} (h : rs[k]? = some r) : rusOf (rs.take (k + 1)) nm = rusOf (rs.take k) nm ++ (if (r.nm.toList == nm.toList) = true then [r] else []) := by
  have hk : k < rs.length := (List.getElem?_eq_some_iff.1 h).1
  have e : rs[k] = r := (List.getElem?_eq_some_iff.1 h).2
  unfold rusOf
  rw [List.take_succ_eq_append_getElem hk, List.filter_append, e, List.filter_cons]
  simp
theorem rusOf_len (rs : List RuD) (nm : ByteArray) : (rusOf rs nm).length ≤ rs.length := List.length_filter_le _ _
/-- what rulesOf leaves -/
def RusE (rs : List RuD) (nm : ByteArray) (w : World) (e : Ending) (w' : World) : Prop := ∃ v, e = .returned v ∧ Own w' w.heap.size 56 11 RuD.cells v (rusOf rs nm) ∧ Gr w w'

set_option maxRecDepth 100000 in
set_option maxHeartbeats 8000000 in
theorem rrulesOf (b : BokD) (nm : ByteArray) (w : World) (hb : RusAt w b.Ar b.cr b.rs) (h40 : b.rs.length ≤ 40) :
    Calls Tryz.prog 112 #[bookV b, .string nm] w (RusE b.rs nm w) := by
  obtain ⟨Ar, cr, rs, Az, cz, zs, Al, cl, ls⟩ := b
  have HR : Hid (Row w 11 RuD.cells Ar rs) := hb.2.1
  simp only at h40
  obtain ⟨i0, hi, hz0, hz1, hz2⟩ := info_parts infoRule
  have B0 := Lib.hid (box_one w (.cells #[.slice Ar rs.length cr, .slice Az zs.length cz, .slice Al ls.length cl] 26))
  have I1 := Lib.hid hi
  have I2 := Lib.hid hz0
  have I3 := Lib.hid hz1
  have I4 := Lib.hid hz2
  clear hb hi hz0 hz1 hz2
  show Calls _ _ _ _ (RusE rs nm w)
  go_enter Tryz.func112, Tryz.ntmps112
  go_wp2_with fail
  generalize w.alloc (.cells #[.slice Ar rs.length cr, .slice Az zs.length cz, .slice Al ls.length cl] 26) = w1 at B0 ⊢
  have G1 := Lib.hid B0.out.1
  clear B0
  go_loopw [5, 11] (fun v i W => ∃ k : Nat, k ≤ rs.length ∧ i = .int .i64 k ∧ Hid (Own W w.heap.size 56 11 RuD.cells v (rusOf (rs.take k) nm)) ∧ Hid (Gr w W)) (fun v i W => rs.length - (intOf i).toNat)
  case atStart => exact ⟨0, Nat.zero_le _, rfl, Own.nil_ _ _ _ _ _, G1⟩
  case round =>
    obtain ⟨k, hk, rfl, ho, hg⟩ := hrel
    by_cases hlt : k < rs.length
    · obtain ⟨⟨znm, fr, tt, mo, zk, d, n, at', by', sv, lt⟩, hx⟩ := get_lt hlt
      have RT := Lib.hid (rusOf_take (nm := nm) hx)
      obtain ⟨b, off, rfl, c0, c1, c2, c3, c4, c5, c6, c7, c8, c9, c10⟩ := HR.out.eleven hx rfl hg.out
      clear hx
      obtain ⟨p, ep⟩ : ∃ p, (znm.toList == nm.toList) = p := ⟨_, rfl⟩
      simp only [ep] at RT
      cases p with
      | false =>
        go_wp2_with fail
        go_roundw
        case rel => exact ⟨k + 1, by omega, by go_num, by unfold Hid; rw [RT.out]; simpa using ho.out.gr (Gr.alloc _ _), hg.out.alloc' _⟩
        case measure => simp [intOf]; omega
      | true =>
        have OW : Hid (Own ((wr.alloc (.cells #[.string znm, .int .i64 fr, .int .i64 tt, .int .i64 mo, .int .i64 zk, .int .i64 d, .int .i64 n, .int .i64 at', .int .i64 by', .int .i64 sv, .string lt] 56)).alloc (.cells #[.string znm, .int .i64 fr, .int .i64 tt, .int .i64 mo, .int .i64 zk, .int .i64 d, .int .i64 n, .int .i64 at', .int .i64 by', .int .i64 sv, .string lt] 56)) w.heap.size 56 11 RuD.cells u5 (rusOf (rs.take k) nm)) := ho.out.gr ((Gr.alloc _ _).alloc' _)
        have NB : Hid (((wr.alloc (.cells #[.string znm, .int .i64 fr, .int .i64 tt, .int .i64 mo, .int .i64 zk, .int .i64 d, .int .i64 n, .int .i64 at', .int .i64 by', .int .i64 sv, .string lt] 56)).alloc (.cells #[.string znm, .int .i64 fr, .int .i64 tt, .int .i64 mo, .int .i64 zk, .int .i64 d, .int .i64 n, .int .i64 at', .int .i64 by', .int .i64 sv, .string lt] 56)).heap[wr.heap.size + 1]? = some (.cells #[.string znm, .int .i64 fr, .int .i64 tt, .int .i64 mo, .int .i64 zk, .int .i64 d, .int .i64 n, .int .i64 at', .int .i64 by', .int .i64 sv, .string lt] 56)) := (box_two wr (.cells #[.string znm, .int .i64 fr, .int .i64 tt, .int .i64 mo, .int .i64 zk, .int .i64 d, .int .i64 n, .int .i64 at', .int .i64 by', .int .i64 sv, .string lt] 56) (.cells #[.string znm, .int .i64 fr, .int .i64 tt, .int .i64 mo, .int .i64 zk, .int .i64 d, .int .i64 n, .int .i64 at', .int .i64 by', .int .i64 sv, .string lt] 56)).2.2
        have GB : Hid (Below w.heap.size w ((wr.alloc (.cells #[.string znm, .int .i64 fr, .int .i64 tt, .int .i64 mo, .int .i64 zk, .int .i64 d, .int .i64 n, .int .i64 at', .int .i64 by', .int .i64 sv, .string lt] 56)).alloc (.cells #[.string znm, .int .i64 fr, .int .i64 tt, .int .i64 mo, .int .i64 zk, .int .i64 d, .int .i64 n, .int .i64 at', .int .i64 by', .int .i64 sv, .string lt] 56))) := hg.out.trans ((Gr.alloc _ _).alloc' _)
        have LN : Hid ((rusOf (rs.take k) nm).length ≤ 40) := by have := rusOf_len (rs.take k) nm; rw [List.length_take] at this; unfold Hid; omega
        have RT2 : Hid (rusOf (rs.take (k + 1)) nm = rusOf (rs.take k) nm ++ [⟨znm, fr, tt, mo, zk, d, n, at', by', sv, lt⟩]) := by unfold Hid; rw [RT.out]; simp
        clear RT ho
        generalize rusOf (rs.take k) nm = L at OW LN RT2
        go_wp2_with (at_builtin; refine wpList_append_lies _ (by rfl) _ _ 22 (by rfl) w.heap.size 56 i0 (.agg #[.string .empty, .int .i64 0, .int .i64 0, .int .i64 0, .int .i64 0, .int .i64 0, .int .i64 0, .int .i64 0, .int .i64 0, .int .i64 0, .string .empty]) 11 104 Tryz.underlying22 I1.out I2.out I3.out I4.out (by rfl) (by omega) u5 L.length (L.flatMap RuD.cells) (by rfl) OW.out ⟨wr.heap.size + 1, 0, none⟩ 1 1 [.string znm, .int .i64 fr, .int .i64 tt, .int .i64 mo, .int .i64 zk, .int .i64 d, .int .i64 n, .int .i64 at', .int .i64 by', .int .i64 sv, .string lt] (by rfl) (by rfl) (World.news_of_block NB.out) (ru_one ⟨znm, fr, tt, mo, zk, d, n, at', by', sv, lt⟩) (by omega) (by have := LN.out; unfold maxLen; omega) (by have := LN.out; omega) (Below.size GB.out) (wr.heap.size + 2) (by simp) ?_; intro g cap w3 hown hgrow hat hlt3)
        go_roundw
        case rel => exact ⟨k + 1, by omega, by go_num, own_more RT2.out hown, grown_gr GB.out hgrow (own_base OW.out)⟩
        case measure => simp [intOf]; omega
    · have e : k = rs.length := by omega
      have HO : Hid (Own wr w.heap.size 56 11 RuD.cells u5 (rusOf rs nm)) := by have := ho.out; rw [e, List.take_length] at this; exact this
      clear e ho
      go_wp2_with fail
      go_ret
      exact ⟨_, rfl, HO.out, hg.out⟩
end Go.Proofs.YtmemgpmijphkmaaGreatDoor
