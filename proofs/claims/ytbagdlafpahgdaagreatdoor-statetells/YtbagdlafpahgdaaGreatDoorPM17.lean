/- Blocks of a call's own; rows of its own that are appended tto. No function of the program in it. A slice copied by append. No function of the program in it. A slice without room appended tto: the row of both in a new block. No function of the program in it. Slices cut: x[:j], x[:j:j], x[j:] at whatever element; own rows tto which nothing or a row is appended. No function of the program in it. -/
import Derived.Deep.AppendLies
import Derived.OwnWalk
import Derived.Laws.OwnMore
import Derived.Test.YtbagdlafpahgdaaGreatDoorPM11
import Derived.Laws.AppendOwn
import Derived.Deep.Upon
namespace Go.Proofs.YtbagdlafpahgdaaGreatDoor
set_option linter.unusedVariables false
set_option linter.unusedSimpArgs false
open Go.RowKit
theorem bheap_gr {W W' : World} {B : Nat} {o : Obj} (g : Gr W W') (h : W.heap[B]? = some o) : W'.heap[B]? = some o := by
  have hb : B < W.heap.size := by
    by_cases c : B < W.heap.size
    · exact c
    · rw [Array.getElem?_eq_none (by omega)] at h; cases h
  rw [Below.block g B hb]; exact h
theorem bheap_new (W : World) (o : Obj) : (W.alloc o).heap[W.heap.size]? = some o := by unfold World.alloc; simp
theorem box_one (w : World) (o : Obj) : Gr w (w.alloc o) ∧ (w.alloc o).heap[w.heap.size]? = some o := ⟨Gr.alloc w o, bheap_new w o⟩
theorem box_two (w : World) (o1 o2 : Obj) : Gr w ((w.alloc o1).alloc o2) ∧ ((w.alloc o1).alloc o2).heap[w.heap.size]? = some o1 ∧ ((w.alloc o1).alloc o2).heap[w.heap.size + 1]? = some o2 := by
  refine ⟨(Gr.alloc w o1).alloc' o2, bheap_gr (Gr.alloc _ o2) (bheap_new w o1), ?_⟩
  have := bheap_new (w.alloc o1) o2
  rwa [show (w.alloc o1).heap.size = w.heap.size + 1 by unfold World.alloc; simp] at this
theorem bcell_row {W : World} {b i : Nat} {cs : Array Value} {T : TypeId} {v : Value} (h : W.heap[b]? = some (.cells cs T (0, 0))) (hv : cs[i]? = some v) : W.cell? ⟨b, i, none⟩ = some v := by simp [World.cell?, h, hv]
theorem flat_get {α : Type} {enc : α → List Value} {k : Nat} (hk : ∀ x, (enc x).length = k) : ∀ (l : List α) (i : Nat) (x : α), l[i]? = some x → ∀ j v, (enc x)[j]? = some v → (l.flatMap enc)[i * k + j]? = some v
  | [], i, x, h => by simp at h
  | y :: l, 0, x, h => fun j v hv => by
    have e : y = x := by simpa using h
    subst e
    have hj : j < (enc y).length := (List.getElem?_eq_some_iff.1 hv).1
    rw [List.flatMap_cons, Nat.zero_mul, Nat.zero_add, List.getElem?_append_left hj]; exact hv
  | y :: l, i + 1, x, h => fun j v hv => by
    have h' : l[i]? = some x := by simpa using h
    have := flat_get hk l i x h' j v hv
    rw [List.flatMap_cons, List.getElem?_append_right (by rw [hk y, Nat.add_mul]; omega), hk y, show (i + 1) * k + j - k = i * k + j by rw [Nat.add_mul]; omega]
    exact this
theorem flat_len {α : Type} {enc : α → List Value} {k : Nat} (hk : ∀ x, (enc x).length = k) : ∀ (l : List α), (l.flatMap enc).length = l.length * k
  | [] => by simp
  | y :: l => by rw [List.flatMap_cons, List.length_append, flat_len hk l, hk y, List.length_cons, Nat.add_mul]; omega
/-- a row of the call's own: the things of l, each in k cells -/
def Own {α : Type} (w : World) (base : Nat) (e : TypeId) (k : Nat) (enc : α → List Value) (v : Value) (l : List α) : Prop := w.ownsRow base e k v l.length (l.flatMap enc)
section
variable {α : Type} {w w' : World} {base k : Nat} {e : TypeId} {enc : α → List Value} {v : Value} {l : List α}
theorem Own.nil_ (w : World) (base : Nat) (e : TypeId) (k : Nat) (enc : α → List Value) : Own w base e k enc (.slice none 0 0) ([] : List α) := ⟨by simp, Or.inl ⟨rfl, rfl⟩⟩
theorem Own.gr (h : Own w base e k enc v l) (g : Gr w w') : Own w' base e k enc v l :=
  World.ownsRow.kept (row := none) h ⟨g.os, g.tape, g.output, Below.size g, fun i hi _ => g.block i hi⟩ (by cases v.ownBlock <;> simp)
theorem Own.form (h : Own w base e k enc v l) : ∃ A c, v = .slice A l.length c ∧ l.length ≤ c ∧ c ≤ maxLen ∧ (∀ a, A = some a → a.off = 0 ∧ a.spot = none ∧ base ≤ a.block ∧ a.block < w.heap.size) := by
  rcases h.2 with ⟨rfl, h0⟩ | ⟨g, cap, cur, rfl, hb, hg, h1, h2, _⟩
  · exact ⟨none, 0, by rw [h0], by omega, Nat.zero_le _, fun a ha => by cases ha⟩
  · exact ⟨some ⟨g, 0, none⟩, cap, rfl, h1, h2, fun a ha => by injection ha with ha; subst ha; exact ⟨rfl, rfl, hb, (Array.getElem?_eq_some_iff.1 hg).1⟩⟩
theorem Own.row {A : Option Addr} {n c : Nat} (hk : ∀ x, (enc x).length = k) (h : Own w base e k enc (.slice A n c) l) : Row w k enc A l := fun i x hx => by
  rcases h.2 with ⟨hv, h0⟩ | ⟨g, cap, cur, hv, hb, hg, _⟩
  · have : i < l.length := (List.getElem?_eq_some_iff.1 hx).1
    omega
  · injection hv with hA
    subst hA
    refine ⟨g, 0, rfl, (Array.getElem?_eq_some_iff.1 hg).1, fun j u hu => ?_⟩
    have h2 := World.ownsRow.cells h (g := g) rfl (i * k + j) u (flat_get hk l i x hx j u hu)
    rwa [show (⟨g, 0, none⟩ : Addr).add (i * k + j) = ⟨g, 0 + i * k + j, none⟩ by unfold Addr.add; split <;> simp_all] at h2
end
/-- the row with one thing more -/
theorem own_more {α : Type} {w : World} {base k : Nat} {e : TypeId} {enc : α → List Value} {v : Value} {l l' : List α} {x : α} (hl : l' = l ++ [x]) (h : w.ownsRow base e k v (l.length + 1) (l.flatMap enc ++ enc x)) : Own w base e k enc v l' := by
  subst hl
  unfold Own
  rw [List.length_append, List.flatMap_append]
  simpa using h
theorem own_base {α : Type} {w : World} {base k : Nat} {e : TypeId} {enc : α → List Value} {v : Value} {l : List α} (h : Own w base e k enc v l) : ∀ j, v.ownBlock = some j → base ≤ j := fun j hj => (World.ownsRow.lt h j hj).1
/-- what lay below the base lies so still -/
theorem grown_gr {a w w' : World} {row : Option Nat} (h : Gr a w) (g : w.grownBy w' row) (hr : ∀ j, row = some j → a.heap.size ≤ j) : Gr a w' :=
  Below.grown h g (Below.size h) (fun j hj => hr j hj)
theorem ru_len (r : RuD) : r.cells.length = 11 := rfl
theorem er_len (r : EraD) : r.cells.length = 5 := rfl
theorem ru_one (r : RuD) : ∀ u ∈ r.cells, u.oneCell' = true := fun u hu => by simp [RuD.cells] at hu; rcases hu with rfl | rfl | rfl | rfl | rfl | rfl | rfl | rfl | rfl | rfl | rfl <;> rfl
theorem er_one (r : EraD) : ∀ u ∈ r.cells, u.oneCell' = true := fun u hu => by simp [EraD.cells] at hu; rcases hu with rfl | rfl | rfl | rfl | rfl <;> rfl
end Go.Proofs.YtbagdlafpahgdaaGreatDoor
namespace Go.Proofs.YtbagdlafpahgdaaGreatDoor
set_option linter.unusedVariables false
set_option linter.unusedSimpArgs false
open Go.RowKit
/-- the cells of a row, one after another -/
theorem Row.news {α : Type} {w : World} {k : Nat} {enc : α → List Value} {b off : Nat} {l : List α} (hk : ∀ x, (enc x).length = k) (h : Row w k enc (some ⟨b, off, none⟩) l) :
    ∀ j u, (l.flatMap enc)[j]? = some u → w.cell? ((⟨b, off, none⟩ : Addr).add j) = some u := fun j u hu => by
  have hj := (List.getElem?_eq_some_iff.1 hu).1
  rw [flat_len hk] at hj
  have hk0 : 0 < k := by
    cases k with
    | zero => simp at hj
    | succ k => omega
  have hi : j / k < l.length := by rw [Nat.div_lt_iff_lt_mul hk0]; exact hj
  have hr : j % k < k := Nat.mod_lt _ hk0
  have he := Nat.div_add_mod j k
  obtain ⟨x, hx⟩ := get_lt hi
  have hv : (enc x)[j % k]? = some ((enc x)[j % k]'(by rw [hk]; exact hr)) := List.getElem?_eq_getElem _
  have hf := flat_get hk l (j / k) x hx (j % k) _ hv
  rw [show j / k * k + j % k = j by rw [Nat.mul_comm]; exact he] at hf
  rw [hu] at hf
  injection hf with hf
  obtain ⟨b', off', e, _, hc⟩ := h (j / k) x hx
  injection e with e; injection e with e1 e2; subst e1; subst e2
  have := hc (j % k) _ hv
  rw [← hf] at this
  rw [show (⟨b, off, none⟩ : Addr).add j = ⟨b, off + (j / k) * k + j % k, none⟩ by
    have q : off + (j / k) * k + j % k = off + j := by rw [Nat.add_assoc, Nat.mul_comm (j / k) k, he]
    rw [q]; unfold Addr.add; split <;> simp_all]
  exact this
end Go.Proofs.YtbagdlafpahgdaaGreatDoor
namespace Go.Proofs.YtbagdlafpahgdaaGreatDoor
set_option linter.unusedVariables false
set_option linter.unusedSimpArgs false
open Go.RowKit
theorem addr_zero (b off j : Nat) : (⟨b, off, none⟩ : Addr).add j = ⟨b, off + j, none⟩ := by unfold Addr.add; split <;> simp_all
/-- a row in a new block, with room behind it -/
theorem row_new {α : Type} {w : World} {k : Nat} {enc : α → List Value} (hk : ∀ x, (enc x).length = k) (l : List α) (e : TypeId) (zs : Array Value) : Row (w.alloc (.cells ((l.flatMap enc).toArray ++ zs) e)) k enc (some ⟨w.heap.size, 0, none⟩) l := fun i x hx => by
  refine ⟨w.heap.size, 0, rfl, by simp, fun j v hv => ?_⟩
  have hf := flat_get hk l i x hx j v hv
  have hlt := (List.getElem?_eq_some_iff.1 hf).1
  rw [World.cell?_alloc_new, Nat.zero_add, Array.getElem?_append_left (by simpa using hlt)]
  simpa using hf
/-- append onto a slice without room -/
theorem run_app_full {P : Program} {α : Type} (w : World) (t ty e : TypeId) (i : TypeInfo) (z : Value) (k bytes : Nat) (ht : P.underlying t = some (.slice e)) (hi : P.info? e = some i) (hz : i.zero = some z) (hsize : i.size = k) (hby : i.bytes = bytes) (hbytes : bytes ≤ 1000)
    (enc : α → List Value) (hk : ∀ x, (enc x).length = k) (l1 l2 : List α) (A1 A2 : Option Addr) (c2 : Nat) (h1 : Row w k enc A1 l1) (h2 : Row w k enc A2 l2) (hA : A1 = none ∨ ∃ b off, A1 = some ⟨b, off, none⟩) (h63 : l1.length + l2.length ≤ 100000) :
    ∃ A c w', (Builtin.append_ #[t, t] ty #[.slice A1 l1.length l1.length, .slice A2 l2.length c2]).run P w = .ok (.slice A (l1 ++ l2).length c) w' ∧ Row w' k enc A (l1 ++ l2) ∧ (l1 ++ l2).length ≤ c ∧ c ≤ maxLen ∧ Gr w w' ∧
      (l2 ≠ [] → A = some ⟨w.heap.size, 0, none⟩ ∧ w.heap.size < w'.heap.size) ∧ (l2 = [] → A = A1 ∧ w' = w ∧ c = l1.length) := by
  subst hsize
  have hmul : (l1.length + l2.length) * bytes ≤ 100000 * 1000 := Nat.mul_le_mul h63 hbytes
  have hcap : ∀ n old : Nat, n ≤ 100000 → grownCap w n old e ≤ maxLen := fun n old hn => grownCap_le_maxLen w n old e (by unfold maxLen; omega)
  cases l2 with
  | nil =>
    refine ⟨A1, l1.length, w, ?_, by simpa using h1, by simp, by unfold maxLen; simp at h63; omega, Gr.refl w, fun q => absurd rfl q, fun _ => ⟨rfl, rfl, rfl⟩⟩
    rw [List.append_nil]
    cases A1 <;> cases A2 <;> simp [Builtin.append_, run_underlying ht, sizeOf, typeInfo, hi, Builtin.lenOf, Builtin.firstCells, loadCells, loadCellsFrom, storeCells]
  | cons y l2 =>
    obtain ⟨b, off, rfl, _⟩ := h2 0 y rfl
    have fin : ∀ c, c ≤ maxLen → (l1 ++ y :: l2).length ≤ c → ∀ zs : Array Value, Row (w.drew.alloc (.cells (((l1 ++ y :: l2).flatMap enc).toArray ++ zs) e)) i.size enc (some ⟨w.heap.size, 0, none⟩) (l1 ++ y :: l2) ∧ Gr w (w.drew.alloc (.cells (((l1 ++ y :: l2).flatMap enc).toArray ++ zs) e)) ∧ w.heap.size < (w.drew.alloc (.cells (((l1 ++ y :: l2).flatMap enc).toArray ++ zs) e)).heap.size := fun c _ _ zs =>
      ⟨row_new (w := w.drew) hk _ e zs, (Gr.drew w).alloc' _, by simp⟩
    have hlen : (l1 ++ y :: l2).length = l1.length + (y :: l2).length := by simp
    by_cases h0 : l1 = []
    · subst h0
      rcases hA with rfl | ⟨b1, o1, rfl⟩
      · have hr := run_append_nil (P := P) w t ty e i z ht hi hz ⟨b, off, none⟩ (y :: l2).length c2 ((y :: l2).flatMap enc) (flat_len hk _) (Row.news hk h2) (by simp) (by simp only [List.length_nil, Nat.zero_add] at h63; omega) (by rw [hby]; simp only [List.length_nil, Nat.zero_add] at hmul; omega)
        have hc := hcap (y :: l2).length 0 (by simp only [List.length_nil, Nat.zero_add] at h63; omega)
        have hge := grownCap_ge w (y :: l2).length 0 e
        obtain ⟨f1, f2, f3⟩ := fin _ hc (by simpa using hge) (Builtin.zeroCells z.cells (grownCap w (y :: l2).length 0 e - (y :: l2).length))
        exact ⟨_, _, _, hr, by simpa using f1, by simpa using hge, hc, by simpa using f2, fun _ => ⟨rfl, by simp⟩, fun q => absurd q (by simp)⟩
      · have hr := run_append_grow (P := P) w t ty e i z ht hi hz ⟨b1, o1, none⟩ 0 0 [] (by simp) (fun j v hv => by simp at hv) ⟨b, off, none⟩ (y :: l2).length c2 ((y :: l2).flatMap enc) (flat_len hk _) (Row.news hk h2) (by simp) (by simp only [List.length_nil, Nat.zero_add] at h63; omega) (growslice_fits (by simp) (by rw [hby]; simp only [List.length_nil] at hmul; omega))
        simp only [Nat.zero_add] at hr
        have hc := hcap (y :: l2).length 0 (by simp only [List.length_nil, Nat.zero_add] at h63; omega)
        have hge := grownCap_ge w (y :: l2).length 0 e
        obtain ⟨f1, f2, f3⟩ := fin _ hc (by simpa using hge) (Builtin.zeroCells z.cells (grownCap w (y :: l2).length 0 e - (y :: l2).length))
        exact ⟨_, _, _, hr, by simpa using f1, by simpa using hge, hc, by simpa using f2, fun _ => ⟨rfl, by simp⟩, fun q => absurd q (by simp)⟩
    · obtain ⟨x, l1', rfl⟩ := List.exists_cons_of_ne_nil h0
      obtain ⟨b1, o1, rfl, _⟩ := h1 0 x rfl
      have hr := run_append_grow (P := P) w t ty e i z ht hi hz ⟨b1, o1, none⟩ (x :: l1').length (x :: l1').length ((x :: l1').flatMap enc) (flat_len hk _) (Row.news hk h1) ⟨b, off, none⟩ (y :: l2).length c2 ((y :: l2).flatMap enc) (flat_len hk _) (Row.news hk h2) (by simp) (by omega) (growslice_fits (by simp) (by rw [hby]; omega))
      have hc := hcap ((x :: l1').length + (y :: l2).length) (x :: l1').length h63
      have hge := grownCap_ge w ((x :: l1').length + (y :: l2).length) (x :: l1').length e
      obtain ⟨f1, f2, f3⟩ := fin _ hc (by rw [hlen]; exact hge) (Builtin.zeroCells z.cells (grownCap w ((x :: l1').length + (y :: l2).length) (x :: l1').length e - ((x :: l1').length + (y :: l2).length)))
      have eapp : ((x :: l1').flatMap enc).toArray ++ ((y :: l2).flatMap enc).toArray = ((x :: l1' ++ y :: l2).flatMap enc).toArray := by rw [List.flatMap_append]; simp
      rw [eapp] at hr
      exact ⟨_, _, _, by rw [hlen]; exact hr, f1, by rw [hlen]; exact hge, hc, f2, fun _ => ⟨rfl, f3⟩, fun q => absurd q (by simp)⟩
/-- the same at a step of a region that draws its order -/
theorem step_app_full {P : Program} {α : Type} (w : World) {ops : Array Oper} {o : Oper} {a : Act} {K : Act → World → Prop} {Q : Exit → Act → World → Prop} {E : Prop} (hgd : o.guard = none) (s x : Operand) (t : TypeId)
    (ho : o.op = .call { callee := .builtin .append, args := #[s, x], argTypes := #[t, t] }) (e : TypeId) (i : TypeInfo) (z : Value) (k bytes : Nat) (ht : P.underlying t = some (.slice e)) (hi : P.info? e = some i) (hz : i.zero = some z)
    (hsize : i.size = k) (hby : i.bytes = bytes) (hbytes : bytes ≤ 1000) (enc : α → List Value) (hk : ∀ x, (enc x).length = k) (l1 l2 : List α) (A1 A2 : Option Addr) (n1 n2 c2 : Nat) (hs : a.eval s = .slice A1 n1 n1) (hx : a.eval x = .slice A2 n2 c2) (hn1 : n1 = l1.length) (hn2 : n2 = l2.length)
    (h1 : Row w k enc A1 l1) (h2 : Row w k enc A2 l2) (hA : A1 = none ∨ ∃ b off, A1 = some ⟨b, off, none⟩) (h63 : l1.length + l2.length ≤ 100000)
    (h : ∀ A c w', Row w' k enc A (l1 ++ l2) → (l1 ++ l2).length ≤ c → c ≤ maxLen → Gr w w' → (l2 ≠ [] → A = some ⟨w.heap.size, 0, none⟩ ∧ w.heap.size < w'.heap.size) → (l2 = [] → A = A1 ∧ w' = w ∧ c = l1.length) → K (a.put o.dst (.slice A (l1 ++ l2).length c)) w') :
    if Region.wanted o (yielded ops a.tmps) = true then Oper.wp P o a w K Q else E := by
  have hw : Region.wanted o (yielded ops a.tmps) = true := by simp [Region.wanted, hgd]
  rw [if_pos hw]
  subst hn1; subst hn2
  obtain ⟨A, c, w', hr, r1, r2, r3, r4, r5, r6⟩ := run_app_full (P := P) w t o.type e i z k bytes ht hi hz hsize hby hbytes enc hk l1 l2 A1 A2 c2 h1 h2 hA h63
  unfold Oper.wp execOp
  simp only [ho, resolve, invoke, builtin, Sem.run_bind, Sem.run_pure, Result.andThen_ok, List.map_toArray, List.map_cons, List.map_nil, hs, hx, hr]
  exact h A c w' r1 r2 r3 r4 r5 r6
end Go.Proofs.YtbagdlafpahgdaaGreatDoor
namespace Go.Proofs.YtbagdlafpahgdaaGreatDoor
set_option linter.unusedVariables false
set_option linter.unusedSimpArgs false
open Go.RowKit
/-- where what is behind the j-th lies -/
def tailG (A : Option Addr) (j k c : Nat) : Option Addr := if c = j then A else A.map (·.add (j * k))
/-- an address as rows have it -/
def Flat (A : Option Addr) : Prop := A = none ∨ ∃ b off, A = some ⟨b, off, none⟩
theorem flat_map {A : Option Addr} (h : Flat A) : A.map (·.add 0) = A := by
  rcases h with rfl | ⟨b, off, rfl⟩
  · rfl
  · simp [addr_zero]
theorem sl_upto {P : Program} {T E : TypeId} {k : Nat} (hu : P.underlying T = some (.slice E)) (he : P.elem T = E) (hz : ∀ w, (Go.sizeOf E).run P w = .ok k w) (A : Option Addr) (j n c : Nat) (w : World) (hj : j ≤ c) (h : Flat A) : (Instr.sliceAt T (.slice A n c) none (some (.int .i64 j)) none).run P w = .ok (.slice A j c) w := by
  have hu' : P.underlying T = some (.slice (P.elem T)) := by rw [he]; exact hu
  rw [run_sliceAt_slice _ _ _ _ _ _ hu', run_slice_h w T A n c hu' .i64 j (by omega) (by omega), he, hz w]
  simp only [Result.andThen, Int.toNat_natCast]
  unfold sliced
  rw [Nat.zero_mul, flat_map h]
  simp
theorem sl_cut {P : Program} {T E : TypeId} {k : Nat} (hu : P.underlying T = some (.slice E)) (he : P.elem T = E) (hz : ∀ w, (Go.sizeOf E).run P w = .ok k w) (A : Option Addr) (j n c : Nat) (w : World) (hj : j ≤ c) (h : Flat A) : (Instr.sliceAt T (.slice A n c) none (some (.int .i64 j)) (some (.int .i64 j))).run P w = .ok (.slice A j j) w := by
  have hu' : P.underlying T = some (.slice (P.elem T)) := by rw [he]; exact hu
  rw [run_sliceAt_slice _ _ _ _ _ _ hu', run_slice_hm w T A n c hu' .i64 .i64 j j (by omega) (Int.le_refl _) (by omega), he, hz w]
  simp only [Result.andThen, Int.toNat_natCast]
  unfold sliced
  rw [Nat.zero_mul, flat_map h]
  simp
theorem sl_from {P : Program} {T E : TypeId} {k : Nat} (hu : P.underlying T = some (.slice E)) (he : P.elem T = E) (hz : ∀ w, (Go.sizeOf E).run P w = .ok k w) (A : Option Addr) (j n c : Nat) (w : World) (hj : j ≤ n) (hn : n ≤ c) : (Instr.sliceAt T (.slice A n c) (some (.int .i64 j)) none none).run P w = .ok (.slice (tailG A j k c) (n - j) (c - j)) w := by
  have hu' : P.underlying T = some (.slice (P.elem T)) := by rw [he]; exact hu
  rw [run_sliceAt_slice _ _ _ _ _ _ hu', run_slice_l w T A n c hu' .i64 j (by omega) (by omega), he, hz w]
  rfl
theorem row_from {α : Type} {w : World} {k : Nat} {enc : α → List Value} {A : Option Addr} {L : List α} {j c : Nat} (h : Row w k enc A L) (hc : L.length ≤ c) : Row w k enc (tailG A j k c) (L.drop j) := fun i x hx => by
  rw [List.getElem?_drop] at hx
  obtain ⟨b, off, rfl, hb, hce⟩ := h _ x hx
  have hl := (List.getElem?_eq_some_iff.1 hx).1
  refine ⟨b, off + j * k, ?_, hb, fun m v hv => ?_⟩
  · unfold tailG
    rw [if_neg (by omega)]
    simp [addr_zero]
  · have := hce m v hv
    rwa [show off + (j + i) * k + m = off + j * k + i * k + m by rw [Nat.add_mul]; omega] at this
theorem row_flat {α : Type} {w : World} {k : Nat} {enc : α → List Value} {A : Option Addr} {L : List α} (h : Row w k enc A L) (hl : 0 < L.length) : Flat A := by
  obtain ⟨x, hx⟩ := get_lt hl
  obtain ⟨b, off, rfl, _⟩ := h 0 x hx
  exact Or.inr ⟨b, off, rfl⟩
end Go.Proofs.YtbagdlafpahgdaaGreatDoor
