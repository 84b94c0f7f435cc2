/- Blocks of a call's own; rows of its own that are appended tto. No function of the program in it. What the project's Of of package day returns, for every input. A slice copied by append. No function of the program in it. -/
import Derived.Deep.AppendLies
import Derived.OwnWalk
import Derived.Laws.OwnMore
import Derived.Test.YtkmgildnhnjepaaGreatDoorRM07
import Derived.Deep.QuietTactic
import Derived.BigQuiet
import Derived.Test.YtkmgildnhnjepaaGreatDoorRM06
import Derived.Test.YtkmgildnhnjepaaGreatDoorRM05
import Derived.Laws.AppendOwn
namespace Go.Proofs.YtkmgildnhnjepaaGreatDoor
set_option linter.unusedVariables false
set_option linter.unusedSimpArgs false
open Go.RowKit
theorem bheap_gr {W W' : World} {B : Nat} {o : Obj} (g : Gr W W') (h : W.heap[B]? = some o) : W'.heap[B]? = some o := by
  have hb : B < W.heap.size := by
    by_cases c : B < W.heap.size
    · exact c
    · rw [Array.getElem?_eq_none (by omega)] at h; cases h
  rw [Below.block g B hb]; exact h
theorem bheap_new (W : World) (o : Obj) : (W.alloc o).heap[W.heap.size]? = some o := by unfold World.alloc; simp
theorem box_one (w : World) (o : Obj) : Gr w (w.alloc o) ∧ (w.alloc o).heap[w.heap.size]? = some o := ⟨Gr.alloc w o, bheap_new w o⟩
theorem box_two (w : World) (o1 o2 : Obj) : Gr w ((w.alloc o1).alloc o2) ∧ ((w.alloc o1).alloc o2).heap[w.heap.size]? = some o1 ∧ ((w.alloc o1).alloc o2).heap[w.heap.size + 1]? = some o2 := by
  refine ⟨(Gr.alloc w o1).alloc' o2, bheap_gr (Gr.alloc _ o2) (bheap_new w o1), ?_⟩
  have := bheap_new (w.alloc o1) o2
  rwa [show (w.alloc o1).heap.size = w.heap.size + 1 by unfold World.alloc; simp] at this
theorem bcell_row {W : World} {b i : Nat} {cs : Array Value} {T : TypeId} {v : Value} (h : W.heap[b]? = some (.cells cs T (0, 0))) (hv : cs[i]? = some v) : W.cell? ⟨b, i, none⟩ = some v := by simp [World.cell?, h, hv]
theorem flat_get {α : Type} {enc : α → List Value} {k : Nat} (hk : ∀ x, (enc x).length = k) : ∀ (l : List α) (i : Nat) (x : α), l[i]? = some x → ∀ j v, (enc x)[j]? = some v → (l.flatMap enc)[i * k + j]? = some v
  | [], i, x, h => by simp at h
  | y :: l, 0, x, h => fun j v hv => by
    have e : y = x := by simpa using h
    subst e
    have hj : j < (enc y).length := (List.getElem?_eq_some_iff.1 hv).1
    rw [List.flatMap_cons, Nat.zero_mul, Nat.zero_add, List.getElem?_append_left hj]; exact hv
  | y :: l, i + 1, x, h => fun j v hv => by
    have h' : l[i]? = some x := by simpa using h
    have := flat_get hk l i x h' j v hv
    rw [List.flatMap_cons, List.getElem?_append_right (by rw [hk y, Nat.add_mul]; omega), hk y, show (i + 1) * k + j - k = i * k + j by rw [Nat.add_mul]; omega]
    exact this
theorem flat_len {α : Type} {enc : α → List Value} {k : Nat} (hk : ∀ x, (enc x).length = k) : ∀ (l : List α), (l.flatMap enc).length = l.length * k
  | [] => by simp
  | y :: l => by rw [List.flatMap_cons, List.length_append, flat_len hk l, hk y, List.length_cons, Nat.add_mul]; omega
/-- a row of the call's own: the things of l, each in k cells -/
def Own {α : Type} (w : World) (base : Nat) (e : TypeId) (k : Nat) (enc : α → List Value) (v : Value) (l : List α) : Prop := w.ownsRow base e k v l.length (l.flatMap enc)
section
variable {α : Type} {w w' : World} {base k : Nat} {e : TypeId} {enc : α → List Value} {v : Value} {l : List α}
theorem Own.nil_ (w : World) (base : Nat) (e : TypeId) (k : Nat) (enc : α → List Value) : Own w base e k enc (.slice none 0 0) ([] : List α) := ⟨by simp, Or.inl ⟨rfl, rfl⟩⟩
theorem Own.gr (h : Own w base e k enc v l) (g : Gr w w') : Own w' base e k enc v l :=
  World.ownsRow.kept (row := none) h ⟨g.os, g.tape, g.output, Below.size g, fun i hi _ => g.block i hi⟩ (by cases v.ownBlock <;> simp)
theorem Own.form (h : Own w base e k enc v l) : ∃ A c, v = .slice A l.length c ∧ l.length ≤ c ∧ c ≤ maxLen ∧ (∀ a, A = some a → a.off = 0 ∧ a.spot = none ∧ base ≤ a.block ∧ a.block < w.heap.size) := by
  rcases h.2 with ⟨rfl, h0⟩ | ⟨g, cap, cur, rfl, hb, hg, h1, h2, _⟩
  · exact ⟨none, 0, by rw [h0], by omega, Nat.zero_le _, fun a ha => by cases ha⟩
  · exact ⟨some ⟨g, 0, none⟩, cap, rfl, h1, h2, fun a ha => by injection ha with ha; subst ha; exact ⟨rfl, rfl, hb, (Array.getElem?_eq_some_iff.1 hg).1⟩⟩
theorem Own.row {A : Option Addr} {n c : Nat} (hk : ∀ x, (enc x).length = k) (h : Own w base e k enc (.slice A n c) l) : Row w k enc A l := fun i x hx => by
  rcases h.2 with ⟨hv, h0⟩ | ⟨g, cap, cur, hv, hb, hg, _⟩
  · have : i < l.length := (List.getElem?_eq_some_iff.1 hx).1
    omega
  · injection hv with hA
    subst hA
    refine ⟨g, 0, rfl, (Array.getElem?_eq_some_iff.1 hg).1, fun j u hu => ?_⟩
    have h2 := World.ownsRow.cells h (g := g) rfl (i * k + j) u (flat_get hk l i x hx j u hu)
    rwa [show (⟨g, 0, none⟩ : Addr).add (i * k + j) = ⟨g, 0 + i * k + j, none⟩ by unfold Addr.add; split <;> simp_all] at h2
end
/-- the row with one thing more -/
theorem own_more {α : Type} {w : World} {base k : Nat} {e : TypeId} {enc : α → List Value} {v : Value} {l l' : List α} {x : α} (hl : l' = l ++ [x]) (h : w.ownsRow base e k v (l.length + 1) (l.flatMap enc ++ enc x)) : Own w base e k enc v l' := by
  subst hl
  unfold Own
  rw [List.length_append, List.flatMap_append]
  simpa using h
theorem own_base {α : Type} {w : World} {base k : Nat} {e : TypeId} {enc : α → List Value} {v : Value} {l : List α} (h : Own w base e k enc v l) : ∀ j, v.ownBlock = some j → base ≤ j := fun j hj => (World.ownsRow.lt h j hj).1
/-- what lay below the base lies so still -/
theorem grown_gr {a w w' : World} {row : Option Nat} (h : Gr a w) (g : w.grownBy w' row) (hr : ∀ j, row = some j → a.heap.size ≤ j) : Gr a w' :=
  Below.grown h g (Below.size h) (fun j hj => hr j hj)
theorem ru_len (r : RuD) : r.cells.length = 11 := rfl
theorem er_len (r : EraD) : r.cells.length = 5 := rfl
theorem ru_one (r : RuD) : ∀ u ∈ r.cells, u.oneCell' = true := fun u hu => by simp [RuD.cells] at hu; rcases hu with rfl | rfl | rfl | rfl | rfl | rfl | rfl | rfl | rfl | rfl | rfl <;> rfl
theorem er_one (r : EraD) : ∀ u ∈ r.cells, u.oneCell' = true := fun u hu => by simp [EraD.cells] at hu; rcases hu with rfl | rfl | rfl | rfl | rfl <;> rfl
end Go.Proofs.YtkmgildnhnjepaaGreatDoor
namespace Go.Proofs.YtkmgildnhnjepaaGreatDoor
set_option linter.unusedVariables false
set_option linter.unusedSimpArgs false
open Go.RowKit
set_option maxHeartbeats 1000000 in
theorem dayOf_bad (y m k d n : Int) (w : World) (h : ¬ DayOk k d n) :
    Calls Tryz.prog 112 #[.int .i64 y, .int .i64 m, dayV k d n] w fun e w' => e = dayA y m k d n ∧ Gr w w' := by
  have E := Lib.hid (show two 0 1 = dayA y m k d n by unfold dayA; rw [if_neg h])
  have c := dayCheck k d n (w.alloc (.cells #[.int .i64 k, .int .i64 d, .int .i64 n] 116))
  rw [dchk_no h] at c
  clear h
  go_enter Tryz.func112, Tryz.ntmps112
  go_wp2_with fail
  refine c.mono ?_
  rintro e w1 ⟨rfl, hg⟩
  go_wp2_with fail
  go_ret2
  exact ⟨E.out, (Gr.alloc _ _).trans hg⟩

set_option maxHeartbeats 1000000 in
theorem dayOf_month (y m k d n : Int) (w : World) (h : DayOk k d n) (hm : ¬ (1600 ≤ y ∧ y ≤ 2399 ∧ 1 ≤ m ∧ m ≤ 12)) :
    Calls Tryz.prog 112 #[.int .i64 y, .int .i64 m, dayV k d n] w fun e w' => e = dayA y m k d n ∧ Gr w w' := by
  have E := Lib.hid (show two 0 1 = dayA y m k d n by unfold dayA; rw [if_pos h, if_neg hm])
  have c := dayCheck k d n (w.alloc (.cells #[.int .i64 k, .int .i64 d, .int .i64 n] 116))
  rw [dchk_yes h] at c
  clear h
  go_enter Tryz.func112, Tryz.ntmps112
  go_wp2_with fail
  refine c.mono ?_
  rintro e w1 ⟨rfl, hg⟩
  go_wp2_with fail
  refine (length_no y m w1 hm).mono ?_
  rintro e w2 ⟨rfl, rfl⟩
  go_wp2_with fail
  go_ret2
  exact ⟨E.out, (Gr.alloc _ _).trans hg⟩

set_option maxHeartbeats 1000000 in
theorem dayOf_long (y m k d n : Int) (w : World) (hl0 : HasLen w) (h : DayOk k d n) (h1 : 1600 ≤ y) (h2 : y ≤ 2399) (h3 : 1 ≤ m) (h4 : m ≤ 12) (hl : Cal.ml y m < n) :
    Calls Tryz.prog 112 #[.int .i64 y, .int .i64 m, dayV k d n] w fun e w' => e = dayA y m k d n ∧ Gr w w' := by
  have E := Lib.hid (show two 0 6 = dayA y m k d n by unfold dayA; rw [if_pos h, if_pos ⟨h1, h2, h3, h4⟩, if_pos hl])
  have c := dayCheck k d n (w.alloc (.cells #[.int .i64 k, .int .i64 d, .int .i64 n] 116))
  rw [dchk_yes h] at c
  have hc : (w.alloc (.cells #[.int .i64 k, .int .i64 d, .int .i64 n] 116)).cell? ⟨w.heap.size, 2, none⟩ = some (.int .i64 n) := by rw [World.cell?_alloc_new]; rfl
  have HL := Lib.hid hl0
  clear h hl0
  go_enter Tryz.func112, Tryz.ntmps112
  go_wp2_with fail
  refine c.mono ?_
  rintro e w1 ⟨rfl, hg⟩
  have hc1 := hg.holds hc
  have hgw := (Gr.alloc w _).trans hg
  clear c hc hg
  generalize w.heap.size = b at hc1 ⊢
  go_wp2_with fail
  refine (length_yes y m w1 (hgw.len HL.out) h1 h2 h3 h4).mono ?_
  rintro e w2 ⟨rfl, rfl⟩
  go_wp2_with fail
  go_ret2
  exact ⟨E.out, hgw⟩

theorem dayOk_bd0 {k d n : Int} (h : DayOk k d n) : 0 ≤ d ∧ d ≤ 6 ∧ 0 ≤ n ∧ n ≤ 31 := by unfold DayOk at h; omega
theorem Gr.frozen' {w w' : World} (h : Gr w w') {b o : Nat} (hb : b < w.heap.size) : w'.frozen? ⟨b, o, none⟩ = w.frozen? ⟨b, o, none⟩ := Below.frozen (p := ⟨b, o, none⟩) h hb
theorem set_0 {W : World} {b : Nat} {u x y z : Value} (h : W.cell? ⟨b, 0, none⟩ = some u) : (((W.setCell ⟨b, 0, none⟩ x).setCell ⟨b, 1, none⟩ y).setCell ⟨b, 2, none⟩ z).cell? ⟨b, 0, none⟩ = some x :=
  (World.cell?_setCell_other _ _ _ _ (by simp)).trans ((World.cell?_setCell_other _ _ _ _ (by simp)).trans (World.cell?_setCell_same W _ _ h))
theorem set_1 {W : World} {b : Nat} {u x y z : Value} (h : W.cell? ⟨b, 1, none⟩ = some u) : (((W.setCell ⟨b, 0, none⟩ x).setCell ⟨b, 1, none⟩ y).setCell ⟨b, 2, none⟩ z).cell? ⟨b, 1, none⟩ = some y :=
  (World.cell?_setCell_other _ _ _ _ (by simp)).trans (World.cell?_setCell_same _ _ _ ((World.cell?_setCell_other W _ _ _ (by simp)).trans h))
theorem set_2 {W : World} {b : Nat} {u x y z : Value} (h : W.cell? ⟨b, 2, none⟩ = some u) : (((W.setCell ⟨b, 0, none⟩ x).setCell ⟨b, 1, none⟩ y).setCell ⟨b, 2, none⟩ z).cell? ⟨b, 2, none⟩ = some z :=
  World.cell?_setCell_same _ _ _ ((World.cell?_setCell_other _ _ _ _ (by simp)).trans ((World.cell?_setCell_other W _ _ _ (by simp)).trans h))
theorem days_at (y m n : Int) : Cal.days y m n = Cal.days y m 1 + n - 1 := by unfold Cal.days; omega
theorem dayT_mv {y m k d n : Int} (h : DayOk k d n) (hk : ¬ k = 2) : dayT y m k d n = Cal.days y m n + mv k d ((Cal.days y m n + 135146) % 7) := by
  have hb := dayOk_bd0 h
  rw [days_at y m n]
  obtain ⟨hk4, _⟩ := h
  have : k = 1 ∨ k = 3 ∨ k = 4 := by omega
  rcases this with rfl | rfl | rfl
  · simp [dayT, mv]
  · simp [dayT, mv, nd] <;> omega
  · simp [dayT, mv, nd] <;> omega
theorem dayT_last {y m d n : Int} (h : DayOk 2 d n) : dayT y m 2 d n = Cal.days y m (Cal.ml y m) + mv 4 d ((Cal.days y m (Cal.ml y m) + 135146) % 7) := by
  have hb := dayOk_bd0 h
  rw [days_at y m (Cal.ml y m)]
  simp [dayT, mv, nd] <;> omega

set_option maxHeartbeats 2000000 in
theorem dayOf_go (y m k d n : Int) (w : World) (hl0 : HasLen w) (h : DayOk k d n) (hk : ¬ k = 2) (h1 : 1600 ≤ y) (h2 : y ≤ 2399) (h3 : 1 ≤ m) (h4 : m ≤ 12) (hl : ¬ Cal.ml y m < n) :
    Calls Tryz.prog 112 #[.int .i64 y, .int .i64 m, dayV k d n] w fun e w' => e = dayA y m k d n ∧ Gr w w' := by
  have hA := dayA_ok h h1 h2 h3 h4 hl
  rw [dayT_mv h hk] at hA
  have hb := dayOk_bd0 h
  have hn1 : 1 ≤ n := (h.2.2.2.2 hk).1
  have hv : Cal.Valid y m n := ⟨h1, h2, h3, h4, hn1, by omega⟩
  have fb := Cal.days_bd hv
  have c := dayCheck k d n (w.alloc (.cells #[.int .i64 k, .int .i64 d, .int .i64 n] 116))
  have hc0 : (w.alloc (.cells #[.int .i64 k, .int .i64 d, .int .i64 n] 116)).cell? ⟨w.heap.size, 0, none⟩ = some (.int .i64 k) := by rw [World.cell?_alloc_new]; rfl
  have hc1 : (w.alloc (.cells #[.int .i64 k, .int .i64 d, .int .i64 n] 116)).cell? ⟨w.heap.size, 1, none⟩ = some (.int .i64 d) := by rw [World.cell?_alloc_new]; rfl
  have hc2 : (w.alloc (.cells #[.int .i64 k, .int .i64 d, .int .i64 n] 116)).cell? ⟨w.heap.size, 2, none⟩ = some (.int .i64 n) := by rw [World.cell?_alloc_new]; rfl
  rw [dchk_yes h] at c
  have HL := Lib.hid hl0
  have hk2 : (k == 2) = false := beqF hk
  have lT : ¬ Cal.ml y m < n := hl
  have HV := Lib.hid hv
  have HA := Lib.hid hA
  obtain ⟨d1, d2, n1, n2⟩ := hb
  obtain ⟨fb1, fb2⟩ := fb
  have mb := (Cal.ml_bd y h3 h4)
  obtain ⟨mb1, mb2⟩ := mb
  have wb1 : 0 ≤ (Cal.days y m n + 135146) % 7 := by omega
  have wb2 : (Cal.days y m n + 135146) % 7 ≤ 6 := by omega
  have M := Lib.hid (fun w => move_any k d n ((Cal.days y m n + 135146) % 7) w d1 d2 wb1 wb2)
  have WY := Lib.hid (fun w => weekday_yes (Cal.days y m n) w fb1 fb2)
  have vb : -6 ≤ mv k d ((Cal.days y m n + 135146) % 7) ∧ mv k d ((Cal.days y m n + 135146) % 7) ≤ 6 := by unfold mv; split; omega; split; omega; omega
  obtain ⟨vb1, vb2⟩ := vb
  clear h hl0 hv hA hk
  go_enter Tryz.func112, Tryz.ntmps112
  go_wp2_with fail
  refine c.mono ?_
  rintro e w1 ⟨rfl, hg⟩
  have g0 := hg.holds hc0
  have g1 := hg.holds hc1
  have g2 := hg.holds hc2
  have hgw := (Gr.alloc w _).trans hg
  clear c hc0 hc1 hc2 hg
  generalize w.heap.size = b at g0 g1 g2 ⊢
  go_wp2_with fail
  refine (length_yes y m w1 (hgw.len HL.out) h1 h2 h3 h4).mono ?_
  rintro e w2 ⟨rfl, rfl⟩
  go_wp2_with fail
  refine (days_yes y m n w1 (hgw.len HL.out) HV.out).mono ?_
  rintro e w2 ⟨rfl, rfl⟩
  generalize Cal.days y m n = D at *
  generalize (D + 135146) % 7 = wd at *
  go_wp2_with fail
  refine (WY.out w1).mono ?_
  rintro e w2 ⟨rfl, rfl⟩
  go_wp2_with fail
  refine (M.out w1).mono ?_
  rintro e w2 ⟨rfl, hg2⟩
  have hgw2 := hgw.trans hg2
  generalize mv k d wd = v at *
  by_cases r : -135140 ≤ D + v ∧ D + v ≤ 157053
  · have E := HA.out
    rw [if_pos r] at E
    have E' := Lib.hid E
    clear E HA
    obtain ⟨r1, r2⟩ := r
    go_wp2_with fail
    refine (weekday_yes (D + v) w2 r1 r2).mono ?_
    rintro e w3 ⟨rfl, rfl⟩
    go_wp2_with fail
    go_ret2
    exact ⟨E'.out.symm, hgw2⟩
  · have E := HA.out
    rw [if_neg r] at E
    have E' := Lib.hid E
    clear E HA
    go_wp2_with fail
    refine (weekday_no (D + v) w2 r).mono ?_
    rintro e w3 ⟨rfl, rfl⟩
    go_wp2_with fail
    go_ret2
    exact ⟨E'.out.symm, hgw2⟩

set_option maxHeartbeats 2000000 in
theorem dayOf_last (y m d n : Int) (w : World) (hl0 : HasLen w) (h : DayOk 2 d n) (h1 : 1600 ≤ y) (h2 : y ≤ 2399) (h3 : 1 ≤ m) (h4 : m ≤ 12) (hl : ¬ Cal.ml y m < n) :
    Calls Tryz.prog 112 #[.int .i64 y, .int .i64 m, dayV 2 d n] w fun e w' => e = dayA y m 2 d n ∧ Gr w w' := by
  have hA := dayA_ok h h1 h2 h3 h4 hl
  rw [dayT_last h] at hA
  have hb := dayOk_bd0 h
  have mb := (Cal.ml_bd y h3 h4)
  have hv : Cal.Valid y m (Cal.ml y m) := ⟨h1, h2, h3, h4, by omega, by omega⟩
  have fb := Cal.days_bd hv
  have c := dayCheck 2 d n (w.alloc (.cells #[.int .i64 2, .int .i64 d, .int .i64 n] 116))
  have hc0 : (w.alloc (.cells #[.int .i64 2, .int .i64 d, .int .i64 n] 116)).cell? ⟨w.heap.size, 0, none⟩ = some (.int .i64 2) := by rw [World.cell?_alloc_new]; rfl
  have hc1 : (w.alloc (.cells #[.int .i64 2, .int .i64 d, .int .i64 n] 116)).cell? ⟨w.heap.size, 1, none⟩ = some (.int .i64 d) := by rw [World.cell?_alloc_new]; rfl
  have hc2 : (w.alloc (.cells #[.int .i64 2, .int .i64 d, .int .i64 n] 116)).cell? ⟨w.heap.size, 2, none⟩ = some (.int .i64 n) := by rw [World.cell?_alloc_new]; rfl
  rw [dchk_yes h] at c
  have HL := Lib.hid hl0
  have lT : ¬ Cal.ml y m < n := hl
  have HV := Lib.hid hv
  have HA := Lib.hid hA
  obtain ⟨d1, d2, n1, n2⟩ := hb
  obtain ⟨fb1, fb2⟩ := fb
  obtain ⟨mb1, mb2⟩ := mb
  have wb1 : 0 ≤ (Cal.days y m (Cal.ml y m) + 135146) % 7 := by omega
  have wb2 : (Cal.days y m (Cal.ml y m) + 135146) % 7 ≤ 6 := by omega
  have M := Lib.hid (fun w => move_any 4 d (Cal.ml y m) ((Cal.days y m (Cal.ml y m) + 135146) % 7) w d1 d2 wb1 wb2)
  have WY := Lib.hid (fun w => weekday_yes (Cal.days y m (Cal.ml y m)) w fb1 fb2)
  have LY := Lib.hid (fun w hl => length_yes y m w hl h1 h2 h3 h4)
  have DY := Lib.hid (fun w hl => days_yes y m (Cal.ml y m) w hl HV.out)
  have vb : -6 ≤ mv 4 d ((Cal.days y m (Cal.ml y m) + 135146) % 7) ∧ mv 4 d ((Cal.days y m (Cal.ml y m) + 135146) % 7) ≤ 6 := by unfold mv; split; omega; split; omega; omega
  obtain ⟨vb1, vb2⟩ := vb
  have fz : (w.alloc (.cells #[.int .i64 2, .int .i64 d, .int .i64 n] 116)).frozen? ⟨w.heap.size, 0, none⟩ = false ∧ (w.alloc (.cells #[.int .i64 2, .int .i64 d, .int .i64 n] 116)).frozen? ⟨w.heap.size, 1, none⟩ = false ∧ (w.alloc (.cells #[.int .i64 2, .int .i64 d, .int .i64 n] 116)).frozen? ⟨w.heap.size, 2, none⟩ = false := by refine ⟨?_, ?_, ?_⟩ <;> go_simp
  obtain ⟨z0, z1, z2⟩ := fz
  have lt : w.heap.size < (w.alloc (.cells #[.int .i64 2, .int .i64 d, .int .i64 n] 116)).heap.size := by simp
  have BW := Lib.hid (Nat.le_refl w.heap.size)
  clear h hl0 hv hA HV
  go_enter Tryz.func112, Tryz.ntmps112
  go_wp2_with fail
  refine c.mono ?_
  rintro e w1 ⟨rfl, hg⟩
  have g0 := hg.holds hc0
  have g1 := hg.holds hc1
  have g2 := hg.holds hc2
  have y0 := (hg.frozen' lt).trans z0
  have y1 := (hg.frozen' lt).trans z1
  have y2 := (hg.frozen' lt).trans z2
  have hgw := (Gr.alloc w _).trans hg
  clear c hc0 hc1 hc2 hg z0 z1 z2 lt
  have BB : Hid (∃ b, b = w.heap.size ∧ w.heap.size ≤ b) := ⟨_, rfl, Nat.le_refl _⟩
  generalize hbb : w.heap.size = b at g0 g1 g2 y0 y1 y2 ⊢
  have HB := Lib.hid hbb
  clear hbb BB BW
  go_wp2_with fail
  refine (LY.out w1 (hgw.len HL.out)).mono ?_
  rintro e w2 ⟨rfl, rfl⟩
  generalize Cal.ml y m = L at *
  generalize Cal.days y m L = D at *
  go_wp2_with fail
  have gw : Gr w (((w1.setCell ⟨b, 0, none⟩ (.int .i64 4)).setCell ⟨b, 1, none⟩ (.int .i64 d)).setCell ⟨b, 2, none⟩ (.int .i64 L)) := by
    have := HB.out
    exact Below.setCell (Below.setCell (Below.setCell hgw (by show w.heap.size ≤ b; omega) _) (by show w.heap.size ≤ b; omega) _) (by show w.heap.size ≤ b; omega) _
  have s2 := set_2 g2 (x := .int .i64 4) (y := .int .i64 d) (z := .int .i64 L)
  have s1 := set_1 g1 (x := .int .i64 4) (y := .int .i64 d) (z := .int .i64 L)
  have s0 := set_0 g0 (x := .int .i64 4) (y := .int .i64 d) (z := .int .i64 L)
  clear g0 g1 g2 y0 y1 y2 hgw
  generalize ((w1.setCell ⟨b, 0, none⟩ (.int .i64 4)).setCell ⟨b, 1, none⟩ (.int .i64 d)).setCell ⟨b, 2, none⟩ (.int .i64 L) = w2 at *
  go_wp2_with fail
  refine (DY.out w2 (gw.len HL.out)).mono ?_
  rintro e w3 ⟨rfl, rfl⟩
  generalize (D + 135146) % 7 = wd at *
  go_wp2_with fail
  refine (WY.out w2).mono ?_
  rintro e w3 ⟨rfl, rfl⟩
  go_wp2_with fail
  refine (M.out w2).mono ?_
  rintro e w3 ⟨rfl, hg2⟩
  have hgw2 := gw.trans hg2
  generalize mv 4 d wd = v at *
  by_cases r : -135140 ≤ D + v ∧ D + v ≤ 157053
  · have E := HA.out
    rw [if_pos r] at E
    have E' := Lib.hid E
    clear E HA
    obtain ⟨r1, r2⟩ := r
    go_wp2_with fail
    refine (weekday_yes (D + v) w3 r1 r2).mono ?_
    rintro e w4 ⟨rfl, rfl⟩
    go_wp2_with fail
    go_ret2
    exact ⟨E'.out.symm, hgw2⟩
  · have E := HA.out
    rw [if_neg r] at E
    have E' := Lib.hid E
    clear E HA
    go_wp2_with fail
    refine (weekday_no (D + v) w3 r).mono ?_
    rintro e w4 ⟨rfl, rfl⟩
    go_wp2_with fail
    go_ret2
    exact ⟨E'.out.symm, hgw2⟩

theorem dayOf (y m k d n : Int) (w : World) (hl0 : HasLen w) :
    Calls Tryz.prog 112 #[.int .i64 y, .int .i64 m, dayV k d n] w fun e w' => e = dayA y m k d n ∧ Gr w w' := by
  by_cases h : DayOk k d n
  · by_cases hm : 1600 ≤ y ∧ y ≤ 2399 ∧ 1 ≤ m ∧ m ≤ 12
    · obtain ⟨h1, h2, h3, h4⟩ := hm
      by_cases hl : Cal.ml y m < n
      · exact dayOf_long y m k d n w hl0 h h1 h2 h3 h4 hl
      · by_cases hk : k = 2
        · subst hk
          exact dayOf_last y m d n w hl0 h h1 h2 h3 h4 hl
        · exact dayOf_go y m k d n w hl0 h hk h1 h2 h3 h4 hl
    · exact dayOf_month y m k d n w h hm
  · exact dayOf_bad y m k d n w h
end Go.Proofs.YtkmgildnhnjepaaGreatDoor
namespace Go.Proofs.YtkmgildnhnjepaaGreatDoor
set_option linter.unusedVariables false
set_option linter.unusedSimpArgs false
open Go.RowKit
/-- the cells of a row, one after another -/
theorem Row.news {α : Type} {w : World} {k : Nat} {enc : α → List Value} {b off : Nat} {l : List α} (hk : ∀ x, (enc x).length = k) (h : Row w k enc (some ⟨b, off, none⟩) l) :
    ∀ j u, (l.flatMap enc)[j]? = some u → w.cell? ((⟨b, off, none⟩ : Addr).add j) = some u := fun j u hu => by
  have hj := (List.getElem?_eq_some_iff.1 hu).1
  rw [flat_len hk] at hj
  have hk0 : 0 < k := by
    cases k with
    | zero => simp at hj
    | succ k => omega
  have hi : j / k < l.length := by rw [Nat.div_lt_iff_lt_mul hk0]; exact hj
  have hr : j % k < k := Nat.mod_lt _ hk0
  have he := Nat.div_add_mod j k
  obtain ⟨x, hx⟩ := get_lt hi
  have hv : (enc x)[j % k]? = some ((enc x)[j % k]'(by rw [hk]; exact hr)) := List.getElem?_eq_getElem _
  have hf := flat_get hk l (j / k) x hx (j % k) _ hv
  rw [show j / k * k + j % k = j by rw [Nat.mul_comm]; exact he] at hf
  rw [hu] at hf
  injection hf with hf
  obtain ⟨b', off', e, _, hc⟩ := h (j / k) x hx
  injection e with e; injection e with e1 e2; subst e1; subst e2
  have := hc (j % k) _ hv
  rw [← hf] at this
  rw [show (⟨b, off, none⟩ : Addr).add j = ⟨b, off + (j / k) * k + j % k, none⟩ by
    have q : off + (j / k) * k + j % k = off + j := by rw [Nat.add_assoc, Nat.mul_comm (j / k) k, he]
    rw [q]; unfold Addr.add; split <;> simp_all]
  exact this
end Go.Proofs.YtkmgildnhnjepaaGreatDoor
