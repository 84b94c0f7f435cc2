/- A slice copied by append. No function of the program in it. What a zone's own name and a link's names lead tto. No function of the program in it. The reference's Eq at rules, links and eras: of two that hold the same it returns true. The reference's ZoneEq and BookEq: of two that hold the same they return true. A day of a month as an argument: how it is read, how it is shut again. -/
import Derived.Laws.AppendOwn
import Derived.Test.YtemdgipkcilpcaaDoorAM11
import Derived.Deep.Cut
import Derived.Deep.QuietTactic
import Derived.BigQuiet
import Derived.Deep.RegionHeld3
import Derived.Deep.DrawnRows
import Derived.ProofKit
import Derived.OpenShut
import Derived.ChangeSame
import Derived.Test.YtemdgipkcilpcaaDoorAM04
namespace Go.Proofs.YtemdgipkcilpcaaDoor
set_option linter.unusedVariables false
set_option linter.unusedSimpArgs false
open Go.RowKit
/-- the cells of a row, one after another -/
theorem Row.news {α : Type} {w : World} {k : Nat} {enc : α → List Value} {b off : Nat} {l : List α} (hk : ∀ x, (enc x).length = k) (h : Row w k enc (some ⟨b, off, none⟩) l) :
    ∀ j u, (l.flatMap enc)[j]? = some u → w.cell? ((⟨b, off, none⟩ : Addr).add j) = some u := fun j u hu => by
  have hj := (List.getElem?_eq_some_iff.1 hu).1
  rw [flat_len hk] at hj
  have hk0 : 0 < k := by
    cases k with
    | zero => simp at hj
    | succ k => omega
  have hi : j / k < l.length := by rw [Nat.div_lt_iff_lt_mul hk0]; exact hj
  have hr : j % k < k := Nat.mod_lt _ hk0
  have he := Nat.div_add_mod j k
  obtain ⟨x, hx⟩ := get_lt hi
  have hv : (enc x)[j % k]? = some ((enc x)[j % k]'(by rw [hk]; exact hr)) := List.getElem?_eq_getElem _
  have hf := flat_get hk l (j / k) x hx (j % k) _ hv
  rw [show j / k * k + j % k = j by rw [Nat.mul_comm]; exact he] at hf
  rw [hu] at hf
  injection hf with hf
  obtain ⟨b', off', e, _, hc⟩ := h (j / k) x hx
  injection e with e; injection e with e1 e2; subst e1; subst e2
  have := hc (j % k) _ hv
  rw [← hf] at this
  rw [show (⟨b, off, none⟩ : Addr).add j = ⟨b, off + (j / k) * k + j % k, none⟩ by
    have q : off + (j / k) * k + j % k = off + j := by rw [Nat.add_assoc, Nat.mul_comm (j / k) k, he]
    rw [q]; unfold Addr.add; split <;> simp_all]
  exact this
end Go.Proofs.YtemdgipkcilpcaaDoor
namespace Go.Proofs.YtemdgipkcilpcaaDoor
set_option linter.unusedVariables false
set_option linter.unusedSimpArgs false
open Go.RowKit
section
variable {rs : List RuD} {zs : List ZonD} {ls : List LinD}
/-- who is at no zone after as many links as there are comes tto none -/
theorem over (g : GoodB zs ls) {p : Nat} (hp : p < zs.length + ls.length) (h : ¬ ends zs ls ls.length p < zs.length) (n : Nat) : zs.length ≤ ends zs ls n p := by
  have hS : ∀ i, i < ls.length + 1 → zs.length ≤ ends zs ls i p := fun i hi => by
    rcases Nat.lt_or_ge (ends zs ls i p) zs.length with c | c
    · exact absurd (by rw [path_end c (show i ≤ ls.length by omega)]; exact c) h
    · exact c
  by_cases d : ∃ i k, i < k ∧ k < ls.length + 1 ∧ ends zs ls i p = ends zs ls k p
  · obtain ⟨i, k, hik, hk, e⟩ := d
    exact path_loop (j := k) (fun m hm => hS m (by omega)) ⟨i, hik, e⟩ n
  · have := path_few g hp (j := ls.length + 1) hS (fun i k hik hk e => d ⟨i, k, hik, hk, e⟩)
    omega
theorem end_zone (g : GoodB zs ls) {i : Nat} {z : ZonD} (hz : zs[i]? = some z) : endN zs ls z.nm.toList = i := by
  unfold endN
  rw [idx_zone g hz, ends_zone (List.getElem?_eq_some_iff.1 hz).1]
theorem end_link (g : GoodB zs ls) {i : Nat} {x : LinD} (hx : ls[i]? = some x) : (endN zs ls x.nm.toList < zs.length → endN zs ls x.to'.toList = endN zs ls x.nm.toList) ∧ (¬ endN zs ls x.nm.toList < zs.length → ¬ endN zs ls x.to'.toList < zs.length) := by
  have e2 : endN zs ls x.to'.toList = ends zs ls (ls.length + 1) (zs.length + i) := by
    unfold endN
    rw [← nx_link hx]
    rfl
  have hi := (List.getElem?_eq_some_iff.1 hx).1
  have e1 : endN zs ls x.nm.toList = ends zs ls ls.length (zs.length + i) := by unfold endN; rw [idx_link g hx]
  rw [e1, e2]
  constructor
  · intro h; exact path_end h (Nat.le_succ _)
  · intro h
    have := over g (show zs.length + i < zs.length + ls.length by omega) h (ls.length + 1)
    omega
theorem res_zone (h0 : bokC rs zs ls = 0) {i : Nat} {z : ZonD} (hz : zs[i]? = some z) : resC rs zs ls z.nm = 0 :=
  resC_ok h0 (mem_zone hz) (by rw [end_zone (good_of h0) hz]; exact (List.getElem?_eq_some_iff.1 hz).1)
theorem res_link (h0 : bokC rs zs ls = 0) {i : Nat} {x : LinD} (hx : ls[i]? = some x) :
    resC rs zs ls x.to' = resC rs zs ls x.nm ∧ (resC rs zs ls x.nm = 0 → endN zs ls x.to'.toList = endN zs ls x.nm.toList) ∧ (resC rs zs ls x.nm = 0 ∨ resC rs zs ls x.nm = 8) := by
  have g := good_of h0
  have m1 := mem_link (zs := zs) hx
  have m2 := g.to_ x (get_mem hx)
  obtain ⟨a, b⟩ := end_link g hx
  by_cases c : endN zs ls x.nm.toList < zs.length
  · have r1 := resC_ok h0 m1 c
    have r2 := resC_ok h0 m2 (by rw [a c]; exact c)
    exact ⟨r2.trans r1.symm, fun _ => a c, Or.inl r1⟩
  · have r1 := resC_loop h0 m1 c
    have r2 := resC_loop h0 m2 (b c)
    exact ⟨r2.trans r1.symm, fun q => absurd (r1.symm.trans q) (by decide), Or.inr r1⟩
end
/-- what two calls of Resolve leave for a link's two names is one zone -/
theorem res_two {rs : List RuD} {zs : List ZonD} {ls : List LinD} {i : Nat} {x : LinD} {z z2 : ZonD} (h0 : bokC rs zs ls = 0) (hx : ls[i]? = some x)
    (h1 : resC rs zs ls x.nm = 0 → ∃ y, zs[endN zs ls x.nm.toList]? = some y ∧ z.nm = y.nm ∧ z.eras = y.eras) (h2 : resC rs zs ls x.nm ≠ 0 → z.nm = .empty ∧ z.eras = [])
    (k1 : resC rs zs ls x.to' = 0 → ∃ y, zs[endN zs ls x.to'.toList]? = some y ∧ z2.nm = y.nm ∧ z2.eras = y.eras) (k2 : resC rs zs ls x.to' ≠ 0 → z2.nm = .empty ∧ z2.eras = []) :
    z2.nm = z.nm ∧ z2.eras = z.eras ∧ z.eras.length ≤ 100000 := by
  obtain ⟨e, en, _⟩ := res_link h0 hx
  by_cases h : resC rs zs ls x.nm = 0
  · obtain ⟨y, hy, a, b⟩ := h1 h
    obtain ⟨y', hy', a', b'⟩ := k1 (by rw [e]; exact h)
    rw [en h, hy] at hy'
    injection hy' with hy'
    subst hy'
    have := (good_of h0).es y (get_mem hy)
    exact ⟨by rw [a, a'], by rw [b, b'], by rw [b]; omega⟩
  · obtain ⟨a, b⟩ := h2 h
    obtain ⟨a', b'⟩ := k2 (by rw [e]; exact h)
    exact ⟨by rw [a, a'], by rw [b, b'], by rw [b]; simp⟩
end Go.Proofs.YtemdgipkcilpcaaDoor
namespace Go.Proofs.YtemdgipkcilpcaaDoor
set_option linter.unusedVariables false
set_option linter.unusedSimpArgs false
open Go.RowKit
set_option maxRecDepth 100000 in
theorem neqEra (ru fm : ByteArray) (off0 sv un : Int) (w : World) : (binOp .neq 40 (.agg #[.int .i64 off0, .string ru, .int .i64 sv, .string fm, .int .i64 un]) (.agg #[.int .i64 off0, .string ru, .int .i64 sv, .string fm, .int .i64 un])).run Tryd.prog w = .ok (.bool false) w := by
  have h : Tryd.prog.underlying 40 = some (.struct (Tryd.prog.fieldsOf 40)) := by kernel_rfl
  have hh : Tryd.prog.stoodInHeld 40 = false := by kernel_rfl
  have u3 := Tryd.underlying3
  have a3 := Tryd.isAgg3
  have z3 := Tryd.sizeOf3
  have u9 := Tryd.underlying9
  have a9 := Tryd.isAgg9
  have z9 := Tryd.sizeOf9
  rw [run_neq_struct, show (10000 : Nat) = 9999 + 1 from rfl, run_equalIn_agg w 9999 40 _ _ h hh]
  simp only [Program.fieldsOf, Tryd.underlying40]
  go_simp

set_option maxRecDepth 100000 in
set_option maxHeartbeats 8000000 in
theorem reqEra (A : Option Addr) (c : Nat) (A' : Option Addr) (c' : Nat) (l : List EraD) (n' : Nat) (w : World) (hn : n' = l.length) (hl : l.length ≤ 100000) (h : Row w 5 EraD.cells A l) (h' : Row w 5 EraD.cells A' l) :
    Calls Tryd.prog 14 #[.slice A l.length c, .slice A' n' c'] w fun e w' => e = .returned (.bool true) ∧ Gr w w' := by
  subst hn
  have H := Lib.hid h
  have H' := Lib.hid h'
  clear h h'
  go_enter Tryd.func14, Tryd.ntmps14
  go_wp2_with fail
  go_loopw [14] (fun i W => ∃ k : Nat, k ≤ l.length ∧ i = .int .i64 k ∧ Hid (Gr w W)) (fun i W => l.length - (intOf i).toNat)
  case atStart => exact ⟨0, Nat.zero_le _, rfl, Gr.refl _⟩
  case round =>
    obtain ⟨k, hk, rfl, hg⟩ := hrel
    by_cases hlt : k < l.length
    · obtain ⟨⟨off0, ru, sv, fm, un⟩, hx⟩ := get_lt hlt
      obtain ⟨b, off, rfl, c0, c1, c2, c3, c4⟩ := H.out.five hx rfl hg.out
      obtain ⟨b2, off2, rfl, d0, d1, d2, d3, d4⟩ := H'.out.five hx rfl hg.out
      have HNB := Lib.hid (box_one wr (.cells #[.int .i64 off0, .string ru, .int .i64 sv, .string fm, .int .i64 un] 40))
      have D := Lib.hid (And.intro d0 (And.intro d1 (And.intro d2 (And.intro d3 d4))))
      clear hx d0 d1 d2 d3 d4
      have ne := fun w => neqEra ru fm off0 sv un w
      go_upto_region 6 with fail
      generalize wr.alloc (.cells #[.int .i64 off0, .string ru, .int .i64 sv, .string fm, .int .i64 un] 40) = w3 at HNB ⊢
      generalize wr.heap.size = q at HNB ⊢
      clear c0 c1 c2 c3 c4
      obtain ⟨d0, d1, d2, d3, d4⟩ := D.out
      have e0 := HNB.out.1.holds d0
      have e1 := HNB.out.1.holds d1
      have e2 := HNB.out.1.holds d2
      have e3 := HNB.out.1.holds d3
      have e4 := HNB.out.1.holds d4
      have x0 := bcell_row (i := 0) HNB.out.2 rfl
      have x1 := bcell_row (i := 1) HNB.out.2 rfl
      have x2 := bcell_row (i := 2) HNB.out.2 rfl
      have x3 := bcell_row (i := 3) HNB.out.2 rfl
      have x4 := bcell_row (i := 4) HNB.out.2 rfl
      clear d0 d1 d2 d3 d4 D
      go_quiet (fail)
      clear e0 e1 e2 e3 e4 x0 x1 x2 x3 x4 ne
      go_wp2_with fail
      go_roundw
      case rel => exact ⟨k + 1, by omega, by go_num, (hg.out.trans HNB.out.1).drewN _⟩
      case measure => simp [intOf]; omega
    · have e : k = l.length := by omega
      clear e hk
      go_wp2_with fail
      go_ret
      exact ⟨rfl, hg.out⟩
end Go.Proofs.YtemdgipkcilpcaaDoor
namespace Go.Proofs.YtemdgipkcilpcaaDoor
set_option linter.unusedVariables false
set_option linter.unusedSimpArgs false
open Go.RowKit
set_option maxHeartbeats 4000000 in
theorem rzoneEq (nm : ByteArray) (A : Option Addr) (c : Nat) (A' : Option Addr) (c' : Nat) (l : List EraD) (n' : Nat) (w : World) (hn : n' = l.length) (hl : l.length ≤ 100000) (h : Row w 5 EraD.cells A l) (h' : Row w 5 EraD.cells A' l) :
    Calls Tryd.prog 7 #[.agg #[.string nm, .slice A l.length c], .agg #[.string nm, .slice A' n' c']] w fun e w' => e = .returned (.bool true) ∧ Gr w w' := by
  have K := Lib.hid (fun W (g : Gr w W) => reqEra A c A' c' l n' W hn hl (h.gr g) (h'.gr g))
  have B0 := Lib.hid (box_two w (.cells #[.string nm, .slice A l.length c] 32) (.cells #[.string nm, .slice A' n' c'] 32))
  have e0 : (nm.toList == nm.toList) = true := by simp
  clear h h' hl hn
  go_enter Tryd.func7, Tryd.ntmps7
  go_upto_region 1 with fail
  generalize (w.alloc (.cells #[.string nm, .slice A l.length c] 32)).alloc (.cells #[.string nm, .slice A' n' c'] 32) = w1 at B0 ⊢
  generalize w.heap.size = q at B0 ⊢
  have x0 : w1.cell? ⟨q, 0, none⟩ = some (.string nm) := bcell_row B0.out.2.1 rfl
  have x1 : w1.cell? ⟨q, 1, none⟩ = some (.slice A l.length c) := bcell_row B0.out.2.1 rfl
  have y0 : w1.cell? ⟨q + 1, 0, none⟩ = some (.string nm) := bcell_row B0.out.2.2 rfl
  have y1 : w1.cell? ⟨q + 1, 1, none⟩ = some (.slice A' n' c') := bcell_row B0.out.2.2 rfl
  go_wp2_with fail
  clear x0 x1 y0 y1
  refine (K.out w1 B0.out.1).mono ?_
  rintro e w2 ⟨rfl, g2⟩
  go_wp2_with fail
  go_ret
  exact ⟨rfl, B0.out.1.trans g2⟩

end Go.Proofs.YtemdgipkcilpcaaDoor
namespace Go.Proofs.YtemdgipkcilpcaaDoor
open Go.ChangeShapes Go.WideShapes Go.ChangeAt Go.RowKit
set_option linter.unusedVariables false
set_option linter.unusedSimpArgs false
section
variable {H : Type} {enc : TypeId × Value → H} {W : World} {base : Nat} {sp : Nat → Bool} {held : Bool}
/-- the datum of a day -/
abbrev dayD (k d n : Int) : DataW H := .agg [.lit (.int .i64 k), .lit (.int .i64 d), .lit (.int .i64 n)]
theorem cellsDay : Tryd.prog.cellsOf 44 = 3 := by kernel_rfl
theorem cellsInt : Tryd.prog.cellsOf 3 = 1 := by kernel_rfl
end
end Go.Proofs.YtemdgipkcilpcaaDoor
