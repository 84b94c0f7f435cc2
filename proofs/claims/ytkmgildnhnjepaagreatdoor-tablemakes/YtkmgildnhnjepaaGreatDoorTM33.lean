/- The project's savingAt of package state: the letter before the first transition, the search, the saving and the letter that apply. -/
import Derived.Shelf.SlSorted.Search
import Derived.BigQuiet
import Derived.Deep.QuietTactic
import Derived.Test.YtkmgildnhnjepaaGreatDoorTM18
import Derived.Test.YtkmgildnhnjepaaGreatDoorTM28
import Derived.Test.YtkmgildnhnjepaaGreatDoorTM29
namespace Go.Proofs.YtkmgildnhnjepaaGreatDoor
set_option linter.unusedVariables false
set_option linter.unusedSimpArgs false
open Go.Shelf Go.RowKit Go.Lib Go.Sort
def searchRen : Go.Shelf.Ren := ⟨fun | 16 => 38 | n => n, fun | 3 => 3 | 35 => 69 | 4 => 4 | 38 => 126 | n => n, fun | n => n⟩
theorem searchLay : Go.Proofs.SlLaysO.n16 Tryz.prog searchRen := {
  mixed := by kernel_rfl
  f16 := Tryz.func38.trans (congrArg some (by kernel_rfl))
  t3 := Tryz.underlying3
  a3 := Tryz.isAgg3
  z3 := Tryz.sizeOf3
  v3 := Tryz.zeroValue3
  t4 := Tryz.underlying4
  a4 := Tryz.isAgg4
  z4 := Tryz.sizeOf4
  v4 := Tryz.zeroValue4
  t35 := Tryz.underlying69
  a35 := Tryz.isAgg69
  z35 := Tryz.sizeOf69
  v35 := Tryz.zeroValue69
  t38 := Tryz.underlying126
  a38 := Tryz.isAgg126
  z38 := Tryz.sizeOf126
  v38 := Tryz.zeroValue126 }

set_option maxRecDepth 100000 in
set_option maxHeartbeats 8000000 in
theorem later_any (q q2 : Nat) (A : Option Addr) (c : Nat) (L : List TurD) (t : Int) (i : Nat) (x : TurD) (hx : L[i]? = some x) (W : World) (h0 : W.cell? ⟨q, 5, none⟩ = some (.slice A L.length c)) (h1 : W.cell? ⟨q2, 0, none⟩ = some (.int .i64 t)) (hr : Row W 3 TurD.cells A L) :
    Calls Tryz.prog 70 #[.int .i64 i, .pointer (some ⟨q, 0, none⟩), .pointer (some ⟨q2, 0, none⟩)] W fun e w' => e = .returned (.bool (decide (t < x.at'))) ∧ ∃ q os', w' = grow (W.drewN q) os' := by
  obtain ⟨xa, xs, xl⟩ := x
  obtain ⟨b, off, rfl, c0, c1, c2⟩ := Row.three hr hx rfl (Gr.refl W)
  have hlt := (List.getElem?_eq_some_iff.1 hx).1
  have l0 : (0 : Int) ≤ (i : Int) := by omega
  have l1 : (i : Int) < (L.length : Int) := by omega
  clear hr hx
  go_enter Tryz.func70, Tryz.ntmps70
  go_wp2_with fail
  go_quiet (fail)
  go_wp2_with fail
  go_ret
  exact ⟨rfl, _, #[], by rw [grow_empty]⟩

set_option maxRecDepth 100000 in
set_option maxHeartbeats 8000000 in
theorem firstLetter_any (eo sv un : Int) (ru fm : ByteArray) (A : Option Addr) (c : Nat) (L : List TurD) (w : World) (hr : Row w 3 TurD.cells A L) (hl : L.length ≤ 100000) :
    Calls Tryz.prog 71 #[.agg #[.int .i64 eo, .string ru, .int .i64 sv, .string fm, .int .i64 un, .slice A L.length c]] w fun e w' => e = .returned (.string (fstL L)) ∧ Gr w w' := by
  have HR := Lib.hid hr
  have B0 := Lib.hid (box_one w (.cells #[.int .i64 eo, .string ru, .int .i64 sv, .string fm, .int .i64 un, .slice A L.length c] 92))
  clear hr
  go_enter Tryz.func71, Tryz.ntmps71
  go_wp2_with fail
  generalize w.alloc (.cells #[.int .i64 eo, .string ru, .int .i64 sv, .string fm, .int .i64 un, .slice A L.length c] 92) = w1 at B0 ⊢
  generalize w.heap.size = q at B0 ⊢
  have G1 := Lib.hid B0.out.1
  clear B0
  go_loopw [8] (fun i W => ∃ k : Nat, k ≤ L.length ∧ i = .int .i64 k ∧ Hid (∀ j y, j < k → L[j]? = some y → y.sv ≠ 0) ∧ Hid (Gr w1 W)) (fun i W => L.length - (intOf i).toNat)
  case atStart => exact ⟨0, Nat.zero_le _, rfl, fun j x hj _ => by omega, Gr.refl _⟩
  case round =>
    obtain ⟨k, hk, rfl, hb, hg⟩ := hrel
    by_cases hlt : k < L.length
    · obtain ⟨⟨xa, xs, xl⟩, hx⟩ := get_lt hlt
      obtain ⟨b, off, rfl, c0, c1, c2⟩ := HR.out.three hx rfl (G1.out.trans hg.out)
      have HX := Lib.hid hx
      clear hx
      have GW := Lib.hid (G1.out.trans (hg.out.alloc' (.cells #[.int .i64 xa, .int .i64 xs, .string xl] 75)))
      by_cases h0 : xs = 0
      · have EE := Lib.hid (fstL_hit HX.out h0 hb.out)
        have t0 := beqT h0
        clear h0
        go_wp2_with fail
        go_ret
        exact ⟨by rw [EE.out]; rfl, GW.out⟩
      · have t0 := beqF h0
        have H0 := Lib.hid h0
        clear h0
        go_wp2_with fail
        go_roundw
        case rel => exact ⟨k + 1, by omega, by go_num, fun j x hj hx => by
          by_cases e : j = k
          · subst e; rw [HX.out] at hx; injection hx with hx; rw [← hx]; exact H0.out
          · exact hb.out j x (by omega) hx, hg.out.alloc' _⟩
        case measure => simp [intOf]; omega
    · have e : k = L.length := by omega
      subst e
      have EE := Lib.hid (fstL_end fun j y hy => hb.out j y (List.getElem?_eq_some_iff.1 hy).1 hy)
      go_wp2_with fail
      go_ret
      exact ⟨by rw [EE.out]; rfl, G1.out.trans hg.out⟩

theorem count_late (L : List TurD) (t : Int) : (List.range L.length).countP (fun i => !decide (t < (L.toArray[i]!).at')) = lateI L t := by
  have h := Lib.countP_range L.toArray (fun x => !decide (t < x.at'))
  rw [List.size_toArray] at h
  rw [h]
  unfold lateI
  congr 1
  funext x
  by_cases c : t < x.at'
  · rw [decide_eq_true c, decide_eq_false (by omega)]; rfl
  · rw [decide_eq_false c, decide_eq_true (by omega)]; rfl
theorem toArr_get {L : List TurD} {i : Nat} {x : TurD} (h : L[i]? = some x) : L.toArray[i]! = x := by
  obtain ⟨h1, h2⟩ := List.getElem?_eq_some_iff.1 h
  rw [getElem!_pos L.toArray i (by simpa using h1)]
  simpa using h2

theorem search_any (q q2 : Nat) (A : Option Addr) (c : Nat) (L : List TurD) (t : Int) (W : World) (h0 : W.cell? ⟨q, 5, none⟩ = some (.slice A L.length c)) (h1 : W.cell? ⟨q2, 0, none⟩ = some (.int .i64 t)) (hr : Row W 3 TurD.cells A L) (hl : L.length ≤ 100000) (hs : Rise L) :
    Calls Tryz.prog 38 #[.int .i64 L.length, .func (.func 70) #[] #[.pointer (some ⟨q, 0, none⟩), .pointer (some ⟨q2, 0, none⟩)]] W fun e w' => e = .returned (.int .i64 (lateI L t)) ∧ Gr W w' := by
  have h := Any.sort_Search searchLay 70 #[.pointer (some ⟨q, 0, none⟩), .pointer (some ⟨q2, 0, none⟩)] L.length (fun i => decide (t < (L.toArray[i]!).at')) W (enters_of Tryz.func70 (by kernel_rfl) rfl) (by omega)
    (fun m os i hi => by
      obtain ⟨x, hx⟩ := get_lt hi
      have g : Gr W (grow (W.drewN m) os) := below_grown_sl _ W m os (Nat.le_refl _)
      have := later_any q q2 A c L t i x hx _ (g.holds h0) (g.holds h1) (hr.gr g)
      rw [toArr_get hx]
      exact this)
    (fun a b hab hb ha => by
      obtain ⟨x, hx⟩ := get_lt (show a < L.length by omega)
      obtain ⟨y, hy⟩ := get_lt hb
      rw [toArr_get hx] at ha
      rw [toArr_get hy]
      have ha' := of_decide_eq_true ha
      refine decide_eq_true ?_
      by_cases e : a = b
      · subst e; rw [hx] at hy; injection hy with hy; rw [← hy]; exact ha'
      · have := rise_lt hs b a x y (by omega) hx hy; omega)
  change Calls Tryz.prog 38 _ _ _ at h
  rw [count_late] at h
  refine h.mono ?_
  rintro e w' ⟨rfl, m, os, rfl⟩
  exact ⟨rfl, below_grown_sl _ W m os (Nat.le_refl _)⟩

set_option maxRecDepth 100000 in
set_option maxHeartbeats 8000000 in
theorem savingAt_any (e : EraD) (A : Option Addr) (c : Nat) (L : List TurD) (t : Int) (w : World) (hr : Row w 3 TurD.cells A L) (hl : L.length ≤ 100000) (hs : Rise L) :
    Calls Tryz.prog 44 #[.agg #[.int .i64 e.off, .string e.ru, .int .i64 e.sv, .string e.fm, .int .i64 e.un, .slice A L.length c], .int .i64 t] w fun e' w' => e' = .returned (.tuple #[.int .i64 (savP e L t).1, .string (savP e L t).2]) ∧ Gr w w' := by
  obtain ⟨eo, ru, sv, fm, un⟩ := e
  have HR := Lib.hid hr
  have HS := Lib.hid hs
  have HL := Lib.hid hl
  have B0 := Lib.hid (box_two w (.cells #[.int .i64 eo, .string ru, .int .i64 sv, .string fm, .int .i64 un, .slice A L.length c] 92) (.cells #[.int .i64 t] 3))
  clear hr hs
  by_cases hru : ru.toList = []
  · have E := Lib.hid (savP_fix (e := ⟨eo, ru, sv, fm, un⟩) (L := L) (t := t) hru)
    obtain rfl := str_nil hru
    clear hru
    go_enter Tryz.func44, Tryz.ntmps44
    go_wp2_with fail
    go_ret2
    exact ⟨by rw [E.out]; rfl, B0.out.1⟩
  · have E : Hid (savP ⟨eo, ru, sv, fm, un⟩ L t = lastP (0, fstL L) L (lateI L t)) := by unfold Hid savP; rw [if_neg hru]
    have LE := Lib.hid (lateI_le L t)
    obtain ⟨n1, n2, n3⟩ := str_nonnil hru
    clear hru
    go_enter Tryz.func44, Tryz.ntmps44
    go_wp2_with fail
    generalize (w.alloc (.cells #[.int .i64 eo, .string ru, .int .i64 sv, .string fm, .int .i64 un, .slice A L.length c] 92)).alloc (.cells #[.int .i64 t] 3) = w1 at B0 ⊢
    generalize w.heap.size = q at B0 ⊢
    refine (search_any q (q + 1) A c L t w1 (bcell_row B0.out.2.1 rfl) (bcell_row B0.out.2.2 rfl) (HR.out.gr B0.out.1) hl HS.out).mono ?_
    rintro e w2 ⟨rfl, g2⟩
    have G2 := Lib.hid (B0.out.1.trans g2)
    have HQ := Lib.hid (bheap_gr g2 B0.out.2.1)
    clear g2 B0
    generalize hm : lateI L t = m at E LE ⊢
    clear hm
    cases m with
    | zero =>
      have E2 := Lib.hid (E.out.trans (lastP_zero _ _))
      clear E
      have x0 : w2.cell? ⟨q, 0, none⟩ = some (.int .i64 eo) := bcell_row HQ.out rfl
      have x1 : w2.cell? ⟨q, 1, none⟩ = some (.string ru) := bcell_row HQ.out rfl
      have x2 : w2.cell? ⟨q, 2, none⟩ = some (.int .i64 sv) := bcell_row HQ.out rfl
      have x3 : w2.cell? ⟨q, 3, none⟩ = some (.string fm) := bcell_row HQ.out rfl
      have x4 : w2.cell? ⟨q, 4, none⟩ = some (.int .i64 un) := bcell_row HQ.out rfl
      have x5 : w2.cell? ⟨q, 5, none⟩ = some (.slice A L.length c) := bcell_row HQ.out rfl
      have t0 : (((0 : Nat) : Int) == 0) = true := by decide
      go_wp2_with fail
      clear x0 x1 x2 x3 x4 x5
      refine (firstLetter_any eo sv un ru fm A c L w2 (HR.out.gr G2.out) HL.out).mono ?_
      rintro e w3 ⟨rfl, g3⟩
      go_wp2_with fail
      go_ret2
      exact ⟨by rw [E2.out]; rfl, G2.out.trans g3⟩
    | succ k =>
      obtain ⟨⟨xa, xs, xl⟩, hx⟩ := get_lt (show k < L.length by have := LE.out; omega)
      obtain ⟨b, off, rfl, c0, c1, c2⟩ := HR.out.three hx rfl G2.out
      have E2 := Lib.hid (E.out.trans (lastP_at (m := k + 1) (by omega) hx))
      have hlt := (List.getElem?_eq_some_iff.1 hx).1
      clear hx E
      have x5 : w2.cell? ⟨q, 5, none⟩ = some (.slice (some ⟨b, off, none⟩) L.length c) := bcell_row HQ.out rfl
      have t0 : (((k + 1 : Nat) : Int) == 0) = false := beqF (by omega)
      have e1 : ((k + 1 : Nat) : Int) - 1 = (k : Int) := by omega
      go_wp2_with fail
      go_quiet (fail)
      go_wp2_with fail
      go_ret2
      exact ⟨by rw [E2.out]; rfl, (G2.out.alloc' _).drewN _⟩
end Go.Proofs.YtkmgildnhnjepaaGreatDoor
