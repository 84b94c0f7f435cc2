/- The reference's Eq at types and changes, its TableEq: of two that hold the same they return true. What Make leaves, in words that a law can use. The reference's typeOf: the type that an era with its transitions has at a time. -/
import Derived.Deep.Cut
import Derived.Deep.QuietTactic
import Derived.BigQuiet
import Derived.Test.YtkmgildnhnjepaaGreatDoorTM41
import Derived.Test.YtkmgildnhnjepaaGreatDoorTM28
import Derived.Test.YtkmgildnhnjepaaGreatDoorTM10
import Derived.Test.YtkmgildnhnjepaaGreatDoorTM39
import Derived.Test.YtkmgildnhnjepaaGreatDoorTM33
import Derived.Test.YtkmgildnhnjepaaGreatDoorTM45
import Derived.Test.YtkmgildnhnjepaaGreatDoorTM06
import Derived.Test.YtkmgildnhnjepaaGreatDoorTM17
import Derived.Test.YtkmgildnhnjepaaGreatDoorTM31
import Derived.Test.YtkmgildnhnjepaaGreatDoorTM18
import Derived.Test.YtkmgildnhnjepaaGreatDoorTM29
import Derived.Test.YtkmgildnhnjepaaGreatDoorTM25
namespace Go.Proofs.YtkmgildnhnjepaaGreatDoor
set_option linter.unusedVariables false
set_option linter.unusedSimpArgs false
open Go.RowKit
theorem neqTy1 (o : Int) (s : Bool) (n : ByteArray) (w : World) : (binOp .neq 46 (.agg #[.int .i64 o, .bool s, .string n]) (.agg #[.int .i64 o, .bool s, .string n])).run Tryz.prog w = .ok (.bool false) w := by
  have h := neqlType o o s s n n w
  simpa using h

set_option maxRecDepth 100000 in
theorem neqChange (a c : Int) (w : World) : (binOp .neq 44 (.agg #[.int .i64 a, .int .i64 c]) (.agg #[.int .i64 a, .int .i64 c])).run Tryz.prog w = .ok (.bool false) w := by
  have h : Tryz.prog.underlying 44 = some (.struct (Tryz.prog.fieldsOf 44)) := by kernel_rfl
  have hh : Tryz.prog.stoodInHeld 44 = false := by kernel_rfl
  have u3 := Tryz.underlying3
  have a3 := Tryz.isAgg3
  have z3 := Tryz.sizeOf3
  rw [run_neq_struct, show (10000 : Nat) = 9999 + 1 from rfl, run_equalIn_agg w 9999 44 _ _ h hh]
  simp only [Program.fieldsOf, Tryz.underlying44]
  go_simp

set_option maxRecDepth 100000 in
set_option maxHeartbeats 8000000 in
theorem reqType (A : Option Addr) (c : Nat) (A' : Option Addr) (c' : Nat) (l : List TypD) (n' : Nat) (w : World) (hn : n' = l.length) (hl : l.length ≤ 100000) (h : Row w 3 TypD.cells A l) (h' : Row w 3 TypD.cells A' l) :
    Calls Tryz.prog 30 #[.slice A l.length c, .slice A' n' c'] w fun e w' => e = .returned (.bool true) ∧ Gr w w' := by
  subst hn
  have H := Lib.hid h
  have H' := Lib.hid h'
  clear h h'
  go_enter Tryz.func30, Tryz.ntmps30
  go_wp2_with fail
  go_loopw [14] (fun i W => ∃ k : Nat, k ≤ l.length ∧ i = .int .i64 k ∧ Hid (Gr w W)) (fun i W => l.length - (intOf i).toNat)
  case atStart => exact ⟨0, Nat.zero_le _, rfl, Gr.refl _⟩
  case round =>
    obtain ⟨k, hk, rfl, hg⟩ := hrel
    by_cases hlt : k < l.length
    · obtain ⟨⟨o, s, n⟩, hx⟩ := get_lt hlt
      obtain ⟨b, off, rfl, c0, c1, c2⟩ := H.out.three hx rfl hg.out
      obtain ⟨b2, off2, rfl, d0, d1, d2⟩ := H'.out.three hx rfl hg.out
      have HNB := Lib.hid (box_one wr (.cells #[.int .i64 o, .bool s, .string n] 46))
      have D := Lib.hid (And.intro d0 (And.intro d1 d2))
      clear hx d0 d1 d2
      have ne := fun w => neqTy1 o s n w
      go_upto_region 6 with fail
      generalize wr.alloc (.cells #[.int .i64 o, .bool s, .string n] 46) = w3 at HNB ⊢
      generalize wr.heap.size = q at HNB ⊢
      clear c0 c1 c2
      obtain ⟨d0, d1, d2⟩ := D.out
      have e0 := HNB.out.1.holds d0
      have e1 := HNB.out.1.holds d1
      have e2 := HNB.out.1.holds d2
      have x0 := bcell_row (i := 0) HNB.out.2 rfl
      have x1 := bcell_row (i := 1) HNB.out.2 rfl
      have x2 := bcell_row (i := 2) HNB.out.2 rfl
      clear d0 d1 d2 D
      go_quiet (fail)
      clear e0 e1 e2 x0 x1 x2 ne
      go_wp2_with fail
      go_roundw
      case rel => exact ⟨k + 1, by omega, by go_num, (hg.out.trans HNB.out.1).drewN _⟩
      case measure => simp [intOf]; omega
    · have e : k = l.length := by omega
      clear e hk
      go_wp2_with fail
      go_ret
      exact ⟨rfl, hg.out⟩
set_option maxRecDepth 100000 in
set_option maxHeartbeats 8000000 in
theorem reqCha (A : Option Addr) (c : Nat) (A' : Option Addr) (c' : Nat) (l : List ChaD) (n' : Nat) (w : World) (hn : n' = l.length) (hl : l.length ≤ 100000) (h : Row w 2 ChaD.cells A l) (h' : Row w 2 ChaD.cells A' l) :
    Calls Tryz.prog 31 #[.slice A l.length c, .slice A' n' c'] w fun e w' => e = .returned (.bool true) ∧ Gr w w' := by
  subst hn
  have H := Lib.hid h
  have H' := Lib.hid h'
  clear h h'
  go_enter Tryz.func31, Tryz.ntmps31
  go_wp2_with fail
  go_loopw [14] (fun i W => ∃ k : Nat, k ≤ l.length ∧ i = .int .i64 k ∧ Hid (Gr w W)) (fun i W => l.length - (intOf i).toNat)
  case atStart => exact ⟨0, Nat.zero_le _, rfl, Gr.refl _⟩
  case round =>
    obtain ⟨k, hk, rfl, hg⟩ := hrel
    by_cases hlt : k < l.length
    · obtain ⟨⟨a, c0'⟩, hx⟩ := get_lt hlt
      obtain ⟨b, off, rfl, c0, c1⟩ := H.out.two hx rfl hg.out
      obtain ⟨b2, off2, rfl, d0, d1⟩ := H'.out.two hx rfl hg.out
      have HNB := Lib.hid (box_one wr (.cells #[.int .i64 a, .int .i64 c0'] 44))
      have D := Lib.hid (And.intro d0 d1)
      clear hx d0 d1
      have ne := fun w => neqChange a c0' w
      go_upto_region 6 with fail
      generalize wr.alloc (.cells #[.int .i64 a, .int .i64 c0'] 44) = w3 at HNB ⊢
      generalize wr.heap.size = q at HNB ⊢
      clear c0 c1
      obtain ⟨d0, d1⟩ := D.out
      have e0 := HNB.out.1.holds d0
      have e1 := HNB.out.1.holds d1
      have x0 := bcell_row (i := 0) HNB.out.2 rfl
      have x1 := bcell_row (i := 1) HNB.out.2 rfl
      clear d0 d1 D
      go_quiet (fail)
      clear e0 e1 x0 x1 ne
      go_wp2_with fail
      go_roundw
      case rel => exact ⟨k + 1, by omega, by go_num, (hg.out.trans HNB.out.1).drewN _⟩
      case measure => simp [intOf]; omega
    · have e : k = l.length := by omega
      clear e hk
      go_wp2_with fail
      go_ret
      exact ⟨rfl, hg.out⟩

set_option maxRecDepth 100000 in
set_option maxHeartbeats 8000000 in
theorem rtabEq (A : Option Addr) (c : Nat) (ty : List TypD) (fst : Int) (B : Option Addr) (d : Nat) (ch : List ChaD) (A' : Option Addr) (c' : Nat) (B' : Option Addr) (d' : Nat) (w : World) (l1 : ty.length ≤ 100000) (l2 : ch.length ≤ 100000)
    (h1 : Row w 3 TypD.cells A ty) (h2 : Row w 2 ChaD.cells B ch) (h1' : Row w 3 TypD.cells A' ty) (h2' : Row w 2 ChaD.cells B' ch) :
    Calls Tryz.prog 11 #[.agg #[.slice A ty.length c, .int .i64 fst, .slice B ch.length d], .agg #[.slice A' ty.length c', .int .i64 fst, .slice B' ch.length d']] w fun e w' => e = .returned (.bool true) ∧ Gr w w' := by
  have K1 := Lib.hid (fun W (g : Gr w W) => reqType A c A' c' ty _ W rfl l1 (h1.gr g) (h1'.gr g))
  have K2 := Lib.hid (fun W (g : Gr w W) => reqCha B d B' d' ch _ W rfl l2 (h2.gr g) (h2'.gr g))
  have B0 := Lib.hid (box_two w (.cells #[.slice A ty.length c, .int .i64 fst, .slice B ch.length d] 32) (.cells #[.slice A' ty.length c', .int .i64 fst, .slice B' ch.length d'] 32))
  clear h1 h2 h1' h2'
  go_enter Tryz.func11, Tryz.ntmps11
  go_wp2_with fail
  generalize (w.alloc (.cells #[.slice A ty.length c, .int .i64 fst, .slice B ch.length d] 32)).alloc (.cells #[.slice A' ty.length c', .int .i64 fst, .slice B' ch.length d'] 32) = w1 at B0 ⊢
  generalize w.heap.size = q at B0 ⊢
  refine (K1.out w1 B0.out.1).mono ?_
  rintro e w2 ⟨rfl, g2⟩
  have G2 := Lib.hid (B0.out.1.trans g2)
  have HA := Lib.hid (bheap_gr g2 B0.out.2.1)
  have HB := Lib.hid (bheap_gr g2 B0.out.2.2)
  clear g2 B0 K1
  have x0 : w2.cell? ⟨q, 0, none⟩ = some (.slice A ty.length c) := bcell_row HA.out rfl
  have x1 : w2.cell? ⟨q, 1, none⟩ = some (.int .i64 fst) := bcell_row HA.out rfl
  have x2 : w2.cell? ⟨q, 2, none⟩ = some (.slice B ch.length d) := bcell_row HA.out rfl
  have y0 : w2.cell? ⟨q + 1, 0, none⟩ = some (.slice A' ty.length c') := bcell_row HB.out rfl
  have y1 : w2.cell? ⟨q + 1, 1, none⟩ = some (.int .i64 fst) := bcell_row HB.out rfl
  have y2 : w2.cell? ⟨q + 1, 2, none⟩ = some (.slice B' ch.length d') := bcell_row HB.out rfl
  go_wp2_with fail
  refine (K2.out w2 G2.out).mono ?_
  rintro e w3 ⟨rfl, g3⟩
  have G3 := Lib.hid (G2.out.trans g3)
  go_wp2_with fail
  go_ret
  exact ⟨rfl, G3.out⟩
end Go.Proofs.YtkmgildnhnjepaaGreatDoor
namespace Go.Proofs.YtkmgildnhnjepaaGreatDoor
set_option linter.unusedVariables false
set_option linter.unusedSimpArgs false
open Go.RowKit
theorem mk_lens (rs : List RuD) (zs : List ZonD) (ls : List LinD) (nm : ByteArray) (F T : Int) : (mkTy rs zs ls nm F T).length ≤ 250 ∧ (mkCh rs zs ls nm F T).length ≤ 1000 := by
  unfold mkTy mkCh
  by_cases h : mkC rs zs ls nm F T = 0
  · rw [if_pos h, if_pos h, chs_len]
    have := (mkC_zero.1 h).2.2.2
    exact this
  · rw [if_neg h, if_neg h]; simp
end Go.Proofs.YtkmgildnhnjepaaGreatDoor
namespace Go.Proofs.YtkmgildnhnjepaaGreatDoor
set_option linter.unusedVariables false
set_option linter.unusedSimpArgs false
open Go.RowKit
set_option maxRecDepth 100000 in
set_option maxHeartbeats 16000000 in
theorem rtypeOf (x : EraD) (A : Option Addr) (c : Nat) (L : List TurD) (t : Int) (w : World) (hr : Row w 3 TurD.cells A L) (hl : L.length ≤ 100000) (hs : Rise L) (hm : HasMax w) (h0 : x.ru.toList ≠ [] → x.sv = 0)
    (h1 : -64800 ≤ x.off) (h2 : x.off ≤ 64800) (h3 : 0 ≤ (savP x L t).1) (h4 : (savP x L t).1 ≤ 10800) (h5 : (savP x L t).2.size ≤ maxLen) :
    Calls Tryz.prog 28 #[.agg #[.int .i64 x.off, .string x.ru, .int .i64 x.sv, .string x.fm, .int .i64 x.un], .slice A L.length c, .int .i64 t] w fun e w' =>
      e = .returned (.agg #[.int .i64 (x.off + (savP x L t).1), .bool (decide (0 < (savP x L t).1)), .string (S (abbrR x.fm.toList (savP x L t).1 (savP x L t).2.toList).1)]) ∧ Gr w w' := by
  obtain ⟨eo, ru, sv, fm, un⟩ := x
  have HR := Lib.hid hr
  have HS := Lib.hid hs
  have KA := Lib.hid (fun s l W (g : Gr w W) hl => rabbrAt fm s l W (g.max hm) hl)
  clear hr hs hm
  by_cases hru : ru.toList = []
  · have E := Lib.hid (savP_fix (e := ⟨eo, ru, sv, fm, un⟩) (L := L) (t := t) hru)
    have SB : Hid (0 ≤ sv ∧ sv ≤ 10800 ∧ dash.size ≤ maxLen) := by rw [E.out] at h3 h4 h5; exact ⟨h3, h4, h5⟩
    obtain rfl := str_nil hru
    clear hru h3 h4 h5 h0
    have B0 := Lib.hid (box_two w (.cells #[.int .i64 eo, .string ⟨#[]⟩, .int .i64 sv, .string fm, .int .i64 un] 59) (.cells #[.int .i64 0, .bool false, .string ⟨#[]⟩] 46))
    go_enter Tryz.func28, Tryz.ntmps28
    go_wp2_with fail
    generalize (w.alloc (.cells #[.int .i64 eo, .string ⟨#[]⟩, .int .i64 sv, .string fm, .int .i64 un] 59)).alloc (.cells #[.int .i64 0, .bool false, .string ⟨#[]⟩] 46) = w1 at B0 ⊢
    obtain ⟨q, hq⟩ : ∃ q, w.heap.size = q := ⟨_, rfl⟩
    have NQ : Hid (w.heap.size ≤ q + 1) := by unfold Hid; omega
    rw [hq] at B0 ⊢
    clear hq
    have x3 : w1.cell? ⟨q, 3, none⟩ = some (.string fm) := bcell_row B0.out.2.1 rfl
    go_wp2_with fail
    clear x3
    refine (KA.out sv dash w1 B0.out.1 SB.out.2.2).mono ?_
    rintro e w5 ⟨rfl, g5⟩
    have G5 := Lib.hid (B0.out.1.trans g5)
    have HE5 := Lib.hid (bheap_gr g5 B0.out.2.1)
    have HQ5 := Lib.hid (bheap_gr g5 B0.out.2.2)
    clear g5
    have x0 : w5.cell? ⟨q, 0, none⟩ = some (.int .i64 eo) := bcell_row HE5.out rfl
    have b1 := SB.out.1
    have b2 := SB.out.2.1
    have y0 : w5.cell? ⟨q + 1, 0, none⟩ = some (.int .i64 0) := bcell_row HQ5.out rfl
    have y1 : w5.cell? ⟨q + 1, 1, none⟩ = some (.bool false) := bcell_row HQ5.out rfl
    have y2 : w5.cell? ⟨q + 1, 2, none⟩ = some (.string ⟨#[]⟩) := bcell_row HQ5.out rfl
    have f0 : w5.frozen? ⟨q + 1, 0, none⟩ = false := unfrozen HQ5.out
    have f1 : w5.frozen? ⟨q + 1, 1, none⟩ = false := unfrozen HQ5.out
    have f2 : w5.frozen? ⟨q + 1, 2, none⟩ = false := unfrozen HQ5.out
    have s0 : (((w5.setCell ⟨q + 1, 0, none⟩ (.int .i64 (eo + sv))).setCell ⟨q + 1, 1, none⟩ (.bool (decide (0 < sv)))).setCell ⟨q + 1, 2, none⟩ (.string (S (abbrR fm.toList sv dash.toList).1))).cell? ⟨q + 1, 0, none⟩ = some (.int .i64 (eo + sv)) := bcell_row (st3 HQ5.out (.int .i64 (eo + sv)) (.bool (decide (0 < sv))) (.string (S (abbrR fm.toList sv dash.toList).1))) rfl
    have s1 : (((w5.setCell ⟨q + 1, 0, none⟩ (.int .i64 (eo + sv))).setCell ⟨q + 1, 1, none⟩ (.bool (decide (0 < sv)))).setCell ⟨q + 1, 2, none⟩ (.string (S (abbrR fm.toList sv dash.toList).1))).cell? ⟨q + 1, 1, none⟩ = some (.bool (decide (0 < sv))) := bcell_row (st3 HQ5.out (.int .i64 (eo + sv)) (.bool (decide (0 < sv))) (.string (S (abbrR fm.toList sv dash.toList).1))) rfl
    have s2 : (((w5.setCell ⟨q + 1, 0, none⟩ (.int .i64 (eo + sv))).setCell ⟨q + 1, 1, none⟩ (.bool (decide (0 < sv)))).setCell ⟨q + 1, 2, none⟩ (.string (S (abbrR fm.toList sv dash.toList).1))).cell? ⟨q + 1, 2, none⟩ = some (.string (S (abbrR fm.toList sv dash.toList).1)) := bcell_row (st3 HQ5.out (.int .i64 (eo + sv)) (.bool (decide (0 < sv))) (.string (S (abbrR fm.toList sv dash.toList).1))) rfl
    go_wp2_with fail
    exact bodyPost_ret (v := .agg #[.int .i64 (eo + sv), .bool (decide (0 < sv)), .string (S (abbrR fm.toList sv dash.toList).1)]) (by simp [results, Tryz.results28, go_sem, s0, s1, s2]) rfl ⟨by rw [E.out], (st3_below G5.out NQ.out (.int .i64 (eo + sv)) (.bool (decide (0 < sv))) (.string (S (abbrR fm.toList sv dash.toList).1)))⟩
  · have E : Hid (savP ⟨eo, ru, sv, fm, un⟩ L t = lastP (0, fstL L) L (lateI L t)) := by unfold Hid savP; rw [if_neg hru]
    have SB0 : Hid (0 ≤ (savP ⟨eo, ru, sv, fm, un⟩ L t).1 ∧ (savP ⟨eo, ru, sv, fm, un⟩ L t).1 ≤ 10800 ∧ (savP ⟨eo, ru, sv, fm, un⟩ L t).2.size ≤ maxLen) := ⟨h3, h4, h5⟩
    have hsv : sv = 0 := h0 hru
    subst hsv
    obtain ⟨n1, n2, n3⟩ := str_nonnil hru
    have LE := Lib.hid (lateI_le L t)
    clear hru h3 h4 h5 h0
    have B0 := Lib.hid (box_two w (.cells #[.int .i64 eo, .string ru, .int .i64 0, .string fm, .int .i64 un] 59) (.cells #[.int .i64 0, .bool false, .string ⟨#[]⟩] 46))
    go_enter Tryz.func28, Tryz.ntmps28
    go_wp2_with fail
    generalize (w.alloc (.cells #[.int .i64 eo, .string ru, .int .i64 0, .string fm, .int .i64 un] 59)).alloc (.cells #[.int .i64 0, .bool false, .string ⟨#[]⟩] 46) = w1 at B0 ⊢
    obtain ⟨q, hq⟩ : ∃ q, w.heap.size = q := ⟨_, rfl⟩
    have NQ : Hid (w.heap.size ≤ q + 1) := by unfold Hid; omega
    rw [hq] at B0 ⊢
    clear hq
    go_loopw [8, 9] (fun l i W => ∃ (k : Nat) (iv : Int), k ≤ L.length ∧ i = .int .i64 iv ∧ iv = (k : Int) - 1 ∧ l = .string (fstL (L.drop k)) ∧ Hid (Gr w1 W)) (fun l i W => (intOf i + 1).toNat)
    case atStart => exact ⟨L.length, _, Nat.le_refl _, rfl, rfl, by rw [List.drop_length]; rfl, Gr.refl _⟩
    case round =>
      obtain ⟨k, iv, hk, rfl, hiv, rfl, hg⟩ := hrel
      cases k with
      | succ j =>
        obtain rfl : iv = (j : Int) := by omega
        clear hiv
        obtain ⟨⟨xa, xs, xl⟩, hx⟩ := get_lt (show j < L.length by omega)
        obtain ⟨b, off, rfl, c0, c1, c2⟩ := HR.out.three hx rfl (B0.out.1.trans hg.out)
        have FC := Lib.hid (fstL_cons hx)
        have hlt := (List.getElem?_eq_some_iff.1 hx).1
        clear hx
        generalize fstL (L.drop (j + 1)) = fl at FC ⊢
        by_cases hz : xs = 0
        · have FE : Hid (xl = fstL (L.drop j)) := by unfold Hid; rw [FC.out]; exact (if_pos hz).symm
          have t0 := beqT hz
          clear hz FC
          go_wp2_with fail
          go_roundw
          case rel => exact ⟨j, _, by omega, rfl, by go_num, by rw [← FE.out], hg.out⟩
          case measure => simp [intOf]
        · have FE : Hid (fl = fstL (L.drop j)) := by unfold Hid; rw [FC.out]; exact (if_neg hz).symm
          have t0 := beqF hz
          clear hz FC
          go_wp2_with fail
          go_roundw
          case rel => exact ⟨j, _, by omega, rfl, by go_num, by rw [← FE.out], hg.out⟩
          case measure => simp [intOf]
      | zero =>
        obtain rfl : iv = -1 := by omega
        clear hiv hk
        have G1 : Hid (Gr w wr) := B0.out.1.trans hg.out
        have HE1 := Lib.hid (bheap_gr hg.out B0.out.2.1)
        have HQ1 := Lib.hid (bheap_gr hg.out B0.out.2.2)
        rw [List.drop_zero]
        clear hg B0
        generalize fstL L = fl at E ⊢
        have x1 : (-1 : Int) < 0 := by omega
        go_wp2_with fail
        clear x1
        obtain ⟨wA, hwA⟩ : ∃ x, x = wr := ⟨_, rfl⟩
        subst hwA
        generalize hlm : lateI L t = m at E LE ⊢
        have LM := Lib.hid hlm
        clear hlm
        go_loopw [7, 8, 39] (fun s l i W => ∃ (k : Nat) (s' : Int) (l' : ByteArray), k ≤ L.length ∧ i = .int .i64 k ∧ s = .int .i64 s' ∧ l = .string l' ∧ Hid (lastP (0, fl) L (min k m) = (s', l')) ∧ Hid (Gr wA W)) (fun s l i W => L.length - (intOf i).toNat)
        case atStart => exact ⟨0, 0, fl, Nat.zero_le _, rfl, rfl, rfl, by unfold Hid; rw [Nat.zero_min, lastP_zero], Gr.refl _⟩
        case round =>
          obtain ⟨k, s', l', hk, rfl, rfl, rfl, hp, hg⟩ := hrel
          by_cases hlt : k < L.length
          · obtain ⟨⟨xa, xs, xl⟩, hx⟩ := get_lt hlt
            obtain ⟨b, off, rfl, c0, c1, c2⟩ := HR.out.three hx rfl (G1.out.trans hg.out)
            by_cases hle : xa ≤ t
            · have HY : Hid (lastP (0, fl) L (min (k + 1) m) = (xs, xl)) := by unfold Hid; rw [← LM.out]; exact lastP_yes HS.out hx hle
              clear hx hp
              go_wp2_with fail
              go_quiet (fail)
              go_wp2_with fail
              go_roundw
              case rel => exact ⟨k + 1, xs, xl, by omega, by go_num, rfl, rfl, HY.out, (hg.out.alloc' _).drewN _⟩
              case measure => simp [intOf]; omega
            · have HY : Hid (lastP (0, fl) L (min (k + 1) m) = (s', l')) := by unfold Hid; rw [← hp.out, ← LM.out]; exact lastP_no HS.out hx hle
              clear hx hp
              go_wp2_with fail
              go_roundw
              case rel => exact ⟨k + 1, s', l', by omega, by go_num, rfl, rfl, HY.out, hg.out.alloc' _⟩
              case measure => simp [intOf]; omega
          · have e : k = L.length := by omega
            have ex : Hid (savP ⟨eo, ru, 0, fm, un⟩ L t = (s', l')) := by unfold Hid; rw [E.out, ← hp.out, show min k m = m by have := LE.out; omega]
            have SB : Hid (0 ≤ s' ∧ s' ≤ 10800 ∧ l'.size ≤ maxLen) := by have := SB0.out; rw [ex.out] at this; exact this
            have G2 : Hid (Gr w wr) := G1.out.trans hg.out
            have HE2 := Lib.hid (bheap_gr hg.out HE1.out)
            have HQ2 := Lib.hid (bheap_gr hg.out HQ1.out)
            clear hg hp E SB0 G1 HE1 HQ1 LE LM e
            have x3 : wr.cell? ⟨q, 3, none⟩ = some (.string fm) := bcell_row HE2.out rfl
            go_wp2_with fail
            clear x3
            refine (KA.out s' l' wr G2.out SB.out.2.2).mono ?_
            rintro e w5 ⟨rfl, g5⟩
            have G5 := Lib.hid (G2.out.trans g5)
            have HE5 := Lib.hid (bheap_gr g5 HE2.out)
            have HQ5 := Lib.hid (bheap_gr g5 HQ2.out)
            clear g5
            have x0 : w5.cell? ⟨q, 0, none⟩ = some (.int .i64 eo) := bcell_row HE5.out rfl
            have b1 := SB.out.1
            have b2 := SB.out.2.1
            have y0 : w5.cell? ⟨q + 1, 0, none⟩ = some (.int .i64 0) := bcell_row HQ5.out rfl
            have y1 : w5.cell? ⟨q + 1, 1, none⟩ = some (.bool false) := bcell_row HQ5.out rfl
            have y2 : w5.cell? ⟨q + 1, 2, none⟩ = some (.string ⟨#[]⟩) := bcell_row HQ5.out rfl
            have f0 : w5.frozen? ⟨q + 1, 0, none⟩ = false := unfrozen HQ5.out
            have f1 : w5.frozen? ⟨q + 1, 1, none⟩ = false := unfrozen HQ5.out
            have f2 : w5.frozen? ⟨q + 1, 2, none⟩ = false := unfrozen HQ5.out
            have s0 : (((w5.setCell ⟨q + 1, 0, none⟩ (.int .i64 (eo + s'))).setCell ⟨q + 1, 1, none⟩ (.bool (decide (0 < s')))).setCell ⟨q + 1, 2, none⟩ (.string (S (abbrR fm.toList s' l'.toList).1))).cell? ⟨q + 1, 0, none⟩ = some (.int .i64 (eo + s')) := bcell_row (st3 HQ5.out (.int .i64 (eo + s')) (.bool (decide (0 < s'))) (.string (S (abbrR fm.toList s' l'.toList).1))) rfl
            have s1 : (((w5.setCell ⟨q + 1, 0, none⟩ (.int .i64 (eo + s'))).setCell ⟨q + 1, 1, none⟩ (.bool (decide (0 < s')))).setCell ⟨q + 1, 2, none⟩ (.string (S (abbrR fm.toList s' l'.toList).1))).cell? ⟨q + 1, 1, none⟩ = some (.bool (decide (0 < s'))) := bcell_row (st3 HQ5.out (.int .i64 (eo + s')) (.bool (decide (0 < s'))) (.string (S (abbrR fm.toList s' l'.toList).1))) rfl
            have s2 : (((w5.setCell ⟨q + 1, 0, none⟩ (.int .i64 (eo + s'))).setCell ⟨q + 1, 1, none⟩ (.bool (decide (0 < s')))).setCell ⟨q + 1, 2, none⟩ (.string (S (abbrR fm.toList s' l'.toList).1))).cell? ⟨q + 1, 2, none⟩ = some (.string (S (abbrR fm.toList s' l'.toList).1)) := bcell_row (st3 HQ5.out (.int .i64 (eo + s')) (.bool (decide (0 < s'))) (.string (S (abbrR fm.toList s' l'.toList).1))) rfl
            go_wp2_with fail
            exact bodyPost_ret (v := .agg #[.int .i64 (eo + s'), .bool (decide (0 < s')), .string (S (abbrR fm.toList s' l'.toList).1)]) (by simp [results, Tryz.results28, go_sem, s0, s1, s2]) rfl ⟨by rw [ex.out], (st3_below G5.out NQ.out (.int .i64 (eo + s')) (.bool (decide (0 < s'))) (.string (S (abbrR fm.toList s' l'.toList).1)))⟩
end Go.Proofs.YtkmgildnhnjepaaGreatDoor
