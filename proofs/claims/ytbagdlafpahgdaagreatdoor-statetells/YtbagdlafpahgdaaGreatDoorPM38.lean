/- The reference's typeOf: the type that an era with its transitions has at a time. -/
import Derived.BigQuiet
import Derived.Deep.QuietTactic
import Derived.Test.YtbagdlafpahgdaaGreatDoorPM18
import Derived.Test.YtbagdlafpahgdaaGreatDoorPM36
import Derived.Test.YtbagdlafpahgdaaGreatDoorPM37
import Derived.Test.YtbagdlafpahgdaaGreatDoorPM32
namespace Go.Proofs.YtbagdlafpahgdaaGreatDoor
set_option linter.unusedVariables false
set_option linter.unusedSimpArgs false
open Go.RowKit
set_option maxRecDepth 100000 in
set_option maxHeartbeats 16000000 in
theorem rtypeOf (x : EraD) (A : Option Addr) (c : Nat) (L : List TurD) (t : Int) (w : World) (hr : Row w 3 TurD.cells A L) (hl : L.length ≤ 100000) (hs : Rise L) (hm : HasMax w) (h0 : x.ru.toList ≠ [] → x.sv = 0)
    (h1 : -64800 ≤ x.off) (h2 : x.off ≤ 64800) (h3 : 0 ≤ (savP x L t).1) (h4 : (savP x L t).1 ≤ 10800) (h5 : (savP x L t).2.size ≤ maxLen) :
    Calls Tryz.prog 25 #[.agg #[.int .i64 x.off, .string x.ru, .int .i64 x.sv, .string x.fm, .int .i64 x.un], .slice A L.length c, .int .i64 t] w fun e w' =>
      e = .returned (.agg #[.int .i64 (x.off + (savP x L t).1), .bool (decide (0 < (savP x L t).1)), .string (S (abbrR x.fm.toList (savP x L t).1 (savP x L t).2.toList).1)]) ∧ Gr w w' := by
  obtain ⟨eo, ru, sv, fm, un⟩ := x
  have HR := Lib.hid hr
  have HS := Lib.hid hs
  have KA := Lib.hid (fun s l W (g : Gr w W) hl => rabbrAt fm s l W (g.max hm) hl)
  clear hr hs hm
  by_cases hru : ru.toList = []
  · have E := Lib.hid (savP_fix (e := ⟨eo, ru, sv, fm, un⟩) (L := L) (t := t) hru)
    have SB : Hid (0 ≤ sv ∧ sv ≤ 10800 ∧ dash.size ≤ maxLen) := by rw [E.out] at h3 h4 h5; exact ⟨h3, h4, h5⟩
    obtain rfl := str_nil hru
    clear hru h3 h4 h5 h0
    have B0 := Lib.hid (box_two w (.cells #[.int .i64 eo, .string ⟨#[]⟩, .int .i64 sv, .string fm, .int .i64 un] 40) (.cells #[.int .i64 0, .bool false, .string ⟨#[]⟩] 28))
    go_enter Tryz.func25, Tryz.ntmps25
    go_wp2_with fail
    generalize (w.alloc (.cells #[.int .i64 eo, .string ⟨#[]⟩, .int .i64 sv, .string fm, .int .i64 un] 40)).alloc (.cells #[.int .i64 0, .bool false, .string ⟨#[]⟩] 28) = w1 at B0 ⊢
    obtain ⟨q, hq⟩ : ∃ q, w.heap.size = q := ⟨_, rfl⟩
    have NQ : Hid (w.heap.size ≤ q + 1) := by unfold Hid; omega
    rw [hq] at B0 ⊢
    clear hq
    have x3 : w1.cell? ⟨q, 3, none⟩ = some (.string fm) := bcell_row B0.out.2.1 rfl
    go_wp2_with fail
    clear x3
    refine (KA.out sv dash w1 B0.out.1 SB.out.2.2).mono ?_
    rintro e w5 ⟨rfl, g5⟩
    have G5 := Lib.hid (B0.out.1.trans g5)
    have HE5 := Lib.hid (bheap_gr g5 B0.out.2.1)
    have HQ5 := Lib.hid (bheap_gr g5 B0.out.2.2)
    clear g5
    have x0 : w5.cell? ⟨q, 0, none⟩ = some (.int .i64 eo) := bcell_row HE5.out rfl
    have b1 := SB.out.1
    have b2 := SB.out.2.1
    have y0 : w5.cell? ⟨q + 1, 0, none⟩ = some (.int .i64 0) := bcell_row HQ5.out rfl
    have y1 : w5.cell? ⟨q + 1, 1, none⟩ = some (.bool false) := bcell_row HQ5.out rfl
    have y2 : w5.cell? ⟨q + 1, 2, none⟩ = some (.string ⟨#[]⟩) := bcell_row HQ5.out rfl
    have f0 : w5.frozen? ⟨q + 1, 0, none⟩ = false := unfrozen HQ5.out
    have f1 : w5.frozen? ⟨q + 1, 1, none⟩ = false := unfrozen HQ5.out
    have f2 : w5.frozen? ⟨q + 1, 2, none⟩ = false := unfrozen HQ5.out
    have s0 : (((w5.setCell ⟨q + 1, 0, none⟩ (.int .i64 (eo + sv))).setCell ⟨q + 1, 1, none⟩ (.bool (decide (0 < sv)))).setCell ⟨q + 1, 2, none⟩ (.string (S (abbrR fm.toList sv dash.toList).1))).cell? ⟨q + 1, 0, none⟩ = some (.int .i64 (eo + sv)) := bcell_row (st3 HQ5.out (.int .i64 (eo + sv)) (.bool (decide (0 < sv))) (.string (S (abbrR fm.toList sv dash.toList).1))) rfl
    have s1 : (((w5.setCell ⟨q + 1, 0, none⟩ (.int .i64 (eo + sv))).setCell ⟨q + 1, 1, none⟩ (.bool (decide (0 < sv)))).setCell ⟨q + 1, 2, none⟩ (.string (S (abbrR fm.toList sv dash.toList).1))).cell? ⟨q + 1, 1, none⟩ = some (.bool (decide (0 < sv))) := bcell_row (st3 HQ5.out (.int .i64 (eo + sv)) (.bool (decide (0 < sv))) (.string (S (abbrR fm.toList sv dash.toList).1))) rfl
    have s2 : (((w5.setCell ⟨q + 1, 0, none⟩ (.int .i64 (eo + sv))).setCell ⟨q + 1, 1, none⟩ (.bool (decide (0 < sv)))).setCell ⟨q + 1, 2, none⟩ (.string (S (abbrR fm.toList sv dash.toList).1))).cell? ⟨q + 1, 2, none⟩ = some (.string (S (abbrR fm.toList sv dash.toList).1)) := bcell_row (st3 HQ5.out (.int .i64 (eo + sv)) (.bool (decide (0 < sv))) (.string (S (abbrR fm.toList sv dash.toList).1))) rfl
    go_wp2_with fail
    exact bodyPost_ret (v := .agg #[.int .i64 (eo + sv), .bool (decide (0 < sv)), .string (S (abbrR fm.toList sv dash.toList).1)]) (by simp [results, Tryz.results25, go_sem, s0, s1, s2]) rfl ⟨by rw [E.out], (st3_below G5.out NQ.out (.int .i64 (eo + sv)) (.bool (decide (0 < sv))) (.string (S (abbrR fm.toList sv dash.toList).1)))⟩
  · have E : Hid (savP ⟨eo, ru, sv, fm, un⟩ L t = lastP (0, fstL L) L (lateI L t)) := by unfold Hid savP; rw [if_neg hru]
    have SB0 : Hid (0 ≤ (savP ⟨eo, ru, sv, fm, un⟩ L t).1 ∧ (savP ⟨eo, ru, sv, fm, un⟩ L t).1 ≤ 10800 ∧ (savP ⟨eo, ru, sv, fm, un⟩ L t).2.size ≤ maxLen) := ⟨h3, h4, h5⟩
    have hsv : sv = 0 := h0 hru
    subst hsv
    obtain ⟨n1, n2, n3⟩ := str_nonnil hru
    have LE := Lib.hid (lateI_le L t)
    clear hru h3 h4 h5 h0
    have B0 := Lib.hid (box_two w (.cells #[.int .i64 eo, .string ru, .int .i64 0, .string fm, .int .i64 un] 40) (.cells #[.int .i64 0, .bool false, .string ⟨#[]⟩] 28))
    go_enter Tryz.func25, Tryz.ntmps25
    go_wp2_with fail
    generalize (w.alloc (.cells #[.int .i64 eo, .string ru, .int .i64 0, .string fm, .int .i64 un] 40)).alloc (.cells #[.int .i64 0, .bool false, .string ⟨#[]⟩] 28) = w1 at B0 ⊢
    obtain ⟨q, hq⟩ : ∃ q, w.heap.size = q := ⟨_, rfl⟩
    have NQ : Hid (w.heap.size ≤ q + 1) := by unfold Hid; omega
    rw [hq] at B0 ⊢
    clear hq
    go_loopw [8, 9] (fun l i W => ∃ (k : Nat) (iv : Int), k ≤ L.length ∧ i = .int .i64 iv ∧ iv = (k : Int) - 1 ∧ l = .string (fstL (L.drop k)) ∧ Hid (Gr w1 W)) (fun l i W => (intOf i + 1).toNat)
    case atStart => exact ⟨L.length, _, Nat.le_refl _, rfl, rfl, by rw [List.drop_length]; rfl, Gr.refl _⟩
    case round =>
      obtain ⟨k, iv, hk, rfl, hiv, rfl, hg⟩ := hrel
      cases k with
      | succ j =>
        obtain rfl : iv = (j : Int) := by omega
        clear hiv
        obtain ⟨⟨xa, xs, xl⟩, hx⟩ := get_lt (show j < L.length by omega)
        obtain ⟨b, off, rfl, c0, c1, c2⟩ := HR.out.three hx rfl (B0.out.1.trans hg.out)
        have FC := Lib.hid (fstL_cons hx)
        have hlt := (List.getElem?_eq_some_iff.1 hx).1
        clear hx
        generalize fstL (L.drop (j + 1)) = fl at FC ⊢
        by_cases hz : xs = 0
        · have FE : Hid (xl = fstL (L.drop j)) := by unfold Hid; rw [FC.out]; exact (if_pos hz).symm
          have t0 := beqT hz
          clear hz FC
          go_wp2_with fail
          go_roundw
          case rel => exact ⟨j, _, by omega, rfl, by go_num, by rw [← FE.out], hg.out⟩
          case measure => simp [intOf]
        · have FE : Hid (fl = fstL (L.drop j)) := by unfold Hid; rw [FC.out]; exact (if_neg hz).symm
          have t0 := beqF hz
          clear hz FC
          go_wp2_with fail
          go_roundw
          case rel => exact ⟨j, _, by omega, rfl, by go_num, by rw [← FE.out], hg.out⟩
          case measure => simp [intOf]
      | zero =>
        obtain rfl : iv = -1 := by omega
        clear hiv hk
        have G1 : Hid (Gr w wr) := B0.out.1.trans hg.out
        have HE1 := Lib.hid (bheap_gr hg.out B0.out.2.1)
        have HQ1 := Lib.hid (bheap_gr hg.out B0.out.2.2)
        rw [List.drop_zero]
        clear hg B0
        generalize fstL L = fl at E ⊢
        have x1 : (-1 : Int) < 0 := by omega
        go_wp2_with fail
        clear x1
        obtain ⟨wA, hwA⟩ : ∃ x, x = wr := ⟨_, rfl⟩
        subst hwA
        generalize hlm : lateI L t = m at E LE ⊢
        have LM := Lib.hid hlm
        clear hlm
        go_loopw [7, 8, 39] (fun s l i W => ∃ (k : Nat) (s' : Int) (l' : ByteArray), k ≤ L.length ∧ i = .int .i64 k ∧ s = .int .i64 s' ∧ l = .string l' ∧ Hid (lastP (0, fl) L (min k m) = (s', l')) ∧ Hid (Gr wA W)) (fun s l i W => L.length - (intOf i).toNat)
        case atStart => exact ⟨0, 0, fl, Nat.zero_le _, rfl, rfl, rfl, by unfold Hid; rw [Nat.zero_min, lastP_zero], Gr.refl _⟩
        case round =>
          obtain ⟨k, s', l', hk, rfl, rfl, rfl, hp, hg⟩ := hrel
          by_cases hlt : k < L.length
          · obtain ⟨⟨xa, xs, xl⟩, hx⟩ := get_lt hlt
            obtain ⟨b, off, rfl, c0, c1, c2⟩ := HR.out.three hx rfl (G1.out.trans hg.out)
            by_cases hle : xa ≤ t
            · have HY : Hid (lastP (0, fl) L (min (k + 1) m) = (xs, xl)) := by unfold Hid; rw [← LM.out]; exact lastP_yes HS.out hx hle
              clear hx hp
              go_wp2_with fail
              go_quiet (fail)
              go_wp2_with fail
              go_roundw
              case rel => exact ⟨k + 1, xs, xl, by omega, by go_num, rfl, rfl, HY.out, (hg.out.alloc' _).drewN _⟩
              case measure => simp [intOf]; omega
            · have HY : Hid (lastP (0, fl) L (min (k + 1) m) = (s', l')) := by unfold Hid; rw [← hp.out, ← LM.out]; exact lastP_no HS.out hx hle
              clear hx hp
              go_wp2_with fail
              go_roundw
              case rel => exact ⟨k + 1, s', l', by omega, by go_num, rfl, rfl, HY.out, hg.out.alloc' _⟩
              case measure => simp [intOf]; omega
          · have e : k = L.length := by omega
            have ex : Hid (savP ⟨eo, ru, 0, fm, un⟩ L t = (s', l')) := by unfold Hid; rw [E.out, ← hp.out, show min k m = m by have := LE.out; omega]
            have SB : Hid (0 ≤ s' ∧ s' ≤ 10800 ∧ l'.size ≤ maxLen) := by have := SB0.out; rw [ex.out] at this; exact this
            have G2 : Hid (Gr w wr) := G1.out.trans hg.out
            have HE2 := Lib.hid (bheap_gr hg.out HE1.out)
            have HQ2 := Lib.hid (bheap_gr hg.out HQ1.out)
            clear hg hp E SB0 G1 HE1 HQ1 LE LM e
            have x3 : wr.cell? ⟨q, 3, none⟩ = some (.string fm) := bcell_row HE2.out rfl
            go_wp2_with fail
            clear x3
            refine (KA.out s' l' wr G2.out SB.out.2.2).mono ?_
            rintro e w5 ⟨rfl, g5⟩
            have G5 := Lib.hid (G2.out.trans g5)
            have HE5 := Lib.hid (bheap_gr g5 HE2.out)
            have HQ5 := Lib.hid (bheap_gr g5 HQ2.out)
            clear g5
            have x0 : w5.cell? ⟨q, 0, none⟩ = some (.int .i64 eo) := bcell_row HE5.out rfl
            have b1 := SB.out.1
            have b2 := SB.out.2.1
            have y0 : w5.cell? ⟨q + 1, 0, none⟩ = some (.int .i64 0) := bcell_row HQ5.out rfl
            have y1 : w5.cell? ⟨q + 1, 1, none⟩ = some (.bool false) := bcell_row HQ5.out rfl
            have y2 : w5.cell? ⟨q + 1, 2, none⟩ = some (.string ⟨#[]⟩) := bcell_row HQ5.out rfl
            have f0 : w5.frozen? ⟨q + 1, 0, none⟩ = false := unfrozen HQ5.out
            have f1 : w5.frozen? ⟨q + 1, 1, none⟩ = false := unfrozen HQ5.out
            have f2 : w5.frozen? ⟨q + 1, 2, none⟩ = false := unfrozen HQ5.out
            have s0 : (((w5.setCell ⟨q + 1, 0, none⟩ (.int .i64 (eo + s'))).setCell ⟨q + 1, 1, none⟩ (.bool (decide (0 < s')))).setCell ⟨q + 1, 2, none⟩ (.string (S (abbrR fm.toList s' l'.toList).1))).cell? ⟨q + 1, 0, none⟩ = some (.int .i64 (eo + s')) := bcell_row (st3 HQ5.out (.int .i64 (eo + s')) (.bool (decide (0 < s'))) (.string (S (abbrR fm.toList s' l'.toList).1))) rfl
            have s1 : (((w5.setCell ⟨q + 1, 0, none⟩ (.int .i64 (eo + s'))).setCell ⟨q + 1, 1, none⟩ (.bool (decide (0 < s')))).setCell ⟨q + 1, 2, none⟩ (.string (S (abbrR fm.toList s' l'.toList).1))).cell? ⟨q + 1, 1, none⟩ = some (.bool (decide (0 < s'))) := bcell_row (st3 HQ5.out (.int .i64 (eo + s')) (.bool (decide (0 < s'))) (.string (S (abbrR fm.toList s' l'.toList).1))) rfl
            have s2 : (((w5.setCell ⟨q + 1, 0, none⟩ (.int .i64 (eo + s'))).setCell ⟨q + 1, 1, none⟩ (.bool (decide (0 < s')))).setCell ⟨q + 1, 2, none⟩ (.string (S (abbrR fm.toList s' l'.toList).1))).cell? ⟨q + 1, 2, none⟩ = some (.string (S (abbrR fm.toList s' l'.toList).1)) := bcell_row (st3 HQ5.out (.int .i64 (eo + s')) (.bool (decide (0 < s'))) (.string (S (abbrR fm.toList s' l'.toList).1))) rfl
            go_wp2_with fail
            exact bodyPost_ret (v := .agg #[.int .i64 (eo + s'), .bool (decide (0 < s')), .string (S (abbrR fm.toList s' l'.toList).1)]) (by simp [results, Tryz.results25, go_sem, s0, s1, s2]) rfl ⟨by rw [ex.out], (st3_below G5.out NQ.out (.int .i64 (eo + s')) (.bool (decide (0 < s'))) (.string (S (abbrR fm.toList s' l'.toList).1)))⟩
end Go.Proofs.YtbagdlafpahgdaaGreatDoor
