/- Where the reference's zoneAt and linkAt find a name. What the reference's Resolve returns. -/
import Derived.Test.YtkmgildnhnjepaaGreatDoorTM10
import Derived.Test.YtkmgildnhnjepaaGreatDoorTM12
import Derived.Test.YtkmgildnhnjepaaGreatDoorTM16
namespace Go.Proofs.YtkmgildnhnjepaaGreatDoor
set_option linter.unusedVariables false
set_option linter.unusedSimpArgs false
open Go.RowKit
/-- the place of a zone of this name; -1 where there is none -/
def FindsZ (l : List ZonD) (nm : ByteArray) (w : World) (e : Ending) (w' : World) : Prop := ∃ n : Int, e = .returned (.int .i64 n) ∧ ((∃ (k : Nat) (z : ZonD), n = k ∧ l[k]? = some z ∧ z.nm.toList = nm.toList) ∨ (n = -1 ∧ hasZ l nm = false)) ∧ Gr w w'
def FindsL (l : List LinD) (nm : ByteArray) (w : World) (e : Ending) (w' : World) : Prop := ∃ n : Int, e = .returned (.int .i64 n) ∧ ((∃ (k : Nat) (z : LinD), n = k ∧ l[k]? = some z ∧ z.nm.toList = nm.toList) ∨ (n = -1 ∧ hasL l nm = false)) ∧ Gr w w'

set_option maxHeartbeats 4000000 in
theorem rzoneAt2 (A : Option Addr) (c : Nat) (l : List ZonD) (nm : ByteArray) (w : World) (hl : l.length ≤ maxLen) (h : Row w 2 ZonD.cells A l) :
    Calls Tryz.prog 55 #[.slice A l.length c, .string nm] w (FindsZ l nm w) := by
  have H := Lib.hid h
  unfold maxLen at hl
  clear h
  go_enter Tryz.func55, Tryz.ntmps55
  go_wp2_with fail
  go_loopw [9] (fun i W => ∃ k : Nat, k ≤ l.length ∧ i = .int .i64 k ∧ Hid (hasZ (l.take k) nm = false) ∧ Hid (Gr w W)) (fun i W => l.length - (intOf i).toNat)
  case atStart => exact ⟨0, Nat.zero_le _, rfl, rfl, Gr.refl _⟩
  case round =>
    obtain ⟨k, hk, rfl, hf, hg⟩ := hrel
    by_cases hlt : k < l.length
    · obtain ⟨⟨znm, zA, zc, ze⟩, hz⟩ := get_lt hlt
      obtain ⟨b, off, rfl, c0, c1⟩ := H.out.two hz rfl hg.out
      have HT : Hid (hasZ (l.take (k + 1)) nm = (hasZ (l.take k) nm || (znm.toList == nm.toList))) := any_take hz
      have HZ := Lib.hid hz
      clear hz H
      obtain ⟨q, eq⟩ : ∃ q, (znm.toList == nm.toList) = q := ⟨_, rfl⟩
      have EQ := Lib.hid eq
      rw [eq] at HT
      cases q with
      | true =>
        clear HT hf
        go_wp2_with fail
        go_ret
        exact ⟨k, rfl, Or.inl ⟨k, _, rfl, HZ.out, eq_of_beq EQ.out⟩, hg.out.alloc' _⟩
      | false =>
        clear HZ EQ
        go_wp2_with fail
        go_roundw
        case rel => exact ⟨k + 1, by omega, by go_num, by unfold Hid; rw [HT.out, hf.out]; rfl, hg.out.alloc' _⟩
        case measure => simp [intOf]; omega
    · have e : k = l.length := by omega
      have HA : Hid (hasZ l nm = false) := by unfold Hid; have := hf.out; rw [e, List.take_length] at this; exact this
      clear e hf H
      go_wp2_with fail
      go_ret
      exact ⟨-1, rfl, Or.inr ⟨rfl, HA.out⟩, hg.out⟩

set_option maxHeartbeats 4000000 in
theorem rlinkAt2 (A : Option Addr) (c : Nat) (l : List LinD) (nm : ByteArray) (w : World) (hl : l.length ≤ maxLen) (h : Row w 2 LinD.cells A l) :
    Calls Tryz.prog 56 #[.slice A l.length c, .string nm] w (FindsL l nm w) := by
  have H := Lib.hid h
  unfold maxLen at hl
  clear h
  go_enter Tryz.func56, Tryz.ntmps56
  go_wp2_with fail
  go_loopw [9] (fun i W => ∃ k : Nat, k ≤ l.length ∧ i = .int .i64 k ∧ Hid (hasL (l.take k) nm = false) ∧ Hid (Gr w W)) (fun i W => l.length - (intOf i).toNat)
  case atStart => exact ⟨0, Nat.zero_le _, rfl, rfl, Gr.refl _⟩
  case round =>
    obtain ⟨k, hk, rfl, hf, hg⟩ := hrel
    by_cases hlt : k < l.length
    · obtain ⟨⟨znm, zt⟩, hz⟩ := get_lt hlt
      obtain ⟨b, off, rfl, c0, c1⟩ := H.out.two hz rfl hg.out
      have HT : Hid (hasL (l.take (k + 1)) nm = (hasL (l.take k) nm || (znm.toList == nm.toList))) := any_take hz
      have HZ := Lib.hid hz
      clear hz H
      obtain ⟨q, eq⟩ : ∃ q, (znm.toList == nm.toList) = q := ⟨_, rfl⟩
      have EQ := Lib.hid eq
      rw [eq] at HT
      cases q with
      | true =>
        clear HT hf
        go_wp2_with fail
        go_ret
        exact ⟨k, rfl, Or.inl ⟨k, _, rfl, HZ.out, eq_of_beq EQ.out⟩, hg.out.alloc' _⟩
      | false =>
        clear HZ EQ
        go_wp2_with fail
        go_roundw
        case rel => exact ⟨k + 1, by omega, by go_num, by unfold Hid; rw [HT.out, hf.out]; rfl, hg.out.alloc' _⟩
        case measure => simp [intOf]; omega
    · have e : k = l.length := by omega
      have HA : Hid (hasL l nm = false) := by unfold Hid; have := hf.out; rw [e, List.take_length] at this; exact this
      clear e hf H
      go_wp2_with fail
      go_ret
      exact ⟨-1, rfl, Or.inr ⟨rfl, HA.out⟩, hg.out⟩

end Go.Proofs.YtkmgildnhnjepaaGreatDoor
namespace Go.Proofs.YtkmgildnhnjepaaGreatDoor
set_option linter.unusedVariables false
set_option linter.unusedSimpArgs false
open Go.RowKit
def lenV (v : Value) : Nat := match v with
  | .slice _ n _ => n
  | _ => 0

theorem infoStr : (Tryz.prog.info? 9).map (fun i => (i.zero, i.size, i.bytes)) = some (some (.string .empty), 1, 16) := by kernel_rfl

set_option maxRecDepth 100000 in
set_option maxHeartbeats 8000000 in
theorem rresolve0 (b : BokD) (nm : ByteArray) (w : World) (hb : b.At w)
    (hc : ∀ W, Gr w W → Calls Tryz.prog 54 #[bookV b] W fun e W' => e = .returned (.int .i64 (bokC b.rs b.zs b.ls)) ∧ Gr W W') :
    Calls Tryz.prog 23 #[bookV b, .string nm] w (ResE b.rs b.zs b.ls nm w) := by
  have K := Lib.hid hc
  obtain ⟨Ar, cr, rs, Az, cz, zs, Al, cl, ls⟩ := b
  have HZ : Hid (Row w 2 ZonD.cells Az zs) := hb.2.1.2.1
  have HZA : Hid (∀ z ∈ zs, z.At w) := hb.2.1.2.2
  have HL : Hid (Row w 2 LinD.cells Al ls) := hb.2.2.2.1
  simp only at K
  have hzl : zs.length ≤ maxLen := Nat.le_trans hb.2.1.1.1 hb.2.1.1.2
  have hll : ls.length ≤ maxLen := Nat.le_trans hb.2.2.1.1 hb.2.2.1.2
  have KZ := Lib.hid (fun (c : ByteArray) W (g : Gr w W) => rzoneAt2 Az cz zs c W hzl (HZ.out.gr g))
  have KL := Lib.hid (fun (c : ByteArray) W (g : Gr w W) => rlinkAt2 Al cl ls c W hll (HL.out.gr g))
  have KH := Lib.hid (fun A c l (x : ByteArray) W hl h => rhas A c l x W hl h)
  have GB : Hid (bokC rs zs ls = 0 → GoodB zs ls) := good_of
  obtain ⟨i0, hi, hz0, hz1, hz2⟩ := info_parts infoStr
  have I1 := Lib.hid hi
  have I2 := Lib.hid hz0
  have I3 := Lib.hid hz1
  have I4 := Lib.hid hz2
  have B0 := Lib.hid (box_two w (.cells #[.slice Ar rs.length cr, .slice Az zs.length cz, .slice Al ls.length cl] 26) (.cells #[.string ⟨#[]⟩, .slice none 0 0] 57))
  have HLL := Lib.hid hll
  clear hb hc hi hz0 hz1 hz2 hzl hll
  show Calls _ _ _ _ (ResE rs zs ls nm w)
  go_enter Tryz.func23, Tryz.ntmps23
  go_wp2_with fail
  generalize (w.alloc (.cells #[.slice Ar rs.length cr, .slice Az zs.length cz, .slice Al ls.length cl] 26)).alloc (.cells #[.string ⟨#[]⟩, .slice none 0 0] 57) = w1 at B0 ⊢
  generalize hq : w.heap.size = q at B0 ⊢
  have HQE := Lib.hid (Nat.le_of_eq hq)
  have QE1 := Lib.hid (show w.heap.size ≤ q + 1 by omega)
  clear hq
  have x0 : w1.cell? ⟨q, 0, none⟩ = some (.slice Ar rs.length cr) := bcell_row B0.out.2.1 rfl
  have x1 : w1.cell? ⟨q, 1, none⟩ = some (.slice Az zs.length cz) := bcell_row B0.out.2.1 rfl
  have x2 : w1.cell? ⟨q, 2, none⟩ = some (.slice Al ls.length cl) := bcell_row B0.out.2.1 rfl
  go_wp2_with fail
  clear x0 x1 x2
  refine (K.out w1 B0.out.1).mono ?_
  rintro e w2 ⟨rfl, g2⟩
  have G2 := Lib.hid (B0.out.1.trans g2)
  have HB2 := Lib.hid (bheap_gr g2 B0.out.2.1)
  have HR2 := Lib.hid (bheap_gr g2 B0.out.2.2)
  clear B0 K g2
  by_cases h0 : bokC rs zs ls = 0
  case neg =>
    have E := Lib.hid (resC_bad (nm := nm) h0)
    have H0 := Lib.hid h0
    have t0 := bneT h0
    generalize bokC rs zs ls = cc at E H0 t0 ⊢
    clear h0
    have y0 : w2.cell? ⟨q + 1, 0, none⟩ = some (.string ⟨#[]⟩) := bcell_row HR2.out rfl
    have y1 : w2.cell? ⟨q + 1, 1, none⟩ = some (.slice none 0 0) := bcell_row HR2.out rfl
    have f0 : w2.frozen? ⟨q + 1, 0, none⟩ = false := unfrozen HR2.out
    have f1 : w2.frozen? ⟨q + 1, 1, none⟩ = false := unfrozen HR2.out
    have s0 : ((w2.setCell ⟨q + 1, 0, none⟩ (.string ⟨#[]⟩)).setCell ⟨q + 1, 1, none⟩ (.slice none 0 0)).cell? ⟨q + 1, 0, none⟩ = some (.string ⟨#[]⟩) := bcell_row (store2 HR2.out _ _) rfl
    have s1 : ((w2.setCell ⟨q + 1, 0, none⟩ (.string ⟨#[]⟩)).setCell ⟨q + 1, 1, none⟩ (.slice none 0 0)).cell? ⟨q + 1, 1, none⟩ = some (.slice none 0 0) := bcell_row (store2 HR2.out _ _) rfl
    go_wp2_with fail
    exact bodyPost_ret (v := .tuple #[.agg #[.string ⟨#[]⟩, .slice none 0 0], .int .i64 cc]) (by simp [results, Tryz.results23, go_sem, s0, s1]) rfl (resE_no E.out H0.out (store2_below G2.out QE1.out _ _))
  case pos =>
    have H0 := Lib.hid h0
    have GD := Lib.hid (GB.out h0)
    rw [h0]
    clear GB h0
    go_wp2_with fail
    go_loopw [1, 7] (fun nv sv W => ∃ (L : List (List UInt8)) (c : ByteArray), nv = .string c ∧ Hid (Own W w2.heap.size 9 1 nmC sv L) ∧ Hid (Pth zs ls nm.toList L c.toList) ∧ Hid (L.length ≤ ls.length) ∧ Hid (lenV sv = L.length) ∧ Hid (Gr w2 W)) (fun nv sv W => ls.length - lenV sv)
    case atStart => exact ⟨[], nm, rfl, Own.nil_ _ _ _ _ _, pth_start, Nat.zero_le _, rfl, Gr.refl _⟩
    case round =>
      obtain ⟨L, c, rfl, ho, hp, hL, hlv, hg⟩ := hrel
      have HBr := Lib.hid (bheap_gr hg.out HB2.out)
      have HRr := Lib.hid (bheap_gr hg.out HR2.out)
      have Gr0 := Lib.hid (G2.out.trans hg.out)
      have x1 : wr.cell? ⟨q, 1, none⟩ = some (.slice Az zs.length cz) := bcell_row HBr.out rfl
      go_wp2_with fail
      clear x1
      refine (KZ.out c wr Gr0.out).mono ?_
      rintro e w3 ⟨n, rfl, hn, g3⟩
      have G3 := Lib.hid (Gr0.out.trans g3)
      have HB3 := Lib.hid (bheap_gr g3 HBr.out)
      have HR3 := Lib.hid (bheap_gr g3 HRr.out)
      have HO3 := Lib.hid (ho.out.gr g3)
      have G23 := Lib.hid (hg.out.trans g3)
      clear HBr HRr Gr0 ho hg g3
      rcases hn with ⟨k, z, rfl, hz, ez⟩ | ⟨rfl, hno⟩
      · -- a zone of this name
        obtain ⟨znm, zA, zc, ze⟩ := z
        have PZ := Lib.hid (hp.out.zone GD.out hz ez)
        have ZAT := Lib.hid (HZA.out _ (get_mem hz))
        obtain ⟨bz, off, rfl, c0, c1⟩ := HZ.out.two hz rfl G3.out
        have hk := (List.getElem?_eq_some_iff.1 hz).1
        have RC := Lib.hid (resC_ok H0.out PZ.out.1 (by rw [PZ.out.2]; exact hk))
        have HZK := Lib.hid hz
        have l0 : (0 : Int) ≤ (k : Int) := by omega
        have l1 : (k : Int) < (zs.length : Int) := by omega
        have x1 : w3.cell? ⟨q, 1, none⟩ = some (.slice (some ⟨bz, off, none⟩) zs.length cz) := bcell_row HB3.out rfl
        clear hz ez
        have y0 : w3.cell? ⟨q + 1, 0, none⟩ = some (.string ⟨#[]⟩) := bcell_row HR3.out rfl
        have y1 : w3.cell? ⟨q + 1, 1, none⟩ = some (.slice none 0 0) := bcell_row HR3.out rfl
        have f0 : w3.frozen? ⟨q + 1, 0, none⟩ = false := unfrozen HR3.out
        have f1 : w3.frozen? ⟨q + 1, 1, none⟩ = false := unfrozen HR3.out
        have s0 : ((w3.setCell ⟨q + 1, 0, none⟩ (.string znm)).setCell ⟨q + 1, 1, none⟩ (.slice zA ze.length zc)).cell? ⟨q + 1, 0, none⟩ = some (.string znm) := bcell_row (store2 HR3.out _ _) rfl
        have s1 : ((w3.setCell ⟨q + 1, 0, none⟩ (.string znm)).setCell ⟨q + 1, 1, none⟩ (.slice zA ze.length zc)).cell? ⟨q + 1, 1, none⟩ = some (.slice zA ze.length zc) := bcell_row (store2 HR3.out _ _) rfl
        go_wp2_with fail
        exact bodyPost_ret (v := .tuple #[.agg #[.string znm, .slice zA ze.length zc], .int .i64 0]) (by simp [results, Tryz.results23, go_sem, s0, s1]) rfl ⟨⟨znm, zA, zc, ze⟩, by rw [RC.out], ZAT.out.gr (store2_below G3.out QE1.out _ _), store2_below G3.out QE1.out _ _, fun _ => ⟨_, by rw [PZ.out.2]; exact HZK.out, rfl, rfl⟩, fun q => absurd RC.out q⟩
      · -- no zone of this name
        have HN := Lib.hid hno
        have x2 : w3.cell? ⟨q, 2, none⟩ = some (.slice Al ls.length cl) := bcell_row HB3.out rfl
        clear hno
        go_wp2_with fail
        clear x2
        refine (KL.out c w3 G3.out).mono ?_
        rintro e w4 ⟨n, rfl, hn, g4⟩
        have G4 := Lib.hid (G3.out.trans g4)
        have HB4 := Lib.hid (bheap_gr g4 HB3.out)
        have HR4 := Lib.hid (bheap_gr g4 HR3.out)
        have HO4 := Lib.hid (HO3.out.gr g4)
        have G24 := Lib.hid (G23.out.trans g4)
        clear HB3 HR3 HO3 G23 G3 g4 KZ KL
        rcases hn with ⟨k, x, rfl, hx, ex⟩ | ⟨rfl, hnl⟩
        · obtain ⟨xnm, xt⟩ := x
          obtain ⟨A, cc, rfl, _⟩ := HO4.out.form
          have ROW := Lib.hid (HO4.out.row nm_len)
          have HX := Lib.hid hx
          have EX := Lib.hid ex
          have l0 : (0 : Int) ≤ (k : Int) := by omega
          have l1 : (k : Int) < (ls.length : Int) := by have := (List.getElem?_eq_some_iff.1 hx).1; omega
          clear hx ex HN
          go_wp2_with fail
          refine (KH.out A cc L c w4 (Nat.le_trans hL.out HLL.out) ROW.out).mono ?_
          rintro e w5 ⟨rfl, g5⟩
          have G5 := Lib.hid (G4.out.trans g5)
          have HB5 := Lib.hid (bheap_gr g5 HB4.out)
          have HR5 := Lib.hid (bheap_gr g5 HR4.out)
          have HO5 := Lib.hid (HO4.out.gr g5)
          have G25 := Lib.hid (G24.out.trans g5)
          clear HB4 HR4 HO4 G24 G4 g5 ROW
          obtain ⟨bb, hbb⟩ : ∃ bb, L.contains c.toList = bb := ⟨_, rfl⟩
          have HC := Lib.hid hbb
          rw [hbb]
          clear hbb
          cases bb with
          | true =>
            have PL := Lib.hid (hp.out.loop GD.out HX.out EX.out HC.out)
            have y0 : w5.cell? ⟨q + 1, 0, none⟩ = some (.string ⟨#[]⟩) := bcell_row HR5.out rfl
            have y1 : w5.cell? ⟨q + 1, 1, none⟩ = some (.slice none 0 0) := bcell_row HR5.out rfl
            have f0 : w5.frozen? ⟨q + 1, 0, none⟩ = false := unfrozen HR5.out
            have f1 : w5.frozen? ⟨q + 1, 1, none⟩ = false := unfrozen HR5.out
            have s0 : ((w5.setCell ⟨q + 1, 0, none⟩ (.string ⟨#[]⟩)).setCell ⟨q + 1, 1, none⟩ (.slice none 0 0)).cell? ⟨q + 1, 0, none⟩ = some (.string ⟨#[]⟩) := bcell_row (store2 HR5.out _ _) rfl
            have s1 : ((w5.setCell ⟨q + 1, 0, none⟩ (.string ⟨#[]⟩)).setCell ⟨q + 1, 1, none⟩ (.slice none 0 0)).cell? ⟨q + 1, 1, none⟩ = some (.slice none 0 0) := bcell_row (store2 HR5.out _ _) rfl
            go_wp2_with fail
            exact bodyPost_ret (v := .tuple #[.agg #[.string ⟨#[]⟩, .slice none 0 0], .int .i64 8]) (by simp [results, Tryz.results23, go_sem, s0, s1]) rfl (resE_no (resC_loop H0.out PL.out.1 PL.out.2) (by decide) (store2_below G5.out QE1.out _ _))
          | false =>
            have PS := Lib.hid (hp.out.step GD.out HX.out EX.out HC.out)
            have L20 := Lib.hid (Nat.lt_of_lt_of_le PS.out.2 GD.out.l20)
            have B1 := Lib.hid (box_one w5 (.cells #[.string c] 9))
            have NB : Hid ((w5.alloc (.cells #[.string c] 9)).heap[w5.heap.size]? = some (.cells #[.string (S c.toList)] 9)) := by unfold Hid; rw [← S_of c]; exact B1.out.2
            have OW : Hid (Own (w5.alloc (.cells #[.string c] 9)) w2.heap.size 9 1 nmC (.slice A L.length cc) L) := HO5.out.gr B1.out.1
            have GB6 := Lib.hid (G25.out.trans B1.out.1)
            obtain ⟨bl, off, rfl, -, d1⟩ := HL.out.two HX.out rfl G2.out
            have D1 := Lib.hid d1
            have HB6 := Lib.hid (bheap_gr B1.out.1 HB5.out)
            clear B1 HO5 HB5 HR5 d1
            go_wp2_with (at_builtin; refine wpList_append_lies _ (by rfl) _ _ 109 (by rfl) w2.heap.size 9 i0 (.string .empty) 1 16 Tryz.underlying109 I1.out I2.out I3.out I4.out (by rfl) (by omega) (.slice A L.length cc) L.length (L.flatMap nmC) (by rfl) OW.out ⟨w5.heap.size, 0, none⟩ 1 1 (nmC c.toList) (by rfl) (by rfl) (World.news_of_block NB.out) (nm_one _) (by omega) (by have := L20.out; unfold maxLen; omega) (by have := L20.out; omega) (Below.size GB6.out) (w5.heap.size + 1) (by simp) ?_; intro g cap w6 hown hgrow hat hlt3; have G26 := grown_gr GB6.out hgrow (own_base OW.out); have x2 : w6.cell? ⟨q, 2, none⟩ = some (.slice (some ⟨bl, off, none⟩) ls.length cl) := G26.holds (bcell_row HB2.out rfl); have c1 : w6.cell? ⟨bl, off + k * 2 + 1, none⟩ = some (.string xt) := G26.holds D1.out)
            go_roundw
            case rel => exact ⟨L ++ [c.toList], xt, rfl, own_more rfl hown, PS.out.1, (by have := PS.out.2; unfold Hid; simp; omega), (by unfold Hid; simp [lenV]), G26⟩
            case measure => have := PS.out.2; show ls.length - (L.length + 1) < ls.length - L.length; omega
        · have PN := Lib.hid (hp.out.none HN.out hnl)
          clear hnl
          have y0 : w4.cell? ⟨q + 1, 0, none⟩ = some (.string ⟨#[]⟩) := bcell_row HR4.out rfl
          have y1 : w4.cell? ⟨q + 1, 1, none⟩ = some (.slice none 0 0) := bcell_row HR4.out rfl
          have f0 : w4.frozen? ⟨q + 1, 0, none⟩ = false := unfrozen HR4.out
          have f1 : w4.frozen? ⟨q + 1, 1, none⟩ = false := unfrozen HR4.out
          have s0 : ((w4.setCell ⟨q + 1, 0, none⟩ (.string ⟨#[]⟩)).setCell ⟨q + 1, 1, none⟩ (.slice none 0 0)).cell? ⟨q + 1, 0, none⟩ = some (.string ⟨#[]⟩) := bcell_row (store2 HR4.out _ _) rfl
          have s1 : ((w4.setCell ⟨q + 1, 0, none⟩ (.string ⟨#[]⟩)).setCell ⟨q + 1, 1, none⟩ (.slice none 0 0)).cell? ⟨q + 1, 1, none⟩ = some (.slice none 0 0) := bcell_row (store2 HR4.out _ _) rfl
          go_wp2_with fail
          exact bodyPost_ret (v := .tuple #[.agg #[.string ⟨#[]⟩, .slice none 0 0], .int .i64 6]) (by simp [results, Tryz.results23, go_sem, s0, s1]) rfl (resE_no (resC_none H0.out PN.out) (by decide) (store2_below G4.out QE1.out _ _))
end Go.Proofs.YtkmgildnhnjepaaGreatDoor
