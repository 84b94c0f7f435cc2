/- The reference's ZoneEq and BookEq: of two that hold the same they return true. A day of a month as an argument: how it is read, how it is shut again. A rule as an argument: how it is read, how it is shut again. -/
import Derived.Deep.RegionHeld3
import Derived.Deep.DrawnRows
import Derived.Test.YtmemgpmijphkmaaGreatDoorXM47
import Derived.ProofKit
import Derived.OpenShut
import Derived.ChangeSame
import Derived.Test.YtmemgpmijphkmaaGreatDoorXM04
import Derived.Test.YtmemgpmijphkmaaGreatDoorXM05
namespace Go.Proofs.YtmemgpmijphkmaaGreatDoor
set_option linter.unusedVariables false
set_option linter.unusedSimpArgs false
open Go.RowKit
set_option maxHeartbeats 4000000 in
theorem rzoneEq (nm : ByteArray) (A : Option Addr) (c : Nat) (A' : Option Addr) (c' : Nat) (l : List EraD) (n' : Nat) (w : World) (hn : n' = l.length) (hl : l.length ≤ 100000) (h : Row w 5 EraD.cells A l) (h' : Row w 5 EraD.cells A' l) :
    Calls Tryz.prog 46 #[.agg #[.string nm, .slice A l.length c], .agg #[.string nm, .slice A' n' c']] w fun e w' => e = .returned (.bool true) ∧ Gr w w' := by
  have K := Lib.hid (fun W (g : Gr w W) => reqEra A c A' c' l n' W hn hl (h.gr g) (h'.gr g))
  have B0 := Lib.hid (box_two w (.cells #[.string nm, .slice A l.length c] 47) (.cells #[.string nm, .slice A' n' c'] 47))
  have e0 : (nm.toList == nm.toList) = true := by simp
  clear h h' hl hn
  go_enter Tryz.func46, Tryz.ntmps46
  go_upto_region 1 with fail
  generalize (w.alloc (.cells #[.string nm, .slice A l.length c] 47)).alloc (.cells #[.string nm, .slice A' n' c'] 47) = w1 at B0 ⊢
  generalize w.heap.size = q at B0 ⊢
  have x0 : w1.cell? ⟨q, 0, none⟩ = some (.string nm) := bcell_row B0.out.2.1 rfl
  have x1 : w1.cell? ⟨q, 1, none⟩ = some (.slice A l.length c) := bcell_row B0.out.2.1 rfl
  have y0 : w1.cell? ⟨q + 1, 0, none⟩ = some (.string nm) := bcell_row B0.out.2.2 rfl
  have y1 : w1.cell? ⟨q + 1, 1, none⟩ = some (.slice A' n' c') := bcell_row B0.out.2.2 rfl
  go_wp2_with fail
  clear x0 x1 y0 y1
  refine (K.out w1 B0.out.1).mono ?_
  rintro e w2 ⟨rfl, g2⟩
  go_wp2_with fail
  go_ret
  exact ⟨rfl, B0.out.1.trans g2⟩

theorem keep6 {w W W' : World} {a b c d e f : Addr} {x y z u v t : Value} (h : W.cell? a = some x ∧ W.cell? b = some y ∧ W.cell? c = some z ∧ W.cell? d = some u ∧ W.cell? e = some v ∧ W.cell? f = some t ∧ Gr w W) (hg : Gr W W') :
    W'.cell? a = some x ∧ W'.cell? b = some y ∧ W'.cell? c = some z ∧ W'.cell? d = some u ∧ W'.cell? e = some v ∧ W'.cell? f = some t ∧ Gr w W' :=
  ⟨(Below.cell hg (World.block_lt_of_cell? W a h.1)).trans h.1, (Below.cell hg (World.block_lt_of_cell? W b h.2.1)).trans h.2.1, (Below.cell hg (World.block_lt_of_cell? W c h.2.2.1)).trans h.2.2.1, (Below.cell hg (World.block_lt_of_cell? W d h.2.2.2.1)).trans h.2.2.2.1, (Below.cell hg (World.block_lt_of_cell? W e h.2.2.2.2.1)).trans h.2.2.2.2.1, (Below.cell hg (World.block_lt_of_cell? W f h.2.2.2.2.2.1)).trans h.2.2.2.2.2.1, h.2.2.2.2.2.2.trans hg⟩
/-- two books hold the same -/
structure SameB (b b2 : BokD) : Prop where
  rs : b2.rs = b.rs
  zs : b2.zs.map (fun z => (z.nm, z.eras)) = b.zs.map (fun z => (z.nm, z.eras))
  ls : b2.ls = b.ls
/-- none of its parts is out of bounds -/
structure FewB (b : BokD) : Prop where
  rs : b.rs.length ≤ 100000
  zs : b.zs.length ≤ 100000
  ls : b.ls.length ≤ 100000
  es : ∀ z ∈ b.zs, z.eras.length ≤ 100000

set_option maxRecDepth 100000 in
set_option maxHeartbeats 8000000 in
theorem rbookEq (b b2 : BokD) (w : World) (hb : b.At w) (hb2 : b2.At w) (hs : SameB b b2) (hf : FewB b) :
    Calls Tryz.prog 15 #[bookV b, bookV b2] w fun e w' => e = .returned (.bool true) ∧ Gr w w' := by
  obtain ⟨s1, s2, s3⟩ := hs
  obtain ⟨f1, f2, f3, f4⟩ := hf
  obtain ⟨Ar, cr, rs, Az, cz, zs, Al, cl, ls⟩ := b
  obtain ⟨Ar', cr', rs', Az', cz', zs', Al', cl', ls'⟩ := b2
  simp only at s1 s2 s3 f1 f2 f3 f4
  subst s1; subst s3
  have KR := Lib.hid (fun W (g : Gr w W) => reqRule Ar cr Ar' cr' rs' rs'.length W rfl f1 (hb.1.2.1.gr g) (hb2.1.2.1.gr g))
  have KL := Lib.hid (fun W (g : Gr w W) => reqLink Al cl Al' cl' ls' ls'.length W rfl f3 (hb.2.2.2.1.gr g) (hb2.2.2.2.1.gr g))
  have HZ : Hid (Row w 2 ZonD.cells Az zs) := hb.2.1.2.1
  have HZ' : Hid (Row w 2 ZonD.cells Az' zs') := hb2.2.1.2.1
  have zl1 : zs'.length ≤ zs.length := by have := congrArg List.length s2; simp at this; omega
  have zl2 : zs.length ≤ zs'.length := by have := congrArg List.length s2; simp at this; omega
  have KZ : Hid (∀ (k : Nat) z z', zs[k]? = some z → zs'[k]? = some z' → z'.nm = z.nm ∧ z'.eras.length = z.eras.length ∧ ∀ W, Gr w W → Calls Tryz.prog 46 #[.agg #[.string z.nm, .slice z.A z.eras.length z.c], .agg #[.string z'.nm, .slice z'.A z'.eras.length z'.c]] W fun e w' => e = .returned (.bool true) ∧ Gr W w') := fun k z z' h h' => by
    have e := congrArg (fun l => l[k]?) s2
    simp only [List.getElem?_map, h, h', Option.map_some] at e
    injection e with e
    injection e with e1 e2
    refine ⟨e1, by rw [e2], fun W g => ?_⟩
    have a := (hb.2.1.2.2 z (get_mem h)).2.2.1
    have a' := (hb2.2.1.2.2 z' (get_mem h')).2.2.1
    rw [e2] at a'
    rw [e1]
    exact rzoneEq z.nm z.A z.c z'.A z'.c z.eras z'.eras.length W (by rw [e2]) (f4 z (get_mem h)) (a.gr g) (a'.gr g)
  have B0 := Lib.hid (box_two w (.cells #[.slice Ar rs'.length cr, .slice Az zs.length cz, .slice Al ls'.length cl] 26) (.cells #[.slice Ar' rs'.length cr', .slice Az' zs'.length cz', .slice Al' ls'.length cl'] 26))
  clear hb hb2 s2 f1 f3 f4
  go_enter Tryz.func15, Tryz.ntmps15
  go_upto_region 1 with fail
  generalize (w.alloc (.cells #[.slice Ar rs'.length cr, .slice Az zs.length cz, .slice Al ls'.length cl] 26)).alloc (.cells #[.slice Ar' rs'.length cr', .slice Az' zs'.length cz', .slice Al' ls'.length cl'] 26) = w1 at B0 ⊢
  generalize w.heap.size = q at B0 ⊢
  have x0 : w1.cell? ⟨q, 0, none⟩ = some (.slice Ar rs'.length cr) := bcell_row B0.out.2.1 rfl
  have y0 : w1.cell? ⟨q + 1, 0, none⟩ = some (.slice Ar' rs'.length cr') := bcell_row B0.out.2.2 rfl
  go_wp2_with fail
  clear x0 y0
  refine (KR.out w1 B0.out.1).mono ?_
  rintro e w2 ⟨rfl, g2⟩
  have G2 := Lib.hid (B0.out.1.trans g2)
  have D1 := Lib.hid (bheap_gr g2 B0.out.2.1)
  have D2 := Lib.hid (bheap_gr g2 B0.out.2.2)
  clear B0 g2 KR
  have x2 : w2.cell? ⟨q, 2, none⟩ = some (.slice Al ls'.length cl) := bcell_row D1.out rfl
  have y2 : w2.cell? ⟨q + 1, 2, none⟩ = some (.slice Al' ls'.length cl') := bcell_row D2.out rfl
  go_wp2_with fail
  clear x2 y2
  refine (KL.out w2 G2.out).mono ?_
  rintro e w3 ⟨rfl, g3⟩
  have G3 := Lib.hid (G2.out.trans g3)
  have D3 := Lib.hid (bheap_gr g3 D1.out)
  have D4 := Lib.hid (bheap_gr g3 D2.out)
  clear D1 D2 g3 KL G2
  have x1 : w3.cell? ⟨q, 1, none⟩ = some (.slice Az zs.length cz) := bcell_row D3.out rfl
  have y1 : w3.cell? ⟨q + 1, 1, none⟩ = some (.slice Az' zs'.length cz') := bcell_row D4.out rfl
  have ez : ((zs.length : Int) != (zs'.length : Int)) = false := bneF (by omega)
  go_wp2_with fail
  clear x1 y1 ez
  go_loopw [32] (fun i W => ∃ k : Nat, k ≤ zs.length ∧ i = .int .i64 k ∧ Hid (Gr w3 W)) (fun i W => zs.length - (intOf i).toNat)
  case atStart => exact ⟨0, Nat.zero_le _, rfl, Gr.refl _⟩
  case round =>
    obtain ⟨k, hk, rfl, hg⟩ := hrel
    by_cases hlt : k < zs.length
    · obtain ⟨⟨nm, zA, zc, ze⟩, hx⟩ := get_lt hlt
      obtain ⟨⟨nm2, zA2, zc2, ze2⟩, hx2⟩ := get_lt (show k < zs'.length by omega)
      obtain ⟨e1, e2, KZ1⟩ := KZ.out k _ _ hx hx2
      simp only at e1 e2 KZ1
      subst e1
      obtain ⟨b, off, rfl, c0, c1⟩ := HZ.out.two hx rfl (G3.out.trans hg.out)
      obtain ⟨b2, off2, rfl, d0, d1⟩ := HZ'.out.two hx2 rfl (G3.out.trans hg.out)
      have KW := Lib.hid (fun W (g : Gr wr W) => KZ1 W ((G3.out.trans hg.out).trans g))
      have HS : wr.cell? ⟨q, 1, none⟩ = some (.slice (some ⟨b, off, none⟩) zs.length cz) ∧ wr.cell? ⟨q + 1, 1, none⟩ = some (.slice (some ⟨b2, off2, none⟩) zs'.length cz') ∧ wr.cell? ⟨b, off + k * 2, none⟩ = some (.string nm2) ∧ wr.cell? ⟨b, off + k * 2 + 1, none⟩ = some (.slice zA ze.length zc) ∧ wr.cell? ⟨b2, off2 + k * 2, none⟩ = some (.string nm2) ∧ wr.cell? ⟨b2, off2 + k * 2 + 1, none⟩ = some (.slice zA2 ze2.length zc2) ∧ Gr wr wr :=
        ⟨bcell_row (bheap_gr hg.out D3.out) rfl, bcell_row (bheap_gr hg.out D4.out) rfl, c0, c1, d0, d1, Gr.refl _⟩
      have l1 : (k : Int) < (zs.length : Int) := by omega
      have l2 : (k : Int) < (zs'.length : Int) := by omega
      have l0 : (0 : Int) ≤ (k : Int) := by omega
      clear hx hx2 KZ KZ1 c0 c1 d0 d1 e2
      go_wp2_with fail
      go_region_held3 (fun wx => wx.cell? ⟨q, 1, none⟩ = some (.slice (some ⟨b, off, none⟩) zs.length cz) ∧ wx.cell? ⟨q + 1, 1, none⟩ = some (.slice (some ⟨b2, off2, none⟩) zs'.length cz') ∧ wx.cell? ⟨b, off + k * 2, none⟩ = some (.string nm2) ∧ wx.cell? ⟨b, off + k * 2 + 1, none⟩ = some (.slice zA ze.length zc) ∧ wx.cell? ⟨b2, off2 + k * 2, none⟩ = some (.string nm2) ∧ wx.cell? ⟨b2, off2 + k * 2 + 1, none⟩ = some (.slice zA2 ze2.length zc2) ∧ Gr wr wx) (first | exact ⟨HS.1, HS.2.1, HS.2.2.1, HS.2.2.2.1, HS.2.2.2.2.1, HS.2.2.2.2.2.1, HS.2.2.2.2.2.2.drew'⟩ | assumption) ((go_at_call 46; (with_reducible refine (KW.out _ ?_).mono ?_); (exact And.right (And.right (And.right (And.right (And.right (And.right (by assumption))))))); rintro e w4 ⟨rfl, g4⟩; have HS4 := keep6 (by assumption) g4))
      have G4 := Lib.hid (hg.out.trans HS4.2.2.2.2.2.2)
      clear HS HS4 KW
      go_wp2_with fail
      go_roundw
      case rel => exact ⟨k + 1, by omega, by go_num, G4⟩
      case measure => simp [intOf]; omega
    · clear hk
      go_wp2_with fail
      go_ret
      exact ⟨rfl, G3.out.trans hg.out⟩
end Go.Proofs.YtmemgpmijphkmaaGreatDoor
namespace Go.Proofs.YtmemgpmijphkmaaGreatDoor
open Go.ChangeShapes Go.WideShapes Go.ChangeAt Go.RowKit
set_option linter.unusedVariables false
set_option linter.unusedSimpArgs false
section
variable {H : Type} {enc : TypeId × Value → H} {W : World} {base : Nat} {sp : Nat → Bool} {held : Bool}
/-- the datum of a day -/
abbrev dayD (k d n : Int) : DataW H := .agg [.lit (.int .i64 k), .lit (.int .i64 d), .lit (.int .i64 n)]
theorem cellsDay : Tryz.prog.cellsOf 54 = 3 := by kernel_rfl
theorem cellsInt : Tryz.prog.cellsOf 3 = 1 := by kernel_rfl
end
end Go.Proofs.YtmemgpmijphkmaaGreatDoor
namespace Go.Proofs.YtmemgpmijphkmaaGreatDoor
open Go.ChangeShapes Go.WideShapes Go.ChangeAt Go.RowKit
set_option linter.unusedVariables false
set_option linter.unusedSimpArgs false
section
variable {H : Type} {enc : TypeId × Value → H} {W : World} {base : Nat} {sp : Nat → Bool} {held : Bool}
theorem cellsRule : Tryz.prog.cellsOf 56 = 11 := by kernel_rfl
theorem cellsStr : Tryz.prog.cellsOf 9 = 1 := by kernel_rfl
theorem int_cell {c : Value} {m : Nat} {x : DataW H × List MemPlace} (h : DataW.trod enc Tryz.prog W base sp held m 3 [c] = some x) : ∃ a : Int, c = .int .i64 a ∧ x = (.lit (.int .i64 a), []) ∧ (Lit.int .i64 a).wf = true := by
  obtain ⟨a, ea, rfl, wa⟩ := DataW.trod_int Tryz.underlying3 h
  exact ⟨a, (List.cons.inj ea).1, rfl, wa⟩
theorem str_cell {c : Value} {m : Nat} {x : DataW H × List MemPlace} (h : DataW.trod enc Tryz.prog W base sp held m 9 [c] = some x) : ∃ s : ByteArray, c = .string s ∧ x = (.lit (.string s.data.toList), []) ∧ s.size ≤ maxLen := by
  obtain ⟨a, ea, hx, wa⟩ := DataW.trod_string Tryz.underlying9 h
  exact ⟨a, (List.cons.inj ea).1, hx, wa⟩
theorem day_cells {c0 c1 c2 : Value} {m : Nat} {x : DataW H × List MemPlace} (hf : DataW.trod enc Tryz.prog W base sp held m 54 [c0, c1, c2] = some x) :
    ∃ a b c : Int, c0 = .int .i64 a ∧ c1 = .int .i64 b ∧ c2 = .int .i64 c ∧ x = (dayD a b c, []) ∧ (Lit.int .i64 a).wf = true ∧ (Lit.int .i64 b).wf = true ∧ (Lit.int .i64 c).wf = true := by
  obtain ⟨xs, m', _, hx, _, hlen, hfs⟩ := DataW.trod_struct Tryz.underlying54 hf
  match xs, hlen with
  | [y0, y1, y2], _ =>
    have f0 : DataW.trod enc Tryz.prog W base sp held m' 3 (([c0, c1, c2].drop 0).take (Tryz.prog.cellsOf 3)) = some y0 := hfs 0 _ rfl
    have f1 : DataW.trod enc Tryz.prog W base sp held m' 3 (([c0, c1, c2].drop 1).take (Tryz.prog.cellsOf 3)) = some y1 := hfs 1 _ rfl
    have f2 : DataW.trod enc Tryz.prog W base sp held m' 3 (([c0, c1, c2].drop 2).take (Tryz.prog.cellsOf 3)) = some y2 := hfs 2 _ rfl
    rw [cellsInt] at f0 f1 f2
    obtain ⟨a, ea, rfl, wa⟩ := int_cell f0
    obtain ⟨b, eb, rfl, wb⟩ := int_cell f1
    obtain ⟨c, ec, rfl, wc⟩ := int_cell f2
    exact ⟨a, b, c, ea, eb, ec, hx, wa, wb, wc⟩
end
end Go.Proofs.YtmemgpmijphkmaaGreatDoor
