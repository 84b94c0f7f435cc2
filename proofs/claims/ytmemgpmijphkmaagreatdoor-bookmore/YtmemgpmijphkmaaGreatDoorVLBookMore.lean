/- The law BookMore of package timeballkeep returns true for every input and leaves its arguments as they were: A valid book with an additional zone of another name is valid. Condition: the listed variables (math/bits.deBruijn32tab, math/bits.deBruijn64tab, internal/strconv.uint64pow10, timeball/civil.lengths, unicode/utf8.acceptRanges, strconv.ErrRange, strconv.ErrSyntax, timeball/day.weekdays, timeball/rule.clockLetters, unicode/utf8.first) lie as their initialisers lay them; the card ties that tto the program's text. -/
import Derived.Test.YtmemgpmijphkmaaGreatDoorCards
import Derived.Test.YtmemgpmijphkmaaGreatDoorTie
import Derived.Test.YtmemgpmijphkmaaGreatDoorVM04
import Derived.Test.YtmemgpmijphkmaaGreatDoorVM51
import Derived.Test.YtmemgpmijphkmaaGreatDoorVM48
import Derived.Test.YtmemgpmijphkmaaGreatDoorVM52
import Derived.Test.YtmemgpmijphkmaaGreatDoorVM53
namespace Go.Proofs.YtmemgpmijphkmaaGreatDoor.bookMore
open Go.ChangeShapes Go.WideShapes Go.ChangeAt Go.RowKit
open Go.ChangeMaps (open_string shut_string)
set_option linter.unusedVariables false
set_option linter.unusedSimpArgs false
theorem mem_one {α : Type} {i : Nat} {x y : α} (h : [x][i]? = some y) : i = 0 ∧ y = x := by
  have hi := (List.getElem?_eq_some_iff.1 h).1
  have e0 : i = 0 := by simpa using hi
  subst e0
  exact ⟨rfl, by simpa using h.symm⟩
/-- one thing in a block of its own -/
theorem row_one {α : Type} {w : World} {b k : Nat} {T : TypeId} {enc : α → List Value} {x : α} {cs : Array Value} (h : w.heap[b]? = some (.cells cs T (0, 0))) (hc : enc x = cs.toList) : Row w k enc (some ⟨b, 0, none⟩) [x] := fun i y hy => by
  obtain ⟨rfl, rfl⟩ := mem_one hy
  refine ⟨b, 0, rfl, (Array.getElem?_eq_some_iff.1 h).1, fun j v hv => ?_⟩
  rw [hc] at hv
  have : w.cell? ⟨b, j, none⟩ = some v := bcell_row h (by rw [← Array.getElem?_toList]; exact hv)
  simpa using this
theorem zone_at {w : World} {e1 : Nat} {nm xr xf : ByteArray} {xo xs xu : Int} (hn : nm.size ≤ maxLen) (hx : EraD.In ⟨xo, xr, xs, xf, xu⟩) (h : w.heap[e1]? = some (.cells #[.int .i64 xo, .string xr, .int .i64 xs, .string xf, .int .i64 0] 44 (0, 0))) : ZonD.At w (⟨nm, some ⟨e1, 0, none⟩, 1, [⟨xo, xr, xs, xf, 0⟩]⟩ : ZonD) :=
  ⟨hn, ⟨Nat.le_refl _, by unfold maxLen; simp⟩, row_one h rfl, fun e he => by
    have : e = ⟨xo, xr, xs, xf, 0⟩ := by simpa using he
    rw [this]; exact ⟨hx.1, hx.2.1, (show (-9223372036854775808 : Int) ≤ 0 by decide), (show (0 : Int) ≤ 9223372036854775807 by decide)⟩⟩

set_option maxRecDepth 100000 in
set_option maxHeartbeats 20000000 in
theorem walk (b : BokD) (nm : ByteArray) (hn : nm.size ≤ maxLen) (x : EraD) (hx : x.In) (w : World) (hb : b.At w) (ht : RpTab w) (hk : BkTab w) :
    Calls Tryz.prog 8 #[bookV b, .string nm, .agg #[.int .i64 x.off, .string x.ru, .int .i64 x.sv, .string x.fm, .int .i64 x.un]] w fun e w' => e = .returned (.bool true) ∧ Gr w w' := by
  have KB := Lib.hid (fun W (g : Gr w W) => booked_any W (g.rpT ht) (g.bk hk))
  have KC := Lib.hid (fun (bb : BokD) W (g : Gr w W) (ha : bb.At W) => pbookCheck bb W ha (g.bk hk))
  have KN := Lib.hid (fun w => pname_any nm w hn)
  have HB := Lib.hid hb
  obtain ⟨Ar, cr, rs, Az, cz, zs, Al, cl, ls⟩ := b
  obtain ⟨xo, xr, xs, xf, xu⟩ := x
  have HC := Lib.hid (fun W (g : Gr w W) => KC.out ⟨Ar, cr, rs, Az, cz, zs, Al, cl, ls⟩ W g (hb.gr g))
  simp only at HC
  have HZR : Hid (Row w 2 ZonD.cells Az zs) := hb.2.1.2.1
  have HLR : Hid (Row w 2 LinD.cells Al ls) := hb.2.2.2.1
  have hzl : zs.length ≤ maxLen := Nat.le_trans hb.2.1.1.1 hb.2.1.1.2
  have hll : ls.length ≤ maxLen := Nat.le_trans hb.2.2.1.1 hb.2.2.1.2
  have hzc : zs.length ≤ cz := hb.2.1.1.1
  unfold maxLen at hzl hll
  have ZA := Lib.hid (fun (W : World) (e1 : Nat) (h : W.heap[e1]? = some (.cells #[.int .i64 xo, .string xr, .int .i64 xs, .string xf, .int .i64 0] 44 (0, 0))) => zone_at (nm := nm) (w := W) hn hx h)
  have B0 := Lib.hid (box_two w (.cells #[.slice Ar rs.length cr, .slice Az zs.length cz, .slice Al ls.length cl] 26) (.cells #[.int .i64 xo, .string xr, .int .i64 xs, .string xf, .int .i64 xu] 44))
  have MZ : Hid (bokC rs zs ls = 0 → zs.length ≤ 19 → hasZ zs nm = false → hasL ls nm = false → ∀ e1 : Nat, bokC rs (zs ++ [(⟨nm, some ⟨e1, 0, none⟩, 1, [⟨xo, xr, xs, xf, 0⟩]⟩ : ZonD)]) ls = bokC rs [(⟨nm, some ⟨e1, 0, none⟩, 1, [⟨xo, xr, xs, xf, 0⟩]⟩ : ZonD)] []) := fun a b c d e1 => more_zone a b c d
  generalize hcc : bokC rs zs ls = C at HC MZ
  clear hcc hb ht hk hx
  go_enter Tryz.func8, Tryz.ntmps8
  go_wp2_with fail
  generalize (w.alloc (.cells #[.slice Ar rs.length cr, .slice Az zs.length cz, .slice Al ls.length cl] 26)).alloc (.cells #[.int .i64 xo, .string xr, .int .i64 xs, .string xf, .int .i64 xu] 44) = w0 at B0 ⊢
  obtain ⟨q, hq⟩ : ∃ q, w.heap.size = q := ⟨_, rfl⟩
  have HQS := Lib.hid hq
  rw [hq] at B0 ⊢
  clear hq
  refine (KB.out w0 B0.out.1).mono ?_
  rintro e w1 ⟨rfl, g1⟩
  have G1 := Lib.hid (B0.out.1.trans g1)
  have HQ1 := Lib.hid (bheap_gr g1 B0.out.2.1)
  have HX1 := Lib.hid (bheap_gr g1 B0.out.2.2)
  clear g1 B0 KB
  have y0 : w1.cell? ⟨q, 0, none⟩ = some (.slice Ar rs.length cr) := bcell_row HQ1.out rfl
  have y1 : w1.cell? ⟨q, 1, none⟩ = some (.slice Az zs.length cz) := bcell_row HQ1.out rfl
  have y2 : w1.cell? ⟨q, 2, none⟩ = some (.slice Al ls.length cl) := bcell_row HQ1.out rfl
  go_wp2_with fail
  clear y0 y1 y2
  refine (HC.out w1 G1.out).mono ?_
  rintro e w2 ⟨rfl, g2⟩
  have G2 := Lib.hid (G1.out.trans g2)
  have HQ := Lib.hid (bheap_gr g2 HQ1.out)
  have HX := Lib.hid (bheap_gr g2 HX1.out)
  clear g2 G1 HQ1 HX1 HC
  have y1 : w2.cell? ⟨q, 1, none⟩ = some (.slice Az zs.length cz) := bcell_row HQ.out rfl
  by_cases h0 : C = 0
  case neg =>
    have t0 := bneT h0
    go_wp2_with fail
    go_ret
    exact ⟨rfl, G2.out⟩
  have t0 := bneF h0
  have MZ1 := Lib.hid (MZ.out h0)
  subst h0
  clear MZ
  by_cases hz19 : 19 < zs.length
  · have t2 : decide (19 < (zs.length : Int)) = true := ltT (by omega)
    go_wp2_with fail
    go_ret
    exact ⟨rfl, G2.out⟩
  have t2 : decide (19 < (zs.length : Int)) = false := ltF (by omega)
  have MZ2 := Lib.hid (MZ1.out (by omega))
  clear MZ1
  generalize isNameB nm.toList = bn at KN
  go_wp2_with fail
  clear y1 t0 t2
  refine (KN.out w2).mono ?_
  rintro e w' ⟨rfl, rfl⟩
  cases bn with
  | false =>
    go_wp2_with fail
    go_ret
    exact ⟨rfl, G2.out⟩
  | true =>
  have z4 : w2.cell? ⟨q + 1, 4, none⟩ = some (.int .i64 xu) := bcell_row HX.out rfl
  have fz : w2.frozen? ⟨q + 1, 4, none⟩ = false := by simp [World.frozen?, HX.out]
  have G3 : Hid (Gr w (w2.setCell ⟨q + 1, 4, none⟩ (.int .i64 0))) := Below.setCell G2.out (by have := HQS.out; show w.heap.size ≤ q + 1; omega) _
  have X3 : Hid ((w2.setCell ⟨q + 1, 4, none⟩ (.int .i64 0)).heap[q + 1]? = some (.cells #[.int .i64 xo, .string xr, .int .i64 xs, .string xf, .int .i64 0] 44 (0, 0))) := blk_set HX.out
  have Q3 : Hid ((w2.setCell ⟨q + 1, 4, none⟩ (.int .i64 0)).heap[q]? = some (.cells #[.slice Ar rs.length cr, .slice Az zs.length cz, .slice Al ls.length cl] 26 (0, 0))) := (heap_set_ne w2 ⟨q + 1, 4, none⟩ _ (by show q ≠ q + 1; omega)).trans HQ.out
  go_upto_region 6 with fail
  clear z4 fz
  generalize w2.setCell ⟨q + 1, 4, none⟩ (.int .i64 0) = w3 at G3 X3 Q3 ⊢
  clear G2 HQ HX
  have d0 : w3.cell? ⟨q + 1, 0, none⟩ = some (.int .i64 xo) := bcell_row X3.out rfl
  have d1 : w3.cell? ⟨q + 1, 1, none⟩ = some (.string xr) := bcell_row X3.out rfl
  have d2 : w3.cell? ⟨q + 1, 2, none⟩ = some (.int .i64 xs) := bcell_row X3.out rfl
  have d3 : w3.cell? ⟨q + 1, 3, none⟩ = some (.string xf) := bcell_row X3.out rfl
  have d4 : w3.cell? ⟨q + 1, 4, none⟩ = some (.int .i64 0) := bcell_row X3.out rfl
  have N6 := Lib.hid (box_two w3 (.cells #[.int .i64 xo, .string xr, .int .i64 xs, .string xf, .int .i64 0] 44) (.cells #[.string nm, .slice (some ⟨w3.heap.size, 0, none⟩) 1 1] 47))
  go_upto_region 7 with fail
  clear d0 d1 d2 d3 d4
  generalize (w3.alloc (.cells #[.int .i64 xo, .string xr, .int .i64 xs, .string xf, .int .i64 0] 44)).alloc (.cells #[.string nm, .slice (some ⟨w3.heap.size, 0, none⟩) 1 1] 47) = w4 at N6 ⊢
  have lq : Hid (q < w3.heap.size) := (Array.getElem?_eq_some_iff.1 Q3.out).1
  generalize he1 : w3.heap.size = e1 at N6 lq ⊢
  have LE1 : Hid (w.heap.size ≤ e1) := by unfold Hid; rw [← he1]; exact Below.size G3.out
  clear he1
  have G4 := Lib.hid (G3.out.trans N6.out.1)
  have Q4 := Lib.hid (bheap_gr N6.out.1 Q3.out)
  have E4 := Lib.hid N6.out.2.1
  have Z74 := Lib.hid N6.out.2.2
  clear N6 G3 X3 Q3
  generalize hz7 : e1 + 1 = z7 at Z74 ⊢
  have p0 : w4.cell? ⟨q, 0, none⟩ = some (.slice Ar rs.length cr) := bcell_row Q4.out rfl
  have p1 : w4.cell? ⟨z7, 0, none⟩ = some (.string nm) := bcell_row Z74.out rfl
  have p2 : w4.cell? ⟨z7, 1, none⟩ = some (.slice (some ⟨e1, 0, none⟩) 1 1) := bcell_row Z74.out rfl
  have N7 := Lib.hid (box_one w4 (.cells #[.string nm, .slice (some ⟨e1, 0, none⟩) 1 1] 47))
  have K1 : Hid (∀ W q8, Gr w W → W.heap[q8]? = some (.cells #[.string nm, .slice (some ⟨e1, 0, none⟩) 1 1] 47 (0, 0)) → W.heap[e1]? = some (.cells #[.int .i64 xo, .string xr, .int .i64 xs, .string xf, .int .i64 0] 44 (0, 0)) → Calls Tryz.prog 17 #[.agg #[.slice Ar rs.length cr, .slice (some ⟨q8, 0, none⟩) 1 1, .slice none 0 0]] W fun e w' => e = .returned (.int .i64 (bokC rs [(⟨nm, some ⟨e1, 0, none⟩, 1, [⟨xo, xr, xs, xf, 0⟩]⟩ : ZonD)] [])) ∧ Gr W w') := fun W q8 g h8 he => by
    have ha : BokD.At W ⟨Ar, cr, rs, some ⟨q8, 0, none⟩, 1, [(⟨nm, some ⟨e1, 0, none⟩, 1, [⟨xo, xr, xs, xf, 0⟩]⟩ : ZonD)], none, 0, []⟩ :=
      ⟨(HB.out.gr g).1, ⟨⟨Nat.le_refl _, by unfold maxLen; simp⟩, row_one h8 rfl, (fun y hy => by
        have : y = (⟨nm, some ⟨e1, 0, none⟩, 1, [⟨xo, xr, xs, xf, 0⟩]⟩ : ZonD) := by simpa using hy
        rw [this]; exact ZA.out W e1 he)⟩, ⟨⟨Nat.le_refl _, Nat.zero_le _⟩, Row.nil _ _ _ _, (fun r hr => by cases hr)⟩⟩
    exact KC.out _ W g ha
  have MZ3 := Lib.hid (fun a b => MZ2.out a b e1)
  clear MZ2
  have KL0 : Hid (hasZ zs nm = false → hasL ls nm = false → ∀ g cap B W, Gr w W → Own W B 47 2 ZonD.cells (.slice (some ⟨g, 0, none⟩) (zs.length + 1) cap) (zs ++ [(⟨nm, some ⟨e1, 0, none⟩, 1, [⟨xo, xr, xs, xf, 0⟩]⟩ : ZonD)]) → W.heap[e1]? = some (.cells #[.int .i64 xo, .string xr, .int .i64 xs, .string xf, .int .i64 0] 44 (0, 0)) → Calls Tryz.prog 17 #[.agg #[.slice Ar rs.length cr, .slice (some ⟨g, 0, none⟩) (zs.length + 1) cap, .slice Al ls.length cl]] W fun e w' => e = .returned (.int .i64 (bokC rs [(⟨nm, some ⟨e1, 0, none⟩, 1, [⟨xo, xr, xs, xf, 0⟩]⟩ : ZonD)] [])) ∧ Gr W w') := fun a b g cap B W gr hz he => by
    have ha : BokD.At W ⟨Ar, cr, rs, some ⟨g, 0, none⟩, cap, zs ++ [(⟨nm, some ⟨e1, 0, none⟩, 1, [⟨xo, xr, xs, xf, 0⟩]⟩ : ZonD)], Al, cl, ls⟩ := by
      refine ⟨(HB.out.gr gr).1, ⟨?_, hz.row zo_len, fun y hy => ?_⟩, (HB.out.gr gr).2.2⟩
      · obtain ⟨A', c', e', d1, d2, _⟩ := hz.form
        injection e' with _ _ ec
        subst ec
        exact ⟨d1, d2⟩
      · rcases List.mem_append.1 hy with hy | hy
        · exact (HB.out.gr gr).2.1.2.2 y hy
        · have : y = (⟨nm, some ⟨e1, 0, none⟩, 1, [⟨xo, xr, xs, xf, 0⟩]⟩ : ZonD) := by simpa using hy
          rw [this]; exact ZA.out W e1 he
    have := KC.out _ W gr ha
    simp only [MZ3.out a b] at this
    have hv : bookV ⟨Ar, cr, rs, some ⟨g, 0, none⟩, cap, zs ++ [(⟨nm, some ⟨e1, 0, none⟩, 1, [⟨xo, xr, xs, xf, 0⟩]⟩ : ZonD)], Al, cl, ls⟩ = .agg #[.slice Ar rs.length cr, .slice (some ⟨g, 0, none⟩) (zs.length + 1) cap, .slice Al ls.length cl] := by simp [bookV]
    rw [hv] at this
    exact this
  generalize bokC rs [(⟨nm, some ⟨e1, 0, none⟩, 1, [⟨xo, xr, xs, xf, 0⟩]⟩ : ZonD)] [] = C2 at K1 KL0
  clear MZ3
  go_wp2_with fail
  clear p0 p1 p2
  generalize w4.alloc (.cells #[.string nm, .slice (some ⟨e1, 0, none⟩) 1 1] 47) = w5 at N7 ⊢
  generalize w4.heap.size = q8 at N7 ⊢
  have G5 := Lib.hid (G4.out.trans N7.out.1)
  have Q5 := Lib.hid (bheap_gr N7.out.1 Q4.out)
  have E5 := Lib.hid (bheap_gr N7.out.1 E4.out)
  have Z75 := Lib.hid (bheap_gr N7.out.1 Z74.out)
  refine (K1.out w5 q8 G5.out N7.out.2 E5.out).mono ?_
  rintro e w6 ⟨rfl, g6⟩
  have G6 := Lib.hid (G5.out.trans g6)
  have Q6 := Lib.hid (bheap_gr g6 Q5.out)
  have E6 := Lib.hid (bheap_gr g6 E5.out)
  have Z76 := Lib.hid (bheap_gr g6 Z75.out)
  clear g6 K1 N7 G4 Q4 E4 Z74 G5 Q5 E5 Z75
  have y1 : w6.cell? ⟨q, 1, none⟩ = some (.slice Az zs.length cz) := bcell_row Q6.out rfl
  go_wp2_with fail
  clear y1
  go_loopw [44] (fun i W => ∃ k : Nat, k ≤ zs.length ∧ i = .int .i64 k ∧ Hid (hasZ (zs.take k) nm = false) ∧ Hid (Gr w6 W)) (fun i W => zs.length - (intOf i).toNat)
  case atStart => exact ⟨0, Nat.zero_le _, rfl, rfl, Gr.refl _⟩
  case round =>
    obtain ⟨k, hk, rfl, hf, hg⟩ := hrel
    by_cases hlt : k < zs.length
    · obtain ⟨⟨znm, zA, zc, ze⟩, hz⟩ := get_lt hlt
      obtain ⟨bb, off, rfl, c0, c1⟩ := HZR.out.two hz rfl (G6.out.trans hg.out)
      have HT : Hid (hasZ (zs.take (k + 1)) nm = (hasZ (zs.take k) nm || (znm.toList == nm.toList))) := any_take hz
      clear hz
      obtain ⟨u, eu⟩ : ∃ u, (znm.toList == nm.toList) = u := ⟨_, rfl⟩
      rw [eu] at HT
      cases u with
      | true =>
        go_wp2_with fail
        go_ret
        exact ⟨rfl, (G6.out.trans hg.out).alloc' _⟩
      | false =>
        go_wp2_with fail
        go_roundw
        case rel => exact ⟨k + 1, by omega, by go_num, by unfold Hid; rw [HT.out, hf.out]; rfl, hg.out.alloc' _⟩
        case measure => simp [intOf]; omega
    · have ek : k = zs.length := by omega
      have NZ : Hid (hasZ zs nm = false) := by unfold Hid; have := hf.out; rw [ek, List.take_length] at this; exact this
      have KL1 := Lib.hid (KL0.out NZ.out)
      have G7 := Lib.hid (G6.out.trans hg.out)
      have Q7 := Lib.hid (bheap_gr hg.out Q6.out)
      have E7 := Lib.hid (bheap_gr hg.out E6.out)
      have Z77 := Lib.hid (bheap_gr hg.out Z76.out)
      clear ek hf hg KL0 NZ G6 Q6 E6 Z76 HZR
      have y2 : wr.cell? ⟨q, 2, none⟩ = some (.slice Al ls.length cl) := bcell_row Q7.out rfl
      go_wp2_with fail
      clear y2 hlt hk
      go_loopw [56] (fun i W => ∃ k : Nat, k ≤ ls.length ∧ i = .int .i64 k ∧ Hid (hasL (ls.take k) nm = false) ∧ Hid (Gr wr W)) (fun i W => ls.length - (intOf i).toNat)
      case atStart => exact ⟨0, Nat.zero_le _, rfl, rfl, Gr.refl _⟩
      case round =>
        rename_i wr0 _ _
        obtain ⟨k, hk, rfl, hf, hg⟩ := hrel
        by_cases hlt : k < ls.length
        · obtain ⟨⟨znm, zt⟩, hz⟩ := get_lt hlt
          obtain ⟨bb, off, rfl, c0, c1⟩ := HLR.out.two hz rfl (G7.out.trans hg.out)
          have HT : Hid (hasL (ls.take (k + 1)) nm = (hasL (ls.take k) nm || (znm.toList == nm.toList))) := any_take hz
          clear hz
          obtain ⟨u, eu⟩ : ∃ u, (znm.toList == nm.toList) = u := ⟨_, rfl⟩
          rw [eu] at HT
          cases u with
          | true =>
            go_wp2_with fail
            go_ret
            exact ⟨rfl, (G7.out.trans hg.out).alloc' _⟩
          | false =>
            go_wp2_with fail
            go_roundw
            case rel => exact ⟨k + 1, by omega, by go_num, by unfold Hid; rw [HT.out, hf.out]; rfl, hg.out.alloc' _⟩
            case measure => simp [intOf]; omega
        · have ek : k = ls.length := by omega
          have NL : Hid (hasL ls nm = false) := by unfold Hid; have := hf.out; rw [ek, List.take_length] at this; exact this
          have KL := Lib.hid (KL1.out NL.out)
          have GK := Lib.hid (G7.out.trans hg.out)
          have QK := Lib.hid (bheap_gr hg.out Q7.out)
          have EK := Lib.hid (bheap_gr hg.out E7.out)
          have ZK := Lib.hid (bheap_gr hg.out Z77.out)
          clear ek hf hg KL1 NL G7 Q7 E7 Z77 HLR
          have y0 : wr.cell? ⟨q, 0, none⟩ = some (.slice Ar rs.length cr) := bcell_row QK.out rfl
          have y1 : wr.cell? ⟨q, 1, none⟩ = some (.slice Az zs.length cz) := bcell_row QK.out rfl
          have y2 : wr.cell? ⟨q, 2, none⟩ = some (.slice Al ls.length cl) := bcell_row QK.out rfl
          have NC := Lib.hid (box_one wr (.cells #[.slice Ar rs.length cr, .slice Az zs.length cz, .slice Al ls.length cl] 26))
          go_upto_region 21 with fail
          clear y0 y1 y2 hlt hk
          have lz : Hid (z7 < wr.heap.size ∧ q < wr.heap.size ∧ e1 < wr.heap.size ∧ w.heap.size ≤ wr.heap.size) := ⟨(Array.getElem?_eq_some_iff.1 ZK.out).1, (Array.getElem?_eq_some_iff.1 QK.out).1, (Array.getElem?_eq_some_iff.1 EK.out).1, Below.size GK.out⟩
          have HBS0 : Hid (wr.heap.size + 1 ≤ (wr.alloc (.cells #[.slice Ar rs.length cr, .slice Az zs.length cz, .slice Al ls.length cl] 26)).heap.size) := (Array.getElem?_eq_some_iff.1 NC.out.2).1
          generalize wr.alloc (.cells #[.slice Ar rs.length cr, .slice Az zs.length cz, .slice Al ls.length cl] 26) = wk at NC HBS0 ⊢
          generalize wr.heap.size = c13 at NC lz HBS0 ⊢
          have GC := Lib.hid (GK.out.trans NC.out.1)
          have QC := Lib.hid (bheap_gr NC.out.1 QK.out)
          have EE := Lib.hid (bheap_gr NC.out.1 EK.out)
          have Z7 := Lib.hid (bheap_gr NC.out.1 ZK.out)
          have C13 := Lib.hid NC.out.2
          have l4 := lz.out
          obtain ⟨B, hB⟩ : ∃ B, c13 + 1 = B := ⟨_, rfl⟩
          have HBS : Hid (B ≤ wk.heap.size) := by rw [← hB]; exact HBS0
          have hBw : Hid (w.heap.size ≤ B) := by unfold Hid; omega
          clear NC GK QK EK ZK HBS0 lz
          obtain ⟨iZ, hi, hz0', hz1, hz2⟩ := info_parts infoZone
          have Z1 := Lib.hid hi
          have Z2 := Lib.hid hz0'
          have Z3 := Lib.hid hz1
          have Z4 := Lib.hid hz2
          clear hi hz0' hz1 hz2 hz7
          refine wp_region_noPanic ?_
          refine till_start 7 (fun wx => wx.heap[q]? = some (.cells #[.slice Ar rs.length cr, .slice Az zs.length cz, .slice Al ls.length cl] 26 (0, 0)) ∧ wx.heap[z7]? = some (.cells #[.string nm, .slice (some ⟨e1, 0, none⟩) 1 1] 47 (0, 0))) (by kernel_rfl) ⟨QC.out, Z7.out⟩ (fun hHeld => ?_)
          (try dsimp only at hHeld)
          have G8 := Lib.hid (GC.out.trans (Gr.drew wk))
          have D5 := Lib.hid (bheap_gr (Gr.drew wk) C13.out)
          have E8 := Lib.hid (bheap_gr (Gr.drew wk) EE.out)
          have hBl : Hid (B ≤ wk.drew.heap.size) := HBS
          generalize wk.drew = w8 at hHeld G8 D5 E8 hBl ⊢
          refine till_take (i := 0) (oi := { dst := some 66, op := _, type := _, pos := _, after := _, guard := _ }) (v := ?v1) rfl (by kernel_rfl) (by kernel_rfl) (by kernel_rfl) (by kernel_rfl) (fun _ _ _ h => h) (Or.inl ⟨by rfl, ?hy1⟩) (by assumption) ?rest1
          case hy1 => (intro w hSw; go_simp <;> (with_reducible rfl))
          (try simp only [Act.put, List.setIfInBounds_toArray, List.set_cons_zero, List.set_cons_succ])
          refine till_take (i := 1) (oi := { dst := some 67, op := _, type := _, pos := _, after := _, guard := _ }) (v := ?v2) rfl (by kernel_rfl) (by kernel_rfl) (by kernel_rfl) (by kernel_rfl) (fun _ _ _ h => h) (Or.inl ⟨by rfl, ?hy2⟩) (by assumption) ?rest2
          case hy2 => (intro w hSw; have d1 := bcell_row (i := 1) hSw.1 rfl; go_simp <;> (with_reducible rfl))
          (try simp only [Act.put, List.setIfInBounds_toArray, List.set_cons_zero, List.set_cons_succ])
          refine till_take (i := 3) (oi := { dst := some 69, op := _, type := _, pos := _, after := _, guard := _ }) (v := ?v3) rfl (by kernel_rfl) (by kernel_rfl) (by kernel_rfl) (by kernel_rfl) (fun _ _ _ h => h) (Or.inl ⟨by rfl, ?hy3⟩) (by assumption) ?rest3
          case hy3 => (intro w hSw; have e1' := bcell_row (i := 0) hSw.2 rfl; have e2' := bcell_row (i := 1) hSw.2 rfl; go_simp <;> (with_reducible rfl))
          (try simp only [Act.put, List.setIfInBounds_toArray, List.set_cons_zero, List.set_cons_succ])
          refine till_two (i := 2) (j := 4) (by kernel_rfl) rfl rfl (fun K hK => ?_) (fun K hK => ?_)
          · (refine step_copy _ (by rfl) _ _ 23 (by rfl) B 47 iZ (.agg #[.string .empty, .slice none 0 0]) 2 40 Tryz.underlying23 Z1.out Z2.out Z3.out Z4.out (by rfl) (by omega) ZonD.cells zo_len zo_one zs Az cz (by rfl) (by rfl) (HB.out.2.1.2.1.gr G8.out) (by omega) (by omega) hBl.out ?_)
            intro v' wn4 hown4 hgr4
            have gn4 := gr_of_none hgr4
            refine hK.out _ _ (Or.inr ⟨bheap_gr gn4 hHeld.1, bheap_gr gn4 hHeld.2⟩) ?_
            clear hK K
            (try simp only [Act.put, List.setIfInBounds_toArray, List.set_cons_zero, List.set_cons_succ])
            have hH4 := And.intro (bheap_gr gn4 hHeld.1) (bheap_gr gn4 hHeld.2)
            have GN4 := Lib.hid (G8.out.trans gn4)
            have OW := Lib.hid hown4
            have M5 := Lib.hid (bheap_gr gn4 D5.out)
            have ME := Lib.hid (bheap_gr gn4 E8.out)
            refine till_one (i := 4) (by kernel_rfl) rfl (fun K hK => ?_)
            have NB5 := Lib.hid (box_one wn4 (.cells #[.string nm, .slice (some ⟨e1, 0, none⟩) 1 1] 47))
            go_simp
            refine hK.out _ _ (Or.inr ⟨bheap_gr NB5.out.1 hH4.1, bheap_gr NB5.out.1 hH4.2⟩) ?_
            clear hK K
            (try simp only [Act.put, List.setIfInBounds_toArray, List.set_cons_zero, List.set_cons_succ])
            generalize wn4.alloc (.cells #[.string nm, .slice (some ⟨e1, 0, none⟩) 1 1] 47) = wn5 at NB5 ⊢
            generalize wn4.heap.size = q5 at NB5 ⊢
            have hH5 := And.intro (bheap_gr NB5.out.1 hH4.1) (bheap_gr NB5.out.1 hH4.2)
            have GN5 := Lib.hid (GN4.out.trans NB5.out.1)
            have NB := Lib.hid NB5.out.2
            have OW2 := Lib.hid (OW.out.gr NB5.out.1)
            have P5 := Lib.hid (bheap_gr NB5.out.1 M5.out)
            have PE := Lib.hid (bheap_gr NB5.out.1 ME.out)
            have hBm : Hid (B ≤ wn5.heap.size) := Nat.le_trans hBl.out (Below.size (gn4.trans NB5.out.1))
            refine till_one (i := 5) (by kernel_rfl) rfl (fun K hK => ?_)
            (refine step_append_lies _ (by rfl) _ _ 23 (by rfl) B 47 iZ (.agg #[.string .empty, .slice none 0 0]) 2 40 Tryz.underlying23 Z1.out Z2.out Z3.out Z4.out (by rfl) (by omega) v' zs.length (zs.flatMap ZonD.cells) (by rfl) OW2.out ⟨q5, 0, none⟩ 1 1 [.string nm, .slice (some ⟨e1, 0, none⟩) 1 1] (by rfl) (by rfl) (World.news_of_block NB.out) (zo_one (⟨nm, some ⟨e1, 0, none⟩, 1, [⟨xo, xr, xs, xf, 0⟩]⟩ : ZonD)) (by omega) (by unfold maxLen; omega) (by omega) hBm.out wn5.heap.size rfl ?_)
            intro g cap wA hown hgrow hat hlt
            have AB := Lib.hid (own_block_lt OW2.out)
            have KQ := Lib.hid ((hgrow.block q (by have := hBm.out; omega) (fun e => by have := (AB.out q e.symm).1; omega)).trans hH5.1)
            have K7 := Lib.hid ((hgrow.block z7 (by have := hBm.out; omega) (fun e => by have := (AB.out z7 e.symm).1; omega)).trans hH5.2)
            have K5 := Lib.hid ((hgrow.block c13 (by have := hBm.out; omega) (fun e => by have := (AB.out c13 e.symm).1; omega)).trans P5.out)
            have KE := Lib.hid ((hgrow.block e1 (by have := hBm.out; omega) (fun e => by have := (AB.out e1 e.symm).1; omega)).trans PE.out)
            have GA := Lib.hid (grown_gr GN5.out hgrow (fun j hj => Nat.le_trans hBw.out (AB.out j hj).1))
            refine hK.out _ _ (Or.inr ⟨KQ.out, K7.out⟩) ?_
            clear hK K
            (try simp only [Act.put, List.setIfInBounds_toArray, List.set_cons_zero, List.set_cons_succ])
            have OA : Hid (Own wA B 47 2 ZonD.cells (.slice (some ⟨g, 0, none⟩) (zs.length + 1) cap) (zs ++ [(⟨nm, some ⟨e1, 0, none⟩, 1, [⟨xo, xr, xs, xf, 0⟩]⟩ : ZonD)])) := own_more rfl hown
            refine till_one (i := 6) (by kernel_rfl) rfl (fun K hK => ?_)
            go_simp
            refine hK.out _ _ (Or.inr ⟨KQ.out, K7.out⟩) ?_
            clear hK K
            (try simp only [Act.put, List.setIfInBounds_toArray, List.set_cons_zero, List.set_cons_succ])
            have zc1 : wA.cell? ⟨c13, 1, none⟩ = some (.slice Az zs.length cz) := bcell_row K5.out rfl
            have fz1 : wA.frozen? ⟨c13, 1, none⟩ = false := by simp [World.frozen?, K5.out]
            have Y1 := Lib.hid (blk_set (j := 1) (u := (.slice (some ⟨g, 0, none⟩) (zs.length + 1) cap)) K5.out)
            have Y2 := Lib.hid ((heap_set_ne wA ⟨c13, 1, none⟩ (.slice (some ⟨g, 0, none⟩) (zs.length + 1) cap) (i := e1) (by show e1 ≠ c13; omega)).trans KE.out)
            have Y4 := Lib.hid (OA.out.far (q := ⟨c13, 1, none⟩) (.slice (some ⟨g, 0, none⟩) (zs.length + 1) cap) (far_pb OA.out (by show c13 < B; omega)))
            have Y5 : Hid (Gr w (wA.setCell ⟨c13, 1, none⟩ (.slice (some ⟨g, 0, none⟩) (zs.length + 1) cap))) := Below.setCell GA.out (by show w.heap.size ≤ c13; omega) _
            refine till_one (i := 7) (by kernel_rfl) rfl (fun K hK => ?_)
            go_simp
            clear zc1 fz1
            generalize wA.setCell ⟨c13, 1, none⟩ (.slice (some ⟨g, 0, none⟩) (zs.length + 1) cap) = wB at Y1 Y2 Y4 Y5 hK ⊢
            refine hK.out _ _ (Or.inl (by kernel_rfl)) ?_
            clear hK K
            (try simp only [Act.put, List.setIfInBounds_toArray, List.set_cons_zero, List.set_cons_succ])
            refine till_done (by kernel_rfl) ?_ _
            refine NoPanic.normal ?_
            have KF := Lib.hid (KL.out g cap B wB Y5.out Y4.out Y2.out)
            have y0 : wB.cell? ⟨c13, 0, none⟩ = some (.slice Ar rs.length cr) := bcell_row Y1.out rfl
            have y1 : wB.cell? ⟨c13, 1, none⟩ = some (.slice (some ⟨g, 0, none⟩) (zs.length + 1) cap) := bcell_row Y1.out rfl
            have y2 : wB.cell? ⟨c13, 2, none⟩ = some (.slice Al ls.length cl) := bcell_row Y1.out rfl
            go_wp2_with fail
            clear y0 y1 y2
            refine KF.out.mono ?_
            rintro e wF ⟨rfl, gF⟩
            have ee : (C2 == C2) = true := by simp
            go_wp2_with fail
            go_ret
            exact ⟨rfl, Y5.out.trans gF⟩
          · have NB6 := Lib.hid (box_one w8 (.cells #[.string nm, .slice (some ⟨e1, 0, none⟩) 1 1] 47))
            go_simp
            refine hK.out _ _ (Or.inr ⟨bheap_gr NB6.out.1 hHeld.1, bheap_gr NB6.out.1 hHeld.2⟩) ?_
            clear hK K
            (try simp only [Act.put, List.setIfInBounds_toArray, List.set_cons_zero, List.set_cons_succ])
            generalize w8.alloc (.cells #[.string nm, .slice (some ⟨e1, 0, none⟩) 1 1] 47) = wn6 at NB6 ⊢
            generalize w8.heap.size = q6 at NB6 ⊢
            have hH6 := And.intro (bheap_gr NB6.out.1 hHeld.1) (bheap_gr NB6.out.1 hHeld.2)
            have GN6 := Lib.hid (G8.out.trans NB6.out.1)
            have NB := Lib.hid NB6.out.2
            have M5 := Lib.hid (bheap_gr NB6.out.1 D5.out)
            have ME := Lib.hid (bheap_gr NB6.out.1 E8.out)
            have hBn := Lib.hid (Nat.le_trans hBl.out (Below.size NB6.out.1))
            refine till_one (i := 2) (by kernel_rfl) rfl (fun K hK => ?_)
            (refine step_copy _ (by rfl) _ _ 23 (by rfl) B 47 iZ (.agg #[.string .empty, .slice none 0 0]) 2 40 Tryz.underlying23 Z1.out Z2.out Z3.out Z4.out (by rfl) (by omega) ZonD.cells zo_len zo_one zs Az cz (by rfl) (by rfl) (HB.out.2.1.2.1.gr GN6.out) (by omega) (by omega) hBn.out ?_)
            intro v' wn7 hown7 hgr7
            have gn7 := gr_of_none hgr7
            refine hK.out _ _ (Or.inr ⟨bheap_gr gn7 hH6.1, bheap_gr gn7 hH6.2⟩) ?_
            clear hK K
            (try simp only [Act.put, List.setIfInBounds_toArray, List.set_cons_zero, List.set_cons_succ])
            have hH7 := And.intro (bheap_gr gn7 hH6.1) (bheap_gr gn7 hH6.2)
            have GN7 := Lib.hid (GN6.out.trans gn7)
            have OW := Lib.hid hown7
            have OW2 := OW
            have NBo := NB
            clear NB
            have NB := Lib.hid (bheap_gr gn7 NBo.out)
            have P5 := Lib.hid (bheap_gr gn7 M5.out)
            have PE := Lib.hid (bheap_gr gn7 ME.out)
            have hBm : Hid (B ≤ wn7.heap.size) := Nat.le_trans hBl.out (Below.size (NB6.out.1.trans gn7))
            refine till_one (i := 5) (by kernel_rfl) rfl (fun K hK => ?_)
            (refine step_append_lies _ (by rfl) _ _ 23 (by rfl) B 47 iZ (.agg #[.string .empty, .slice none 0 0]) 2 40 Tryz.underlying23 Z1.out Z2.out Z3.out Z4.out (by rfl) (by omega) v' zs.length (zs.flatMap ZonD.cells) (by rfl) OW2.out ⟨q6, 0, none⟩ 1 1 [.string nm, .slice (some ⟨e1, 0, none⟩) 1 1] (by rfl) (by rfl) (World.news_of_block NB.out) (zo_one (⟨nm, some ⟨e1, 0, none⟩, 1, [⟨xo, xr, xs, xf, 0⟩]⟩ : ZonD)) (by omega) (by unfold maxLen; omega) (by omega) hBm.out wn7.heap.size rfl ?_)
            intro g cap wA hown hgrow hat hlt
            have AB := Lib.hid (own_block_lt OW2.out)
            have KQ := Lib.hid ((hgrow.block q (by have := hBm.out; omega) (fun e => by have := (AB.out q e.symm).1; omega)).trans hH7.1)
            have K7 := Lib.hid ((hgrow.block z7 (by have := hBm.out; omega) (fun e => by have := (AB.out z7 e.symm).1; omega)).trans hH7.2)
            have K5 := Lib.hid ((hgrow.block c13 (by have := hBm.out; omega) (fun e => by have := (AB.out c13 e.symm).1; omega)).trans P5.out)
            have KE := Lib.hid ((hgrow.block e1 (by have := hBm.out; omega) (fun e => by have := (AB.out e1 e.symm).1; omega)).trans PE.out)
            have GA := Lib.hid (grown_gr GN7.out hgrow (fun j hj => Nat.le_trans hBw.out (AB.out j hj).1))
            refine hK.out _ _ (Or.inr ⟨KQ.out, K7.out⟩) ?_
            clear hK K
            (try simp only [Act.put, List.setIfInBounds_toArray, List.set_cons_zero, List.set_cons_succ])
            have OA : Hid (Own wA B 47 2 ZonD.cells (.slice (some ⟨g, 0, none⟩) (zs.length + 1) cap) (zs ++ [(⟨nm, some ⟨e1, 0, none⟩, 1, [⟨xo, xr, xs, xf, 0⟩]⟩ : ZonD)])) := own_more rfl hown
            refine till_one (i := 6) (by kernel_rfl) rfl (fun K hK => ?_)
            go_simp
            refine hK.out _ _ (Or.inr ⟨KQ.out, K7.out⟩) ?_
            clear hK K
            (try simp only [Act.put, List.setIfInBounds_toArray, List.set_cons_zero, List.set_cons_succ])
            have zc1 : wA.cell? ⟨c13, 1, none⟩ = some (.slice Az zs.length cz) := bcell_row K5.out rfl
            have fz1 : wA.frozen? ⟨c13, 1, none⟩ = false := by simp [World.frozen?, K5.out]
            have Y1 := Lib.hid (blk_set (j := 1) (u := (.slice (some ⟨g, 0, none⟩) (zs.length + 1) cap)) K5.out)
            have Y2 := Lib.hid ((heap_set_ne wA ⟨c13, 1, none⟩ (.slice (some ⟨g, 0, none⟩) (zs.length + 1) cap) (i := e1) (by show e1 ≠ c13; omega)).trans KE.out)
            have Y4 := Lib.hid (OA.out.far (q := ⟨c13, 1, none⟩) (.slice (some ⟨g, 0, none⟩) (zs.length + 1) cap) (far_pb OA.out (by show c13 < B; omega)))
            have Y5 : Hid (Gr w (wA.setCell ⟨c13, 1, none⟩ (.slice (some ⟨g, 0, none⟩) (zs.length + 1) cap))) := Below.setCell GA.out (by show w.heap.size ≤ c13; omega) _
            refine till_one (i := 7) (by kernel_rfl) rfl (fun K hK => ?_)
            go_simp
            clear zc1 fz1
            generalize wA.setCell ⟨c13, 1, none⟩ (.slice (some ⟨g, 0, none⟩) (zs.length + 1) cap) = wB at Y1 Y2 Y4 Y5 hK ⊢
            refine hK.out _ _ (Or.inl (by kernel_rfl)) ?_
            clear hK K
            (try simp only [Act.put, List.setIfInBounds_toArray, List.set_cons_zero, List.set_cons_succ])
            refine till_done (by kernel_rfl) ?_ _
            refine NoPanic.normal ?_
            have KF := Lib.hid (KL.out g cap B wB Y5.out Y4.out Y2.out)
            have y0 : wB.cell? ⟨c13, 0, none⟩ = some (.slice Ar rs.length cr) := bcell_row Y1.out rfl
            have y1 : wB.cell? ⟨c13, 1, none⟩ = some (.slice (some ⟨g, 0, none⟩) (zs.length + 1) cap) := bcell_row Y1.out rfl
            have y2 : wB.cell? ⟨c13, 2, none⟩ = some (.slice Al ls.length cl) := bcell_row Y1.out rfl
            go_wp2_with fail
            clear y0 y1 y2
            refine KF.out.mono ?_
            rintro e wF ⟨rfl, gF⟩
            have ee : (C2 == C2) = true := by simp
            go_wp2_with fail
            go_ret
            exact ⟨rfl, Y5.out.trans gF⟩

set_option maxRecDepth 100000 in
theorem contract (H : Type) (enc : TypeId × Value → H) (W : World) (base : Nat) (args : Array Value) (ds gs : List (DataW H)) (before : List MemPlace)
    (hval : ∀ (j : Nat) t v, Tryz.f8.params[j]? = some t → args[j]? = some v → Value.okWide Tryz.prog W .any base t v)
    (hW : DataW.Whole enc Tryz.prog Tryz.f8.params.toList Rows.bookMoreSpec.vars false W args.toList ds gs before) (hL : laidMet Tryz.prog Rows.bookMoreRow.laid W) (hsh : W.ShapedOpen Tryz.prog) :
    Calls Tryz.prog 8 args W fun e W' => ∃ v, e = .returned v ∧ Rows.bookMoreSpec.post enc Tryz.prog Tryz.f8 false true false false W args v W' := by
  have hW' := hW
  obtain ⟨p, q, hA0, hV, rfl, hfz, hnd⟩ := hW
  have hA : DataW.TrodAll enc Tryz.prog W 0 (fun _ => true) true Tryz.f8.params.toList args.toList ds p := hA0
  rw [Tryz.params8] at hA hval
  obtain ⟨v0, vs0, d0, ds0, p0, q0, hargs, rfl, rfl, h0, r0⟩ := trodAll_cons hA
  obtain ⟨v1, vs1, d1, ds1, p1, q1, rfl, rfl, rfl, h1, r1⟩ := trodAll_cons r0
  obtain ⟨v2, vs2, d2, ds2, p2, q2, rfl, rfl, rfl, h2, r2⟩ := trodAll_cons r1
  obtain ⟨rfl, rfl, rfl⟩ := trodAll_nil r2
  obtain rfl : args = #[v0, v1, v2] := by cases args; simp_all
  obtain ⟨rfl, rfl⟩ := trodVars_none hV
  obtain ⟨bk0, rfl, bi0⟩ := open_book (hval 0 26 v0 rfl rfl) h0
  obtain ⟨a1, rfl, rfl, rfl, w1⟩ := open_string Tryz.underlying9 (hval 1 9 v1 rfl rfl) h1
  obtain ⟨er2, rfl, ei2⟩ := open_era (hval 2 44 v2 rfl rfl) h2
  clear hA0
  simp only [List.append_nil] at hW'
  refine (walk bk0 a1 w1 er2 ei2 W bi0 ⟨⟨⟨pow_of hL (List.mem_of_getElem? (i := 2) rfl), wk_of hL (List.mem_of_getElem? (i := 7) rfl)⟩, syn_of hL (List.mem_of_getElem? (i := 6) rfl), rng_of hL (List.mem_of_getElem? (i := 5) rfl), max_of hsh⟩, ⟨lens_of hL (List.mem_of_getElem? (i := 3) rfl), ⟨pow_of hL (List.mem_of_getElem? (i := 2) rfl), wk_of hL (List.mem_of_getElem? (i := 7) rfl)⟩, cl_of hL (List.mem_of_getElem? (i := 8) rfl)⟩⟩ ⟨lens_of hL (List.mem_of_getElem? (i := 3) rfl), pow_of hL (List.mem_of_getElem? (i := 2) rfl), max_of hsh⟩).mono fun e W' ⟨he, hg⟩ => ?_
  subst he
  exact ⟨_, rfl, post_of_below (pa := (p0 ++ ([] ++ (p2 ++ [])))) (pv := []) hW' (fun _ _ _ => trodAll_cons_mk (shut_bool Tryz.underlying4 _) trodAll_mk0) (fun _ hsp => (trodAll_cons_mk (stays book_reads h0 hg (fun p hp => by simp [hp]) (fun p hp => hW'.lt p hp) hsp) (trodAll_cons_mk (shut_string Tryz.underlying9 w1) (trodAll_cons_mk (stays era_reads h2 hg (fun p hp => by simp [hp]) (fun p hp => hW'.lt p hp) hsp) trodAll_mk0)))) (fun _ _ => rfl) (by simp)
    hg (ok_one (by kernel_rfl) rfl (okWide_bool_mk Tryz.underlying4 _))⟩

/-- A world for the witness: the settled one, the listed variables holding what their initialisers lay. -/
noncomputable def laidWorld (os : Os) : World := put (put (put (putErr (putErr (put (put (put (put (put (bare os) 7 (flat1 Rows.laid_math_bits_deBruijn32tab)) 8 (flat1 Rows.laid_math_bits_deBruijn64tab)) 6 (flat1 Rows.laid_internal_strconv_uint64pow10)) 3 (flat1 Rows.laid_timeball_civil_lengths)) 5 (flat2 Rows.laid_unicode_utf8_acceptRanges)) 10 (textOf Rows.laid_strconv_ErrRange)) 9 (textOf Rows.laid_strconv_ErrSyntax)) 2 (flat1 Rows.laid_timeball_day_weekdays)) 0 (flat1 Rows.laid_timeball_rule_clockLetters)) 4 (flat1 Rows.laid_unicode_utf8_first)
set_option maxRecDepth 100000 in
theorem laid_met (os : Os) : laidMet Tryz.prog Rows.bookMoreRow.laid ((laidWorld os).forCall (fun _ _ => 0) ⟨#[], #[.agg #[.slice none 0 0, .slice none 0 0, .slice none 0 0], .string .empty, .agg #[.int .i64 0, .string .empty, .int .i64 0, .string .empty, .int .i64 0]], []⟩).memory :=
  laidMet_of_run3 8 (by kernel_rfl) (by kernel_rfl) (by kernel_rfl)
theorem reads (os : Os) {H : Type} (enc : TypeId × Value → H) : ∃ places, DataW.whole enc Tryz.prog ((laidWorld os).forCall (fun _ _ => 0) ⟨#[], #[.agg #[.slice none 0 0, .slice none 0 0, .slice none 0 0], .string .empty, .agg #[.int .i64 0, .string .empty, .int .i64 0, .string .empty, .int .i64 0]], []⟩).memory Tryz.f8.params.toList Rows.bookMoreSpec.vars false #[Value.agg #[.slice none 0 0, .slice none 0 0, .slice none 0 0], Value.string .empty, Value.agg #[.int .i64 0, .string .empty, .int .i64 0, .string .empty, .int .i64 0]].toList 8 = some ([.agg [.nil, .nil, .nil], .lit (.string []), .agg [.lit (.int .i64 0), .lit (.string []), .lit (.int .i64 0), .lit (.string []), .lit (.int .i64 0)]], [], places) :=
  ⟨[], by kernel_rfl⟩

set_option maxRecDepth 100000 in
theorem lifted (os : Os) (started : os.Started) (H : Type) (enc : TypeId × Value → H) (F : Stop.Interp) :
    ReturnsInHanded {} Tryz.checked os 8 .any ((OpenSpec.ofChange Rows.bookMoreSpec).preRow enc Tryz.prog Tryz.f8 Rows.bookMoreRow.domain false Rows.bookMoreRow.laid) (((OpenSpec.ofChange Rows.bookMoreSpec).at F).post enc Tryz.prog Tryz.f8 false true false false) := by
  obtain ⟨places, hx⟩ := reads os enc
  refine returnsInHanded_of_row (C := Tryz.checked) (s := OpenSpec.ofChange Rows.bookMoreSpec) own started (by kernel_rfl) Tryz.func8
    (witness_row_at (enc := enc) (C := Tryz.checked) false (laidWorld os) #[.agg #[.slice none 0 0, .slice none 0 0, .slice none 0 0], .string .empty, .agg #[.int .i64 0, .string .empty, .int .i64 0, .string .empty, .int .i64 0]] rfl (by kernel_rfl) (by kernel_rfl) (by kernel_rfl)
      (OpenSpec.preRow_of_cond 8 hx (by kernel_rfl) (fun k hk => by cases hk) (by kernel_rfl) (laid_met os))) ?_
  intro W base args ds gs before hval hW _ _ _ hL hsh _
  exact contract H enc W base args ds gs before hval hW hL hsh

theorem said : Rows.BookMoreSaid :=
  OpenClaim.holds_of_cond 8 Tryz.f8 rfl rfl rfl rfl rfl rfl rfl ⟨rfl, rfl, rfl, rfl, rfl⟩ rfl rfl rfl rfl rfl (by kernel_rfl) Tryz.func8 (by kernel_rfl)
    (of_decide_eq_true (by kernel_rfl)) (by unfold Func.isWrapper; first | (rw [if_pos (by decide +kernel)]; kernel_rfl) | (rw [if_neg (by decide +kernel)]; exact ⟨rfl, rfl⟩))
    (fun os started H enc _ F => by rw [OpenClaim.pre_eq_preRow]; exact lifted os started H enc F)

set_option maxRecDepth 100000 in
/-- No parameter wants a stand-in; whether the program has looks of its own. -/
theorem plain (f : FuncId) (fn : Func) (hf : Tryz.pinned.checked.prog.funcNamed "timeball/timeballkeep.BookMore" = some f) (hfn : Tryz.pinned.checked.prog.funcs[f]? = some fn) :
    true = Tryz.pinned.checked.prog.looks [] ∧ ∀ (j : Nat) t, fn.params[j]? = some t → Tryz.pinned.checked.prog.wantsStandIn t = false := by
  obtain rfl : f = 8 := Option.some.inj ((show Tryz.prog.funcNamed "timeball/timeballkeep.BookMore" = some 8 by kernel_rfl).symm.trans hf) |>.symm
  obtain rfl : fn = Tryz.f8 := (Option.some.inj (Tryz.func8.symm.trans hfn)).symm
  refine ⟨by kernel_rfl, fun j t ht => ?_⟩
  rw [Tryz.params8] at ht
  have hm : t = 9 ∨ t = 26 ∨ t = 44 := by have := Array.mem_of_getElem? ht; simp at this; first | exact this | exact this.symm | (rcases this with h | h | h <;> simp [h]) | omega
  rcases hm with rfl | rfl | rfl
  · exact (show Tryz.prog.wantsStandIn 9 = false by kernel_rfl)
  · exact (show Tryz.prog.wantsStandIn 26 = false by kernel_rfl)
  · exact (show Tryz.prog.wantsStandIn 44 = false by kernel_rfl)

end Go.Proofs.YtmemgpmijphkmaaGreatDoor.bookMore
namespace Go.Proofs.YtmemgpmijphkmaaGreatDoor
/-- The card. -/
theorem bookMore_holds : Rows.BookMoreCardSaid :=
  Claim7.holds_tied_plain_at .later [] _ _ _ _ bookMore.said (fun _ h => by cases h) (by kernel_rfl) (fun _ h => by cases h) bookMore_row_tie rfl ⟨rfl, rfl⟩ (by kernel_rfl) rfl bookMore.plain (by kernel_rfl)
end Go.Proofs.YtmemgpmijphkmaaGreatDoor
