/- What the reference's RuleParse returns: the walk through all nine words. -/
import Derived.Test.YtkkilmmpmiichaaGreatDoorYM20
import Derived.Test.YtkkilmmpmiichaaGreatDoorYM10
namespace Go.Proofs.YtkkilmmpmiichaaGreatDoor
set_option linter.unusedVariables false
set_option linter.unusedSimpArgs false
open Go.RowKit
theorem PS.drew {w W : World} {g q : Nat} {t : ByteArray} {row : Array Value} (h : PS w W g q t row) : PS w W.drew g q t row := ⟨h.1, h.2.1, h.2.2.1, h.2.2.2.1.drew', h.2.2.2.2⟩
theorem tail_of {l : List UInt8} {c : UInt8} (h : Lib.hasSuffix l [c] = true) : l = l.take (l.length - 1) ++ [c] ∧ 1 ≤ l.length := by
  have hs : [c] <:+ l := by unfold Lib.hasSuffix at h; exact List.isSuffixOf_iff_suffix.1 h
  obtain ⟨a, rfl⟩ := hs
  simp
theorem cut_last (x : ByteArray) : (x.extract 0 (x.size - 1)).toList = x.toList.take (x.toList.length - 1) := by
  rw [ByteArray.toList_eq, Lib.extract_data, ByteArray.toList_eq]
  have e : x.data.toList.length = x.size := Array.length_toList
  rw [e]
  simp
/-- what the word of the time is -/
def AtWord (x at0 : ByteArray) (bv : Int) : Prop := (0 ≤ bv ∧ bv ≤ 2) ∧ x.toList = at0.toList ++ suf bv ∧ ∀ at' by', (-604800 ≤ at' ∧ at' ≤ 604800) → (0 ≤ by' ∧ by' ≤ 2) → x.toList = spanL at' ++ suf by' → by' = bv
theorem atWord0 {x : ByteArray} (h1 : Lib.hasSuffix x.data.toList [115] = false) (h2 : Lib.hasSuffix x.data.toList [117] = false) : AtWord x x 0 := by
  refine ⟨⟨by omega, by omega⟩, by simp [suf], fun at' by' a b e => ?_⟩
  have c := clock_word a.1 a.2 b.1 b.2
  rw [← ByteArray.toList_eq, e] at h1 h2
  rw [h1] at c
  rw [h2] at c
  have c1 : ¬ by' = 1 := fun q => by have := c.1; rw [q] at this; simp at this
  have c2 : ¬ by' = 2 := fun q => by have := c.2; rw [q] at this; simp at this
  omega
theorem atWord1 {x : ByteArray} (h1 : Lib.hasSuffix x.data.toList [115] = true) : AtWord x (x.extract 0 (x.size - 1)) 1 := by
  refine ⟨⟨by omega, by omega⟩, ?_, fun at' by' a b e => ?_⟩
  · rw [cut_last]; rw [← ByteArray.toList_eq] at h1; exact (tail_of h1).1
  · have c := (clock_word a.1 a.2 b.1 b.2).1
    rw [← ByteArray.toList_eq, e, c] at h1
    simpa using h1
theorem atWord2 {x : ByteArray} (h1 : Lib.hasSuffix x.data.toList [117] = true) : AtWord x (x.extract 0 (x.size - 1)) 2 := by
  refine ⟨⟨by omega, by omega⟩, ?_, fun at' by' a b e => ?_⟩
  · rw [cut_last]; rw [← ByteArray.toList_eq] at h1; exact (tail_of h1).1
  · have c := (clock_word a.1 a.2 b.1 b.2).2
    rw [← ByteArray.toList_eq, e, c] at h1
    simpa using h1
theorem suffix_excl {x : ByteArray} (h1 : Lib.hasSuffix x.data.toList [115] = true) : Lib.hasSuffix x.data.toList [117] = false := by
  have e := (tail_of h1).1
  rw [e, suffix_last]
  rfl
theorem suffix_size {x : ByteArray} {c : UInt8} (h1 : Lib.hasSuffix x.data.toList [c] = true) : 1 ≤ x.size := by
  have := (tail_of h1).2
  rw [show x.data.toList.length = x.size from Array.length_toList] at this
  exact this
/-- what a rule with this text would be -/
theorem good_parts {s : ByteArray} (hG : Good s.toList) {at0 : ByteArray} {bv : Int} (hA : AtWord (wd s 6) at0 bv) :
    ∃ (nm lt : List UInt8) (fr tt mo k d n at' sv : Int), ruleC nm lt fr tt mo k d n at' bv sv = 0 ∧ nm = (wd s 1).toList ∧ lt = (wd s 8).toList ∧ IsNum (wd s 2).toList fr ∧ IsNum (wd s 3).toList tt ∧ IsNum (wd s 4).toList mo ∧
      (DayOk k d n ∧ dayL k d n = (wd s 5).toList) ∧ IsSpan at0.toList at' ∧ IsSpan (wd s 7).toList sv := by
  obtain ⟨nm, lt, fr, tt, mo, k, d, n, at', by', sv, hc, hl⟩ := hG
  obtain ⟨_, _, w1, w2, w3, w4, w5, w6, w7, w8⟩ := good_words hc hl
  obtain ⟨a, b, c, d'⟩ := ruleC_zero.1 hc
  obtain ⟨⟨f1, f2⟩, ⟨t1, t2⟩, ft, o1, o2⟩ := b
  obtain ⟨x1, ⟨a1, a2⟩, ⟨b1, b2⟩, s1, s2⟩ := d'
  have eb := hA.2.2 at' by' ⟨a1, a2⟩ ⟨b1, b2⟩ w6
  subst eb
  have ea : at0.toList = spanL at' := by have := hA.2.1; rw [w6] at this; exact (List.append_cancel_right this).symm
  exact ⟨nm, lt, fr, tt, mo, k, d, n, at', sv, hc, w1.symm, w8.symm, ⟨⟨by omega, by omega⟩, w2.symm⟩, ⟨⟨by omega, by omega⟩, w3.symm⟩, ⟨⟨by omega, by omega⟩, w4.symm⟩, ⟨c, w5.symm⟩, ⟨⟨a1, a2⟩, ea.symm⟩, ⟨⟨by omega, by omega⟩, w7.symm⟩⟩

set_option maxRecDepth 100000 in
set_option maxHeartbeats 16000000 in
theorem rparse_words (s : ByteArray) (mx : Int) (w : World) (hs : s.size ≤ 1048576) (hm : w.cell? ⟨0, 0, none⟩ = some (.int .i64 mx)) (h9 : (bl s).length = 9) (h0 : (wd s 0).toList = [114, 117, 108, 101]) :
    Calls Tryz.prog 11 #[.string s] w fun e w' => RuleReadA s.toList e ∧ Gr w w' := by
  have hz : (w.alloc (.cells zrow 42)).heap[w.heap.size]? = some (.cells zrow 42 (0, 0)) := by unfold World.alloc; simp
  have hsz : (w.alloc (.cells zrow 42)).heap.size = w.heap.size + 1 := by simp
  have g0 := Gr.alloc w (.cells zrow 42)
  have KS := Lib.hid (fun W hm => split32 s mx W hs hm)
  have HM := Lib.hid hm
  have t1 : ((wd s 0).toList == [114, 117, 108, 101]) = true := by simpa using h0
  have WS := Lib.hid (fun k => Nat.le_trans (wd_size (t := s) k) hs)
  have H0 := Lib.hid h0
  have H9 := Lib.hid h9
  clear hm hs h0
  go_enter Tryz.func11, Tryz.ntmps11
  go_wp2_with fail
  generalize w.alloc (.cells zrow 42) = w0 at hz hsz g0 ⊢
  refine (KS.out w0 (g0.holds HM.out)).mono ?_
  rintro e w1 ⟨g, hg, rfl, g1, hc⟩
  clear KS
  have ps : PS w (w1.alloc (.cells zrow 42)) g w1.heap.size s zrow := by
    have hp : w1.heap[w.heap.size]? = some (.cells zrow 42 (0, 0)) := by rw [Below.block g1 _ (heap_lt hz)]; exact hz
    have gl : g < w1.heap.size := World.block_lt_of_cell? w1 ⟨g, 0, none⟩ (hc 0 (by omega))
    refine ⟨fun i hi => (Gr.alloc w1 _).holds (hc i hi), by unfold World.alloc; simp, ?_, (g0.trans g1).trans (Gr.alloc _ _), by omega, gl⟩
    rw [Below.block (Gr.alloc w1 _) _ (heap_lt hp)]; exact hp
  have c0 := hc 0 (by omega)
  have PSH := Lib.hid ps
  rw [h9]
  clear ps hz hsz g0 g1 hc hg h9
  have d1 := PSH.out.1 1 (by rw [H9.out]; omega)
  have d8 := PSH.out.1 8 (by rw [H9.out]; omega)
  have q0 := PSH.out.cell (i := 0) rfl
  have q10 := PSH.out.cell (i := 10) rfl
  have f0 := PSH.out.frozen 0
  have f10 := PSH.out.frozen 10
  have ne : ¬ g = w1.heap.size := by have := PSH.out.2.2.2.2.2; omega
  go_wp2_with fail
  generalize w1.alloc (.cells zrow 42) = w2 at PSH d1 d8 q0 q10 f0 f10 ⊢
  generalize w1.heap.size = q at PSH q0 q10 f0 f10 ne ⊢
  go_region
  have P3 : Hid (PS w ((w2.setCell ⟨q, 0, none⟩ (.string (wd s 1))).setCell ⟨q, 10, none⟩ (.string (wd s 8))).drew g q s #[.string (wd s 1), .int .i64 0, .int .i64 0, .int .i64 0, .int .i64 0, .int .i64 0, .int .i64 0, .int .i64 0, .int .i64 0, .int .i64 0, .string (wd s 8)]) := ((PSH.out.set 0 _).set 10 _).drew
  clear PSH d1 d8 q0 q10 f0 f10 c0 t1
  generalize ((w2.setCell ⟨q, 0, none⟩ (.string (wd s 1))).setCell ⟨q, 10, none⟩ (.string (wd s 8))).drew = w3 at P3 ⊢
  have dw := P3.out.1 2 (by rw [H9.out]; omega)
  go_wp2_with fail
  refine (rnumeral (wd s 2) w3 (by have := WS.out 2; unfold maxLen; omega)).mono ?_
  rintro e w4 ⟨hA, hg⟩
  obtain ⟨fr, b2, rfl, vb2, hN2⟩ := numA_cases hA
  have Q3 := Lib.hid (P3.out.gr hg)
  have HN2 := Lib.hid hN2
  have vl2 := vb2.1
  have vh2 := vb2.2
  clear P3 dw hA hg hN2 vb2
  have cq := Q3.out.cell (i := 1) rfl
  have fq := Q3.out.frozen 1
  have P4 : Hid (PS w (w4.setCell ⟨q, 1, none⟩ (.int .i64 fr)) g q s #[.string (wd s 1), .int .i64 fr, .int .i64 0, .int .i64 0, .int .i64 0, .int .i64 0, .int .i64 0, .int .i64 0, .int .i64 0, .int .i64 0, .string (wd s 8)]) := Q3.out.set 1 _
  have dw := P4.out.1 3 (by rw [H9.out]; omega)
  go_wp2_with fail
  clear cq fq Q3
  generalize (w4.setCell ⟨q, 1, none⟩ (.int .i64 fr)) = x4 at P4 dw ⊢
  go_wp2_with fail
  refine (rnumeral (wd s 3) x4 (by have := WS.out 3; unfold maxLen; omega)).mono ?_
  rintro e w5 ⟨hA, hg⟩
  obtain ⟨tt, b3, rfl, vb3, hN3⟩ := numA_cases hA
  have Q4 := Lib.hid (P4.out.gr hg)
  have HN3 := Lib.hid hN3
  have vl3 := vb3.1
  have vh3 := vb3.2
  clear P4 dw hA hg hN3 vb3
  have cq := Q4.out.cell (i := 2) rfl
  have fq := Q4.out.frozen 2
  have P5 : Hid (PS w (w5.setCell ⟨q, 2, none⟩ (.int .i64 tt)) g q s #[.string (wd s 1), .int .i64 fr, .int .i64 tt, .int .i64 0, .int .i64 0, .int .i64 0, .int .i64 0, .int .i64 0, .int .i64 0, .int .i64 0, .string (wd s 8)]) := Q4.out.set 2 _
  have dw := P5.out.1 4 (by rw [H9.out]; omega)
  go_wp2_with fail
  clear cq fq Q4
  generalize (w5.setCell ⟨q, 2, none⟩ (.int .i64 tt)) = x5 at P5 dw ⊢
  go_wp2_with fail
  refine (rnumeral (wd s 4) x5 (by have := WS.out 4; unfold maxLen; omega)).mono ?_
  rintro e w6 ⟨hA, hg⟩
  obtain ⟨mo, b4, rfl, vb4, hN4⟩ := numA_cases hA
  have Q5 := Lib.hid (P5.out.gr hg)
  have HN4 := Lib.hid hN4
  have vl4 := vb4.1
  have vh4 := vb4.2
  clear P5 dw hA hg hN4 vb4
  have cq := Q5.out.cell (i := 3) rfl
  have fq := Q5.out.frozen 3
  have P6 : Hid (PS w (w6.setCell ⟨q, 3, none⟩ (.int .i64 mo)) g q s #[.string (wd s 1), .int .i64 fr, .int .i64 tt, .int .i64 mo, .int .i64 0, .int .i64 0, .int .i64 0, .int .i64 0, .int .i64 0, .int .i64 0, .string (wd s 8)]) := Q5.out.set 3 _
  have dw := P6.out.1 5 (by rw [H9.out]; omega)
  go_wp2_with fail
  clear cq fq Q5
  generalize (w6.setCell ⟨q, 3, none⟩ (.int .i64 mo)) = x6 at P6 dw ⊢
  refine (rdayRead (wd s 5) x6).mono ?_
  rintro e y1 ⟨hA, hg⟩
  obtain ⟨k, d, n, c5, rfl, hD⟩ := dayA_cases hA
  have Q9 := Lib.hid (P6.out.gr hg)
  have HD := Lib.hid hD
  clear P6 dw hA hg hD
  have cq4 := Q9.out.cell (i := 4) rfl
  have cq5 := Q9.out.cell (i := 5) rfl
  have cq6 := Q9.out.cell (i := 6) rfl
  have fq4 := Q9.out.frozen 4
  have fq5 := Q9.out.frozen 5
  have fq6 := Q9.out.frozen 6
  have PD : Hid (PS w (((y1.setCell ⟨q, 4, none⟩ (.int .i64 k)).setCell ⟨q, 5, none⟩ (.int .i64 d)).setCell ⟨q, 6, none⟩ (.int .i64 n)) g q s #[.string (wd s 1), .int .i64 fr, .int .i64 tt, .int .i64 mo, .int .i64 k, .int .i64 d, .int .i64 n, .int .i64 0, .int .i64 0, .int .i64 0, .string (wd s 8)]) := ((Q9.out.set 4 _).set 5 _).set 6 _
  have dw := PD.out.1 6 (by rw [H9.out]; omega)
  go_wp2_with fail
  clear cq4 cq5 cq6 fq4 fq5 fq6 Q9
  generalize (((y1.setCell ⟨q, 4, none⟩ (.int .i64 k)).setCell ⟨q, 5, none⟩ (.int .i64 d)).setCell ⟨q, 6, none⟩ (.int .i64 n)) = y2 at PD dw ⊢
  have sz6 := WS.out 6
  have SS0 : ∀ W, Calls Tryz.prog 37 #[.string (wd s 6), .string ⟨#[115]⟩] W fun e w' => e = .returned (.bool (Lib.hasSuffix (wd s 6).data.toList [115])) ∧ W = w' := fun W => (Tryz.strings_HasSuffix (wd s 6) ⟨#[115]⟩ W (by omega)).mono fun _ _ ⟨he, hw⟩ => ⟨he, hw.symm⟩
  have SU0 : ∀ W, Calls Tryz.prog 37 #[.string (wd s 6), .string ⟨#[117]⟩] W fun e w' => e = .returned (.bool (Lib.hasSuffix (wd s 6).data.toList [117])) ∧ W = w' := fun W => (Tryz.strings_HasSuffix (wd s 6) ⟨#[117]⟩ W (by omega)).mono fun _ _ ⟨he, hw⟩ => ⟨he, hw.symm⟩
  have cq8 := PD.out.cell (i := 8) rfl
  have fq8 := PD.out.frozen 8
  clear dw
  cases hsb : Lib.hasSuffix (wd s 6).data.toList [115] with
  | true =>
    rw [suffix_excl hsb] at SU0
    rw [hsb] at SS0
    have AW := Lib.hid (atWord1 hsb)
    have sp := suffix_size hsb
    have SS := Lib.hid SS0
    have SU := Lib.hid SU0
    clear hsb SS0 SU0
    refine (SS.out y2).mono ?_
    rintro e y3 ⟨rfl, rfl⟩
    go_wp2_with fail
    have PB : Hid (PS w (y2.setCell ⟨q, 8, none⟩ (.int .i64 1)) g q s #[.string (wd s 1), .int .i64 fr, .int .i64 tt, .int .i64 mo, .int .i64 k, .int .i64 d, .int .i64 n, .int .i64 0, .int .i64 1, .int .i64 0, .string (wd s 8)]) := PD.out.set 8 _
    have cb := PB.out.cell (i := 8) rfl
    clear cq8 fq8 PD
    generalize (y2.setCell ⟨q, 8, none⟩ (.int .i64 1)) = y4 at PB cb ⊢
    refine (SU.out y4).mono ?_
    rintro e y5 ⟨rfl, rfl⟩
    have s1 : (0 : Int) ≤ ((wd s 6).size : Int) - 1 := by omega
    have s2 : ((wd s 6).size : Int) - 1 ≤ ((wd s 6).size : Int) := by omega
    have s3 : (((wd s 6).size : Int) - 1).toNat = (wd s 6).size - 1 := by omega
    go_wp2_with fail
    have AZ : ((wd s 6).extract 0 ((wd s 6).size - 1)).size ≤ 1048576 := by rw [ByteArray.size_extract]; omega
    clear s1 s2 s3 cb
    refine (rspanRead ((wd s 6).extract 0 ((wd s 6).size - 1)) mx y4 AZ (PB.out.2.2.2.1.holds HM.out)).mono ?_
    rintro e z1 ⟨hA, hg⟩
    obtain ⟨av, c6, rfl, ab, hS⟩ := spanA_cases hA
    have Z1 := Lib.hid (PB.out.gr hg)
    have HA := Lib.hid hS
    have av1 := ab.1
    have av2 := ab.2
    clear PB hA hg hS ab
    have cq7 := Z1.out.cell (i := 7) rfl
    have fq7 := Z1.out.frozen 7
    have Z2 : Hid (PS w (z1.setCell ⟨q, 7, none⟩ (.int .i64 av)) g q s #[.string (wd s 1), .int .i64 fr, .int .i64 tt, .int .i64 mo, .int .i64 k, .int .i64 d, .int .i64 n, .int .i64 av, .int .i64 1, .int .i64 0, .string (wd s 8)]) := Z1.out.set 7 _
    have dw := Z2.out.1 7 (by rw [H9.out]; omega)
    go_wp2_with fail
    clear cq7 fq7 Z1
    generalize (z1.setCell ⟨q, 7, none⟩ (.int .i64 av)) = z2 at Z2 dw ⊢
    refine (rspanRead (wd s 7) mx z2 (WS.out 7) (Z2.out.2.2.2.1.holds HM.out)).mono ?_
    rintro e z3 ⟨hA, hg⟩
    obtain ⟨sv, c7, rfl, sb, hS⟩ := spanA_cases hA
    have Z3 := Lib.hid (Z2.out.gr hg)
    have HV := Lib.hid hS
    have sv1 := sb.1
    have sv2 := sb.2
    clear Z2 dw hA hg hS sb
    have cq9 := Z3.out.cell (i := 9) rfl
    have fq9 := Z3.out.frozen 9
    have Z4 : Hid (PS w (z3.setCell ⟨q, 9, none⟩ (.int .i64 sv)) g q s #[.string (wd s 1), .int .i64 fr, .int .i64 tt, .int .i64 mo, .int .i64 k, .int .i64 d, .int .i64 n, .int .i64 av, .int .i64 1, .int .i64 sv, .string (wd s 8)]) := Z3.out.set 9 _
    have e0 := Z4.out.cell (i := 0) rfl
    have p0 := Z4.out.pcell (i := 0) rfl
    have pf0 := Z4.out.pfrozen 0
    have e1 := Z4.out.cell (i := 1) rfl
    have p1 := Z4.out.pcell (i := 1) rfl
    have pf1 := Z4.out.pfrozen 1
    have e2 := Z4.out.cell (i := 2) rfl
    have p2 := Z4.out.pcell (i := 2) rfl
    have pf2 := Z4.out.pfrozen 2
    have e3 := Z4.out.cell (i := 3) rfl
    have p3 := Z4.out.pcell (i := 3) rfl
    have pf3 := Z4.out.pfrozen 3
    have e4 := Z4.out.cell (i := 4) rfl
    have p4 := Z4.out.pcell (i := 4) rfl
    have pf4 := Z4.out.pfrozen 4
    have e5 := Z4.out.cell (i := 5) rfl
    have p5 := Z4.out.pcell (i := 5) rfl
    have pf5 := Z4.out.pfrozen 5
    have e6 := Z4.out.cell (i := 6) rfl
    have p6 := Z4.out.pcell (i := 6) rfl
    have pf6 := Z4.out.pfrozen 6
    have e7 := Z4.out.cell (i := 7) rfl
    have p7 := Z4.out.pcell (i := 7) rfl
    have pf7 := Z4.out.pfrozen 7
    have e8 := Z4.out.cell (i := 8) rfl
    have p8 := Z4.out.pcell (i := 8) rfl
    have pf8 := Z4.out.pfrozen 8
    have e9 := Z4.out.cell (i := 9) rfl
    have p9 := Z4.out.pcell (i := 9) rfl
    have pf9 := Z4.out.pfrozen 9
    have e10 := Z4.out.cell (i := 10) rfl
    have p10 := Z4.out.pcell (i := 10) rfl
    have pf10 := Z4.out.pfrozen 10
    rcases HN2.out with ⟨rfl, i2⟩ | ⟨rfl, n2⟩
    case inr =>
      have NG : Hid (¬ Good s.toList) := fun hG => by obtain ⟨nm', lt', fr', tt', mo', k', d', n', at', sv', hcc, enm, elt, j2, j3, j4, j5, j6, j7⟩ := good_parts hG AW.out; exact n2 ⟨_, j2⟩
      clear n2 HN2 HN3 HN4 HD HA HV
      go_wp2_with fail
      have E := store11 Z4.out.2.2.1 (.string ⟨#[]⟩) (.int .i64 0) (.int .i64 0) (.int .i64 0) (.int .i64 0) (.int .i64 0) (.int .i64 0) (.int .i64 0) (.int .i64 0) (.int .i64 0) (.string ⟨#[]⟩)
      have G := Lib.hid (store11_below (B := w.heap.size) (a := w) (p := w.heap.size) Z4.out.2.2.2.1 (Nat.le_refl _) (.string ⟨#[]⟩) (.int .i64 0) (.int .i64 0) (.int .i64 0) (.int .i64 0) (.int .i64 0) (.int .i64 0) (.int .i64 0) (.int .i64 0) (.int .i64 0) (.string ⟨#[]⟩))
      generalize ((((((((((((z3.setCell ⟨q, 9, none⟩ (.int .i64 sv)).setCell ⟨w.heap.size, 0, none⟩ (.string ⟨#[]⟩)).setCell ⟨w.heap.size, 1, none⟩ (.int .i64 0)).setCell ⟨w.heap.size, 2, none⟩ (.int .i64 0)).setCell ⟨w.heap.size, 3, none⟩ (.int .i64 0)).setCell ⟨w.heap.size, 4, none⟩ (.int .i64 0)).setCell ⟨w.heap.size, 5, none⟩ (.int .i64 0)).setCell ⟨w.heap.size, 6, none⟩ (.int .i64 0)).setCell ⟨w.heap.size, 7, none⟩ (.int .i64 0)).setCell ⟨w.heap.size, 8, none⟩ (.int .i64 0)).setCell ⟨w.heap.size, 9, none⟩ (.int .i64 0)).setCell ⟨w.heap.size, 10, none⟩ (.string ⟨#[]⟩)) = F at E G ⊢
      have y0 : F.cell? ⟨w.heap.size, 0, none⟩ = some (.string ⟨#[]⟩) := by simp [World.cell?, E]
      have y1 : F.cell? ⟨w.heap.size, 1, none⟩ = some (.int .i64 0) := by simp [World.cell?, E]
      have y2 : F.cell? ⟨w.heap.size, 2, none⟩ = some (.int .i64 0) := by simp [World.cell?, E]
      have y3 : F.cell? ⟨w.heap.size, 3, none⟩ = some (.int .i64 0) := by simp [World.cell?, E]
      have y4 : F.cell? ⟨w.heap.size, 4, none⟩ = some (.int .i64 0) := by simp [World.cell?, E]
      have y5 : F.cell? ⟨w.heap.size, 5, none⟩ = some (.int .i64 0) := by simp [World.cell?, E]
      have y6 : F.cell? ⟨w.heap.size, 6, none⟩ = some (.int .i64 0) := by simp [World.cell?, E]
      have y7 : F.cell? ⟨w.heap.size, 7, none⟩ = some (.int .i64 0) := by simp [World.cell?, E]
      have y8 : F.cell? ⟨w.heap.size, 8, none⟩ = some (.int .i64 0) := by simp [World.cell?, E]
      have y9 : F.cell? ⟨w.heap.size, 9, none⟩ = some (.int .i64 0) := by simp [World.cell?, E]
      have y10 : F.cell? ⟨w.heap.size, 10, none⟩ = some (.string ⟨#[]⟩) := by simp [World.cell?, E]
      exact bodyPost_ret (v := .tuple #[ruleV ⟨#[]⟩ 0 0 0 0 0 0 0 0 0 ⟨#[]⟩, .int .i64 3]) (by simp [results, Tryz.results11, go_sem, y0, y1, y2, y3, y4, y5, y6, y7, y8, y9, y10]) rfl ⟨Or.inr ⟨NG.out, rfl⟩, G.out⟩
    have Ii2 := Lib.hid i2
    clear i2
    rcases HN3.out with ⟨rfl, i3⟩ | ⟨rfl, n3⟩
    case inr =>
      have NG : Hid (¬ Good s.toList) := fun hG => by obtain ⟨nm', lt', fr', tt', mo', k', d', n', at', sv', hcc, enm, elt, j2, j3, j4, j5, j6, j7⟩ := good_parts hG AW.out; exact n3 ⟨_, j3⟩
      clear n3 HN2 HN3 HN4 HD HA HV
      go_wp2_with fail
      have E := store11 Z4.out.2.2.1 (.string ⟨#[]⟩) (.int .i64 0) (.int .i64 0) (.int .i64 0) (.int .i64 0) (.int .i64 0) (.int .i64 0) (.int .i64 0) (.int .i64 0) (.int .i64 0) (.string ⟨#[]⟩)
      have G := Lib.hid (store11_below (B := w.heap.size) (a := w) (p := w.heap.size) Z4.out.2.2.2.1 (Nat.le_refl _) (.string ⟨#[]⟩) (.int .i64 0) (.int .i64 0) (.int .i64 0) (.int .i64 0) (.int .i64 0) (.int .i64 0) (.int .i64 0) (.int .i64 0) (.int .i64 0) (.string ⟨#[]⟩))
      generalize ((((((((((((z3.setCell ⟨q, 9, none⟩ (.int .i64 sv)).setCell ⟨w.heap.size, 0, none⟩ (.string ⟨#[]⟩)).setCell ⟨w.heap.size, 1, none⟩ (.int .i64 0)).setCell ⟨w.heap.size, 2, none⟩ (.int .i64 0)).setCell ⟨w.heap.size, 3, none⟩ (.int .i64 0)).setCell ⟨w.heap.size, 4, none⟩ (.int .i64 0)).setCell ⟨w.heap.size, 5, none⟩ (.int .i64 0)).setCell ⟨w.heap.size, 6, none⟩ (.int .i64 0)).setCell ⟨w.heap.size, 7, none⟩ (.int .i64 0)).setCell ⟨w.heap.size, 8, none⟩ (.int .i64 0)).setCell ⟨w.heap.size, 9, none⟩ (.int .i64 0)).setCell ⟨w.heap.size, 10, none⟩ (.string ⟨#[]⟩)) = F at E G ⊢
      have y0 : F.cell? ⟨w.heap.size, 0, none⟩ = some (.string ⟨#[]⟩) := by simp [World.cell?, E]
      have y1 : F.cell? ⟨w.heap.size, 1, none⟩ = some (.int .i64 0) := by simp [World.cell?, E]
      have y2 : F.cell? ⟨w.heap.size, 2, none⟩ = some (.int .i64 0) := by simp [World.cell?, E]
      have y3 : F.cell? ⟨w.heap.size, 3, none⟩ = some (.int .i64 0) := by simp [World.cell?, E]
      have y4 : F.cell? ⟨w.heap.size, 4, none⟩ = some (.int .i64 0) := by simp [World.cell?, E]
      have y5 : F.cell? ⟨w.heap.size, 5, none⟩ = some (.int .i64 0) := by simp [World.cell?, E]
      have y6 : F.cell? ⟨w.heap.size, 6, none⟩ = some (.int .i64 0) := by simp [World.cell?, E]
      have y7 : F.cell? ⟨w.heap.size, 7, none⟩ = some (.int .i64 0) := by simp [World.cell?, E]
      have y8 : F.cell? ⟨w.heap.size, 8, none⟩ = some (.int .i64 0) := by simp [World.cell?, E]
      have y9 : F.cell? ⟨w.heap.size, 9, none⟩ = some (.int .i64 0) := by simp [World.cell?, E]
      have y10 : F.cell? ⟨w.heap.size, 10, none⟩ = some (.string ⟨#[]⟩) := by simp [World.cell?, E]
      exact bodyPost_ret (v := .tuple #[ruleV ⟨#[]⟩ 0 0 0 0 0 0 0 0 0 ⟨#[]⟩, .int .i64 3]) (by simp [results, Tryz.results11, go_sem, y0, y1, y2, y3, y4, y5, y6, y7, y8, y9, y10]) rfl ⟨Or.inr ⟨NG.out, rfl⟩, G.out⟩
    have Ii3 := Lib.hid i3
    clear i3
    rcases HN4.out with ⟨rfl, i4⟩ | ⟨rfl, n4⟩
    case inr =>
      have NG : Hid (¬ Good s.toList) := fun hG => by obtain ⟨nm', lt', fr', tt', mo', k', d', n', at', sv', hcc, enm, elt, j2, j3, j4, j5, j6, j7⟩ := good_parts hG AW.out; exact n4 ⟨_, j4⟩
      clear n4 HN2 HN3 HN4 HD HA HV
      go_wp2_with fail
      have E := store11 Z4.out.2.2.1 (.string ⟨#[]⟩) (.int .i64 0) (.int .i64 0) (.int .i64 0) (.int .i64 0) (.int .i64 0) (.int .i64 0) (.int .i64 0) (.int .i64 0) (.int .i64 0) (.string ⟨#[]⟩)
      have G := Lib.hid (store11_below (B := w.heap.size) (a := w) (p := w.heap.size) Z4.out.2.2.2.1 (Nat.le_refl _) (.string ⟨#[]⟩) (.int .i64 0) (.int .i64 0) (.int .i64 0) (.int .i64 0) (.int .i64 0) (.int .i64 0) (.int .i64 0) (.int .i64 0) (.int .i64 0) (.string ⟨#[]⟩))
      generalize ((((((((((((z3.setCell ⟨q, 9, none⟩ (.int .i64 sv)).setCell ⟨w.heap.size, 0, none⟩ (.string ⟨#[]⟩)).setCell ⟨w.heap.size, 1, none⟩ (.int .i64 0)).setCell ⟨w.heap.size, 2, none⟩ (.int .i64 0)).setCell ⟨w.heap.size, 3, none⟩ (.int .i64 0)).setCell ⟨w.heap.size, 4, none⟩ (.int .i64 0)).setCell ⟨w.heap.size, 5, none⟩ (.int .i64 0)).setCell ⟨w.heap.size, 6, none⟩ (.int .i64 0)).setCell ⟨w.heap.size, 7, none⟩ (.int .i64 0)).setCell ⟨w.heap.size, 8, none⟩ (.int .i64 0)).setCell ⟨w.heap.size, 9, none⟩ (.int .i64 0)).setCell ⟨w.heap.size, 10, none⟩ (.string ⟨#[]⟩)) = F at E G ⊢
      have y0 : F.cell? ⟨w.heap.size, 0, none⟩ = some (.string ⟨#[]⟩) := by simp [World.cell?, E]
      have y1 : F.cell? ⟨w.heap.size, 1, none⟩ = some (.int .i64 0) := by simp [World.cell?, E]
      have y2 : F.cell? ⟨w.heap.size, 2, none⟩ = some (.int .i64 0) := by simp [World.cell?, E]
      have y3 : F.cell? ⟨w.heap.size, 3, none⟩ = some (.int .i64 0) := by simp [World.cell?, E]
      have y4 : F.cell? ⟨w.heap.size, 4, none⟩ = some (.int .i64 0) := by simp [World.cell?, E]
      have y5 : F.cell? ⟨w.heap.size, 5, none⟩ = some (.int .i64 0) := by simp [World.cell?, E]
      have y6 : F.cell? ⟨w.heap.size, 6, none⟩ = some (.int .i64 0) := by simp [World.cell?, E]
      have y7 : F.cell? ⟨w.heap.size, 7, none⟩ = some (.int .i64 0) := by simp [World.cell?, E]
      have y8 : F.cell? ⟨w.heap.size, 8, none⟩ = some (.int .i64 0) := by simp [World.cell?, E]
      have y9 : F.cell? ⟨w.heap.size, 9, none⟩ = some (.int .i64 0) := by simp [World.cell?, E]
      have y10 : F.cell? ⟨w.heap.size, 10, none⟩ = some (.string ⟨#[]⟩) := by simp [World.cell?, E]
      exact bodyPost_ret (v := .tuple #[ruleV ⟨#[]⟩ 0 0 0 0 0 0 0 0 0 ⟨#[]⟩, .int .i64 3]) (by simp [results, Tryz.results11, go_sem, y0, y1, y2, y3, y4, y5, y6, y7, y8, y9, y10]) rfl ⟨Or.inr ⟨NG.out, rfl⟩, G.out⟩
    have Ii4 := Lib.hid i4
    clear i4
    rcases HD.out with ⟨rfl, i5⟩ | ⟨rfl, n5⟩
    case inr =>
      have NG : Hid (¬ Good s.toList) := fun hG => by obtain ⟨nm', lt', fr', tt', mo', k', d', n', at', sv', hcc, enm, elt, j2, j3, j4, j5, j6, j7⟩ := good_parts hG AW.out; exact n5 ⟨_, _, _, j5⟩
      clear n5 HN2 HN3 HN4 HD HA HV
      go_wp2_with fail
      have E := store11 Z4.out.2.2.1 (.string ⟨#[]⟩) (.int .i64 0) (.int .i64 0) (.int .i64 0) (.int .i64 0) (.int .i64 0) (.int .i64 0) (.int .i64 0) (.int .i64 0) (.int .i64 0) (.string ⟨#[]⟩)
      have G := Lib.hid (store11_below (B := w.heap.size) (a := w) (p := w.heap.size) Z4.out.2.2.2.1 (Nat.le_refl _) (.string ⟨#[]⟩) (.int .i64 0) (.int .i64 0) (.int .i64 0) (.int .i64 0) (.int .i64 0) (.int .i64 0) (.int .i64 0) (.int .i64 0) (.int .i64 0) (.string ⟨#[]⟩))
      generalize ((((((((((((z3.setCell ⟨q, 9, none⟩ (.int .i64 sv)).setCell ⟨w.heap.size, 0, none⟩ (.string ⟨#[]⟩)).setCell ⟨w.heap.size, 1, none⟩ (.int .i64 0)).setCell ⟨w.heap.size, 2, none⟩ (.int .i64 0)).setCell ⟨w.heap.size, 3, none⟩ (.int .i64 0)).setCell ⟨w.heap.size, 4, none⟩ (.int .i64 0)).setCell ⟨w.heap.size, 5, none⟩ (.int .i64 0)).setCell ⟨w.heap.size, 6, none⟩ (.int .i64 0)).setCell ⟨w.heap.size, 7, none⟩ (.int .i64 0)).setCell ⟨w.heap.size, 8, none⟩ (.int .i64 0)).setCell ⟨w.heap.size, 9, none⟩ (.int .i64 0)).setCell ⟨w.heap.size, 10, none⟩ (.string ⟨#[]⟩)) = F at E G ⊢
      have y0 : F.cell? ⟨w.heap.size, 0, none⟩ = some (.string ⟨#[]⟩) := by simp [World.cell?, E]
      have y1 : F.cell? ⟨w.heap.size, 1, none⟩ = some (.int .i64 0) := by simp [World.cell?, E]
      have y2 : F.cell? ⟨w.heap.size, 2, none⟩ = some (.int .i64 0) := by simp [World.cell?, E]
      have y3 : F.cell? ⟨w.heap.size, 3, none⟩ = some (.int .i64 0) := by simp [World.cell?, E]
      have y4 : F.cell? ⟨w.heap.size, 4, none⟩ = some (.int .i64 0) := by simp [World.cell?, E]
      have y5 : F.cell? ⟨w.heap.size, 5, none⟩ = some (.int .i64 0) := by simp [World.cell?, E]
      have y6 : F.cell? ⟨w.heap.size, 6, none⟩ = some (.int .i64 0) := by simp [World.cell?, E]
      have y7 : F.cell? ⟨w.heap.size, 7, none⟩ = some (.int .i64 0) := by simp [World.cell?, E]
      have y8 : F.cell? ⟨w.heap.size, 8, none⟩ = some (.int .i64 0) := by simp [World.cell?, E]
      have y9 : F.cell? ⟨w.heap.size, 9, none⟩ = some (.int .i64 0) := by simp [World.cell?, E]
      have y10 : F.cell? ⟨w.heap.size, 10, none⟩ = some (.string ⟨#[]⟩) := by simp [World.cell?, E]
      exact bodyPost_ret (v := .tuple #[ruleV ⟨#[]⟩ 0 0 0 0 0 0 0 0 0 ⟨#[]⟩, .int .i64 3]) (by simp [results, Tryz.results11, go_sem, y0, y1, y2, y3, y4, y5, y6, y7, y8, y9, y10]) rfl ⟨Or.inr ⟨NG.out, rfl⟩, G.out⟩
    have Ii5 := Lib.hid i5
    clear i5
    rcases HA.out with ⟨rfl, i6⟩ | ⟨rfl, n6⟩
    case inr =>
      have NG : Hid (¬ Good s.toList) := fun hG => by obtain ⟨nm', lt', fr', tt', mo', k', d', n', at', sv', hcc, enm, elt, j2, j3, j4, j5, j6, j7⟩ := good_parts hG AW.out; exact n6 ⟨_, j6⟩
      clear n6 HN2 HN3 HN4 HD HA HV
      go_wp2_with fail
      have E := store11 Z4.out.2.2.1 (.string ⟨#[]⟩) (.int .i64 0) (.int .i64 0) (.int .i64 0) (.int .i64 0) (.int .i64 0) (.int .i64 0) (.int .i64 0) (.int .i64 0) (.int .i64 0) (.string ⟨#[]⟩)
      have G := Lib.hid (store11_below (B := w.heap.size) (a := w) (p := w.heap.size) Z4.out.2.2.2.1 (Nat.le_refl _) (.string ⟨#[]⟩) (.int .i64 0) (.int .i64 0) (.int .i64 0) (.int .i64 0) (.int .i64 0) (.int .i64 0) (.int .i64 0) (.int .i64 0) (.int .i64 0) (.string ⟨#[]⟩))
      generalize ((((((((((((z3.setCell ⟨q, 9, none⟩ (.int .i64 sv)).setCell ⟨w.heap.size, 0, none⟩ (.string ⟨#[]⟩)).setCell ⟨w.heap.size, 1, none⟩ (.int .i64 0)).setCell ⟨w.heap.size, 2, none⟩ (.int .i64 0)).setCell ⟨w.heap.size, 3, none⟩ (.int .i64 0)).setCell ⟨w.heap.size, 4, none⟩ (.int .i64 0)).setCell ⟨w.heap.size, 5, none⟩ (.int .i64 0)).setCell ⟨w.heap.size, 6, none⟩ (.int .i64 0)).setCell ⟨w.heap.size, 7, none⟩ (.int .i64 0)).setCell ⟨w.heap.size, 8, none⟩ (.int .i64 0)).setCell ⟨w.heap.size, 9, none⟩ (.int .i64 0)).setCell ⟨w.heap.size, 10, none⟩ (.string ⟨#[]⟩)) = F at E G ⊢
      have y0 : F.cell? ⟨w.heap.size, 0, none⟩ = some (.string ⟨#[]⟩) := by simp [World.cell?, E]
      have y1 : F.cell? ⟨w.heap.size, 1, none⟩ = some (.int .i64 0) := by simp [World.cell?, E]
      have y2 : F.cell? ⟨w.heap.size, 2, none⟩ = some (.int .i64 0) := by simp [World.cell?, E]
      have y3 : F.cell? ⟨w.heap.size, 3, none⟩ = some (.int .i64 0) := by simp [World.cell?, E]
      have y4 : F.cell? ⟨w.heap.size, 4, none⟩ = some (.int .i64 0) := by simp [World.cell?, E]
      have y5 : F.cell? ⟨w.heap.size, 5, none⟩ = some (.int .i64 0) := by simp [World.cell?, E]
      have y6 : F.cell? ⟨w.heap.size, 6, none⟩ = some (.int .i64 0) := by simp [World.cell?, E]
      have y7 : F.cell? ⟨w.heap.size, 7, none⟩ = some (.int .i64 0) := by simp [World.cell?, E]
      have y8 : F.cell? ⟨w.heap.size, 8, none⟩ = some (.int .i64 0) := by simp [World.cell?, E]
      have y9 : F.cell? ⟨w.heap.size, 9, none⟩ = some (.int .i64 0) := by simp [World.cell?, E]
      have y10 : F.cell? ⟨w.heap.size, 10, none⟩ = some (.string ⟨#[]⟩) := by simp [World.cell?, E]
      exact bodyPost_ret (v := .tuple #[ruleV ⟨#[]⟩ 0 0 0 0 0 0 0 0 0 ⟨#[]⟩, .int .i64 3]) (by simp [results, Tryz.results11, go_sem, y0, y1, y2, y3, y4, y5, y6, y7, y8, y9, y10]) rfl ⟨Or.inr ⟨NG.out, rfl⟩, G.out⟩
    have Ii6 := Lib.hid i6
    clear i6
    rcases HV.out with ⟨rfl, i7⟩ | ⟨rfl, n7⟩
    case inr =>
      have NG : Hid (¬ Good s.toList) := fun hG => by obtain ⟨nm', lt', fr', tt', mo', k', d', n', at', sv', hcc, enm, elt, j2, j3, j4, j5, j6, j7⟩ := good_parts hG AW.out; exact n7 ⟨_, j7⟩
      clear n7 HN2 HN3 HN4 HD HA HV
      go_wp2_with fail
      have E := store11 Z4.out.2.2.1 (.string ⟨#[]⟩) (.int .i64 0) (.int .i64 0) (.int .i64 0) (.int .i64 0) (.int .i64 0) (.int .i64 0) (.int .i64 0) (.int .i64 0) (.int .i64 0) (.string ⟨#[]⟩)
      have G := Lib.hid (store11_below (B := w.heap.size) (a := w) (p := w.heap.size) Z4.out.2.2.2.1 (Nat.le_refl _) (.string ⟨#[]⟩) (.int .i64 0) (.int .i64 0) (.int .i64 0) (.int .i64 0) (.int .i64 0) (.int .i64 0) (.int .i64 0) (.int .i64 0) (.int .i64 0) (.string ⟨#[]⟩))
      generalize ((((((((((((z3.setCell ⟨q, 9, none⟩ (.int .i64 sv)).setCell ⟨w.heap.size, 0, none⟩ (.string ⟨#[]⟩)).setCell ⟨w.heap.size, 1, none⟩ (.int .i64 0)).setCell ⟨w.heap.size, 2, none⟩ (.int .i64 0)).setCell ⟨w.heap.size, 3, none⟩ (.int .i64 0)).setCell ⟨w.heap.size, 4, none⟩ (.int .i64 0)).setCell ⟨w.heap.size, 5, none⟩ (.int .i64 0)).setCell ⟨w.heap.size, 6, none⟩ (.int .i64 0)).setCell ⟨w.heap.size, 7, none⟩ (.int .i64 0)).setCell ⟨w.heap.size, 8, none⟩ (.int .i64 0)).setCell ⟨w.heap.size, 9, none⟩ (.int .i64 0)).setCell ⟨w.heap.size, 10, none⟩ (.string ⟨#[]⟩)) = F at E G ⊢
      have y0 : F.cell? ⟨w.heap.size, 0, none⟩ = some (.string ⟨#[]⟩) := by simp [World.cell?, E]
      have y1 : F.cell? ⟨w.heap.size, 1, none⟩ = some (.int .i64 0) := by simp [World.cell?, E]
      have y2 : F.cell? ⟨w.heap.size, 2, none⟩ = some (.int .i64 0) := by simp [World.cell?, E]
      have y3 : F.cell? ⟨w.heap.size, 3, none⟩ = some (.int .i64 0) := by simp [World.cell?, E]
      have y4 : F.cell? ⟨w.heap.size, 4, none⟩ = some (.int .i64 0) := by simp [World.cell?, E]
      have y5 : F.cell? ⟨w.heap.size, 5, none⟩ = some (.int .i64 0) := by simp [World.cell?, E]
      have y6 : F.cell? ⟨w.heap.size, 6, none⟩ = some (.int .i64 0) := by simp [World.cell?, E]
      have y7 : F.cell? ⟨w.heap.size, 7, none⟩ = some (.int .i64 0) := by simp [World.cell?, E]
      have y8 : F.cell? ⟨w.heap.size, 8, none⟩ = some (.int .i64 0) := by simp [World.cell?, E]
      have y9 : F.cell? ⟨w.heap.size, 9, none⟩ = some (.int .i64 0) := by simp [World.cell?, E]
      have y10 : F.cell? ⟨w.heap.size, 10, none⟩ = some (.string ⟨#[]⟩) := by simp [World.cell?, E]
      exact bodyPost_ret (v := .tuple #[ruleV ⟨#[]⟩ 0 0 0 0 0 0 0 0 0 ⟨#[]⟩, .int .i64 3]) (by simp [results, Tryz.results11, go_sem, y0, y1, y2, y3, y4, y5, y6, y7, y8, y9, y10]) rfl ⟨Or.inr ⟨NG.out, rfl⟩, G.out⟩
    have Ii7 := Lib.hid i7
    clear i7
    go_wp2_with fail
    refine (rruleCheck (wd s 1) fr tt mo k d n av 1 sv (wd s 8) _ (by have := WS.out 1; unfold maxLen; omega) (by have := WS.out 8; unfold maxLen; omega)).mono ?_
    rintro e z5 ⟨rfl, g5⟩
    have Z5 := Lib.hid (Z4.out.gr g5)
    clear Z4 g5 cq9 fq9 e0 p0 pf0 e1 p1 pf1 e2 p2 pf2 e3 p3 pf3 e4 p4 pf4 e5 p5 pf5 e6 p6 pf6 e7 p7 pf7 e8 p8 pf8 e9 p9 pf9 e10 p10 pf10
    have e0 := Z5.out.cell (i := 0) rfl
    have p0 := Z5.out.pcell (i := 0) rfl
    have pf0 := Z5.out.pfrozen 0
    have e1 := Z5.out.cell (i := 1) rfl
    have p1 := Z5.out.pcell (i := 1) rfl
    have pf1 := Z5.out.pfrozen 1
    have e2 := Z5.out.cell (i := 2) rfl
    have p2 := Z5.out.pcell (i := 2) rfl
    have pf2 := Z5.out.pfrozen 2
    have e3 := Z5.out.cell (i := 3) rfl
    have p3 := Z5.out.pcell (i := 3) rfl
    have pf3 := Z5.out.pfrozen 3
    have e4 := Z5.out.cell (i := 4) rfl
    have p4 := Z5.out.pcell (i := 4) rfl
    have pf4 := Z5.out.pfrozen 4
    have e5 := Z5.out.cell (i := 5) rfl
    have p5 := Z5.out.pcell (i := 5) rfl
    have pf5 := Z5.out.pfrozen 5
    have e6 := Z5.out.cell (i := 6) rfl
    have p6 := Z5.out.pcell (i := 6) rfl
    have pf6 := Z5.out.pfrozen 6
    have e7 := Z5.out.cell (i := 7) rfl
    have p7 := Z5.out.pcell (i := 7) rfl
    have pf7 := Z5.out.pfrozen 7
    have e8 := Z5.out.cell (i := 8) rfl
    have p8 := Z5.out.pcell (i := 8) rfl
    have pf8 := Z5.out.pfrozen 8
    have e9 := Z5.out.cell (i := 9) rfl
    have p9 := Z5.out.pcell (i := 9) rfl
    have pf9 := Z5.out.pfrozen 9
    have e10 := Z5.out.cell (i := 10) rfl
    have p10 := Z5.out.pcell (i := 10) rfl
    have pf10 := Z5.out.pfrozen 10
    have hqp : ¬ q = w.heap.size := by have := Z5.out.2.2.2.2; omega
    by_cases cz : ruleC (wd s 1).toList (wd s 8).toList fr tt mo k d n av 1 sv = 0
    case neg =>
      have cz' := bneT cz
      have NG : Hid (¬ Good s.toList) := fun hG => by obtain ⟨nm', lt', fr', tt', mo', k', d', n', at', sv', hcc, enm, elt, j2, j3, j4, j5, j6, j7⟩ := good_parts hG AW.out; obtain rfl := isNum_one j2 Ii2.out; obtain rfl := isNum_one j3 Ii3.out; obtain rfl := isNum_one j4 Ii4.out; obtain ⟨rfl, rfl, rfl⟩ := dayL_inj j5.1 Ii5.out.1 (j5.2.trans Ii5.out.2.symm); obtain rfl := spanL_inj j6.1 Ii6.out.1 (j6.2.trans Ii6.out.2.symm); obtain rfl := spanL_inj j7.1 Ii7.out.1 (j7.2.trans Ii7.out.2.symm); subst enm elt; exact cz hcc
      clear cz
      generalize ruleC (wd s 1).toList (wd s 8).toList fr tt mo k d n av 1 sv = cc at cz' ⊢
      go_wp2_with fail
      have E := store11 Z5.out.2.2.1 (.string ⟨#[]⟩) (.int .i64 0) (.int .i64 0) (.int .i64 0) (.int .i64 0) (.int .i64 0) (.int .i64 0) (.int .i64 0) (.int .i64 0) (.int .i64 0) (.string ⟨#[]⟩)
      have G := Lib.hid (store11_below (B := w.heap.size) (a := w) (p := w.heap.size) Z5.out.2.2.2.1 (Nat.le_refl _) (.string ⟨#[]⟩) (.int .i64 0) (.int .i64 0) (.int .i64 0) (.int .i64 0) (.int .i64 0) (.int .i64 0) (.int .i64 0) (.int .i64 0) (.int .i64 0) (.string ⟨#[]⟩))
      generalize (((((((((((z5.setCell ⟨w.heap.size, 0, none⟩ (.string ⟨#[]⟩)).setCell ⟨w.heap.size, 1, none⟩ (.int .i64 0)).setCell ⟨w.heap.size, 2, none⟩ (.int .i64 0)).setCell ⟨w.heap.size, 3, none⟩ (.int .i64 0)).setCell ⟨w.heap.size, 4, none⟩ (.int .i64 0)).setCell ⟨w.heap.size, 5, none⟩ (.int .i64 0)).setCell ⟨w.heap.size, 6, none⟩ (.int .i64 0)).setCell ⟨w.heap.size, 7, none⟩ (.int .i64 0)).setCell ⟨w.heap.size, 8, none⟩ (.int .i64 0)).setCell ⟨w.heap.size, 9, none⟩ (.int .i64 0)).setCell ⟨w.heap.size, 10, none⟩ (.string ⟨#[]⟩)) = F at E G ⊢
      have y0 : F.cell? ⟨w.heap.size, 0, none⟩ = some (.string ⟨#[]⟩) := by simp [World.cell?, E]
      have y1 : F.cell? ⟨w.heap.size, 1, none⟩ = some (.int .i64 0) := by simp [World.cell?, E]
      have y2 : F.cell? ⟨w.heap.size, 2, none⟩ = some (.int .i64 0) := by simp [World.cell?, E]
      have y3 : F.cell? ⟨w.heap.size, 3, none⟩ = some (.int .i64 0) := by simp [World.cell?, E]
      have y4 : F.cell? ⟨w.heap.size, 4, none⟩ = some (.int .i64 0) := by simp [World.cell?, E]
      have y5 : F.cell? ⟨w.heap.size, 5, none⟩ = some (.int .i64 0) := by simp [World.cell?, E]
      have y6 : F.cell? ⟨w.heap.size, 6, none⟩ = some (.int .i64 0) := by simp [World.cell?, E]
      have y7 : F.cell? ⟨w.heap.size, 7, none⟩ = some (.int .i64 0) := by simp [World.cell?, E]
      have y8 : F.cell? ⟨w.heap.size, 8, none⟩ = some (.int .i64 0) := by simp [World.cell?, E]
      have y9 : F.cell? ⟨w.heap.size, 9, none⟩ = some (.int .i64 0) := by simp [World.cell?, E]
      have y10 : F.cell? ⟨w.heap.size, 10, none⟩ = some (.string ⟨#[]⟩) := by simp [World.cell?, E]
      exact bodyPost_ret (v := .tuple #[ruleV ⟨#[]⟩ 0 0 0 0 0 0 0 0 0 ⟨#[]⟩, .int .i64 3]) (by simp [results, Tryz.results11, go_sem, y0, y1, y2, y3, y4, y5, y6, y7, y8, y9, y10]) rfl ⟨Or.inr ⟨NG.out, rfl⟩, G.out⟩
    have cz' := bneF cz
    have AC : Hid (RuleReadA s.toList (ruleInt (wd s 1) fr tt mo k d n av 1 sv (wd s 8) 0)) := Or.inl ⟨(wd s 1).toList, (wd s 8).toList, fr, tt, mo, k, d, n, av, 1, sv, cz, words_text H9.out H0.out ⟨rfl, Ii2.out.2.symm, Ii3.out.2.symm, Ii4.out.2.symm, Ii5.out.2.symm, by rw [AW.out.2.1, Ii6.out.2], Ii7.out.2.symm, rfl⟩, by rw [← S_of, ← S_of]⟩
    clear cz
    generalize ruleC (wd s 1).toList (wd s 8).toList fr tt mo k d n av 1 sv = cc at cz' ⊢
    go_wp2_with fail
    have E := store11 Z5.out.2.2.1 (.string (wd s 1)) (.int .i64 fr) (.int .i64 tt) (.int .i64 mo) (.int .i64 k) (.int .i64 d) (.int .i64 n) (.int .i64 av) (.int .i64 1) (.int .i64 sv) (.string (wd s 8))
    have G := Lib.hid (store11_below (B := w.heap.size) (a := w) (p := w.heap.size) Z5.out.2.2.2.1 (Nat.le_refl _) (.string (wd s 1)) (.int .i64 fr) (.int .i64 tt) (.int .i64 mo) (.int .i64 k) (.int .i64 d) (.int .i64 n) (.int .i64 av) (.int .i64 1) (.int .i64 sv) (.string (wd s 8)))
    generalize (((((((((((z5.setCell ⟨w.heap.size, 0, none⟩ (.string (wd s 1))).setCell ⟨w.heap.size, 1, none⟩ (.int .i64 fr)).setCell ⟨w.heap.size, 2, none⟩ (.int .i64 tt)).setCell ⟨w.heap.size, 3, none⟩ (.int .i64 mo)).setCell ⟨w.heap.size, 4, none⟩ (.int .i64 k)).setCell ⟨w.heap.size, 5, none⟩ (.int .i64 d)).setCell ⟨w.heap.size, 6, none⟩ (.int .i64 n)).setCell ⟨w.heap.size, 7, none⟩ (.int .i64 av)).setCell ⟨w.heap.size, 8, none⟩ (.int .i64 1)).setCell ⟨w.heap.size, 9, none⟩ (.int .i64 sv)).setCell ⟨w.heap.size, 10, none⟩ (.string (wd s 8))) = F at E G ⊢
    have y0 : F.cell? ⟨w.heap.size, 0, none⟩ = some (.string (wd s 1)) := by simp [World.cell?, E]
    have y1 : F.cell? ⟨w.heap.size, 1, none⟩ = some (.int .i64 fr) := by simp [World.cell?, E]
    have y2 : F.cell? ⟨w.heap.size, 2, none⟩ = some (.int .i64 tt) := by simp [World.cell?, E]
    have y3 : F.cell? ⟨w.heap.size, 3, none⟩ = some (.int .i64 mo) := by simp [World.cell?, E]
    have y4 : F.cell? ⟨w.heap.size, 4, none⟩ = some (.int .i64 k) := by simp [World.cell?, E]
    have y5 : F.cell? ⟨w.heap.size, 5, none⟩ = some (.int .i64 d) := by simp [World.cell?, E]
    have y6 : F.cell? ⟨w.heap.size, 6, none⟩ = some (.int .i64 n) := by simp [World.cell?, E]
    have y7 : F.cell? ⟨w.heap.size, 7, none⟩ = some (.int .i64 av) := by simp [World.cell?, E]
    have y8 : F.cell? ⟨w.heap.size, 8, none⟩ = some (.int .i64 1) := by simp [World.cell?, E]
    have y9 : F.cell? ⟨w.heap.size, 9, none⟩ = some (.int .i64 sv) := by simp [World.cell?, E]
    have y10 : F.cell? ⟨w.heap.size, 10, none⟩ = some (.string (wd s 8)) := by simp [World.cell?, E]
    exact bodyPost_ret (v := .tuple #[ruleV (wd s 1) fr tt mo k d n av 1 sv (wd s 8), .int .i64 0]) (by simp [results, Tryz.results11, go_sem, y0, y1, y2, y3, y4, y5, y6, y7, y8, y9, y10]) rfl ⟨AC.out, G.out⟩
  | false =>
    cases hub : Lib.hasSuffix (wd s 6).data.toList [117] with
    | true =>
      rw [hub] at SU0
      rw [hsb] at SS0
      have AW := Lib.hid (atWord2 hub)
      have sp := suffix_size hub
      have SS := Lib.hid SS0
      have SU := Lib.hid SU0
      clear hsb hub SS0 SU0
      refine (SS.out y2).mono ?_
      rintro e y3 ⟨rfl, rfl⟩
      go_wp2_with fail
      skip
      refine (SU.out y2).mono ?_
      rintro e y5 ⟨rfl, rfl⟩
      have PB : Hid (PS w (y2.setCell ⟨q, 8, none⟩ (.int .i64 2)) g q s #[.string (wd s 1), .int .i64 fr, .int .i64 tt, .int .i64 mo, .int .i64 k, .int .i64 d, .int .i64 n, .int .i64 0, .int .i64 2, .int .i64 0, .string (wd s 8)]) := PD.out.set 8 _
      have cb := PB.out.cell (i := 8) rfl
      have s1 : (0 : Int) ≤ ((wd s 6).size : Int) - 1 := by omega
      have s2 : ((wd s 6).size : Int) - 1 ≤ ((wd s 6).size : Int) := by omega
      have s3 : (((wd s 6).size : Int) - 1).toNat = (wd s 6).size - 1 := by omega
      go_wp2_with fail
      clear cq8 fq8 PD
      generalize (y2.setCell ⟨q, 8, none⟩ (.int .i64 2)) = y4 at PB cb ⊢
      have AZ : ((wd s 6).extract 0 ((wd s 6).size - 1)).size ≤ 1048576 := by rw [ByteArray.size_extract]; omega
      clear s1 s2 s3 cb
      refine (rspanRead ((wd s 6).extract 0 ((wd s 6).size - 1)) mx y4 AZ (PB.out.2.2.2.1.holds HM.out)).mono ?_
      rintro e z1 ⟨hA, hg⟩
      obtain ⟨av, c6, rfl, ab, hS⟩ := spanA_cases hA
      have Z1 := Lib.hid (PB.out.gr hg)
      have HA := Lib.hid hS
      have av1 := ab.1
      have av2 := ab.2
      clear PB hA hg hS ab
      have cq7 := Z1.out.cell (i := 7) rfl
      have fq7 := Z1.out.frozen 7
      have Z2 : Hid (PS w (z1.setCell ⟨q, 7, none⟩ (.int .i64 av)) g q s #[.string (wd s 1), .int .i64 fr, .int .i64 tt, .int .i64 mo, .int .i64 k, .int .i64 d, .int .i64 n, .int .i64 av, .int .i64 2, .int .i64 0, .string (wd s 8)]) := Z1.out.set 7 _
      have dw := Z2.out.1 7 (by rw [H9.out]; omega)
      go_wp2_with fail
      clear cq7 fq7 Z1
      generalize (z1.setCell ⟨q, 7, none⟩ (.int .i64 av)) = z2 at Z2 dw ⊢
      refine (rspanRead (wd s 7) mx z2 (WS.out 7) (Z2.out.2.2.2.1.holds HM.out)).mono ?_
      rintro e z3 ⟨hA, hg⟩
      obtain ⟨sv, c7, rfl, sb, hS⟩ := spanA_cases hA
      have Z3 := Lib.hid (Z2.out.gr hg)
      have HV := Lib.hid hS
      have sv1 := sb.1
      have sv2 := sb.2
      clear Z2 dw hA hg hS sb
      have cq9 := Z3.out.cell (i := 9) rfl
      have fq9 := Z3.out.frozen 9
      have Z4 : Hid (PS w (z3.setCell ⟨q, 9, none⟩ (.int .i64 sv)) g q s #[.string (wd s 1), .int .i64 fr, .int .i64 tt, .int .i64 mo, .int .i64 k, .int .i64 d, .int .i64 n, .int .i64 av, .int .i64 2, .int .i64 sv, .string (wd s 8)]) := Z3.out.set 9 _
      have e0 := Z4.out.cell (i := 0) rfl
      have p0 := Z4.out.pcell (i := 0) rfl
      have pf0 := Z4.out.pfrozen 0
      have e1 := Z4.out.cell (i := 1) rfl
      have p1 := Z4.out.pcell (i := 1) rfl
      have pf1 := Z4.out.pfrozen 1
      have e2 := Z4.out.cell (i := 2) rfl
      have p2 := Z4.out.pcell (i := 2) rfl
      have pf2 := Z4.out.pfrozen 2
      have e3 := Z4.out.cell (i := 3) rfl
      have p3 := Z4.out.pcell (i := 3) rfl
      have pf3 := Z4.out.pfrozen 3
      have e4 := Z4.out.cell (i := 4) rfl
      have p4 := Z4.out.pcell (i := 4) rfl
      have pf4 := Z4.out.pfrozen 4
      have e5 := Z4.out.cell (i := 5) rfl
      have p5 := Z4.out.pcell (i := 5) rfl
      have pf5 := Z4.out.pfrozen 5
      have e6 := Z4.out.cell (i := 6) rfl
      have p6 := Z4.out.pcell (i := 6) rfl
      have pf6 := Z4.out.pfrozen 6
      have e7 := Z4.out.cell (i := 7) rfl
      have p7 := Z4.out.pcell (i := 7) rfl
      have pf7 := Z4.out.pfrozen 7
      have e8 := Z4.out.cell (i := 8) rfl
      have p8 := Z4.out.pcell (i := 8) rfl
      have pf8 := Z4.out.pfrozen 8
      have e9 := Z4.out.cell (i := 9) rfl
      have p9 := Z4.out.pcell (i := 9) rfl
      have pf9 := Z4.out.pfrozen 9
      have e10 := Z4.out.cell (i := 10) rfl
      have p10 := Z4.out.pcell (i := 10) rfl
      have pf10 := Z4.out.pfrozen 10
      rcases HN2.out with ⟨rfl, i2⟩ | ⟨rfl, n2⟩
      case inr =>
        have NG : Hid (¬ Good s.toList) := fun hG => by obtain ⟨nm', lt', fr', tt', mo', k', d', n', at', sv', hcc, enm, elt, j2, j3, j4, j5, j6, j7⟩ := good_parts hG AW.out; exact n2 ⟨_, j2⟩
        clear n2 HN2 HN3 HN4 HD HA HV
        go_wp2_with fail
        have E := store11 Z4.out.2.2.1 (.string ⟨#[]⟩) (.int .i64 0) (.int .i64 0) (.int .i64 0) (.int .i64 0) (.int .i64 0) (.int .i64 0) (.int .i64 0) (.int .i64 0) (.int .i64 0) (.string ⟨#[]⟩)
        have G := Lib.hid (store11_below (B := w.heap.size) (a := w) (p := w.heap.size) Z4.out.2.2.2.1 (Nat.le_refl _) (.string ⟨#[]⟩) (.int .i64 0) (.int .i64 0) (.int .i64 0) (.int .i64 0) (.int .i64 0) (.int .i64 0) (.int .i64 0) (.int .i64 0) (.int .i64 0) (.string ⟨#[]⟩))
        generalize ((((((((((((z3.setCell ⟨q, 9, none⟩ (.int .i64 sv)).setCell ⟨w.heap.size, 0, none⟩ (.string ⟨#[]⟩)).setCell ⟨w.heap.size, 1, none⟩ (.int .i64 0)).setCell ⟨w.heap.size, 2, none⟩ (.int .i64 0)).setCell ⟨w.heap.size, 3, none⟩ (.int .i64 0)).setCell ⟨w.heap.size, 4, none⟩ (.int .i64 0)).setCell ⟨w.heap.size, 5, none⟩ (.int .i64 0)).setCell ⟨w.heap.size, 6, none⟩ (.int .i64 0)).setCell ⟨w.heap.size, 7, none⟩ (.int .i64 0)).setCell ⟨w.heap.size, 8, none⟩ (.int .i64 0)).setCell ⟨w.heap.size, 9, none⟩ (.int .i64 0)).setCell ⟨w.heap.size, 10, none⟩ (.string ⟨#[]⟩)) = F at E G ⊢
        have y0 : F.cell? ⟨w.heap.size, 0, none⟩ = some (.string ⟨#[]⟩) := by simp [World.cell?, E]
        have y1 : F.cell? ⟨w.heap.size, 1, none⟩ = some (.int .i64 0) := by simp [World.cell?, E]
        have y2 : F.cell? ⟨w.heap.size, 2, none⟩ = some (.int .i64 0) := by simp [World.cell?, E]
        have y3 : F.cell? ⟨w.heap.size, 3, none⟩ = some (.int .i64 0) := by simp [World.cell?, E]
        have y4 : F.cell? ⟨w.heap.size, 4, none⟩ = some (.int .i64 0) := by simp [World.cell?, E]
        have y5 : F.cell? ⟨w.heap.size, 5, none⟩ = some (.int .i64 0) := by simp [World.cell?, E]
        have y6 : F.cell? ⟨w.heap.size, 6, none⟩ = some (.int .i64 0) := by simp [World.cell?, E]
        have y7 : F.cell? ⟨w.heap.size, 7, none⟩ = some (.int .i64 0) := by simp [World.cell?, E]
        have y8 : F.cell? ⟨w.heap.size, 8, none⟩ = some (.int .i64 0) := by simp [World.cell?, E]
        have y9 : F.cell? ⟨w.heap.size, 9, none⟩ = some (.int .i64 0) := by simp [World.cell?, E]
        have y10 : F.cell? ⟨w.heap.size, 10, none⟩ = some (.string ⟨#[]⟩) := by simp [World.cell?, E]
        exact bodyPost_ret (v := .tuple #[ruleV ⟨#[]⟩ 0 0 0 0 0 0 0 0 0 ⟨#[]⟩, .int .i64 3]) (by simp [results, Tryz.results11, go_sem, y0, y1, y2, y3, y4, y5, y6, y7, y8, y9, y10]) rfl ⟨Or.inr ⟨NG.out, rfl⟩, G.out⟩
      have Ii2 := Lib.hid i2
      clear i2
      rcases HN3.out with ⟨rfl, i3⟩ | ⟨rfl, n3⟩
      case inr =>
        have NG : Hid (¬ Good s.toList) := fun hG => by obtain ⟨nm', lt', fr', tt', mo', k', d', n', at', sv', hcc, enm, elt, j2, j3, j4, j5, j6, j7⟩ := good_parts hG AW.out; exact n3 ⟨_, j3⟩
        clear n3 HN2 HN3 HN4 HD HA HV
        go_wp2_with fail
        have E := store11 Z4.out.2.2.1 (.string ⟨#[]⟩) (.int .i64 0) (.int .i64 0) (.int .i64 0) (.int .i64 0) (.int .i64 0) (.int .i64 0) (.int .i64 0) (.int .i64 0) (.int .i64 0) (.string ⟨#[]⟩)
        have G := Lib.hid (store11_below (B := w.heap.size) (a := w) (p := w.heap.size) Z4.out.2.2.2.1 (Nat.le_refl _) (.string ⟨#[]⟩) (.int .i64 0) (.int .i64 0) (.int .i64 0) (.int .i64 0) (.int .i64 0) (.int .i64 0) (.int .i64 0) (.int .i64 0) (.int .i64 0) (.string ⟨#[]⟩))
        generalize ((((((((((((z3.setCell ⟨q, 9, none⟩ (.int .i64 sv)).setCell ⟨w.heap.size, 0, none⟩ (.string ⟨#[]⟩)).setCell ⟨w.heap.size, 1, none⟩ (.int .i64 0)).setCell ⟨w.heap.size, 2, none⟩ (.int .i64 0)).setCell ⟨w.heap.size, 3, none⟩ (.int .i64 0)).setCell ⟨w.heap.size, 4, none⟩ (.int .i64 0)).setCell ⟨w.heap.size, 5, none⟩ (.int .i64 0)).setCell ⟨w.heap.size, 6, none⟩ (.int .i64 0)).setCell ⟨w.heap.size, 7, none⟩ (.int .i64 0)).setCell ⟨w.heap.size, 8, none⟩ (.int .i64 0)).setCell ⟨w.heap.size, 9, none⟩ (.int .i64 0)).setCell ⟨w.heap.size, 10, none⟩ (.string ⟨#[]⟩)) = F at E G ⊢
        have y0 : F.cell? ⟨w.heap.size, 0, none⟩ = some (.string ⟨#[]⟩) := by simp [World.cell?, E]
        have y1 : F.cell? ⟨w.heap.size, 1, none⟩ = some (.int .i64 0) := by simp [World.cell?, E]
        have y2 : F.cell? ⟨w.heap.size, 2, none⟩ = some (.int .i64 0) := by simp [World.cell?, E]
        have y3 : F.cell? ⟨w.heap.size, 3, none⟩ = some (.int .i64 0) := by simp [World.cell?, E]
        have y4 : F.cell? ⟨w.heap.size, 4, none⟩ = some (.int .i64 0) := by simp [World.cell?, E]
        have y5 : F.cell? ⟨w.heap.size, 5, none⟩ = some (.int .i64 0) := by simp [World.cell?, E]
        have y6 : F.cell? ⟨w.heap.size, 6, none⟩ = some (.int .i64 0) := by simp [World.cell?, E]
        have y7 : F.cell? ⟨w.heap.size, 7, none⟩ = some (.int .i64 0) := by simp [World.cell?, E]
        have y8 : F.cell? ⟨w.heap.size, 8, none⟩ = some (.int .i64 0) := by simp [World.cell?, E]
        have y9 : F.cell? ⟨w.heap.size, 9, none⟩ = some (.int .i64 0) := by simp [World.cell?, E]
        have y10 : F.cell? ⟨w.heap.size, 10, none⟩ = some (.string ⟨#[]⟩) := by simp [World.cell?, E]
        exact bodyPost_ret (v := .tuple #[ruleV ⟨#[]⟩ 0 0 0 0 0 0 0 0 0 ⟨#[]⟩, .int .i64 3]) (by simp [results, Tryz.results11, go_sem, y0, y1, y2, y3, y4, y5, y6, y7, y8, y9, y10]) rfl ⟨Or.inr ⟨NG.out, rfl⟩, G.out⟩
      have Ii3 := Lib.hid i3
      clear i3
      rcases HN4.out with ⟨rfl, i4⟩ | ⟨rfl, n4⟩
      case inr =>
        have NG : Hid (¬ Good s.toList) := fun hG => by obtain ⟨nm', lt', fr', tt', mo', k', d', n', at', sv', hcc, enm, elt, j2, j3, j4, j5, j6, j7⟩ := good_parts hG AW.out; exact n4 ⟨_, j4⟩
        clear n4 HN2 HN3 HN4 HD HA HV
        go_wp2_with fail
        have E := store11 Z4.out.2.2.1 (.string ⟨#[]⟩) (.int .i64 0) (.int .i64 0) (.int .i64 0) (.int .i64 0) (.int .i64 0) (.int .i64 0) (.int .i64 0) (.int .i64 0) (.int .i64 0) (.string ⟨#[]⟩)
        have G := Lib.hid (store11_below (B := w.heap.size) (a := w) (p := w.heap.size) Z4.out.2.2.2.1 (Nat.le_refl _) (.string ⟨#[]⟩) (.int .i64 0) (.int .i64 0) (.int .i64 0) (.int .i64 0) (.int .i64 0) (.int .i64 0) (.int .i64 0) (.int .i64 0) (.int .i64 0) (.string ⟨#[]⟩))
        generalize ((((((((((((z3.setCell ⟨q, 9, none⟩ (.int .i64 sv)).setCell ⟨w.heap.size, 0, none⟩ (.string ⟨#[]⟩)).setCell ⟨w.heap.size, 1, none⟩ (.int .i64 0)).setCell ⟨w.heap.size, 2, none⟩ (.int .i64 0)).setCell ⟨w.heap.size, 3, none⟩ (.int .i64 0)).setCell ⟨w.heap.size, 4, none⟩ (.int .i64 0)).setCell ⟨w.heap.size, 5, none⟩ (.int .i64 0)).setCell ⟨w.heap.size, 6, none⟩ (.int .i64 0)).setCell ⟨w.heap.size, 7, none⟩ (.int .i64 0)).setCell ⟨w.heap.size, 8, none⟩ (.int .i64 0)).setCell ⟨w.heap.size, 9, none⟩ (.int .i64 0)).setCell ⟨w.heap.size, 10, none⟩ (.string ⟨#[]⟩)) = F at E G ⊢
        have y0 : F.cell? ⟨w.heap.size, 0, none⟩ = some (.string ⟨#[]⟩) := by simp [World.cell?, E]
        have y1 : F.cell? ⟨w.heap.size, 1, none⟩ = some (.int .i64 0) := by simp [World.cell?, E]
        have y2 : F.cell? ⟨w.heap.size, 2, none⟩ = some (.int .i64 0) := by simp [World.cell?, E]
        have y3 : F.cell? ⟨w.heap.size, 3, none⟩ = some (.int .i64 0) := by simp [World.cell?, E]
        have y4 : F.cell? ⟨w.heap.size, 4, none⟩ = some (.int .i64 0) := by simp [World.cell?, E]
        have y5 : F.cell? ⟨w.heap.size, 5, none⟩ = some (.int .i64 0) := by simp [World.cell?, E]
        have y6 : F.cell? ⟨w.heap.size, 6, none⟩ = some (.int .i64 0) := by simp [World.cell?, E]
        have y7 : F.cell? ⟨w.heap.size, 7, none⟩ = some (.int .i64 0) := by simp [World.cell?, E]
        have y8 : F.cell? ⟨w.heap.size, 8, none⟩ = some (.int .i64 0) := by simp [World.cell?, E]
        have y9 : F.cell? ⟨w.heap.size, 9, none⟩ = some (.int .i64 0) := by simp [World.cell?, E]
        have y10 : F.cell? ⟨w.heap.size, 10, none⟩ = some (.string ⟨#[]⟩) := by simp [World.cell?, E]
        exact bodyPost_ret (v := .tuple #[ruleV ⟨#[]⟩ 0 0 0 0 0 0 0 0 0 ⟨#[]⟩, .int .i64 3]) (by simp [results, Tryz.results11, go_sem, y0, y1, y2, y3, y4, y5, y6, y7, y8, y9, y10]) rfl ⟨Or.inr ⟨NG.out, rfl⟩, G.out⟩
      have Ii4 := Lib.hid i4
      clear i4
      rcases HD.out with ⟨rfl, i5⟩ | ⟨rfl, n5⟩
      case inr =>
        have NG : Hid (¬ Good s.toList) := fun hG => by obtain ⟨nm', lt', fr', tt', mo', k', d', n', at', sv', hcc, enm, elt, j2, j3, j4, j5, j6, j7⟩ := good_parts hG AW.out; exact n5 ⟨_, _, _, j5⟩
        clear n5 HN2 HN3 HN4 HD HA HV
        go_wp2_with fail
        have E := store11 Z4.out.2.2.1 (.string ⟨#[]⟩) (.int .i64 0) (.int .i64 0) (.int .i64 0) (.int .i64 0) (.int .i64 0) (.int .i64 0) (.int .i64 0) (.int .i64 0) (.int .i64 0) (.string ⟨#[]⟩)
        have G := Lib.hid (store11_below (B := w.heap.size) (a := w) (p := w.heap.size) Z4.out.2.2.2.1 (Nat.le_refl _) (.string ⟨#[]⟩) (.int .i64 0) (.int .i64 0) (.int .i64 0) (.int .i64 0) (.int .i64 0) (.int .i64 0) (.int .i64 0) (.int .i64 0) (.int .i64 0) (.string ⟨#[]⟩))
        generalize ((((((((((((z3.setCell ⟨q, 9, none⟩ (.int .i64 sv)).setCell ⟨w.heap.size, 0, none⟩ (.string ⟨#[]⟩)).setCell ⟨w.heap.size, 1, none⟩ (.int .i64 0)).setCell ⟨w.heap.size, 2, none⟩ (.int .i64 0)).setCell ⟨w.heap.size, 3, none⟩ (.int .i64 0)).setCell ⟨w.heap.size, 4, none⟩ (.int .i64 0)).setCell ⟨w.heap.size, 5, none⟩ (.int .i64 0)).setCell ⟨w.heap.size, 6, none⟩ (.int .i64 0)).setCell ⟨w.heap.size, 7, none⟩ (.int .i64 0)).setCell ⟨w.heap.size, 8, none⟩ (.int .i64 0)).setCell ⟨w.heap.size, 9, none⟩ (.int .i64 0)).setCell ⟨w.heap.size, 10, none⟩ (.string ⟨#[]⟩)) = F at E G ⊢
        have y0 : F.cell? ⟨w.heap.size, 0, none⟩ = some (.string ⟨#[]⟩) := by simp [World.cell?, E]
        have y1 : F.cell? ⟨w.heap.size, 1, none⟩ = some (.int .i64 0) := by simp [World.cell?, E]
        have y2 : F.cell? ⟨w.heap.size, 2, none⟩ = some (.int .i64 0) := by simp [World.cell?, E]
        have y3 : F.cell? ⟨w.heap.size, 3, none⟩ = some (.int .i64 0) := by simp [World.cell?, E]
        have y4 : F.cell? ⟨w.heap.size, 4, none⟩ = some (.int .i64 0) := by simp [World.cell?, E]
        have y5 : F.cell? ⟨w.heap.size, 5, none⟩ = some (.int .i64 0) := by simp [World.cell?, E]
        have y6 : F.cell? ⟨w.heap.size, 6, none⟩ = some (.int .i64 0) := by simp [World.cell?, E]
        have y7 : F.cell? ⟨w.heap.size, 7, none⟩ = some (.int .i64 0) := by simp [World.cell?, E]
        have y8 : F.cell? ⟨w.heap.size, 8, none⟩ = some (.int .i64 0) := by simp [World.cell?, E]
        have y9 : F.cell? ⟨w.heap.size, 9, none⟩ = some (.int .i64 0) := by simp [World.cell?, E]
        have y10 : F.cell? ⟨w.heap.size, 10, none⟩ = some (.string ⟨#[]⟩) := by simp [World.cell?, E]
        exact bodyPost_ret (v := .tuple #[ruleV ⟨#[]⟩ 0 0 0 0 0 0 0 0 0 ⟨#[]⟩, .int .i64 3]) (by simp [results, Tryz.results11, go_sem, y0, y1, y2, y3, y4, y5, y6, y7, y8, y9, y10]) rfl ⟨Or.inr ⟨NG.out, rfl⟩, G.out⟩
      have Ii5 := Lib.hid i5
      clear i5
      rcases HA.out with ⟨rfl, i6⟩ | ⟨rfl, n6⟩
      case inr =>
        have NG : Hid (¬ Good s.toList) := fun hG => by obtain ⟨nm', lt', fr', tt', mo', k', d', n', at', sv', hcc, enm, elt, j2, j3, j4, j5, j6, j7⟩ := good_parts hG AW.out; exact n6 ⟨_, j6⟩
        clear n6 HN2 HN3 HN4 HD HA HV
        go_wp2_with fail
        have E := store11 Z4.out.2.2.1 (.string ⟨#[]⟩) (.int .i64 0) (.int .i64 0) (.int .i64 0) (.int .i64 0) (.int .i64 0) (.int .i64 0) (.int .i64 0) (.int .i64 0) (.int .i64 0) (.string ⟨#[]⟩)
        have G := Lib.hid (store11_below (B := w.heap.size) (a := w) (p := w.heap.size) Z4.out.2.2.2.1 (Nat.le_refl _) (.string ⟨#[]⟩) (.int .i64 0) (.int .i64 0) (.int .i64 0) (.int .i64 0) (.int .i64 0) (.int .i64 0) (.int .i64 0) (.int .i64 0) (.int .i64 0) (.string ⟨#[]⟩))
        generalize ((((((((((((z3.setCell ⟨q, 9, none⟩ (.int .i64 sv)).setCell ⟨w.heap.size, 0, none⟩ (.string ⟨#[]⟩)).setCell ⟨w.heap.size, 1, none⟩ (.int .i64 0)).setCell ⟨w.heap.size, 2, none⟩ (.int .i64 0)).setCell ⟨w.heap.size, 3, none⟩ (.int .i64 0)).setCell ⟨w.heap.size, 4, none⟩ (.int .i64 0)).setCell ⟨w.heap.size, 5, none⟩ (.int .i64 0)).setCell ⟨w.heap.size, 6, none⟩ (.int .i64 0)).setCell ⟨w.heap.size, 7, none⟩ (.int .i64 0)).setCell ⟨w.heap.size, 8, none⟩ (.int .i64 0)).setCell ⟨w.heap.size, 9, none⟩ (.int .i64 0)).setCell ⟨w.heap.size, 10, none⟩ (.string ⟨#[]⟩)) = F at E G ⊢
        have y0 : F.cell? ⟨w.heap.size, 0, none⟩ = some (.string ⟨#[]⟩) := by simp [World.cell?, E]
        have y1 : F.cell? ⟨w.heap.size, 1, none⟩ = some (.int .i64 0) := by simp [World.cell?, E]
        have y2 : F.cell? ⟨w.heap.size, 2, none⟩ = some (.int .i64 0) := by simp [World.cell?, E]
        have y3 : F.cell? ⟨w.heap.size, 3, none⟩ = some (.int .i64 0) := by simp [World.cell?, E]
        have y4 : F.cell? ⟨w.heap.size, 4, none⟩ = some (.int .i64 0) := by simp [World.cell?, E]
        have y5 : F.cell? ⟨w.heap.size, 5, none⟩ = some (.int .i64 0) := by simp [World.cell?, E]
        have y6 : F.cell? ⟨w.heap.size, 6, none⟩ = some (.int .i64 0) := by simp [World.cell?, E]
        have y7 : F.cell? ⟨w.heap.size, 7, none⟩ = some (.int .i64 0) := by simp [World.cell?, E]
        have y8 : F.cell? ⟨w.heap.size, 8, none⟩ = some (.int .i64 0) := by simp [World.cell?, E]
        have y9 : F.cell? ⟨w.heap.size, 9, none⟩ = some (.int .i64 0) := by simp [World.cell?, E]
        have y10 : F.cell? ⟨w.heap.size, 10, none⟩ = some (.string ⟨#[]⟩) := by simp [World.cell?, E]
        exact bodyPost_ret (v := .tuple #[ruleV ⟨#[]⟩ 0 0 0 0 0 0 0 0 0 ⟨#[]⟩, .int .i64 3]) (by simp [results, Tryz.results11, go_sem, y0, y1, y2, y3, y4, y5, y6, y7, y8, y9, y10]) rfl ⟨Or.inr ⟨NG.out, rfl⟩, G.out⟩
      have Ii6 := Lib.hid i6
      clear i6
      rcases HV.out with ⟨rfl, i7⟩ | ⟨rfl, n7⟩
      case inr =>
        have NG : Hid (¬ Good s.toList) := fun hG => by obtain ⟨nm', lt', fr', tt', mo', k', d', n', at', sv', hcc, enm, elt, j2, j3, j4, j5, j6, j7⟩ := good_parts hG AW.out; exact n7 ⟨_, j7⟩
        clear n7 HN2 HN3 HN4 HD HA HV
        go_wp2_with fail
        have E := store11 Z4.out.2.2.1 (.string ⟨#[]⟩) (.int .i64 0) (.int .i64 0) (.int .i64 0) (.int .i64 0) (.int .i64 0) (.int .i64 0) (.int .i64 0) (.int .i64 0) (.int .i64 0) (.string ⟨#[]⟩)
        have G := Lib.hid (store11_below (B := w.heap.size) (a := w) (p := w.heap.size) Z4.out.2.2.2.1 (Nat.le_refl _) (.string ⟨#[]⟩) (.int .i64 0) (.int .i64 0) (.int .i64 0) (.int .i64 0) (.int .i64 0) (.int .i64 0) (.int .i64 0) (.int .i64 0) (.int .i64 0) (.string ⟨#[]⟩))
        generalize ((((((((((((z3.setCell ⟨q, 9, none⟩ (.int .i64 sv)).setCell ⟨w.heap.size, 0, none⟩ (.string ⟨#[]⟩)).setCell ⟨w.heap.size, 1, none⟩ (.int .i64 0)).setCell ⟨w.heap.size, 2, none⟩ (.int .i64 0)).setCell ⟨w.heap.size, 3, none⟩ (.int .i64 0)).setCell ⟨w.heap.size, 4, none⟩ (.int .i64 0)).setCell ⟨w.heap.size, 5, none⟩ (.int .i64 0)).setCell ⟨w.heap.size, 6, none⟩ (.int .i64 0)).setCell ⟨w.heap.size, 7, none⟩ (.int .i64 0)).setCell ⟨w.heap.size, 8, none⟩ (.int .i64 0)).setCell ⟨w.heap.size, 9, none⟩ (.int .i64 0)).setCell ⟨w.heap.size, 10, none⟩ (.string ⟨#[]⟩)) = F at E G ⊢
        have y0 : F.cell? ⟨w.heap.size, 0, none⟩ = some (.string ⟨#[]⟩) := by simp [World.cell?, E]
        have y1 : F.cell? ⟨w.heap.size, 1, none⟩ = some (.int .i64 0) := by simp [World.cell?, E]
        have y2 : F.cell? ⟨w.heap.size, 2, none⟩ = some (.int .i64 0) := by simp [World.cell?, E]
        have y3 : F.cell? ⟨w.heap.size, 3, none⟩ = some (.int .i64 0) := by simp [World.cell?, E]
        have y4 : F.cell? ⟨w.heap.size, 4, none⟩ = some (.int .i64 0) := by simp [World.cell?, E]
        have y5 : F.cell? ⟨w.heap.size, 5, none⟩ = some (.int .i64 0) := by simp [World.cell?, E]
        have y6 : F.cell? ⟨w.heap.size, 6, none⟩ = some (.int .i64 0) := by simp [World.cell?, E]
        have y7 : F.cell? ⟨w.heap.size, 7, none⟩ = some (.int .i64 0) := by simp [World.cell?, E]
        have y8 : F.cell? ⟨w.heap.size, 8, none⟩ = some (.int .i64 0) := by simp [World.cell?, E]
        have y9 : F.cell? ⟨w.heap.size, 9, none⟩ = some (.int .i64 0) := by simp [World.cell?, E]
        have y10 : F.cell? ⟨w.heap.size, 10, none⟩ = some (.string ⟨#[]⟩) := by simp [World.cell?, E]
        exact bodyPost_ret (v := .tuple #[ruleV ⟨#[]⟩ 0 0 0 0 0 0 0 0 0 ⟨#[]⟩, .int .i64 3]) (by simp [results, Tryz.results11, go_sem, y0, y1, y2, y3, y4, y5, y6, y7, y8, y9, y10]) rfl ⟨Or.inr ⟨NG.out, rfl⟩, G.out⟩
      have Ii7 := Lib.hid i7
      clear i7
      go_wp2_with fail
      refine (rruleCheck (wd s 1) fr tt mo k d n av 2 sv (wd s 8) _ (by have := WS.out 1; unfold maxLen; omega) (by have := WS.out 8; unfold maxLen; omega)).mono ?_
      rintro e z5 ⟨rfl, g5⟩
      have Z5 := Lib.hid (Z4.out.gr g5)
      clear Z4 g5 cq9 fq9 e0 p0 pf0 e1 p1 pf1 e2 p2 pf2 e3 p3 pf3 e4 p4 pf4 e5 p5 pf5 e6 p6 pf6 e7 p7 pf7 e8 p8 pf8 e9 p9 pf9 e10 p10 pf10
      have e0 := Z5.out.cell (i := 0) rfl
      have p0 := Z5.out.pcell (i := 0) rfl
      have pf0 := Z5.out.pfrozen 0
      have e1 := Z5.out.cell (i := 1) rfl
      have p1 := Z5.out.pcell (i := 1) rfl
      have pf1 := Z5.out.pfrozen 1
      have e2 := Z5.out.cell (i := 2) rfl
      have p2 := Z5.out.pcell (i := 2) rfl
      have pf2 := Z5.out.pfrozen 2
      have e3 := Z5.out.cell (i := 3) rfl
      have p3 := Z5.out.pcell (i := 3) rfl
      have pf3 := Z5.out.pfrozen 3
      have e4 := Z5.out.cell (i := 4) rfl
      have p4 := Z5.out.pcell (i := 4) rfl
      have pf4 := Z5.out.pfrozen 4
      have e5 := Z5.out.cell (i := 5) rfl
      have p5 := Z5.out.pcell (i := 5) rfl
      have pf5 := Z5.out.pfrozen 5
      have e6 := Z5.out.cell (i := 6) rfl
      have p6 := Z5.out.pcell (i := 6) rfl
      have pf6 := Z5.out.pfrozen 6
      have e7 := Z5.out.cell (i := 7) rfl
      have p7 := Z5.out.pcell (i := 7) rfl
      have pf7 := Z5.out.pfrozen 7
      have e8 := Z5.out.cell (i := 8) rfl
      have p8 := Z5.out.pcell (i := 8) rfl
      have pf8 := Z5.out.pfrozen 8
      have e9 := Z5.out.cell (i := 9) rfl
      have p9 := Z5.out.pcell (i := 9) rfl
      have pf9 := Z5.out.pfrozen 9
      have e10 := Z5.out.cell (i := 10) rfl
      have p10 := Z5.out.pcell (i := 10) rfl
      have pf10 := Z5.out.pfrozen 10
      have hqp : ¬ q = w.heap.size := by have := Z5.out.2.2.2.2; omega
      by_cases cz : ruleC (wd s 1).toList (wd s 8).toList fr tt mo k d n av 2 sv = 0
      case neg =>
        have cz' := bneT cz
        have NG : Hid (¬ Good s.toList) := fun hG => by obtain ⟨nm', lt', fr', tt', mo', k', d', n', at', sv', hcc, enm, elt, j2, j3, j4, j5, j6, j7⟩ := good_parts hG AW.out; obtain rfl := isNum_one j2 Ii2.out; obtain rfl := isNum_one j3 Ii3.out; obtain rfl := isNum_one j4 Ii4.out; obtain ⟨rfl, rfl, rfl⟩ := dayL_inj j5.1 Ii5.out.1 (j5.2.trans Ii5.out.2.symm); obtain rfl := spanL_inj j6.1 Ii6.out.1 (j6.2.trans Ii6.out.2.symm); obtain rfl := spanL_inj j7.1 Ii7.out.1 (j7.2.trans Ii7.out.2.symm); subst enm elt; exact cz hcc
        clear cz
        generalize ruleC (wd s 1).toList (wd s 8).toList fr tt mo k d n av 2 sv = cc at cz' ⊢
        go_wp2_with fail
        have E := store11 Z5.out.2.2.1 (.string ⟨#[]⟩) (.int .i64 0) (.int .i64 0) (.int .i64 0) (.int .i64 0) (.int .i64 0) (.int .i64 0) (.int .i64 0) (.int .i64 0) (.int .i64 0) (.string ⟨#[]⟩)
        have G := Lib.hid (store11_below (B := w.heap.size) (a := w) (p := w.heap.size) Z5.out.2.2.2.1 (Nat.le_refl _) (.string ⟨#[]⟩) (.int .i64 0) (.int .i64 0) (.int .i64 0) (.int .i64 0) (.int .i64 0) (.int .i64 0) (.int .i64 0) (.int .i64 0) (.int .i64 0) (.string ⟨#[]⟩))
        generalize (((((((((((z5.setCell ⟨w.heap.size, 0, none⟩ (.string ⟨#[]⟩)).setCell ⟨w.heap.size, 1, none⟩ (.int .i64 0)).setCell ⟨w.heap.size, 2, none⟩ (.int .i64 0)).setCell ⟨w.heap.size, 3, none⟩ (.int .i64 0)).setCell ⟨w.heap.size, 4, none⟩ (.int .i64 0)).setCell ⟨w.heap.size, 5, none⟩ (.int .i64 0)).setCell ⟨w.heap.size, 6, none⟩ (.int .i64 0)).setCell ⟨w.heap.size, 7, none⟩ (.int .i64 0)).setCell ⟨w.heap.size, 8, none⟩ (.int .i64 0)).setCell ⟨w.heap.size, 9, none⟩ (.int .i64 0)).setCell ⟨w.heap.size, 10, none⟩ (.string ⟨#[]⟩)) = F at E G ⊢
        have y0 : F.cell? ⟨w.heap.size, 0, none⟩ = some (.string ⟨#[]⟩) := by simp [World.cell?, E]
        have y1 : F.cell? ⟨w.heap.size, 1, none⟩ = some (.int .i64 0) := by simp [World.cell?, E]
        have y2 : F.cell? ⟨w.heap.size, 2, none⟩ = some (.int .i64 0) := by simp [World.cell?, E]
        have y3 : F.cell? ⟨w.heap.size, 3, none⟩ = some (.int .i64 0) := by simp [World.cell?, E]
        have y4 : F.cell? ⟨w.heap.size, 4, none⟩ = some (.int .i64 0) := by simp [World.cell?, E]
        have y5 : F.cell? ⟨w.heap.size, 5, none⟩ = some (.int .i64 0) := by simp [World.cell?, E]
        have y6 : F.cell? ⟨w.heap.size, 6, none⟩ = some (.int .i64 0) := by simp [World.cell?, E]
        have y7 : F.cell? ⟨w.heap.size, 7, none⟩ = some (.int .i64 0) := by simp [World.cell?, E]
        have y8 : F.cell? ⟨w.heap.size, 8, none⟩ = some (.int .i64 0) := by simp [World.cell?, E]
        have y9 : F.cell? ⟨w.heap.size, 9, none⟩ = some (.int .i64 0) := by simp [World.cell?, E]
        have y10 : F.cell? ⟨w.heap.size, 10, none⟩ = some (.string ⟨#[]⟩) := by simp [World.cell?, E]
        exact bodyPost_ret (v := .tuple #[ruleV ⟨#[]⟩ 0 0 0 0 0 0 0 0 0 ⟨#[]⟩, .int .i64 3]) (by simp [results, Tryz.results11, go_sem, y0, y1, y2, y3, y4, y5, y6, y7, y8, y9, y10]) rfl ⟨Or.inr ⟨NG.out, rfl⟩, G.out⟩
      have cz' := bneF cz
      have AC : Hid (RuleReadA s.toList (ruleInt (wd s 1) fr tt mo k d n av 2 sv (wd s 8) 0)) := Or.inl ⟨(wd s 1).toList, (wd s 8).toList, fr, tt, mo, k, d, n, av, 2, sv, cz, words_text H9.out H0.out ⟨rfl, Ii2.out.2.symm, Ii3.out.2.symm, Ii4.out.2.symm, Ii5.out.2.symm, by rw [AW.out.2.1, Ii6.out.2], Ii7.out.2.symm, rfl⟩, by rw [← S_of, ← S_of]⟩
      clear cz
      generalize ruleC (wd s 1).toList (wd s 8).toList fr tt mo k d n av 2 sv = cc at cz' ⊢
      go_wp2_with fail
      have E := store11 Z5.out.2.2.1 (.string (wd s 1)) (.int .i64 fr) (.int .i64 tt) (.int .i64 mo) (.int .i64 k) (.int .i64 d) (.int .i64 n) (.int .i64 av) (.int .i64 2) (.int .i64 sv) (.string (wd s 8))
      have G := Lib.hid (store11_below (B := w.heap.size) (a := w) (p := w.heap.size) Z5.out.2.2.2.1 (Nat.le_refl _) (.string (wd s 1)) (.int .i64 fr) (.int .i64 tt) (.int .i64 mo) (.int .i64 k) (.int .i64 d) (.int .i64 n) (.int .i64 av) (.int .i64 2) (.int .i64 sv) (.string (wd s 8)))
      generalize (((((((((((z5.setCell ⟨w.heap.size, 0, none⟩ (.string (wd s 1))).setCell ⟨w.heap.size, 1, none⟩ (.int .i64 fr)).setCell ⟨w.heap.size, 2, none⟩ (.int .i64 tt)).setCell ⟨w.heap.size, 3, none⟩ (.int .i64 mo)).setCell ⟨w.heap.size, 4, none⟩ (.int .i64 k)).setCell ⟨w.heap.size, 5, none⟩ (.int .i64 d)).setCell ⟨w.heap.size, 6, none⟩ (.int .i64 n)).setCell ⟨w.heap.size, 7, none⟩ (.int .i64 av)).setCell ⟨w.heap.size, 8, none⟩ (.int .i64 2)).setCell ⟨w.heap.size, 9, none⟩ (.int .i64 sv)).setCell ⟨w.heap.size, 10, none⟩ (.string (wd s 8))) = F at E G ⊢
      have y0 : F.cell? ⟨w.heap.size, 0, none⟩ = some (.string (wd s 1)) := by simp [World.cell?, E]
      have y1 : F.cell? ⟨w.heap.size, 1, none⟩ = some (.int .i64 fr) := by simp [World.cell?, E]
      have y2 : F.cell? ⟨w.heap.size, 2, none⟩ = some (.int .i64 tt) := by simp [World.cell?, E]
      have y3 : F.cell? ⟨w.heap.size, 3, none⟩ = some (.int .i64 mo) := by simp [World.cell?, E]
      have y4 : F.cell? ⟨w.heap.size, 4, none⟩ = some (.int .i64 k) := by simp [World.cell?, E]
      have y5 : F.cell? ⟨w.heap.size, 5, none⟩ = some (.int .i64 d) := by simp [World.cell?, E]
      have y6 : F.cell? ⟨w.heap.size, 6, none⟩ = some (.int .i64 n) := by simp [World.cell?, E]
      have y7 : F.cell? ⟨w.heap.size, 7, none⟩ = some (.int .i64 av) := by simp [World.cell?, E]
      have y8 : F.cell? ⟨w.heap.size, 8, none⟩ = some (.int .i64 2) := by simp [World.cell?, E]
      have y9 : F.cell? ⟨w.heap.size, 9, none⟩ = some (.int .i64 sv) := by simp [World.cell?, E]
      have y10 : F.cell? ⟨w.heap.size, 10, none⟩ = some (.string (wd s 8)) := by simp [World.cell?, E]
      exact bodyPost_ret (v := .tuple #[ruleV (wd s 1) fr tt mo k d n av 2 sv (wd s 8), .int .i64 0]) (by simp [results, Tryz.results11, go_sem, y0, y1, y2, y3, y4, y5, y6, y7, y8, y9, y10]) rfl ⟨AC.out, G.out⟩
    | false =>
      rw [hub] at SU0
      rw [hsb] at SS0
      have AW := Lib.hid (atWord0 hsb hub)
      have SS := Lib.hid SS0
      have SU := Lib.hid SU0
      clear hsb hub SS0 SU0
      refine (SS.out y2).mono ?_
      rintro e y3 ⟨rfl, rfl⟩
      go_wp2_with fail
      refine (SU.out y2).mono ?_
      rintro e y5 ⟨rfl, rfl⟩
      go_wp2_with fail
      have AZ := sz6
      refine (rspanRead (wd s 6) mx y2 AZ (PD.out.2.2.2.1.holds HM.out)).mono ?_
      rintro e z1 ⟨hA, hg⟩
      obtain ⟨av, c6, rfl, ab, hS⟩ := spanA_cases hA
      have Z1 := Lib.hid (PD.out.gr hg)
      have HA := Lib.hid hS
      have av1 := ab.1
      have av2 := ab.2
      clear PD hA hg hS ab
      have cq7 := Z1.out.cell (i := 7) rfl
      have fq7 := Z1.out.frozen 7
      have Z2 : Hid (PS w (z1.setCell ⟨q, 7, none⟩ (.int .i64 av)) g q s #[.string (wd s 1), .int .i64 fr, .int .i64 tt, .int .i64 mo, .int .i64 k, .int .i64 d, .int .i64 n, .int .i64 av, .int .i64 0, .int .i64 0, .string (wd s 8)]) := Z1.out.set 7 _
      have dw := Z2.out.1 7 (by rw [H9.out]; omega)
      go_wp2_with fail
      clear cq7 fq7 Z1
      generalize (z1.setCell ⟨q, 7, none⟩ (.int .i64 av)) = z2 at Z2 dw ⊢
      refine (rspanRead (wd s 7) mx z2 (WS.out 7) (Z2.out.2.2.2.1.holds HM.out)).mono ?_
      rintro e z3 ⟨hA, hg⟩
      obtain ⟨sv, c7, rfl, sb, hS⟩ := spanA_cases hA
      have Z3 := Lib.hid (Z2.out.gr hg)
      have HV := Lib.hid hS
      have sv1 := sb.1
      have sv2 := sb.2
      clear Z2 dw hA hg hS sb
      have cq9 := Z3.out.cell (i := 9) rfl
      have fq9 := Z3.out.frozen 9
      have Z4 : Hid (PS w (z3.setCell ⟨q, 9, none⟩ (.int .i64 sv)) g q s #[.string (wd s 1), .int .i64 fr, .int .i64 tt, .int .i64 mo, .int .i64 k, .int .i64 d, .int .i64 n, .int .i64 av, .int .i64 0, .int .i64 sv, .string (wd s 8)]) := Z3.out.set 9 _
      have e0 := Z4.out.cell (i := 0) rfl
      have p0 := Z4.out.pcell (i := 0) rfl
      have pf0 := Z4.out.pfrozen 0
      have e1 := Z4.out.cell (i := 1) rfl
      have p1 := Z4.out.pcell (i := 1) rfl
      have pf1 := Z4.out.pfrozen 1
      have e2 := Z4.out.cell (i := 2) rfl
      have p2 := Z4.out.pcell (i := 2) rfl
      have pf2 := Z4.out.pfrozen 2
      have e3 := Z4.out.cell (i := 3) rfl
      have p3 := Z4.out.pcell (i := 3) rfl
      have pf3 := Z4.out.pfrozen 3
      have e4 := Z4.out.cell (i := 4) rfl
      have p4 := Z4.out.pcell (i := 4) rfl
      have pf4 := Z4.out.pfrozen 4
      have e5 := Z4.out.cell (i := 5) rfl
      have p5 := Z4.out.pcell (i := 5) rfl
      have pf5 := Z4.out.pfrozen 5
      have e6 := Z4.out.cell (i := 6) rfl
      have p6 := Z4.out.pcell (i := 6) rfl
      have pf6 := Z4.out.pfrozen 6
      have e7 := Z4.out.cell (i := 7) rfl
      have p7 := Z4.out.pcell (i := 7) rfl
      have pf7 := Z4.out.pfrozen 7
      have e8 := Z4.out.cell (i := 8) rfl
      have p8 := Z4.out.pcell (i := 8) rfl
      have pf8 := Z4.out.pfrozen 8
      have e9 := Z4.out.cell (i := 9) rfl
      have p9 := Z4.out.pcell (i := 9) rfl
      have pf9 := Z4.out.pfrozen 9
      have e10 := Z4.out.cell (i := 10) rfl
      have p10 := Z4.out.pcell (i := 10) rfl
      have pf10 := Z4.out.pfrozen 10
      rcases HN2.out with ⟨rfl, i2⟩ | ⟨rfl, n2⟩
      case inr =>
        have NG : Hid (¬ Good s.toList) := fun hG => by obtain ⟨nm', lt', fr', tt', mo', k', d', n', at', sv', hcc, enm, elt, j2, j3, j4, j5, j6, j7⟩ := good_parts hG AW.out; exact n2 ⟨_, j2⟩
        clear n2 HN2 HN3 HN4 HD HA HV
        go_wp2_with fail
        have E := store11 Z4.out.2.2.1 (.string ⟨#[]⟩) (.int .i64 0) (.int .i64 0) (.int .i64 0) (.int .i64 0) (.int .i64 0) (.int .i64 0) (.int .i64 0) (.int .i64 0) (.int .i64 0) (.string ⟨#[]⟩)
        have G := Lib.hid (store11_below (B := w.heap.size) (a := w) (p := w.heap.size) Z4.out.2.2.2.1 (Nat.le_refl _) (.string ⟨#[]⟩) (.int .i64 0) (.int .i64 0) (.int .i64 0) (.int .i64 0) (.int .i64 0) (.int .i64 0) (.int .i64 0) (.int .i64 0) (.int .i64 0) (.string ⟨#[]⟩))
        generalize ((((((((((((z3.setCell ⟨q, 9, none⟩ (.int .i64 sv)).setCell ⟨w.heap.size, 0, none⟩ (.string ⟨#[]⟩)).setCell ⟨w.heap.size, 1, none⟩ (.int .i64 0)).setCell ⟨w.heap.size, 2, none⟩ (.int .i64 0)).setCell ⟨w.heap.size, 3, none⟩ (.int .i64 0)).setCell ⟨w.heap.size, 4, none⟩ (.int .i64 0)).setCell ⟨w.heap.size, 5, none⟩ (.int .i64 0)).setCell ⟨w.heap.size, 6, none⟩ (.int .i64 0)).setCell ⟨w.heap.size, 7, none⟩ (.int .i64 0)).setCell ⟨w.heap.size, 8, none⟩ (.int .i64 0)).setCell ⟨w.heap.size, 9, none⟩ (.int .i64 0)).setCell ⟨w.heap.size, 10, none⟩ (.string ⟨#[]⟩)) = F at E G ⊢
        have y0 : F.cell? ⟨w.heap.size, 0, none⟩ = some (.string ⟨#[]⟩) := by simp [World.cell?, E]
        have y1 : F.cell? ⟨w.heap.size, 1, none⟩ = some (.int .i64 0) := by simp [World.cell?, E]
        have y2 : F.cell? ⟨w.heap.size, 2, none⟩ = some (.int .i64 0) := by simp [World.cell?, E]
        have y3 : F.cell? ⟨w.heap.size, 3, none⟩ = some (.int .i64 0) := by simp [World.cell?, E]
        have y4 : F.cell? ⟨w.heap.size, 4, none⟩ = some (.int .i64 0) := by simp [World.cell?, E]
        have y5 : F.cell? ⟨w.heap.size, 5, none⟩ = some (.int .i64 0) := by simp [World.cell?, E]
        have y6 : F.cell? ⟨w.heap.size, 6, none⟩ = some (.int .i64 0) := by simp [World.cell?, E]
        have y7 : F.cell? ⟨w.heap.size, 7, none⟩ = some (.int .i64 0) := by simp [World.cell?, E]
        have y8 : F.cell? ⟨w.heap.size, 8, none⟩ = some (.int .i64 0) := by simp [World.cell?, E]
        have y9 : F.cell? ⟨w.heap.size, 9, none⟩ = some (.int .i64 0) := by simp [World.cell?, E]
        have y10 : F.cell? ⟨w.heap.size, 10, none⟩ = some (.string ⟨#[]⟩) := by simp [World.cell?, E]
        exact bodyPost_ret (v := .tuple #[ruleV ⟨#[]⟩ 0 0 0 0 0 0 0 0 0 ⟨#[]⟩, .int .i64 3]) (by simp [results, Tryz.results11, go_sem, y0, y1, y2, y3, y4, y5, y6, y7, y8, y9, y10]) rfl ⟨Or.inr ⟨NG.out, rfl⟩, G.out⟩
      have Ii2 := Lib.hid i2
      clear i2
      rcases HN3.out with ⟨rfl, i3⟩ | ⟨rfl, n3⟩
      case inr =>
        have NG : Hid (¬ Good s.toList) := fun hG => by obtain ⟨nm', lt', fr', tt', mo', k', d', n', at', sv', hcc, enm, elt, j2, j3, j4, j5, j6, j7⟩ := good_parts hG AW.out; exact n3 ⟨_, j3⟩
        clear n3 HN2 HN3 HN4 HD HA HV
        go_wp2_with fail
        have E := store11 Z4.out.2.2.1 (.string ⟨#[]⟩) (.int .i64 0) (.int .i64 0) (.int .i64 0) (.int .i64 0) (.int .i64 0) (.int .i64 0) (.int .i64 0) (.int .i64 0) (.int .i64 0) (.string ⟨#[]⟩)
        have G := Lib.hid (store11_below (B := w.heap.size) (a := w) (p := w.heap.size) Z4.out.2.2.2.1 (Nat.le_refl _) (.string ⟨#[]⟩) (.int .i64 0) (.int .i64 0) (.int .i64 0) (.int .i64 0) (.int .i64 0) (.int .i64 0) (.int .i64 0) (.int .i64 0) (.int .i64 0) (.string ⟨#[]⟩))
        generalize ((((((((((((z3.setCell ⟨q, 9, none⟩ (.int .i64 sv)).setCell ⟨w.heap.size, 0, none⟩ (.string ⟨#[]⟩)).setCell ⟨w.heap.size, 1, none⟩ (.int .i64 0)).setCell ⟨w.heap.size, 2, none⟩ (.int .i64 0)).setCell ⟨w.heap.size, 3, none⟩ (.int .i64 0)).setCell ⟨w.heap.size, 4, none⟩ (.int .i64 0)).setCell ⟨w.heap.size, 5, none⟩ (.int .i64 0)).setCell ⟨w.heap.size, 6, none⟩ (.int .i64 0)).setCell ⟨w.heap.size, 7, none⟩ (.int .i64 0)).setCell ⟨w.heap.size, 8, none⟩ (.int .i64 0)).setCell ⟨w.heap.size, 9, none⟩ (.int .i64 0)).setCell ⟨w.heap.size, 10, none⟩ (.string ⟨#[]⟩)) = F at E G ⊢
        have y0 : F.cell? ⟨w.heap.size, 0, none⟩ = some (.string ⟨#[]⟩) := by simp [World.cell?, E]
        have y1 : F.cell? ⟨w.heap.size, 1, none⟩ = some (.int .i64 0) := by simp [World.cell?, E]
        have y2 : F.cell? ⟨w.heap.size, 2, none⟩ = some (.int .i64 0) := by simp [World.cell?, E]
        have y3 : F.cell? ⟨w.heap.size, 3, none⟩ = some (.int .i64 0) := by simp [World.cell?, E]
        have y4 : F.cell? ⟨w.heap.size, 4, none⟩ = some (.int .i64 0) := by simp [World.cell?, E]
        have y5 : F.cell? ⟨w.heap.size, 5, none⟩ = some (.int .i64 0) := by simp [World.cell?, E]
        have y6 : F.cell? ⟨w.heap.size, 6, none⟩ = some (.int .i64 0) := by simp [World.cell?, E]
        have y7 : F.cell? ⟨w.heap.size, 7, none⟩ = some (.int .i64 0) := by simp [World.cell?, E]
        have y8 : F.cell? ⟨w.heap.size, 8, none⟩ = some (.int .i64 0) := by simp [World.cell?, E]
        have y9 : F.cell? ⟨w.heap.size, 9, none⟩ = some (.int .i64 0) := by simp [World.cell?, E]
        have y10 : F.cell? ⟨w.heap.size, 10, none⟩ = some (.string ⟨#[]⟩) := by simp [World.cell?, E]
        exact bodyPost_ret (v := .tuple #[ruleV ⟨#[]⟩ 0 0 0 0 0 0 0 0 0 ⟨#[]⟩, .int .i64 3]) (by simp [results, Tryz.results11, go_sem, y0, y1, y2, y3, y4, y5, y6, y7, y8, y9, y10]) rfl ⟨Or.inr ⟨NG.out, rfl⟩, G.out⟩
      have Ii3 := Lib.hid i3
      clear i3
      rcases HN4.out with ⟨rfl, i4⟩ | ⟨rfl, n4⟩
      case inr =>
        have NG : Hid (¬ Good s.toList) := fun hG => by obtain ⟨nm', lt', fr', tt', mo', k', d', n', at', sv', hcc, enm, elt, j2, j3, j4, j5, j6, j7⟩ := good_parts hG AW.out; exact n4 ⟨_, j4⟩
        clear n4 HN2 HN3 HN4 HD HA HV
        go_wp2_with fail
        have E := store11 Z4.out.2.2.1 (.string ⟨#[]⟩) (.int .i64 0) (.int .i64 0) (.int .i64 0) (.int .i64 0) (.int .i64 0) (.int .i64 0) (.int .i64 0) (.int .i64 0) (.int .i64 0) (.string ⟨#[]⟩)
        have G := Lib.hid (store11_below (B := w.heap.size) (a := w) (p := w.heap.size) Z4.out.2.2.2.1 (Nat.le_refl _) (.string ⟨#[]⟩) (.int .i64 0) (.int .i64 0) (.int .i64 0) (.int .i64 0) (.int .i64 0) (.int .i64 0) (.int .i64 0) (.int .i64 0) (.int .i64 0) (.string ⟨#[]⟩))
        generalize ((((((((((((z3.setCell ⟨q, 9, none⟩ (.int .i64 sv)).setCell ⟨w.heap.size, 0, none⟩ (.string ⟨#[]⟩)).setCell ⟨w.heap.size, 1, none⟩ (.int .i64 0)).setCell ⟨w.heap.size, 2, none⟩ (.int .i64 0)).setCell ⟨w.heap.size, 3, none⟩ (.int .i64 0)).setCell ⟨w.heap.size, 4, none⟩ (.int .i64 0)).setCell ⟨w.heap.size, 5, none⟩ (.int .i64 0)).setCell ⟨w.heap.size, 6, none⟩ (.int .i64 0)).setCell ⟨w.heap.size, 7, none⟩ (.int .i64 0)).setCell ⟨w.heap.size, 8, none⟩ (.int .i64 0)).setCell ⟨w.heap.size, 9, none⟩ (.int .i64 0)).setCell ⟨w.heap.size, 10, none⟩ (.string ⟨#[]⟩)) = F at E G ⊢
        have y0 : F.cell? ⟨w.heap.size, 0, none⟩ = some (.string ⟨#[]⟩) := by simp [World.cell?, E]
        have y1 : F.cell? ⟨w.heap.size, 1, none⟩ = some (.int .i64 0) := by simp [World.cell?, E]
        have y2 : F.cell? ⟨w.heap.size, 2, none⟩ = some (.int .i64 0) := by simp [World.cell?, E]
        have y3 : F.cell? ⟨w.heap.size, 3, none⟩ = some (.int .i64 0) := by simp [World.cell?, E]
        have y4 : F.cell? ⟨w.heap.size, 4, none⟩ = some (.int .i64 0) := by simp [World.cell?, E]
        have y5 : F.cell? ⟨w.heap.size, 5, none⟩ = some (.int .i64 0) := by simp [World.cell?, E]
        have y6 : F.cell? ⟨w.heap.size, 6, none⟩ = some (.int .i64 0) := by simp [World.cell?, E]
        have y7 : F.cell? ⟨w.heap.size, 7, none⟩ = some (.int .i64 0) := by simp [World.cell?, E]
        have y8 : F.cell? ⟨w.heap.size, 8, none⟩ = some (.int .i64 0) := by simp [World.cell?, E]
        have y9 : F.cell? ⟨w.heap.size, 9, none⟩ = some (.int .i64 0) := by simp [World.cell?, E]
        have y10 : F.cell? ⟨w.heap.size, 10, none⟩ = some (.string ⟨#[]⟩) := by simp [World.cell?, E]
        exact bodyPost_ret (v := .tuple #[ruleV ⟨#[]⟩ 0 0 0 0 0 0 0 0 0 ⟨#[]⟩, .int .i64 3]) (by simp [results, Tryz.results11, go_sem, y0, y1, y2, y3, y4, y5, y6, y7, y8, y9, y10]) rfl ⟨Or.inr ⟨NG.out, rfl⟩, G.out⟩
      have Ii4 := Lib.hid i4
      clear i4
      rcases HD.out with ⟨rfl, i5⟩ | ⟨rfl, n5⟩
      case inr =>
        have NG : Hid (¬ Good s.toList) := fun hG => by obtain ⟨nm', lt', fr', tt', mo', k', d', n', at', sv', hcc, enm, elt, j2, j3, j4, j5, j6, j7⟩ := good_parts hG AW.out; exact n5 ⟨_, _, _, j5⟩
        clear n5 HN2 HN3 HN4 HD HA HV
        go_wp2_with fail
        have E := store11 Z4.out.2.2.1 (.string ⟨#[]⟩) (.int .i64 0) (.int .i64 0) (.int .i64 0) (.int .i64 0) (.int .i64 0) (.int .i64 0) (.int .i64 0) (.int .i64 0) (.int .i64 0) (.string ⟨#[]⟩)
        have G := Lib.hid (store11_below (B := w.heap.size) (a := w) (p := w.heap.size) Z4.out.2.2.2.1 (Nat.le_refl _) (.string ⟨#[]⟩) (.int .i64 0) (.int .i64 0) (.int .i64 0) (.int .i64 0) (.int .i64 0) (.int .i64 0) (.int .i64 0) (.int .i64 0) (.int .i64 0) (.string ⟨#[]⟩))
        generalize ((((((((((((z3.setCell ⟨q, 9, none⟩ (.int .i64 sv)).setCell ⟨w.heap.size, 0, none⟩ (.string ⟨#[]⟩)).setCell ⟨w.heap.size, 1, none⟩ (.int .i64 0)).setCell ⟨w.heap.size, 2, none⟩ (.int .i64 0)).setCell ⟨w.heap.size, 3, none⟩ (.int .i64 0)).setCell ⟨w.heap.size, 4, none⟩ (.int .i64 0)).setCell ⟨w.heap.size, 5, none⟩ (.int .i64 0)).setCell ⟨w.heap.size, 6, none⟩ (.int .i64 0)).setCell ⟨w.heap.size, 7, none⟩ (.int .i64 0)).setCell ⟨w.heap.size, 8, none⟩ (.int .i64 0)).setCell ⟨w.heap.size, 9, none⟩ (.int .i64 0)).setCell ⟨w.heap.size, 10, none⟩ (.string ⟨#[]⟩)) = F at E G ⊢
        have y0 : F.cell? ⟨w.heap.size, 0, none⟩ = some (.string ⟨#[]⟩) := by simp [World.cell?, E]
        have y1 : F.cell? ⟨w.heap.size, 1, none⟩ = some (.int .i64 0) := by simp [World.cell?, E]
        have y2 : F.cell? ⟨w.heap.size, 2, none⟩ = some (.int .i64 0) := by simp [World.cell?, E]
        have y3 : F.cell? ⟨w.heap.size, 3, none⟩ = some (.int .i64 0) := by simp [World.cell?, E]
        have y4 : F.cell? ⟨w.heap.size, 4, none⟩ = some (.int .i64 0) := by simp [World.cell?, E]
        have y5 : F.cell? ⟨w.heap.size, 5, none⟩ = some (.int .i64 0) := by simp [World.cell?, E]
        have y6 : F.cell? ⟨w.heap.size, 6, none⟩ = some (.int .i64 0) := by simp [World.cell?, E]
        have y7 : F.cell? ⟨w.heap.size, 7, none⟩ = some (.int .i64 0) := by simp [World.cell?, E]
        have y8 : F.cell? ⟨w.heap.size, 8, none⟩ = some (.int .i64 0) := by simp [World.cell?, E]
        have y9 : F.cell? ⟨w.heap.size, 9, none⟩ = some (.int .i64 0) := by simp [World.cell?, E]
        have y10 : F.cell? ⟨w.heap.size, 10, none⟩ = some (.string ⟨#[]⟩) := by simp [World.cell?, E]
        exact bodyPost_ret (v := .tuple #[ruleV ⟨#[]⟩ 0 0 0 0 0 0 0 0 0 ⟨#[]⟩, .int .i64 3]) (by simp [results, Tryz.results11, go_sem, y0, y1, y2, y3, y4, y5, y6, y7, y8, y9, y10]) rfl ⟨Or.inr ⟨NG.out, rfl⟩, G.out⟩
      have Ii5 := Lib.hid i5
      clear i5
      rcases HA.out with ⟨rfl, i6⟩ | ⟨rfl, n6⟩
      case inr =>
        have NG : Hid (¬ Good s.toList) := fun hG => by obtain ⟨nm', lt', fr', tt', mo', k', d', n', at', sv', hcc, enm, elt, j2, j3, j4, j5, j6, j7⟩ := good_parts hG AW.out; exact n6 ⟨_, j6⟩
        clear n6 HN2 HN3 HN4 HD HA HV
        go_wp2_with fail
        have E := store11 Z4.out.2.2.1 (.string ⟨#[]⟩) (.int .i64 0) (.int .i64 0) (.int .i64 0) (.int .i64 0) (.int .i64 0) (.int .i64 0) (.int .i64 0) (.int .i64 0) (.int .i64 0) (.string ⟨#[]⟩)
        have G := Lib.hid (store11_below (B := w.heap.size) (a := w) (p := w.heap.size) Z4.out.2.2.2.1 (Nat.le_refl _) (.string ⟨#[]⟩) (.int .i64 0) (.int .i64 0) (.int .i64 0) (.int .i64 0) (.int .i64 0) (.int .i64 0) (.int .i64 0) (.int .i64 0) (.int .i64 0) (.string ⟨#[]⟩))
        generalize ((((((((((((z3.setCell ⟨q, 9, none⟩ (.int .i64 sv)).setCell ⟨w.heap.size, 0, none⟩ (.string ⟨#[]⟩)).setCell ⟨w.heap.size, 1, none⟩ (.int .i64 0)).setCell ⟨w.heap.size, 2, none⟩ (.int .i64 0)).setCell ⟨w.heap.size, 3, none⟩ (.int .i64 0)).setCell ⟨w.heap.size, 4, none⟩ (.int .i64 0)).setCell ⟨w.heap.size, 5, none⟩ (.int .i64 0)).setCell ⟨w.heap.size, 6, none⟩ (.int .i64 0)).setCell ⟨w.heap.size, 7, none⟩ (.int .i64 0)).setCell ⟨w.heap.size, 8, none⟩ (.int .i64 0)).setCell ⟨w.heap.size, 9, none⟩ (.int .i64 0)).setCell ⟨w.heap.size, 10, none⟩ (.string ⟨#[]⟩)) = F at E G ⊢
        have y0 : F.cell? ⟨w.heap.size, 0, none⟩ = some (.string ⟨#[]⟩) := by simp [World.cell?, E]
        have y1 : F.cell? ⟨w.heap.size, 1, none⟩ = some (.int .i64 0) := by simp [World.cell?, E]
        have y2 : F.cell? ⟨w.heap.size, 2, none⟩ = some (.int .i64 0) := by simp [World.cell?, E]
        have y3 : F.cell? ⟨w.heap.size, 3, none⟩ = some (.int .i64 0) := by simp [World.cell?, E]
        have y4 : F.cell? ⟨w.heap.size, 4, none⟩ = some (.int .i64 0) := by simp [World.cell?, E]
        have y5 : F.cell? ⟨w.heap.size, 5, none⟩ = some (.int .i64 0) := by simp [World.cell?, E]
        have y6 : F.cell? ⟨w.heap.size, 6, none⟩ = some (.int .i64 0) := by simp [World.cell?, E]
        have y7 : F.cell? ⟨w.heap.size, 7, none⟩ = some (.int .i64 0) := by simp [World.cell?, E]
        have y8 : F.cell? ⟨w.heap.size, 8, none⟩ = some (.int .i64 0) := by simp [World.cell?, E]
        have y9 : F.cell? ⟨w.heap.size, 9, none⟩ = some (.int .i64 0) := by simp [World.cell?, E]
        have y10 : F.cell? ⟨w.heap.size, 10, none⟩ = some (.string ⟨#[]⟩) := by simp [World.cell?, E]
        exact bodyPost_ret (v := .tuple #[ruleV ⟨#[]⟩ 0 0 0 0 0 0 0 0 0 ⟨#[]⟩, .int .i64 3]) (by simp [results, Tryz.results11, go_sem, y0, y1, y2, y3, y4, y5, y6, y7, y8, y9, y10]) rfl ⟨Or.inr ⟨NG.out, rfl⟩, G.out⟩
      have Ii6 := Lib.hid i6
      clear i6
      rcases HV.out with ⟨rfl, i7⟩ | ⟨rfl, n7⟩
      case inr =>
        have NG : Hid (¬ Good s.toList) := fun hG => by obtain ⟨nm', lt', fr', tt', mo', k', d', n', at', sv', hcc, enm, elt, j2, j3, j4, j5, j6, j7⟩ := good_parts hG AW.out; exact n7 ⟨_, j7⟩
        clear n7 HN2 HN3 HN4 HD HA HV
        go_wp2_with fail
        have E := store11 Z4.out.2.2.1 (.string ⟨#[]⟩) (.int .i64 0) (.int .i64 0) (.int .i64 0) (.int .i64 0) (.int .i64 0) (.int .i64 0) (.int .i64 0) (.int .i64 0) (.int .i64 0) (.string ⟨#[]⟩)
        have G := Lib.hid (store11_below (B := w.heap.size) (a := w) (p := w.heap.size) Z4.out.2.2.2.1 (Nat.le_refl _) (.string ⟨#[]⟩) (.int .i64 0) (.int .i64 0) (.int .i64 0) (.int .i64 0) (.int .i64 0) (.int .i64 0) (.int .i64 0) (.int .i64 0) (.int .i64 0) (.string ⟨#[]⟩))
        generalize ((((((((((((z3.setCell ⟨q, 9, none⟩ (.int .i64 sv)).setCell ⟨w.heap.size, 0, none⟩ (.string ⟨#[]⟩)).setCell ⟨w.heap.size, 1, none⟩ (.int .i64 0)).setCell ⟨w.heap.size, 2, none⟩ (.int .i64 0)).setCell ⟨w.heap.size, 3, none⟩ (.int .i64 0)).setCell ⟨w.heap.size, 4, none⟩ (.int .i64 0)).setCell ⟨w.heap.size, 5, none⟩ (.int .i64 0)).setCell ⟨w.heap.size, 6, none⟩ (.int .i64 0)).setCell ⟨w.heap.size, 7, none⟩ (.int .i64 0)).setCell ⟨w.heap.size, 8, none⟩ (.int .i64 0)).setCell ⟨w.heap.size, 9, none⟩ (.int .i64 0)).setCell ⟨w.heap.size, 10, none⟩ (.string ⟨#[]⟩)) = F at E G ⊢
        have y0 : F.cell? ⟨w.heap.size, 0, none⟩ = some (.string ⟨#[]⟩) := by simp [World.cell?, E]
        have y1 : F.cell? ⟨w.heap.size, 1, none⟩ = some (.int .i64 0) := by simp [World.cell?, E]
        have y2 : F.cell? ⟨w.heap.size, 2, none⟩ = some (.int .i64 0) := by simp [World.cell?, E]
        have y3 : F.cell? ⟨w.heap.size, 3, none⟩ = some (.int .i64 0) := by simp [World.cell?, E]
        have y4 : F.cell? ⟨w.heap.size, 4, none⟩ = some (.int .i64 0) := by simp [World.cell?, E]
        have y5 : F.cell? ⟨w.heap.size, 5, none⟩ = some (.int .i64 0) := by simp [World.cell?, E]
        have y6 : F.cell? ⟨w.heap.size, 6, none⟩ = some (.int .i64 0) := by simp [World.cell?, E]
        have y7 : F.cell? ⟨w.heap.size, 7, none⟩ = some (.int .i64 0) := by simp [World.cell?, E]
        have y8 : F.cell? ⟨w.heap.size, 8, none⟩ = some (.int .i64 0) := by simp [World.cell?, E]
        have y9 : F.cell? ⟨w.heap.size, 9, none⟩ = some (.int .i64 0) := by simp [World.cell?, E]
        have y10 : F.cell? ⟨w.heap.size, 10, none⟩ = some (.string ⟨#[]⟩) := by simp [World.cell?, E]
        exact bodyPost_ret (v := .tuple #[ruleV ⟨#[]⟩ 0 0 0 0 0 0 0 0 0 ⟨#[]⟩, .int .i64 3]) (by simp [results, Tryz.results11, go_sem, y0, y1, y2, y3, y4, y5, y6, y7, y8, y9, y10]) rfl ⟨Or.inr ⟨NG.out, rfl⟩, G.out⟩
      have Ii7 := Lib.hid i7
      clear i7
      go_wp2_with fail
      refine (rruleCheck (wd s 1) fr tt mo k d n av 0 sv (wd s 8) _ (by have := WS.out 1; unfold maxLen; omega) (by have := WS.out 8; unfold maxLen; omega)).mono ?_
      rintro e z5 ⟨rfl, g5⟩
      have Z5 := Lib.hid (Z4.out.gr g5)
      clear Z4 g5 cq9 fq9 e0 p0 pf0 e1 p1 pf1 e2 p2 pf2 e3 p3 pf3 e4 p4 pf4 e5 p5 pf5 e6 p6 pf6 e7 p7 pf7 e8 p8 pf8 e9 p9 pf9 e10 p10 pf10
      have e0 := Z5.out.cell (i := 0) rfl
      have p0 := Z5.out.pcell (i := 0) rfl
      have pf0 := Z5.out.pfrozen 0
      have e1 := Z5.out.cell (i := 1) rfl
      have p1 := Z5.out.pcell (i := 1) rfl
      have pf1 := Z5.out.pfrozen 1
      have e2 := Z5.out.cell (i := 2) rfl
      have p2 := Z5.out.pcell (i := 2) rfl
      have pf2 := Z5.out.pfrozen 2
      have e3 := Z5.out.cell (i := 3) rfl
      have p3 := Z5.out.pcell (i := 3) rfl
      have pf3 := Z5.out.pfrozen 3
      have e4 := Z5.out.cell (i := 4) rfl
      have p4 := Z5.out.pcell (i := 4) rfl
      have pf4 := Z5.out.pfrozen 4
      have e5 := Z5.out.cell (i := 5) rfl
      have p5 := Z5.out.pcell (i := 5) rfl
      have pf5 := Z5.out.pfrozen 5
      have e6 := Z5.out.cell (i := 6) rfl
      have p6 := Z5.out.pcell (i := 6) rfl
      have pf6 := Z5.out.pfrozen 6
      have e7 := Z5.out.cell (i := 7) rfl
      have p7 := Z5.out.pcell (i := 7) rfl
      have pf7 := Z5.out.pfrozen 7
      have e8 := Z5.out.cell (i := 8) rfl
      have p8 := Z5.out.pcell (i := 8) rfl
      have pf8 := Z5.out.pfrozen 8
      have e9 := Z5.out.cell (i := 9) rfl
      have p9 := Z5.out.pcell (i := 9) rfl
      have pf9 := Z5.out.pfrozen 9
      have e10 := Z5.out.cell (i := 10) rfl
      have p10 := Z5.out.pcell (i := 10) rfl
      have pf10 := Z5.out.pfrozen 10
      have hqp : ¬ q = w.heap.size := by have := Z5.out.2.2.2.2; omega
      by_cases cz : ruleC (wd s 1).toList (wd s 8).toList fr tt mo k d n av 0 sv = 0
      case neg =>
        have cz' := bneT cz
        have NG : Hid (¬ Good s.toList) := fun hG => by obtain ⟨nm', lt', fr', tt', mo', k', d', n', at', sv', hcc, enm, elt, j2, j3, j4, j5, j6, j7⟩ := good_parts hG AW.out; obtain rfl := isNum_one j2 Ii2.out; obtain rfl := isNum_one j3 Ii3.out; obtain rfl := isNum_one j4 Ii4.out; obtain ⟨rfl, rfl, rfl⟩ := dayL_inj j5.1 Ii5.out.1 (j5.2.trans Ii5.out.2.symm); obtain rfl := spanL_inj j6.1 Ii6.out.1 (j6.2.trans Ii6.out.2.symm); obtain rfl := spanL_inj j7.1 Ii7.out.1 (j7.2.trans Ii7.out.2.symm); subst enm elt; exact cz hcc
        clear cz
        generalize ruleC (wd s 1).toList (wd s 8).toList fr tt mo k d n av 0 sv = cc at cz' ⊢
        go_wp2_with fail
        have E := store11 Z5.out.2.2.1 (.string ⟨#[]⟩) (.int .i64 0) (.int .i64 0) (.int .i64 0) (.int .i64 0) (.int .i64 0) (.int .i64 0) (.int .i64 0) (.int .i64 0) (.int .i64 0) (.string ⟨#[]⟩)
        have G := Lib.hid (store11_below (B := w.heap.size) (a := w) (p := w.heap.size) Z5.out.2.2.2.1 (Nat.le_refl _) (.string ⟨#[]⟩) (.int .i64 0) (.int .i64 0) (.int .i64 0) (.int .i64 0) (.int .i64 0) (.int .i64 0) (.int .i64 0) (.int .i64 0) (.int .i64 0) (.string ⟨#[]⟩))
        generalize (((((((((((z5.setCell ⟨w.heap.size, 0, none⟩ (.string ⟨#[]⟩)).setCell ⟨w.heap.size, 1, none⟩ (.int .i64 0)).setCell ⟨w.heap.size, 2, none⟩ (.int .i64 0)).setCell ⟨w.heap.size, 3, none⟩ (.int .i64 0)).setCell ⟨w.heap.size, 4, none⟩ (.int .i64 0)).setCell ⟨w.heap.size, 5, none⟩ (.int .i64 0)).setCell ⟨w.heap.size, 6, none⟩ (.int .i64 0)).setCell ⟨w.heap.size, 7, none⟩ (.int .i64 0)).setCell ⟨w.heap.size, 8, none⟩ (.int .i64 0)).setCell ⟨w.heap.size, 9, none⟩ (.int .i64 0)).setCell ⟨w.heap.size, 10, none⟩ (.string ⟨#[]⟩)) = F at E G ⊢
        have y0 : F.cell? ⟨w.heap.size, 0, none⟩ = some (.string ⟨#[]⟩) := by simp [World.cell?, E]
        have y1 : F.cell? ⟨w.heap.size, 1, none⟩ = some (.int .i64 0) := by simp [World.cell?, E]
        have y2 : F.cell? ⟨w.heap.size, 2, none⟩ = some (.int .i64 0) := by simp [World.cell?, E]
        have y3 : F.cell? ⟨w.heap.size, 3, none⟩ = some (.int .i64 0) := by simp [World.cell?, E]
        have y4 : F.cell? ⟨w.heap.size, 4, none⟩ = some (.int .i64 0) := by simp [World.cell?, E]
        have y5 : F.cell? ⟨w.heap.size, 5, none⟩ = some (.int .i64 0) := by simp [World.cell?, E]
        have y6 : F.cell? ⟨w.heap.size, 6, none⟩ = some (.int .i64 0) := by simp [World.cell?, E]
        have y7 : F.cell? ⟨w.heap.size, 7, none⟩ = some (.int .i64 0) := by simp [World.cell?, E]
        have y8 : F.cell? ⟨w.heap.size, 8, none⟩ = some (.int .i64 0) := by simp [World.cell?, E]
        have y9 : F.cell? ⟨w.heap.size, 9, none⟩ = some (.int .i64 0) := by simp [World.cell?, E]
        have y10 : F.cell? ⟨w.heap.size, 10, none⟩ = some (.string ⟨#[]⟩) := by simp [World.cell?, E]
        exact bodyPost_ret (v := .tuple #[ruleV ⟨#[]⟩ 0 0 0 0 0 0 0 0 0 ⟨#[]⟩, .int .i64 3]) (by simp [results, Tryz.results11, go_sem, y0, y1, y2, y3, y4, y5, y6, y7, y8, y9, y10]) rfl ⟨Or.inr ⟨NG.out, rfl⟩, G.out⟩
      have cz' := bneF cz
      have AC : Hid (RuleReadA s.toList (ruleInt (wd s 1) fr tt mo k d n av 0 sv (wd s 8) 0)) := Or.inl ⟨(wd s 1).toList, (wd s 8).toList, fr, tt, mo, k, d, n, av, 0, sv, cz, words_text H9.out H0.out ⟨rfl, Ii2.out.2.symm, Ii3.out.2.symm, Ii4.out.2.symm, Ii5.out.2.symm, by rw [AW.out.2.1, Ii6.out.2], Ii7.out.2.symm, rfl⟩, by rw [← S_of, ← S_of]⟩
      clear cz
      generalize ruleC (wd s 1).toList (wd s 8).toList fr tt mo k d n av 0 sv = cc at cz' ⊢
      go_wp2_with fail
      have E := store11 Z5.out.2.2.1 (.string (wd s 1)) (.int .i64 fr) (.int .i64 tt) (.int .i64 mo) (.int .i64 k) (.int .i64 d) (.int .i64 n) (.int .i64 av) (.int .i64 0) (.int .i64 sv) (.string (wd s 8))
      have G := Lib.hid (store11_below (B := w.heap.size) (a := w) (p := w.heap.size) Z5.out.2.2.2.1 (Nat.le_refl _) (.string (wd s 1)) (.int .i64 fr) (.int .i64 tt) (.int .i64 mo) (.int .i64 k) (.int .i64 d) (.int .i64 n) (.int .i64 av) (.int .i64 0) (.int .i64 sv) (.string (wd s 8)))
      generalize (((((((((((z5.setCell ⟨w.heap.size, 0, none⟩ (.string (wd s 1))).setCell ⟨w.heap.size, 1, none⟩ (.int .i64 fr)).setCell ⟨w.heap.size, 2, none⟩ (.int .i64 tt)).setCell ⟨w.heap.size, 3, none⟩ (.int .i64 mo)).setCell ⟨w.heap.size, 4, none⟩ (.int .i64 k)).setCell ⟨w.heap.size, 5, none⟩ (.int .i64 d)).setCell ⟨w.heap.size, 6, none⟩ (.int .i64 n)).setCell ⟨w.heap.size, 7, none⟩ (.int .i64 av)).setCell ⟨w.heap.size, 8, none⟩ (.int .i64 0)).setCell ⟨w.heap.size, 9, none⟩ (.int .i64 sv)).setCell ⟨w.heap.size, 10, none⟩ (.string (wd s 8))) = F at E G ⊢
      have y0 : F.cell? ⟨w.heap.size, 0, none⟩ = some (.string (wd s 1)) := by simp [World.cell?, E]
      have y1 : F.cell? ⟨w.heap.size, 1, none⟩ = some (.int .i64 fr) := by simp [World.cell?, E]
      have y2 : F.cell? ⟨w.heap.size, 2, none⟩ = some (.int .i64 tt) := by simp [World.cell?, E]
      have y3 : F.cell? ⟨w.heap.size, 3, none⟩ = some (.int .i64 mo) := by simp [World.cell?, E]
      have y4 : F.cell? ⟨w.heap.size, 4, none⟩ = some (.int .i64 k) := by simp [World.cell?, E]
      have y5 : F.cell? ⟨w.heap.size, 5, none⟩ = some (.int .i64 d) := by simp [World.cell?, E]
      have y6 : F.cell? ⟨w.heap.size, 6, none⟩ = some (.int .i64 n) := by simp [World.cell?, E]
      have y7 : F.cell? ⟨w.heap.size, 7, none⟩ = some (.int .i64 av) := by simp [World.cell?, E]
      have y8 : F.cell? ⟨w.heap.size, 8, none⟩ = some (.int .i64 0) := by simp [World.cell?, E]
      have y9 : F.cell? ⟨w.heap.size, 9, none⟩ = some (.int .i64 sv) := by simp [World.cell?, E]
      have y10 : F.cell? ⟨w.heap.size, 10, none⟩ = some (.string (wd s 8)) := by simp [World.cell?, E]
      exact bodyPost_ret (v := .tuple #[ruleV (wd s 1) fr tt mo k d n av 0 sv (wd s 8), .int .i64 0]) (by simp [results, Tryz.results11, go_sem, y0, y1, y2, y3, y4, y5, y6, y7, y8, y9, y10]) rfl ⟨AC.out, G.out⟩
end Go.Proofs.YtkkilmmpmiichaaGreatDoor
