/- The law StateBounds of package timeballkeep returns true for every input and leaves its arguments as they were: The offset of a type is that of an era of the zone and the saving, and it is daylight saving time just if something is saved. Condition: the listed variables (math/bits.deBruijn32tab, math/bits.deBruijn64tab, internal/strconv.uint64pow10, timeball/civil.lengths, unicode/utf8.acceptRanges, unicode/utf8.first) lie as their initialisers lay them; the card ties that tto the program's text. -/
import Derived.Test.YtbagdlafpahgdaaGreatDoorCards
import Derived.Test.YtbagdlafpahgdaaGreatDoorTie
import Derived.Test.YtbagdlafpahgdaaGreatDoorRM32
import Derived.Test.YtbagdlafpahgdaaGreatDoorRM50
import Derived.Test.YtbagdlafpahgdaaGreatDoorRM30
namespace Go.Proofs.YtbagdlafpahgdaaGreatDoor.stateBounds
open Go.ChangeShapes Go.WideShapes Go.ChangeAt Go.RowKit
open Go.ChangeMaps (open_string shut_string)
set_option linter.unusedVariables false
set_option linter.unusedSimpArgs false
set_option maxRecDepth 100000 in
set_option maxHeartbeats 40000000 in
theorem walk (b : BokD) (nm : ByteArray) (hn : nm.size ≤ maxLen) (t : Int) (hf1 : -9223372036854775808 ≤ t) (hf2 : t ≤ 9223372036854775807) (w : World) (hb : b.At w) (ht : BkTab w) :
    Calls Tryz.prog 4 #[bookV b, .string nm, .int .i64 t] w fun e w' => e = .returned (.bool true) ∧ Gr w w' := by
  have KS := Lib.hid (fun W (g : Gr w W) => pstated W (g.bk ht))
  have KR := Lib.hid (fun W (g : Gr w W) => presolve b nm W (hb.gr g) hn (g.bk ht))
  have KP := Lib.hid (fun W (g : Gr w W) => pAt b nm t W (hb.gr g) hn hf1 hf2 (g.bk ht))
  obtain ⟨Ar, cr, rs, Az, cz, zs, Al, cl, ls⟩ := b
  simp only at KR KP
  have HRS : Hid (RusAt w Ar cr rs) := hb.1
  have B0 := Lib.hid (box_one w (.cells #[.slice Ar rs.length cr, .slice Az zs.length cz, .slice Al ls.length cl] 26))
  clear hb ht hn hf1 hf2
  go_enter Tryz.func4, Tryz.ntmps4
  go_wp2_with fail
  generalize w.alloc (.cells #[.slice Ar rs.length cr, .slice Az zs.length cz, .slice Al ls.length cl] 26) = w1 at B0 ⊢
  generalize w.heap.size = q at B0 ⊢
  refine (KS.out w1 B0.out.1).mono ?_
  rintro e w2 ⟨rfl, g2⟩
  have G2 := Lib.hid (B0.out.1.trans g2)
  have HQ2 := Lib.hid (bheap_gr g2 B0.out.2)
  clear g2 B0 KS
  have x0 : w2.cell? ⟨q, 0, none⟩ = some (.slice Ar rs.length cr) := bcell_row HQ2.out rfl
  have x1 : w2.cell? ⟨q, 1, none⟩ = some (.slice Az zs.length cz) := bcell_row HQ2.out rfl
  have x2 : w2.cell? ⟨q, 2, none⟩ = some (.slice Al ls.length cl) := bcell_row HQ2.out rfl
  go_wp2_with fail
  clear x0 x1 x2
  refine (KP.out w2 G2.out).mono ?_
  rintro e w3 ⟨rfl, g3⟩
  have G3 := Lib.hid (G2.out.trans g3)
  have HQ3 := Lib.hid (bheap_gr g3 HQ2.out)
  clear g3 G2 HQ2 KP
  by_cases hC : atC rs zs ls nm t = 0
  case neg =>
    have TN : atT rs zs ls nm t = ⟨0, false, ⟨#[]⟩⟩ := atT_no hC
    rw [TN]
    generalize atC rs zs ls nm t = C at hC ⊢
    have t0 : (C != 0) = true := bneT hC
    clear hC TN
    have EQ := fun w => eqType 0 false ⟨#[]⟩ w
    go_wp2_with fail
    go_ret
    exact ⟨rfl, G3.out.alloc' _⟩
  case pos =>
    have HC := Lib.hid hC
    have BO := bounds_of hC
    obtain ⟨j, x, sx, hj, f1, f2, f3, f4, f5, f6, f7⟩ := BO
    rw [hC]
    generalize atT rs zs ls nm t = T at f1 f2 f6 f7 ⊢
    obtain ⟨o, sb, n⟩ := T
    simp only at f1 f2 f6 f7 ⊢
    have N1 : ¬ (n.size : Int) < 1 := by omega
    have N2 : ¬ 8 < (n.size : Int) := by omega
    have H0 := Lib.hid (atC_zero.1 hC).1
    have F1 := Lib.hid f1
    have F2 := Lib.hid f2
    have F3 := Lib.hid f3
    have F4 := Lib.hid f4
    have F5 := Lib.hid f5
    clear hC f6 f7 f1 f2 f3 f4 f5
    have NX := Lib.hid (box_one w3 (.cells #[.int .i64 o, .bool sb, .string n] 28))
    have HQ4 := Lib.hid (bheap_gr NX.out.1 HQ3.out)
    have x0 : (w3.alloc (.cells #[.int .i64 o, .bool sb, .string n] 28)).cell? ⟨q, 0, none⟩ = some (.slice Ar rs.length cr) := bcell_row HQ4.out rfl
    have x1 : (w3.alloc (.cells #[.int .i64 o, .bool sb, .string n] 28)).cell? ⟨q, 1, none⟩ = some (.slice Az zs.length cz) := bcell_row HQ4.out rfl
    have x2 : (w3.alloc (.cells #[.int .i64 o, .bool sb, .string n] 28)).cell? ⟨q, 2, none⟩ = some (.slice Al ls.length cl) := bcell_row HQ4.out rfl
    go_wp2_with fail
    clear x0 x1 x2
    have G4a := Lib.hid (G3.out.trans NX.out.1)
    generalize w3.alloc (.cells #[.int .i64 o, .bool sb, .string n] 28) = w4 at NX HQ4 G4a ⊢
    generalize w3.heap.size = qa at NX ⊢
    refine (KR.out w4 G4a.out).mono ?_
    rintro e w4b ⟨⟨znm, zA, zc, es⟩, rfl, zat, g4, hok, hno⟩
    obtain ⟨y, hy, e1, e2⟩ := hok H0.out
    have EE : erasN zs ls nm = es := (erasN_at hy).trans e2.symm
    obtain ⟨l1, l2, hg⟩ := good_erasN H0.out
    rw [EE] at l1 l2 hg hj
    have HG := Lib.hid hg
    have HJ := Lib.hid hj
    have ZAT := Lib.hid zat
    have NZ := Lib.hid (box_one w4b (.cells #[.string znm, .slice zA es.length zc] 36))
    have HX5 := Lib.hid (bheap_gr (g4.trans NZ.out.1) NX.out.2)
    have HQ5 := Lib.hid (bheap_gr (g4.trans NZ.out.1) HQ4.out)
    have G4 := Lib.hid (G4a.out.trans (g4.trans NZ.out.1))
    rw [H0.out]
    have jl := (List.getElem?_eq_some_iff.1 hj).1
    clear hok hno hy e1 e2 EE hg hj zat g4 KR HC
    have t0 : (w4b.alloc (.cells #[.string znm, .slice zA es.length zc] 36)).cell? ⟨qa, 0, none⟩ = some (.int .i64 o) := bcell_row HX5.out rfl
    have t1 : (w4b.alloc (.cells #[.string znm, .slice zA es.length zc] 36)).cell? ⟨qa, 1, none⟩ = some (.bool sb) := bcell_row HX5.out rfl
    have t2 : (w4b.alloc (.cells #[.string znm, .slice zA es.length zc] 36)).cell? ⟨qa, 2, none⟩ = some (.string n) := bcell_row HX5.out rfl
    go_wp2_with fail
    clear t0 t1 t2
    have ZR := Lib.hid (ZAT.out.2.2.1.gr NZ.out.1)
    generalize w4b.alloc (.cells #[.string znm, .slice zA es.length zc] 36) = w5 at HX5 HQ5 G4 ZR ⊢
    have HX := Lib.hid HX5.out
    have HQ := Lib.hid HQ5.out
    clear HX5 HQ5 NZ ZAT G4a HQ4 NX HQ3 G3
    have OB : -64800 ≤ o ∧ o ≤ 75600 := by have := (eraA_num (HG.out j x HJ.out).1).1; have := F1.out; have := F3.out; omega
    obtain ⟨ob1, ob2⟩ := OB
    go_loopw [53] (fun i W => ∃ k : Nat, k ≤ j ∧ i = .int .i64 k ∧ Hid (Gr w5 W)) (fun i W => es.length - (intOf i).toNat)
    case atStart => exact ⟨0, Nat.zero_le _, rfl, Gr.refl _⟩
    case round =>
      obtain ⟨k, hk, rfl, hg⟩ := hrel
      have hlt : k < es.length := by omega
      obtain ⟨⟨eo, ru, sv, fm, un⟩, hx⟩ := get_lt hlt
      obtain ⟨bz, oz, rfl, c0, c1, c2, c3, c4⟩ := ZR.out.five hx rfl hg.out
      have EO : -64800 ≤ eo ∧ eo ≤ 64800 := (eraA_num (HG.out k _ hx).1).1
      obtain ⟨eo1, eo2⟩ := EO
      have rl : rs.length ≤ maxLen := Nat.le_trans HRS.out.1.1 HRS.out.1.2
      unfold maxLen at rl
      obtain ⟨d, hd⟩ : ∃ d, o - eo = d := ⟨_, rfl⟩
      have FJ : Hid (k = j → (0 ≤ d ∧ d ≤ 10800 ∧ sb = decide (0 < d)) ∧ (ru.toList = [] → d = sv) ∧ (ru.toList ≠ [] → d ≠ 0 → ∃ (m : Nat) (r : RuD), rs[m]? = some r ∧ r.nm.toList = ru.toList ∧ r.sv = d)) := fun e => by
        subst e
        have hxe := HJ.out
        rw [hx] at hxe
        injection hxe with hxe
        subst hxe
        have es : d = sx := by rw [← hd, F1.out]; show eo + sx - eo = sx; omega
        rw [es]
        exact ⟨⟨F3.out.1, F3.out.2, F2.out⟩, F4.out, F5.out⟩
      have dd1 : -200000 ≤ d := by omega
      have dd2 : d ≤ 200000 := by omega
      clear hx
      by_cases d0 : d < 0
      · have NE := Lib.hid (box_one wr (.cells #[.int .i64 eo, .string ru, .int .i64 sv, .string fm, .int .i64 un] 40))
        have HX1 := Lib.hid (bheap_gr (hg.out.trans NE.out.1) HX.out)
        have t0 : (wr.alloc (.cells #[.int .i64 eo, .string ru, .int .i64 sv, .string fm, .int .i64 un] 40)).cell? ⟨qa, 0, none⟩ = some (.int .i64 o) := bcell_row HX1.out rfl
        have t1 : (wr.alloc (.cells #[.int .i64 eo, .string ru, .int .i64 sv, .string fm, .int .i64 un] 40)).cell? ⟨qa, 1, none⟩ = some (.bool sb) := bcell_row HX1.out rfl
        have t2 : (wr.alloc (.cells #[.int .i64 eo, .string ru, .int .i64 sv, .string fm, .int .i64 un] 40)).cell? ⟨qa, 2, none⟩ = some (.string n) := bcell_row HX1.out rfl
        have kj : k ≠ j := fun e => by have := (FJ.out e).1.1; omega
        go_wp2_with fail
        go_roundw
        case rel => exact ⟨k + 1, by omega, by go_num, hg.out.alloc' _⟩
        case measure => simp [intOf]; omega
      by_cases d1 : 10800 < d
      · have d0' : ¬ d < 0 := d0
        have NE := Lib.hid (box_one wr (.cells #[.int .i64 eo, .string ru, .int .i64 sv, .string fm, .int .i64 un] 40))
        have HX1 := Lib.hid (bheap_gr (hg.out.trans NE.out.1) HX.out)
        have t0 : (wr.alloc (.cells #[.int .i64 eo, .string ru, .int .i64 sv, .string fm, .int .i64 un] 40)).cell? ⟨qa, 0, none⟩ = some (.int .i64 o) := bcell_row HX1.out rfl
        have t1 : (wr.alloc (.cells #[.int .i64 eo, .string ru, .int .i64 sv, .string fm, .int .i64 un] 40)).cell? ⟨qa, 1, none⟩ = some (.bool sb) := bcell_row HX1.out rfl
        have t2 : (wr.alloc (.cells #[.int .i64 eo, .string ru, .int .i64 sv, .string fm, .int .i64 un] 40)).cell? ⟨qa, 2, none⟩ = some (.string n) := bcell_row HX1.out rfl
        have kj : k ≠ j := fun e => by have := (FJ.out e).1.2.1; omega
        go_wp2_with fail
        go_roundw
        case rel => exact ⟨k + 1, by omega, by go_num, hg.out.alloc' _⟩
        case measure => simp [intOf]; omega
      by_cases dz : d = 0
      · cases sb with
        | true =>
          have d2 : ¬ 0 < d := by omega
          have NE := Lib.hid (box_one wr (.cells #[.int .i64 eo, .string ru, .int .i64 sv, .string fm, .int .i64 un] 40))
          have HX1 := Lib.hid (bheap_gr (hg.out.trans NE.out.1) HX.out)
          have t0 : (wr.alloc (.cells #[.int .i64 eo, .string ru, .int .i64 sv, .string fm, .int .i64 un] 40)).cell? ⟨qa, 0, none⟩ = some (.int .i64 o) := bcell_row HX1.out rfl
          have t1 : (wr.alloc (.cells #[.int .i64 eo, .string ru, .int .i64 sv, .string fm, .int .i64 un] 40)).cell? ⟨qa, 1, none⟩ = some (.bool true) := bcell_row HX1.out rfl
          have t2 : (wr.alloc (.cells #[.int .i64 eo, .string ru, .int .i64 sv, .string fm, .int .i64 un] 40)).cell? ⟨qa, 2, none⟩ = some (.string n) := bcell_row HX1.out rfl
          have kj : k ≠ j := fun e => by have := (FJ.out e).1.2.2; rw [dz] at this; revert this; decide
          go_wp2_with fail
          go_roundw
          case rel => exact ⟨k + 1, by omega, by go_num, hg.out.alloc' _⟩
          case measure => simp [intOf]; omega
        | false =>
          have d2 : ¬ 0 < d := by omega
          have dt : (d == 0) = true := beqT dz
          by_cases hru : ru.toList = []
          · have RH := Lib.hid hru
            obtain rfl := str_nil hru
            clear hru
            by_cases ds : d = sv
            · have dst : (d == sv) = true := beqT ds
              clear ds
              have NE := Lib.hid (box_one wr (.cells #[.int .i64 eo, .string ⟨#[]⟩, .int .i64 sv, .string fm, .int .i64 un] 40))
              have HX1 := Lib.hid (bheap_gr (hg.out.trans NE.out.1) HX.out)
              have t0 : (wr.alloc (.cells #[.int .i64 eo, .string ⟨#[]⟩, .int .i64 sv, .string fm, .int .i64 un] 40)).cell? ⟨qa, 0, none⟩ = some (.int .i64 o) := bcell_row HX1.out rfl
              have t1 : (wr.alloc (.cells #[.int .i64 eo, .string ⟨#[]⟩, .int .i64 sv, .string fm, .int .i64 un] 40)).cell? ⟨qa, 1, none⟩ = some (.bool false) := bcell_row HX1.out rfl
              have t2 : (wr.alloc (.cells #[.int .i64 eo, .string ⟨#[]⟩, .int .i64 sv, .string fm, .int .i64 un] 40)).cell? ⟨qa, 2, none⟩ = some (.string n) := bcell_row HX1.out rfl
              go_wp2_with fail
              go_ret
              exact ⟨rfl, G4.out.trans (hg.out.trans NE.out.1)⟩
            · have dst : (d == sv) = false := beqF ds
              have NE := Lib.hid (box_one wr (.cells #[.int .i64 eo, .string ⟨#[]⟩, .int .i64 sv, .string fm, .int .i64 un] 40))
              have HX1 := Lib.hid (bheap_gr (hg.out.trans NE.out.1) HX.out)
              have t0 : (wr.alloc (.cells #[.int .i64 eo, .string ⟨#[]⟩, .int .i64 sv, .string fm, .int .i64 un] 40)).cell? ⟨qa, 0, none⟩ = some (.int .i64 o) := bcell_row HX1.out rfl
              have t1 : (wr.alloc (.cells #[.int .i64 eo, .string ⟨#[]⟩, .int .i64 sv, .string fm, .int .i64 un] 40)).cell? ⟨qa, 1, none⟩ = some (.bool false) := bcell_row HX1.out rfl
              have t2 : (wr.alloc (.cells #[.int .i64 eo, .string ⟨#[]⟩, .int .i64 sv, .string fm, .int .i64 un] 40)).cell? ⟨qa, 2, none⟩ = some (.string n) := bcell_row HX1.out rfl
              have KJ : Hid (k ≠ j) := fun e => ds ((FJ.out e).2.1 RH.out)
              clear ds
              have HQ5 := Lib.hid (bheap_gr (hg.out.trans NE.out.1) HQ.out)
              have x0 : (wr.alloc (.cells #[.int .i64 eo, .string ⟨#[]⟩, .int .i64 sv, .string fm, .int .i64 un] 40)).cell? ⟨q, 0, none⟩ = some (.slice Ar rs.length cr) := bcell_row HQ5.out rfl
              go_wp2_with fail
              clear x0
              have G5 : Hid (Gr w (wr.alloc (.cells #[.int .i64 eo, .string ⟨#[]⟩, .int .i64 sv, .string fm, .int .i64 un] 40))) := G4.out.trans (hg.out.trans NE.out.1)
              have GB5 : Hid (Gr w5 (wr.alloc (.cells #[.int .i64 eo, .string ⟨#[]⟩, .int .i64 sv, .string fm, .int .i64 un] 40))) := hg.out.trans NE.out.1
              have HE5 := Lib.hid NE.out.2
              obtain ⟨wA, hwA⟩ : ∃ x, x = wr := ⟨_, rfl⟩
              subst hwA
              generalize wA.alloc (.cells #[.int .i64 eo, .string ⟨#[]⟩, .int .i64 sv, .string fm, .int .i64 un] 40) = w6 at G5 GB5 HE5 ⊢
              generalize wA.heap.size = qy at HE5 ⊢
              clear HQ5 NE hg
              go_loopw [94] (fun i W => ∃ k2 : Nat, k2 ≤ rs.length ∧ i = .int .i64 k2 ∧ Hid (Gr w6 W)) (fun i W => rs.length - (intOf i).toNat)
              case atStart => exact ⟨0, Nat.zero_le _, rfl, Gr.refl _⟩
              case round =>
                obtain ⟨k2, hk2, rfl, hg2⟩ := hrel
                by_cases hlt2 : k2 < rs.length
                · obtain ⟨⟨xn, x1, x2, x3, x4, x5, x6, x7, x8, xs, xl⟩, hx2⟩ := get_lt hlt2
                  obtain ⟨br, or', rfl, c0, c1, c2, c3, c4, c5, c6, c7, c8, c9, c10⟩ := HRS.out.2.1.eleven hx2 rfl (G5.out.trans hg2.out)
                  have HX2 := Lib.hid hx2
                  clear hx2
                  have NR := Lib.hid (box_one wr (.cells #[.string xn, .int .i64 x1, .int .i64 x2, .int .i64 x3, .int .i64 x4, .int .i64 x5, .int .i64 x6, .int .i64 x7, .int .i64 x8, .int .i64 xs, .string xl] 44))
                  have HE6 := Lib.hid (bheap_gr (hg2.out.trans NR.out.1) HE5.out)
                  have e1 : (wr.alloc (.cells #[.string xn, .int .i64 x1, .int .i64 x2, .int .i64 x3, .int .i64 x4, .int .i64 x5, .int .i64 x6, .int .i64 x7, .int .i64 x8, .int .i64 xs, .string xl] 44)).cell? ⟨qy, 1, none⟩ = some (.string ⟨#[]⟩) := bcell_row HE6.out rfl
                  obtain ⟨pn, epn⟩ : ∃ p, (xn.toList == []) = p := ⟨_, rfl⟩
                  obtain ⟨pd, epd⟩ : ∃ p, (xs == d) = p := ⟨_, rfl⟩
                  have PN := Lib.hid epn
                  have PD := Lib.hid epd
                  cases pn with
                  | false =>
                    go_wp2_with fail
                    go_roundw
                    case rel => exact ⟨k2 + 1, by omega, by go_num, hg2.out.alloc' _⟩
                    case measure => simp [intOf]; omega
                  | true =>
                    cases pd with
                    | false =>
                      go_wp2_with fail
                      go_roundw
                      case rel => exact ⟨k2 + 1, by omega, by go_num, hg2.out.alloc' _⟩
                      case measure => simp [intOf]; omega
                    | true =>
                      go_wp2_with fail
                      go_ret
                      exact ⟨rfl, G5.out.trans (hg2.out.trans NR.out.1)⟩
                · have kj := KJ.out
                  go_wp2_with fail
                  go_roundw
                  case rel => exact ⟨k + 1, by omega, by go_num, GB5.out.trans hg2.out⟩
                  case measure => simp [intOf]; omega
          · obtain ⟨n1, n2, n3⟩ := str_nonnil hru
            clear hru
            have NE := Lib.hid (box_one wr (.cells #[.int .i64 eo, .string ru, .int .i64 sv, .string fm, .int .i64 un] 40))
            have HX1 := Lib.hid (bheap_gr (hg.out.trans NE.out.1) HX.out)
            have t0 : (wr.alloc (.cells #[.int .i64 eo, .string ru, .int .i64 sv, .string fm, .int .i64 un] 40)).cell? ⟨qa, 0, none⟩ = some (.int .i64 o) := bcell_row HX1.out rfl
            have t1 : (wr.alloc (.cells #[.int .i64 eo, .string ru, .int .i64 sv, .string fm, .int .i64 un] 40)).cell? ⟨qa, 1, none⟩ = some (.bool false) := bcell_row HX1.out rfl
            have t2 : (wr.alloc (.cells #[.int .i64 eo, .string ru, .int .i64 sv, .string fm, .int .i64 un] 40)).cell? ⟨qa, 2, none⟩ = some (.string n) := bcell_row HX1.out rfl
            go_wp2_with fail
            go_ret
            exact ⟨rfl, G4.out.trans (hg.out.trans NE.out.1)⟩
      · have d2 : 0 < d := by omega
        cases sb with
        | false =>
          have NE := Lib.hid (box_one wr (.cells #[.int .i64 eo, .string ru, .int .i64 sv, .string fm, .int .i64 un] 40))
          have HX1 := Lib.hid (bheap_gr (hg.out.trans NE.out.1) HX.out)
          have t0 : (wr.alloc (.cells #[.int .i64 eo, .string ru, .int .i64 sv, .string fm, .int .i64 un] 40)).cell? ⟨qa, 0, none⟩ = some (.int .i64 o) := bcell_row HX1.out rfl
          have t1 : (wr.alloc (.cells #[.int .i64 eo, .string ru, .int .i64 sv, .string fm, .int .i64 un] 40)).cell? ⟨qa, 1, none⟩ = some (.bool false) := bcell_row HX1.out rfl
          have t2 : (wr.alloc (.cells #[.int .i64 eo, .string ru, .int .i64 sv, .string fm, .int .i64 un] 40)).cell? ⟨qa, 2, none⟩ = some (.string n) := bcell_row HX1.out rfl
          have kj : k ≠ j := fun e => by have := (FJ.out e).1.2.2; rw [decide_eq_true d2] at this; cases this
          go_wp2_with fail
          go_roundw
          case rel => exact ⟨k + 1, by omega, by go_num, hg.out.alloc' _⟩
          case measure => simp [intOf]; omega
        | true =>
          have dt : (d == 0) = false := beqF dz
          by_cases hru : ru.toList = []
          · have RH := Lib.hid hru
            obtain rfl := str_nil hru
            clear hru
            by_cases ds : d = sv
            · have dst : (d == sv) = true := beqT ds
              clear ds
              have NE := Lib.hid (box_one wr (.cells #[.int .i64 eo, .string ⟨#[]⟩, .int .i64 sv, .string fm, .int .i64 un] 40))
              have HX1 := Lib.hid (bheap_gr (hg.out.trans NE.out.1) HX.out)
              have t0 : (wr.alloc (.cells #[.int .i64 eo, .string ⟨#[]⟩, .int .i64 sv, .string fm, .int .i64 un] 40)).cell? ⟨qa, 0, none⟩ = some (.int .i64 o) := bcell_row HX1.out rfl
              have t1 : (wr.alloc (.cells #[.int .i64 eo, .string ⟨#[]⟩, .int .i64 sv, .string fm, .int .i64 un] 40)).cell? ⟨qa, 1, none⟩ = some (.bool true) := bcell_row HX1.out rfl
              have t2 : (wr.alloc (.cells #[.int .i64 eo, .string ⟨#[]⟩, .int .i64 sv, .string fm, .int .i64 un] 40)).cell? ⟨qa, 2, none⟩ = some (.string n) := bcell_row HX1.out rfl
              go_wp2_with fail
              go_ret
              exact ⟨rfl, G4.out.trans (hg.out.trans NE.out.1)⟩
            · have dst : (d == sv) = false := beqF ds
              have NE := Lib.hid (box_one wr (.cells #[.int .i64 eo, .string ⟨#[]⟩, .int .i64 sv, .string fm, .int .i64 un] 40))
              have HX1 := Lib.hid (bheap_gr (hg.out.trans NE.out.1) HX.out)
              have t0 : (wr.alloc (.cells #[.int .i64 eo, .string ⟨#[]⟩, .int .i64 sv, .string fm, .int .i64 un] 40)).cell? ⟨qa, 0, none⟩ = some (.int .i64 o) := bcell_row HX1.out rfl
              have t1 : (wr.alloc (.cells #[.int .i64 eo, .string ⟨#[]⟩, .int .i64 sv, .string fm, .int .i64 un] 40)).cell? ⟨qa, 1, none⟩ = some (.bool true) := bcell_row HX1.out rfl
              have t2 : (wr.alloc (.cells #[.int .i64 eo, .string ⟨#[]⟩, .int .i64 sv, .string fm, .int .i64 un] 40)).cell? ⟨qa, 2, none⟩ = some (.string n) := bcell_row HX1.out rfl
              have KJ : Hid (k ≠ j) := fun e => ds ((FJ.out e).2.1 RH.out)
              clear ds
              have HQ5 := Lib.hid (bheap_gr (hg.out.trans NE.out.1) HQ.out)
              have x0 : (wr.alloc (.cells #[.int .i64 eo, .string ⟨#[]⟩, .int .i64 sv, .string fm, .int .i64 un] 40)).cell? ⟨q, 0, none⟩ = some (.slice Ar rs.length cr) := bcell_row HQ5.out rfl
              go_wp2_with fail
              clear x0
              have G5 : Hid (Gr w (wr.alloc (.cells #[.int .i64 eo, .string ⟨#[]⟩, .int .i64 sv, .string fm, .int .i64 un] 40))) := G4.out.trans (hg.out.trans NE.out.1)
              have GB5 : Hid (Gr w5 (wr.alloc (.cells #[.int .i64 eo, .string ⟨#[]⟩, .int .i64 sv, .string fm, .int .i64 un] 40))) := hg.out.trans NE.out.1
              have HE5 := Lib.hid NE.out.2
              obtain ⟨wA, hwA⟩ : ∃ x, x = wr := ⟨_, rfl⟩
              subst hwA
              generalize wA.alloc (.cells #[.int .i64 eo, .string ⟨#[]⟩, .int .i64 sv, .string fm, .int .i64 un] 40) = w6 at G5 GB5 HE5 ⊢
              generalize wA.heap.size = qy at HE5 ⊢
              clear HQ5 NE hg
              go_loopw [94] (fun i W => ∃ k2 : Nat, k2 ≤ rs.length ∧ i = .int .i64 k2 ∧ Hid (Gr w6 W)) (fun i W => rs.length - (intOf i).toNat)
              case atStart => exact ⟨0, Nat.zero_le _, rfl, Gr.refl _⟩
              case round =>
                obtain ⟨k2, hk2, rfl, hg2⟩ := hrel
                by_cases hlt2 : k2 < rs.length
                · obtain ⟨⟨xn, x1, x2, x3, x4, x5, x6, x7, x8, xs, xl⟩, hx2⟩ := get_lt hlt2
                  obtain ⟨br, or', rfl, c0, c1, c2, c3, c4, c5, c6, c7, c8, c9, c10⟩ := HRS.out.2.1.eleven hx2 rfl (G5.out.trans hg2.out)
                  have HX2 := Lib.hid hx2
                  clear hx2
                  have NR := Lib.hid (box_one wr (.cells #[.string xn, .int .i64 x1, .int .i64 x2, .int .i64 x3, .int .i64 x4, .int .i64 x5, .int .i64 x6, .int .i64 x7, .int .i64 x8, .int .i64 xs, .string xl] 44))
                  have HE6 := Lib.hid (bheap_gr (hg2.out.trans NR.out.1) HE5.out)
                  have e1 : (wr.alloc (.cells #[.string xn, .int .i64 x1, .int .i64 x2, .int .i64 x3, .int .i64 x4, .int .i64 x5, .int .i64 x6, .int .i64 x7, .int .i64 x8, .int .i64 xs, .string xl] 44)).cell? ⟨qy, 1, none⟩ = some (.string ⟨#[]⟩) := bcell_row HE6.out rfl
                  obtain ⟨pn, epn⟩ : ∃ p, (xn.toList == []) = p := ⟨_, rfl⟩
                  obtain ⟨pd, epd⟩ : ∃ p, (xs == d) = p := ⟨_, rfl⟩
                  have PN := Lib.hid epn
                  have PD := Lib.hid epd
                  cases pn with
                  | false =>
                    go_wp2_with fail
                    go_roundw
                    case rel => exact ⟨k2 + 1, by omega, by go_num, hg2.out.alloc' _⟩
                    case measure => simp [intOf]; omega
                  | true =>
                    cases pd with
                    | false =>
                      go_wp2_with fail
                      go_roundw
                      case rel => exact ⟨k2 + 1, by omega, by go_num, hg2.out.alloc' _⟩
                      case measure => simp [intOf]; omega
                    | true =>
                      go_wp2_with fail
                      go_ret
                      exact ⟨rfl, G5.out.trans (hg2.out.trans NR.out.1)⟩
                · have kj := KJ.out
                  go_wp2_with fail
                  go_roundw
                  case rel => exact ⟨k + 1, by omega, by go_num, GB5.out.trans hg2.out⟩
                  case measure => simp [intOf]; omega
          · have RN := Lib.hid hru
            obtain ⟨n1, n2, n3⟩ := str_nonnil hru
            clear hru
            have NE := Lib.hid (box_one wr (.cells #[.int .i64 eo, .string ru, .int .i64 sv, .string fm, .int .i64 un] 40))
            have HX1 := Lib.hid (bheap_gr (hg.out.trans NE.out.1) HX.out)
            have t0 : (wr.alloc (.cells #[.int .i64 eo, .string ru, .int .i64 sv, .string fm, .int .i64 un] 40)).cell? ⟨qa, 0, none⟩ = some (.int .i64 o) := bcell_row HX1.out rfl
            have t1 : (wr.alloc (.cells #[.int .i64 eo, .string ru, .int .i64 sv, .string fm, .int .i64 un] 40)).cell? ⟨qa, 1, none⟩ = some (.bool true) := bcell_row HX1.out rfl
            have t2 : (wr.alloc (.cells #[.int .i64 eo, .string ru, .int .i64 sv, .string fm, .int .i64 un] 40)).cell? ⟨qa, 2, none⟩ = some (.string n) := bcell_row HX1.out rfl
            have HQ5 := Lib.hid (bheap_gr (hg.out.trans NE.out.1) HQ.out)
            have x0 : (wr.alloc (.cells #[.int .i64 eo, .string ru, .int .i64 sv, .string fm, .int .i64 un] 40)).cell? ⟨q, 0, none⟩ = some (.slice Ar rs.length cr) := bcell_row HQ5.out rfl
            go_wp2_with fail
            clear x0
            have G5 : Hid (Gr w (wr.alloc (.cells #[.int .i64 eo, .string ru, .int .i64 sv, .string fm, .int .i64 un] 40))) := G4.out.trans (hg.out.trans NE.out.1)
            have GB5 : Hid (Gr w5 (wr.alloc (.cells #[.int .i64 eo, .string ru, .int .i64 sv, .string fm, .int .i64 un] 40))) := hg.out.trans NE.out.1
            have HE5 := Lib.hid NE.out.2
            obtain ⟨wA, hwA⟩ : ∃ x, x = wr := ⟨_, rfl⟩
            subst hwA
            generalize wA.alloc (.cells #[.int .i64 eo, .string ru, .int .i64 sv, .string fm, .int .i64 un] 40) = w6 at G5 GB5 HE5 ⊢
            generalize wA.heap.size = qy at HE5 ⊢
            clear HQ5 NE hg
            go_loopw [94] (fun i W => ∃ k2 : Nat, k2 ≤ rs.length ∧ i = .int .i64 k2 ∧ Hid (k = j → ∀ (m : Nat) (r : RuD), m < k2 → rs[m]? = some r → ¬ (r.nm.toList = ru.toList ∧ r.sv = d)) ∧ Hid (Gr w6 W)) (fun i W => rs.length - (intOf i).toNat)
            case atStart => exact ⟨0, Nat.zero_le _, rfl, fun _ m r hm _ => by omega, Gr.refl _⟩
            case round =>
              obtain ⟨k2, hk2, rfl, hno, hg2⟩ := hrel
              by_cases hlt2 : k2 < rs.length
              · obtain ⟨⟨xn, x1, x2, x3, x4, x5, x6, x7, x8, xs, xl⟩, hx2⟩ := get_lt hlt2
                obtain ⟨br, or', rfl, c0, c1, c2, c3, c4, c5, c6, c7, c8, c9, c10⟩ := HRS.out.2.1.eleven hx2 rfl (G5.out.trans hg2.out)
                have HX2 := Lib.hid hx2
                clear hx2
                have NR := Lib.hid (box_one wr (.cells #[.string xn, .int .i64 x1, .int .i64 x2, .int .i64 x3, .int .i64 x4, .int .i64 x5, .int .i64 x6, .int .i64 x7, .int .i64 x8, .int .i64 xs, .string xl] 44))
                have HE6 := Lib.hid (bheap_gr (hg2.out.trans NR.out.1) HE5.out)
                have e1 : (wr.alloc (.cells #[.string xn, .int .i64 x1, .int .i64 x2, .int .i64 x3, .int .i64 x4, .int .i64 x5, .int .i64 x6, .int .i64 x7, .int .i64 x8, .int .i64 xs, .string xl] 44)).cell? ⟨qy, 1, none⟩ = some (.string ru) := bcell_row HE6.out rfl
                obtain ⟨pn, epn⟩ : ∃ p, (xn.toList == ru.toList) = p := ⟨_, rfl⟩
                obtain ⟨pd, epd⟩ : ∃ p, (xs == d) = p := ⟨_, rfl⟩
                have PN := Lib.hid epn
                have PD := Lib.hid epd
                cases pn with
                | false =>
                  go_wp2_with fail
                  go_roundw
                  case rel => exact ⟨k2 + 1, by omega, by go_num, fun hkj m r hm hr => by
                    by_cases e : m = k2
                    · subst e; rw [HX2.out] at hr; injection hr with hr; rw [← hr]; intro h; have h1 := PN.out; rw [show xn.toList = _ from h.1] at h1; simp at h1
                    · exact hno.out hkj m r (by omega) hr, hg2.out.alloc' _⟩
                  case measure => simp [intOf]; omega
                | true =>
                  cases pd with
                  | false =>
                    go_wp2_with fail
                    go_roundw
                    case rel => exact ⟨k2 + 1, by omega, by go_num, fun hkj m r hm hr => by
                      by_cases e : m = k2
                      · subst e; rw [HX2.out] at hr; injection hr with hr; rw [← hr]; intro h; have h1 := PD.out; rw [show xs = d from h.2] at h1; simp at h1
                      · exact hno.out hkj m r (by omega) hr, hg2.out.alloc' _⟩
                    case measure => simp [intOf]; omega
                  | true =>
                    go_wp2_with fail
                    go_ret
                    exact ⟨rfl, G5.out.trans (hg2.out.trans NR.out.1)⟩
              · have kj : k ≠ j := fun e => by
                  have e2 : k2 = rs.length := by omega
                  obtain ⟨m, r, hm, h1, h2⟩ := (FJ.out e).2.2 RN.out dz
                  exact hno.out e m r (by have := (List.getElem?_eq_some_iff.1 hm).1; omega) hm ⟨h1, h2⟩
                go_wp2_with fail
                go_roundw
                case rel => exact ⟨k + 1, by omega, by go_num, GB5.out.trans hg2.out⟩
                case measure => simp [intOf]; omega

set_option maxRecDepth 100000 in
theorem contract (H : Type) (enc : TypeId × Value → H) (W : World) (base : Nat) (args : Array Value) (ds gs : List (DataW H)) (before : List MemPlace)
    (hval : ∀ (j : Nat) t v, Tryz.f4.params[j]? = some t → args[j]? = some v → Value.okWide Tryz.prog W .any base t v)
    (hW : DataW.Whole enc Tryz.prog Tryz.f4.params.toList Rows.stateBoundsSpec.vars false W args.toList ds gs before) (hL : laidMet Tryz.prog Rows.stateBoundsRow.laid W) (hsh : W.ShapedOpen Tryz.prog) :
    Calls Tryz.prog 4 args W fun e W' => ∃ v, e = .returned v ∧ Rows.stateBoundsSpec.post enc Tryz.prog Tryz.f4 false true false false W args v W' := by
  have hW' := hW
  obtain ⟨p, q, hA0, hV, rfl, hfz, hnd⟩ := hW
  have hA : DataW.TrodAll enc Tryz.prog W 0 (fun _ => true) true Tryz.f4.params.toList args.toList ds p := hA0
  rw [Tryz.params4] at hA hval
  obtain ⟨v0, vs0, d0, ds0, p0, q0, hargs, rfl, rfl, h0, r0⟩ := trodAll_cons hA
  obtain ⟨v1, vs1, d1, ds1, p1, q1, rfl, rfl, rfl, h1, r1⟩ := trodAll_cons r0
  obtain ⟨v2, vs2, d2, ds2, p2, q2, rfl, rfl, rfl, h2, r2⟩ := trodAll_cons r1
  obtain ⟨rfl, rfl, rfl⟩ := trodAll_nil r2
  obtain rfl : args = #[v0, v1, v2] := by cases args; simp_all
  obtain ⟨rfl, rfl⟩ := trodVars_none hV
  obtain ⟨bk0, rfl, bi0⟩ := open_book (hval 0 26 v0 rfl rfl) h0
  obtain ⟨a1, rfl, rfl, rfl, w1⟩ := open_string Tryz.underlying9 (hval 1 9 v1 rfl rfl) h1
  obtain ⟨a2, rfl, rfl, rfl, w2⟩ := open_int Tryz.underlying3 (hval 2 3 v2 rfl rfl) h2
  clear hA0
  simp only [List.append_nil] at hW'
  refine (walk bk0 a1 w1 a2 (bounds_i64 w2).1 (bounds_i64 w2).2 W bi0 ⟨lens_of hL (List.mem_of_getElem? (i := 3) rfl), pow_of hL (List.mem_of_getElem? (i := 2) rfl), max_of hsh⟩).mono fun e W' ⟨he, hg⟩ => ?_
  subst he
  exact ⟨_, rfl, post_of_below (pa := (p0 ++ ([] ++ ([] ++ [])))) (pv := []) hW' (fun _ _ _ => trodAll_cons_mk (shut_bool Tryz.underlying4 _) trodAll_mk0) (fun _ hsp => (trodAll_cons_mk (stays book_reads h0 hg (fun p hp => by simp [hp]) (fun p hp => hW'.lt p hp) hsp) (trodAll_cons_mk (shut_string Tryz.underlying9 w1) (trodAll_cons_mk (shut_int Tryz.underlying3 w2) trodAll_mk0)))) (fun _ _ => rfl) (by simp)
    hg (ok_one (by kernel_rfl) rfl (okWide_bool_mk Tryz.underlying4 _))⟩

/-- A world for the witness: the settled one, the listed variables holding what their initialisers lay. -/
noncomputable def laidWorld (os : Os) : World := put (put (put (put (put (put (bare os) 5 (flat1 Rows.laid_math_bits_deBruijn32tab)) 6 (flat1 Rows.laid_math_bits_deBruijn64tab)) 2 (flat1 Rows.laid_internal_strconv_uint64pow10)) 0 (flat1 Rows.laid_timeball_civil_lengths)) 4 (flat2 Rows.laid_unicode_utf8_acceptRanges)) 3 (flat1 Rows.laid_unicode_utf8_first)
set_option maxRecDepth 100000 in
theorem laid_met (os : Os) : laidMet Tryz.prog Rows.stateBoundsRow.laid ((laidWorld os).forCall (fun _ _ => 0) ⟨#[], #[.agg #[.slice none 0 0, .slice none 0 0, .slice none 0 0], .string .empty, .int .i64 0], []⟩).memory :=
  laidMet_of_run3 8 (by kernel_rfl) (by kernel_rfl) (by kernel_rfl)
theorem reads (os : Os) {H : Type} (enc : TypeId × Value → H) : ∃ places, DataW.whole enc Tryz.prog ((laidWorld os).forCall (fun _ _ => 0) ⟨#[], #[.agg #[.slice none 0 0, .slice none 0 0, .slice none 0 0], .string .empty, .int .i64 0], []⟩).memory Tryz.f4.params.toList Rows.stateBoundsSpec.vars false #[Value.agg #[.slice none 0 0, .slice none 0 0, .slice none 0 0], Value.string .empty, Value.int .i64 0].toList 8 = some ([.agg [.nil, .nil, .nil], .lit (.string []), .lit (.int .i64 0)], [], places) :=
  ⟨[], by kernel_rfl⟩

set_option maxRecDepth 100000 in
theorem lifted (os : Os) (started : os.Started) (H : Type) (enc : TypeId × Value → H) (F : Stop.Interp) :
    ReturnsInHanded {} Tryz.checked os 4 .any ((OpenSpec.ofChange Rows.stateBoundsSpec).preRow enc Tryz.prog Tryz.f4 Rows.stateBoundsRow.domain false Rows.stateBoundsRow.laid) (((OpenSpec.ofChange Rows.stateBoundsSpec).at F).post enc Tryz.prog Tryz.f4 false true false false) := by
  obtain ⟨places, hx⟩ := reads os enc
  refine returnsInHanded_of_row (C := Tryz.checked) (s := OpenSpec.ofChange Rows.stateBoundsSpec) own started (by kernel_rfl) Tryz.func4
    (witness_row_at (enc := enc) (C := Tryz.checked) false (laidWorld os) #[.agg #[.slice none 0 0, .slice none 0 0, .slice none 0 0], .string .empty, .int .i64 0] rfl (by kernel_rfl) (by kernel_rfl) (by kernel_rfl)
      (OpenSpec.preRow_of_cond 8 hx (by kernel_rfl) (fun k hk => by cases hk) (by kernel_rfl) (laid_met os))) ?_
  intro W base args ds gs before hval hW _ _ _ hL hsh _
  exact contract H enc W base args ds gs before hval hW hL hsh

theorem said : Rows.StateBoundsSaid :=
  OpenClaim.holds_of_cond 4 Tryz.f4 rfl rfl rfl rfl rfl rfl rfl ⟨rfl, rfl, rfl, rfl, rfl⟩ rfl rfl rfl rfl rfl (by kernel_rfl) Tryz.func4 (by kernel_rfl)
    (of_decide_eq_true (by kernel_rfl)) (by unfold Func.isWrapper; first | (rw [if_pos (by decide +kernel)]; kernel_rfl) | (rw [if_neg (by decide +kernel)]; exact ⟨rfl, rfl⟩))
    (fun os started H enc _ F => by rw [OpenClaim.pre_eq_preRow]; exact lifted os started H enc F)

set_option maxRecDepth 100000 in
/-- No parameter wants a stand-in; whether the program has looks of its own. -/
theorem plain (f : FuncId) (fn : Func) (hf : Tryz.pinned.checked.prog.funcNamed "timeball/timeballkeep.StateBounds" = some f) (hfn : Tryz.pinned.checked.prog.funcs[f]? = some fn) :
    false = Tryz.pinned.checked.prog.looks [] ∧ ∀ (j : Nat) t, fn.params[j]? = some t → Tryz.pinned.checked.prog.wantsStandIn t = false := by
  obtain rfl : f = 4 := Option.some.inj ((show Tryz.prog.funcNamed "timeball/timeballkeep.StateBounds" = some 4 by kernel_rfl).symm.trans hf) |>.symm
  obtain rfl : fn = Tryz.f4 := (Option.some.inj (Tryz.func4.symm.trans hfn)).symm
  refine ⟨by kernel_rfl, fun j t ht => ?_⟩
  rw [Tryz.params4] at ht
  have hm : t = 3 ∨ t = 9 ∨ t = 26 := by have := Array.mem_of_getElem? ht; simp at this; first | exact this | exact this.symm | (rcases this with h | h | h <;> simp [h]) | omega
  rcases hm with rfl | rfl | rfl
  · exact (show Tryz.prog.wantsStandIn 3 = false by kernel_rfl)
  · exact (show Tryz.prog.wantsStandIn 9 = false by kernel_rfl)
  · exact (show Tryz.prog.wantsStandIn 26 = false by kernel_rfl)

end Go.Proofs.YtbagdlafpahgdaaGreatDoor.stateBounds
namespace Go.Proofs.YtbagdlafpahgdaaGreatDoor
/-- The card. -/
theorem stateBounds_holds : Rows.StateBoundsCardSaid :=
  Claim7.holds_tied_plain_at .later [] _ _ _ _ stateBounds.said (fun _ h => by cases h) (by kernel_rfl) (fun _ h => by cases h) stateBounds_row_tie rfl ⟨rfl, rfl⟩ (by kernel_rfl) rfl stateBounds.plain (by kernel_rfl)
end Go.Proofs.YtbagdlafpahgdaaGreatDoor
