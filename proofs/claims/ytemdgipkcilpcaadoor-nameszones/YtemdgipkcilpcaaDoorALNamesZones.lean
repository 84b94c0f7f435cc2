/- The law NamesZones of package timeballkeep returns true for every input and leaves its arguments as they were: A zone's name leads tto the zone; a link's name leads where the name leads that the link names. Condition: the listed variables (math/bits.deBruijn32tab, math/bits.deBruijn64tab, internal/strconv.uint64pow10, timeball/civil.lengths, unicode/utf8.acceptRanges, unicode/utf8.first) lie as their initialisers lay them; the card ties that tto the program's text. -/
import Derived.Test.YtemdgipkcilpcaaDoorCards
import Derived.Test.YtemdgipkcilpcaaDoorTie
import Derived.Test.YtemdgipkcilpcaaDoorAM17
import Derived.Test.YtemdgipkcilpcaaDoorAM26
import Derived.Test.YtemdgipkcilpcaaDoorAM13
import Derived.Test.YtemdgipkcilpcaaDoorAM15
namespace Go.Proofs.YtemdgipkcilpcaaDoor.namesZones
open Go.ChangeShapes Go.WideShapes Go.ChangeAt Go.RowKit
open Go.ChangeMaps (open_string shut_string)
set_option linter.unusedVariables false
set_option linter.unusedSimpArgs false
set_option maxRecDepth 100000 in
set_option maxHeartbeats 8000000 in
theorem walk (b : BokD) (w : World) (hb : b.At w) (ht : BkTab w) :
    Calls Tryd.prog 3 #[bookV b] w fun e w' => e = .returned (.bool true) ∧ Gr w w' := by
  have KP := Lib.hid (fun nm W (g : Gr w W) hn => presolve b nm W (hb.gr g) hn (g.bk ht))
  have KC := Lib.hid (fun W (g : Gr w W) => pbookCheck b W (hb.gr g) (g.bk ht))
  have KN := Lib.hid (fun W (g : Gr w W) => pnamed W (g.bk ht))
  have KZ := Lib.hid (fun nm A c A' c' l n' w hn hl h h' => rzoneEq nm A c A' c' l n' w hn hl h h')
  obtain ⟨Ar, cr, rs, Az, cz, zs, Al, cl, ls⟩ := b
  have HZ : Hid (Row w 2 ZonD.cells Az zs) := hb.2.1.2.1
  have HZA : Hid (∀ z ∈ zs, z.At w) := hb.2.1.2.2
  have HL : Hid (Row w 2 LinD.cells Al ls) := hb.2.2.2.1
  have HLI : Hid (∀ x ∈ ls, x.In) := hb.2.2.2.2
  have hzl : zs.length ≤ 9223372036854775807 := by have := Nat.le_trans hb.2.1.1.1 hb.2.1.1.2; unfold maxLen at this; exact this
  have hll : ls.length ≤ 9223372036854775807 := by have := Nat.le_trans hb.2.2.1.1 hb.2.2.1.2; unfold maxLen at this; exact this
  simp only at KP KC
  have B0 := Lib.hid (box_one w (.cells #[.slice Ar rs.length cr, .slice Az zs.length cz, .slice Al ls.length cl] 26))
  clear hb ht
  go_enter Tryd.func3, Tryd.ntmps3
  go_wp2_with fail
  generalize w.alloc (.cells #[.slice Ar rs.length cr, .slice Az zs.length cz, .slice Al ls.length cl] 26) = w1 at B0 ⊢
  generalize w.heap.size = q at B0 ⊢
  refine (KN.out w1 B0.out.1).mono ?_
  rintro e w2 ⟨rfl, g2⟩
  have G2 := Lib.hid (B0.out.1.trans g2)
  have HB2 := Lib.hid (bheap_gr g2 B0.out.2)
  have x0 : w2.cell? ⟨q, 0, none⟩ = some (.slice Ar rs.length cr) := bcell_row HB2.out rfl
  have x1 : w2.cell? ⟨q, 1, none⟩ = some (.slice Az zs.length cz) := bcell_row HB2.out rfl
  have x2 : w2.cell? ⟨q, 2, none⟩ = some (.slice Al ls.length cl) := bcell_row HB2.out rfl
  clear B0 g2 KN
  go_wp2_with fail
  clear x0 x1 x2
  refine (KC.out w2 G2.out).mono ?_
  rintro e w3 ⟨rfl, g3⟩
  have G3 := Lib.hid (G2.out.trans g3)
  have HB3 := Lib.hid (bheap_gr g3 HB2.out)
  clear g3 KC G2 HB2
  by_cases h0 : bokC rs zs ls = 0
  case neg =>
    have t0 := bneT h0
    generalize bokC rs zs ls = C at t0 ⊢
    clear h0
    go_wp2_with fail
    go_ret
    exact ⟨rfl, G3.out⟩
  case pos =>
    have H0 := Lib.hid h0
    rw [h0]
    clear h0
    have x1 : w3.cell? ⟨q, 1, none⟩ = some (.slice Az zs.length cz) := bcell_row HB3.out rfl
    go_wp2_with fail
    clear x1
    go_loopw [21] (fun i W => ∃ k : Nat, k ≤ zs.length ∧ i = .int .i64 k ∧ Hid (Gr w W) ∧ Hid (W.heap[q]? = some (.cells #[.slice Ar rs.length cr, .slice Az zs.length cz, .slice Al ls.length cl] 26 (0, 0)))) (fun i W => zs.length - (intOf i).toNat)
    case atStart => exact ⟨0, Nat.zero_le _, rfl, G3, HB3⟩
    case round =>
      clear G3 HB3
      obtain ⟨k, hk, rfl, hg, hbk⟩ := hrel
      by_cases hlt : k < zs.length
      · obtain ⟨⟨znm, zA, zc, ze⟩, hz⟩ := get_lt hlt
        obtain ⟨bz, off, rfl, c0, c1⟩ := HZ.out.two hz rfl hg.out
        have ZA := Lib.hid ((HZA.out _ (get_mem hz)).gr hg.out)
        have HZK := Lib.hid hz
        have RZ : Hid (resC rs zs ls znm = 0) := res_zone H0.out hz
        have EZ : Hid (endN zs ls znm.toList = k) := end_zone (good_of H0.out) hz
        have ZL : Hid (ze.length ≤ 100000) := Nat.le_trans ((good_of H0.out).es _ (get_mem hz)) (by omega)
        have ZB := Lib.hid (box_one wr (.cells #[.string znm, .slice zA ze.length zc] 32))
        have x0 : (wr.alloc (.cells #[.string znm, .slice zA ze.length zc] 32)).cell? ⟨q, 0, none⟩ = some (.slice Ar rs.length cr) := bcell_row (bheap_gr ZB.out.1 hbk.out) rfl
        have x1 : (wr.alloc (.cells #[.string znm, .slice zA ze.length zc] 32)).cell? ⟨q, 1, none⟩ = some (.slice (some ⟨bz, off, none⟩) zs.length cz) := bcell_row (bheap_gr ZB.out.1 hbk.out) rfl
        have x2 : (wr.alloc (.cells #[.string znm, .slice zA ze.length zc] 32)).cell? ⟨q, 2, none⟩ = some (.slice Al ls.length cl) := bcell_row (bheap_gr ZB.out.1 hbk.out) rfl
        clear hz
        go_wp2_with fail
        clear x0 x1 x2 c0 c1
        generalize wr.alloc (.cells #[.string znm, .slice zA ze.length zc] 32) = w4 at ZB ⊢
        generalize wr.heap.size = q2 at ZB ⊢
        refine (KP.out znm w4 (hg.out.trans ZB.out.1) ZA.out.1).mono ?_
        rintro e w5 ⟨⟨znm2, zA2, zc2, ze2⟩, rfl, za, g5, hok, _⟩
        obtain ⟨y, hy, e1, e2⟩ := hok RZ.out
        rw [EZ.out, HZK.out] at hy
        injection hy with hy
        subst hy
        simp only at e1 e2
        subst e1; subst e2
        rw [RZ.out]
        have B5 := Lib.hid (box_one w5 (.cells #[.string znm2, .slice zA2 ze2.length zc2] 32))
        have R6 := Lib.hid (ZA.out.2.2.1.gr ((ZB.out.1.trans g5).trans B5.out.1))
        have S6 := Lib.hid (za.2.2.1.gr B5.out.1)
        have G6 := Lib.hid (((hg.out.trans ZB.out.1).trans g5).trans B5.out.1)
        have HB6 := Lib.hid (bheap_gr ((ZB.out.1.trans g5).trans B5.out.1) hbk.out)
        have y0 : (w5.alloc (.cells #[.string znm2, .slice zA2 ze2.length zc2] 32)).cell? ⟨q2, 0, none⟩ = some (.string znm2) := bcell_row (bheap_gr (g5.trans B5.out.1) ZB.out.2) rfl
        have y1 : (w5.alloc (.cells #[.string znm2, .slice zA2 ze2.length zc2] 32)).cell? ⟨q2, 1, none⟩ = some (.slice zA ze2.length zc) := bcell_row (bheap_gr (g5.trans B5.out.1) ZB.out.2) rfl
        clear za g5 hok hg hbk ZB ZA B5
        go_wp2_with fail
        clear y0 y1
        refine (KZ.out znm2 zA2 zc2 zA zc ze2 ze2.length _ rfl ZL.out S6.out R6.out).mono ?_
        rintro e w7 ⟨rfl, g7⟩
        have G7 := Lib.hid (G6.out.trans g7)
        have HB7 := Lib.hid (bheap_gr g7 HB6.out)
        clear g7 G6 HB6 R6 S6
        go_wp2_with fail
        go_roundw
        case rel => exact ⟨k + 1, by omega, by go_num, G7, HB7⟩
        case measure => simp [intOf]; omega
      · have x2 : wr.cell? ⟨q, 2, none⟩ = some (.slice Al ls.length cl) := bcell_row hbk.out rfl
        clear hk
        go_wp2_with fail
        clear x2
        go_loopw [44] (fun i W => ∃ j : Nat, j ≤ ls.length ∧ i = .int .i64 j ∧ Hid (Gr w W) ∧ Hid (W.heap[q]? = some (.cells #[.slice Ar rs.length cr, .slice Az zs.length cz, .slice Al ls.length cl] 26 (0, 0)))) (fun i W => ls.length - (intOf i).toNat)
        case atStart => exact ⟨0, Nat.zero_le _, rfl, hg, hbk⟩
        case round =>
          clear hg hbk hlt
          obtain ⟨j, hj, rfl, hg, hbk⟩ := hrel
          by_cases hlt : j < ls.length
          · obtain ⟨⟨xnm, xt⟩, hx⟩ := get_lt hlt
            obtain ⟨bz, off, rfl, c0, c1⟩ := HL.out.two hx rfl hg.out
            have HXI := Lib.hid (HLI.out _ (get_mem hx))
            have HX := Lib.hid hx
            obtain ⟨r1, _, r3⟩ := res_link H0.out hx
            have R1 : Hid (resC rs zs ls xt = resC rs zs ls xnm) := r1
            have R3 : Hid (resC rs zs ls xnm = 0 ∨ resC rs zs ls xnm = 8) := r3
            have ZB := Lib.hid (box_one wr (.cells #[.string xnm, .string xt] 37))
            have x0 : (wr.alloc (.cells #[.string xnm, .string xt] 37)).cell? ⟨q, 0, none⟩ = some (.slice Ar rs.length cr) := bcell_row (bheap_gr ZB.out.1 hbk.out) rfl
            have x1 : (wr.alloc (.cells #[.string xnm, .string xt] 37)).cell? ⟨q, 1, none⟩ = some (.slice Az zs.length cz) := bcell_row (bheap_gr ZB.out.1 hbk.out) rfl
            have x2 : (wr.alloc (.cells #[.string xnm, .string xt] 37)).cell? ⟨q, 2, none⟩ = some (.slice (some ⟨bz, off, none⟩) ls.length cl) := bcell_row (bheap_gr ZB.out.1 hbk.out) rfl
            clear hx r1 r3
            go_wp2_with fail
            clear x0 x1 x2 c0 c1
            generalize wr.alloc (.cells #[.string xnm, .string xt] 37) = w4 at ZB ⊢
            generalize wr.heap.size = q2 at ZB ⊢
            refine (KP.out xnm w4 (hg.out.trans ZB.out.1) HXI.out.1).mono ?_
            rintro e w5 ⟨⟨znm, zA, zc, ze⟩, rfl, za, g5, hok, hno⟩
            have B5 := Lib.hid (box_one w5 (.cells #[.string znm, .slice zA ze.length zc] 32))
            have OK1 := Lib.hid hok
            have NO1 := Lib.hid hno
            have R6 := Lib.hid (za.2.2.1.gr B5.out.1)
            have G6 := Lib.hid (((hg.out.trans ZB.out.1).trans g5).trans B5.out.1)
            have HB6 := Lib.hid (bheap_gr ((ZB.out.1.trans g5).trans B5.out.1) hbk.out)
            have HX6 := Lib.hid (bheap_gr (g5.trans B5.out.1) ZB.out.2)
            have x0 : (w5.alloc (.cells #[.string znm, .slice zA ze.length zc] 32)).cell? ⟨q, 0, none⟩ = some (.slice Ar rs.length cr) := bcell_row HB6.out rfl
            have x1 : (w5.alloc (.cells #[.string znm, .slice zA ze.length zc] 32)).cell? ⟨q, 1, none⟩ = some (.slice Az zs.length cz) := bcell_row HB6.out rfl
            have x2 : (w5.alloc (.cells #[.string znm, .slice zA ze.length zc] 32)).cell? ⟨q, 2, none⟩ = some (.slice (some ⟨bz, off, none⟩) ls.length cl) := bcell_row HB6.out rfl
            have x3 : (w5.alloc (.cells #[.string znm, .slice zA ze.length zc] 32)).cell? ⟨q2, 1, none⟩ = some (.string xt) := bcell_row HX6.out rfl
            clear za g5 hok hno hg hbk ZB
            go_wp2_with fail
            clear x0 x1 x2 x3
            generalize w5.alloc (.cells #[.string znm, .slice zA ze.length zc] 32) = w6 at B5 R6 G6 HB6 HX6 ⊢
            generalize w5.heap.size = q5 at B5 ⊢
            refine (KP.out xt w6 G6.out HXI.out.2).mono ?_
            rintro e w7 ⟨⟨znm2, zA2, zc2, ze2⟩, rfl, za, g7, hok, hno⟩
            obtain ⟨e1, e2, hl⟩ := res_two (z := ⟨znm, zA, zc, ze⟩) (z2 := ⟨znm2, zA2, zc2, ze2⟩) H0.out HX.out OK1.out NO1.out hok hno
            simp only at e1 e2 hl
            subst e1; subst e2
            rw [R1.out]
            have HLE := Lib.hid hl
            have B7 := Lib.hid (box_one w7 (.cells #[.string znm2, .slice zA2 ze2.length zc2] 32))
            have R8 := Lib.hid (R6.out.gr (g7.trans B7.out.1))
            have S8 := Lib.hid (za.2.2.1.gr B7.out.1)
            have G8 := Lib.hid ((G6.out.trans g7).trans B7.out.1)
            have HB8 := Lib.hid (bheap_gr (g7.trans B7.out.1) HB6.out)
            have y0 : (w7.alloc (.cells #[.string znm2, .slice zA2 ze2.length zc2] 32)).cell? ⟨q5, 0, none⟩ = some (.string znm2) := bcell_row (bheap_gr (g7.trans B7.out.1) B5.out.2) rfl
            have y1 : (w7.alloc (.cells #[.string znm2, .slice zA2 ze2.length zc2] 32)).cell? ⟨q5, 1, none⟩ = some (.slice zA ze2.length zc) := bcell_row (bheap_gr (g7.trans B7.out.1) B5.out.2) rfl
            clear za g7 hok hno hl OK1 NO1 R6 G6 HB6 HX6 B5 B7
            obtain ⟨C, eC⟩ : ∃ C, resC rs zs ls xnm = C := ⟨_, rfl⟩
            rw [eC] at R3
            rw [eC]
            clear eC R1
            have t0 : (C != C) = false := by simp
            rcases R3.out with rfl | rfl
            · go_wp2_with fail
              clear y0 y1
              refine (KZ.out znm2 zA zc zA2 zc2 ze2 ze2.length _ rfl HLE.out R8.out S8.out).mono ?_
              rintro e w9 ⟨rfl, g9⟩
              have G9 := Lib.hid (G8.out.trans g9)
              have HB9 := Lib.hid (bheap_gr g9 HB8.out)
              clear g9 G8 HB8 R8 S8
              go_wp2_with fail
              go_roundw
              case rel => exact ⟨j + 1, by omega, by go_num, G9, HB9⟩
              case measure => simp [intOf]; omega
            · go_wp2_with fail
              clear y0 y1
              refine (KZ.out znm2 zA zc zA2 zc2 ze2 ze2.length _ rfl HLE.out R8.out S8.out).mono ?_
              rintro e w9 ⟨rfl, g9⟩
              have G9 := Lib.hid (G8.out.trans g9)
              have HB9 := Lib.hid (bheap_gr g9 HB8.out)
              clear g9 G8 HB8 R8 S8
              go_wp2_with fail
              go_roundw
              case rel => exact ⟨j + 1, by omega, by go_num, G9, HB9⟩
              case measure => simp [intOf]; omega
          · clear hj
            go_wp2_with fail
            go_ret
            exact ⟨rfl, hg.out⟩

set_option maxRecDepth 100000 in
theorem contract (H : Type) (enc : TypeId × Value → H) (W : World) (base : Nat) (args : Array Value) (ds gs : List (DataW H)) (before : List MemPlace)
    (hval : ∀ (j : Nat) t v, Tryd.f3.params[j]? = some t → args[j]? = some v → Value.okWide Tryd.prog W .any base t v)
    (hW : DataW.Whole enc Tryd.prog Tryd.f3.params.toList Rows.namesZonesSpec.vars false W args.toList ds gs before) (hL : laidMet Tryd.prog Rows.namesZonesRow.laid W) (hsh : W.ShapedOpen Tryd.prog) :
    Calls Tryd.prog 3 args W fun e W' => ∃ v, e = .returned v ∧ Rows.namesZonesSpec.post enc Tryd.prog Tryd.f3 false true false false W args v W' := by
  have hW' := hW
  obtain ⟨p, q, hA0, hV, rfl, hfz, hnd⟩ := hW
  have hA : DataW.TrodAll enc Tryd.prog W 0 (fun _ => true) true Tryd.f3.params.toList args.toList ds p := hA0
  rw [Tryd.params3] at hA hval
  obtain ⟨v0, vs0, d0, ds0, p0, q0, hargs, rfl, rfl, h0, r0⟩ := trodAll_cons hA
  obtain ⟨rfl, rfl, rfl⟩ := trodAll_nil r0
  obtain rfl : args = #[v0] := by cases args; simp_all
  obtain ⟨rfl, rfl⟩ := trodVars_none hV
  obtain ⟨bk0, rfl, bi0⟩ := open_book (hval 0 26 v0 rfl rfl) h0
  clear hA0
  simp only [List.append_nil] at hW'
  refine (walk bk0 W bi0 ⟨lens_of hL (List.mem_of_getElem? (i := 3) rfl), pow_of hL (List.mem_of_getElem? (i := 2) rfl), max_of hsh⟩).mono fun e W' ⟨he, hg⟩ => ?_
  subst he
  exact ⟨_, rfl, post_of_below (pa := (p0 ++ [])) (pv := []) hW' (fun _ _ _ => trodAll_cons_mk (shut_bool Tryd.underlying4 _) trodAll_mk0) (fun _ hsp => (trodAll_cons_mk (stays book_reads h0 hg (fun p hp => by simp [hp]) (fun p hp => hW'.lt p hp) hsp) trodAll_mk0)) (fun _ _ => rfl) (by simp)
    hg (ok_one (by kernel_rfl) rfl (okWide_bool_mk Tryd.underlying4 _))⟩

/-- A world for the witness: the settled one, the listed variables holding what their initialisers lay. -/
noncomputable def laidWorld (os : Os) : World := put (put (put (put (put (put (bare os) 5 (flat1 Rows.laid_math_bits_deBruijn32tab)) 6 (flat1 Rows.laid_math_bits_deBruijn64tab)) 4 (flat1 Rows.laid_internal_strconv_uint64pow10)) 0 (flat1 Rows.laid_timeball_civil_lengths)) 3 (flat2 Rows.laid_unicode_utf8_acceptRanges)) 2 (flat1 Rows.laid_unicode_utf8_first)
set_option maxRecDepth 100000 in
theorem laid_met (os : Os) : laidMet Tryd.prog Rows.namesZonesRow.laid ((laidWorld os).forCall (fun _ _ => 0) ⟨#[], #[.agg #[.slice none 0 0, .slice none 0 0, .slice none 0 0]], []⟩).memory :=
  laidMet_of_run3 8 (by kernel_rfl) (by kernel_rfl) (by kernel_rfl)
theorem reads (os : Os) {H : Type} (enc : TypeId × Value → H) : ∃ places, DataW.whole enc Tryd.prog ((laidWorld os).forCall (fun _ _ => 0) ⟨#[], #[.agg #[.slice none 0 0, .slice none 0 0, .slice none 0 0]], []⟩).memory Tryd.f3.params.toList Rows.namesZonesSpec.vars false #[Value.agg #[.slice none 0 0, .slice none 0 0, .slice none 0 0]].toList 8 = some ([.agg [.nil, .nil, .nil]], [], places) :=
  ⟨[], by kernel_rfl⟩

set_option maxRecDepth 100000 in
theorem lifted (os : Os) (started : os.Started) (H : Type) (enc : TypeId × Value → H) (F : Stop.Interp) :
    ReturnsInHanded {} Tryd.checked os 3 .any ((OpenSpec.ofChange Rows.namesZonesSpec).preRow enc Tryd.prog Tryd.f3 Rows.namesZonesRow.domain false Rows.namesZonesRow.laid) (((OpenSpec.ofChange Rows.namesZonesSpec).at F).post enc Tryd.prog Tryd.f3 false true false false) := by
  obtain ⟨places, hx⟩ := reads os enc
  refine returnsInHanded_of_row (C := Tryd.checked) (s := OpenSpec.ofChange Rows.namesZonesSpec) own started (by kernel_rfl) Tryd.func3
    (witness_row_at (enc := enc) (C := Tryd.checked) false (laidWorld os) #[.agg #[.slice none 0 0, .slice none 0 0, .slice none 0 0]] rfl (by kernel_rfl) (by kernel_rfl) (by kernel_rfl)
      (OpenSpec.preRow_of_cond 8 hx (by kernel_rfl) (fun k hk => by cases hk) (by kernel_rfl) (laid_met os))) ?_
  intro W base args ds gs before hval hW _ _ _ hL hsh _
  exact contract H enc W base args ds gs before hval hW hL hsh

theorem said : Rows.NamesZonesSaid :=
  OpenClaim.holds_of_cond 3 Tryd.f3 rfl rfl rfl rfl rfl rfl rfl ⟨rfl, rfl, rfl, rfl, rfl⟩ rfl rfl rfl rfl rfl (by kernel_rfl) Tryd.func3 (by kernel_rfl)
    (of_decide_eq_true (by kernel_rfl)) (by unfold Func.isWrapper; first | (rw [if_pos (by decide +kernel)]; kernel_rfl) | (rw [if_neg (by decide +kernel)]; exact ⟨rfl, rfl⟩))
    (fun os started H enc _ F => by rw [OpenClaim.pre_eq_preRow]; exact lifted os started H enc F)

set_option maxRecDepth 100000 in
/-- No parameter wants a stand-in; whether the program has looks of its own. -/
theorem plain (f : FuncId) (fn : Func) (hf : Tryd.pinned.checked.prog.funcNamed "timeball/timeballkeep.NamesZones" = some f) (hfn : Tryd.pinned.checked.prog.funcs[f]? = some fn) :
    false = Tryd.pinned.checked.prog.looks [] ∧ ∀ (j : Nat) t, fn.params[j]? = some t → Tryd.pinned.checked.prog.wantsStandIn t = false := by
  obtain rfl : f = 3 := Option.some.inj ((show Tryd.prog.funcNamed "timeball/timeballkeep.NamesZones" = some 3 by kernel_rfl).symm.trans hf) |>.symm
  obtain rfl : fn = Tryd.f3 := (Option.some.inj (Tryd.func3.symm.trans hfn)).symm
  refine ⟨by kernel_rfl, fun j t ht => ?_⟩
  rw [Tryd.params3] at ht
  obtain rfl : t = 26 := by simpa using Array.mem_of_getElem? ht
  exact (show Tryd.prog.wantsStandIn 26 = false by kernel_rfl)

end Go.Proofs.YtemdgipkcilpcaaDoor.namesZones
namespace Go.Proofs.YtemdgipkcilpcaaDoor
/-- The card. -/
theorem namesZones_holds : Rows.NamesZonesCardSaid :=
  Claim7.holds_tied_plain_at .later [] _ _ _ _ namesZones.said (fun _ h => by cases h) (by kernel_rfl) (fun _ h => by cases h) namesZones_row_tie rfl ⟨rfl, rfl⟩ (by kernel_rfl) rfl namesZones.plain (by kernel_rfl)
end Go.Proofs.YtemdgipkcilpcaaDoor
