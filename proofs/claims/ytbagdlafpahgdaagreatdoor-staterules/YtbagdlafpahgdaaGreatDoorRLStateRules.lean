/- The law StateRules of package timeballkeep returns true for every input and leaves its arguments as they were: In an era with rules the type is that of the last transition; ahead of the first one nothing is saved. Condition: the listed variables (math/bits.deBruijn32tab, math/bits.deBruijn64tab, internal/strconv.uint64pow10, timeball/civil.lengths, unicode/utf8.acceptRanges, unicode/utf8.first) lie as their initialisers lay them; the card ties that tto the program's text. -/
import Derived.Test.YtbagdlafpahgdaaGreatDoorCards
import Derived.Test.YtbagdlafpahgdaaGreatDoorTie
import Derived.Test.YtbagdlafpahgdaaGreatDoorRM32
import Derived.Test.YtbagdlafpahgdaaGreatDoorRM50
import Derived.Test.YtbagdlafpahgdaaGreatDoorRM30
import Derived.Test.YtbagdlafpahgdaaGreatDoorRM45
namespace Go.Proofs.YtbagdlafpahgdaaGreatDoor.stateRules
open Go.ChangeShapes Go.WideShapes Go.ChangeAt Go.RowKit
open Go.ChangeMaps (open_string shut_string)
set_option linter.unusedVariables false
set_option linter.unusedSimpArgs false
set_option maxRecDepth 100000 in
set_option maxHeartbeats 16000000 in
theorem walk (b : BokD) (nm : ByteArray) (hn : nm.size ≤ maxLen) (off : Int) (hf1 : -9223372036854775808 ≤ off) (hf2 : off ≤ 9223372036854775807) (t0 : Int) (hg1 : -9223372036854775808 ≤ t0) (hg2 : t0 ≤ 9223372036854775807) (w : World) (hb : b.At w) (ht : BkTab w) :
    Calls Tryz.prog 7 #[bookV b, .string nm, .int .i64 off, .int .i64 t0] w fun e w' => e = .returned (.bool true) ∧ Gr w w' := by
  have KS := Lib.hid (fun W (g : Gr w W) => pstated W (g.bk ht))
  have KR := Lib.hid (fun W => rest_q off 129601 W hf1 hf2 (by omega) (by omega))
  have KT := Lib.hid (fun W => tV_any t0 W hg1 hg2)
  have TBD := tV_bd t0
  have TB : Hid (tmB (tV t0) = true) := tmB_yes.2 TBD
  have KO := Lib.hid (fun o W (g : Gr w W) => tOf b nm o W (hb.gr g) (g.bk ht))
  have KP := Lib.hid (fun bb t W (g : Gr w W) (ha : BokD.At W bb) t1 t2 => pAt bb (S [90]) t W ha (by rw [S_size]; unfold maxLen; decide) t1 t2 (g.bk ht))
  have HN : Hid (nm.size ≤ maxLen) := hn
  have r1 : 0 ≤ off % 129601 := by omega
  have r2 : off % 129601 < 129601 := by omega
  generalize tV t0 = t at KT TBD TB
  generalize off % 129601 = r at KR r1 r2
  obtain ⟨tb1, tb2⟩ := TBD
  obtain ⟨Ar, cr, rs, Az, cz, zs, Al, cl, ls⟩ := b
  simp only at KO
  have HRS : Hid (RusAt w Ar cr rs) := hb.1
  have B0 := Lib.hid (box_one w (.cells #[.slice Ar rs.length cr, .slice Az zs.length cz, .slice Al ls.length cl] 26))
  clear hb ht hn hf1 hf2 hg1 hg2
  go_enter Tryz.func7, Tryz.ntmps7
  go_wp2_with fail
  generalize w.alloc (.cells #[.slice Ar rs.length cr, .slice Az zs.length cz, .slice Al ls.length cl] 26) = w1 at B0 ⊢
  generalize w.heap.size = q at B0 ⊢
  refine (KS.out w1 B0.out.1).mono ?_
  rintro e w2 ⟨rfl, g2⟩
  have G2 := Lib.hid (B0.out.1.trans g2)
  have HQ2 := Lib.hid (bheap_gr g2 B0.out.2)
  clear g2 B0 KS
  go_wp2_with fail
  refine (KR.out w2).mono ?_
  rintro e w3 ⟨rfl, rfl⟩
  go_wp2_with fail
  refine (KT.out w3).mono ?_
  rintro e w4 ⟨rfl, g4⟩
  have G4 := Lib.hid (G2.out.trans g4)
  have HQ4 := Lib.hid (bheap_gr g4 HQ2.out)
  clear g4 G2 HQ2
  have x0 : w4.cell? ⟨q, 0, none⟩ = some (.slice Ar rs.length cr) := bcell_row HQ4.out rfl
  have x1 : w4.cell? ⟨q, 1, none⟩ = some (.slice Az zs.length cz) := bcell_row HQ4.out rfl
  have x2 : w4.cell? ⟨q, 2, none⟩ = some (.slice Al ls.length cl) := bcell_row HQ4.out rfl
  go_wp2_with fail
  clear x0 x1 x2
  refine (KO.out (r - 64800) w4 G4.out).mono ?_
  rintro e w5 ⟨A5, c5, rfl, ta, g5⟩
  have G5 := Lib.hid (G4.out.trans g5)
  have HQ5 := Lib.hid (bheap_gr g5 HQ4.out)
  have TA := Lib.hid ta.2
  clear g5 ta G4 HQ4 KO
  by_cases hk : ofC rs zs ls nm (r - 64800) = 0
  case neg =>
    have e0 : ofL rs zs ls nm (r - 64800) = [] := by unfold ofL; rw [if_neg hk]
    rw [e0]
    generalize ofC rs zs ls nm (r - 64800) = C at hk ⊢
    have t1 : (C != 0) = true := bneT hk
    have t2 : ((([] : List TurD).length : Int) == 0) = true := by decide
    clear hk e0
    go_wp2_with fail
    go_ret
    exact ⟨rfl, G5.out⟩
  case pos =>
    have HK := Lib.hid hk
    have RI : Hid (Rise (ofL rs zs ls nm (r - 64800))) := ofL_rise
    have LN : Hid ((ofL rs zs ls nm (r - 64800)).length ≤ 100000) := ofL_len
    rw [hk]
    clear hk
    have x0 : w5.cell? ⟨q, 0, none⟩ = some (.slice Ar rs.length cr) := bcell_row HQ5.out rfl
    have BX := Lib.hid (box_three w5 (.cells #[.int .i64 (r - 64800), .string nm, .int .i64 0, .string ⟨#[88, 47, 89]⟩, .int .i64 0] 40) (.cells #[.string ⟨#[90]⟩, .slice (some ⟨w5.heap.size, 0, none⟩) 1 1] 36) (.cells #[.slice Ar rs.length cr, .slice (some ⟨w5.heap.size + 1, 0, none⟩) 1 1, .slice none 0 0] 26))
    go_wp2_with (first | (refine lay_one _ _ _ (by rfl) (bsn_era1 _ (r - 64800) 0 0 nm ⟨#[88, 47, 89]⟩) ?_) | (refine lay_one _ _ _ (by rfl) (bsn_zone1 _ ⟨#[90]⟩ _ 1 1) ?_))
    clear x0
    have G6 := Lib.hid (G5.out.trans BX.out.1)
    have TA6 := Lib.hid (TA.out.gr BX.out.1)
    generalize ((w5.alloc (.cells #[.int .i64 (r - 64800), .string nm, .int .i64 0, .string ⟨#[88, 47, 89]⟩, .int .i64 0] 40)).alloc (.cells #[.string ⟨#[90]⟩, .slice (some ⟨w5.heap.size, 0, none⟩) 1 1] 36)).alloc (.cells #[.slice Ar rs.length cr, .slice (some ⟨w5.heap.size + 1, 0, none⟩) 1 1, .slice none 0 0] 26) = w6 at BX G6 TA6 ⊢
    generalize w5.heap.size = q1 at BX ⊢
    have AA := Lib.hid (aloneB_at (Ar := Ar) (cr := cr) (rs := rs) (q := q1) (q2 := q1 + 1) (nm := S [90]) (e := rulE (r - 64800) nm) (HRS.out.gr G6.out) (by rw [S_size]; unfold maxLen; decide) ⟨HN.out, by rw [show (rulE (r - 64800) nm).fm = S [88, 47, 89] from rfl, S_size]; unfold maxLen; decide, by show (-9223372036854775808 : Int) ≤ 0; decide, by show (0 : Int) ≤ 9223372036854775807; decide⟩ BX.out.2.1 BX.out.2.2.1)
    clear BX G5 HQ5 TA
    refine (KP.out (aloneB Ar cr rs q1 (q1 + 1) (S [90]) (rulE (r - 64800) nm)) t w6 G6.out AA.out (by omega) (by omega)).mono ?_
    rintro e w7 ⟨rfl, g7⟩
    have G7a := Lib.hid (G6.out.trans g7)
    have TA7a := Lib.hid (TA6.out.gr g7)
    obtain ⟨R1, sv, R2, R3, R4, R5⟩ := at_rules (z := ⟨S [90], some ⟨q1, 0, none⟩, 1, [rulE (r - 64800) nm]⟩) HK.out (show isNameB (S [90]).toList = true by rw [S_toList]; decide) rfl TB.out
    have R1' : atC (aloneB Ar cr rs q1 (q1 + 1) (S [90]) (rulE (r - 64800) nm)).rs (aloneB Ar cr rs q1 (q1 + 1) (S [90]) (rulE (r - 64800) nm)).zs (aloneB Ar cr rs q1 (q1 + 1) (S [90]) (rulE (r - 64800) nm)).ls (S [90]) t = 0 := R1
    have R3' : atT (aloneB Ar cr rs q1 (q1 + 1) (S [90]) (rulE (r - 64800) nm)).rs (aloneB Ar cr rs q1 (q1 + 1) (S [90]) (rulE (r - 64800) nm)).zs (aloneB Ar cr rs q1 (q1 + 1) (S [90]) (rulE (r - 64800) nm)).ls (S [90]) t = ⟨r - 64800 + sv, decide (0 < sv), S (if sv = 0 then [88] else [89])⟩ := R3
    rw [R1', R3']
    have FT : Hid ((sv = 0 → decide (0 < sv) = false ∧ S (if sv = 0 then [88] else [89]) = ⟨#[88]⟩) ∧ (0 < sv → decide (0 < sv) = true ∧ S (if sv = 0 then [88] else [89]) = ⟨#[89]⟩)) := ⟨fun h => ⟨by rw [h]; decide, by rw [if_pos h]; rfl⟩, fun h => ⟨decide_eq_true h, by rw [if_neg (by omega)]; rfl⟩⟩
    clear R1 R1' R3 R3' AA g7 G6 TA6 KP
    have SVE := Lib.hid R2
    clear R2
    obtain ⟨o, ho⟩ : ∃ o, r - 64800 + sv = o := ⟨_, rfl⟩
    rw [ho]
    have HO := Lib.hid ho
    clear ho
    generalize decide (0 < sv) = sb at FT ⊢
    generalize S (if sv = 0 then [88] else [89]) = n at FT ⊢
    generalize ofL rs zs ls nm (r - 64800) = L at SVE TA7a RI LN ⊢
    have NX := Lib.hid (box_one w7 (.cells #[.int .i64 o, .bool sb, .string n] 28))
    have ln := LN.out
    go_wp2_with fail
    have G7 := Lib.hid (G7a.out.trans NX.out.1)
    have TA7 := Lib.hid (TA7a.out.gr NX.out.1)
    generalize w7.alloc (.cells #[.int .i64 o, .bool sb, .string n] 28) = w8 at NX G7 TA7 ⊢
    generalize w7.heap.size = qx at NX ⊢
    have HX := Lib.hid NX.out.2
    clear NX G7a TA7a
    generalize hlm : lateI L t = m at SVE
    have LE : Hid (m ≤ L.length) := by rw [← hlm]; exact lateI_le L t
    have LM := Lib.hid hlm
    clear hlm
    go_loopw [14, 54] (fun s i W => ∃ (k : Nat) (s' : Int), k ≤ L.length ∧ i = .int .i64 k ∧ s = .int .i64 s' ∧ Hid (s' = (lastP (0, dash) L (min k m)).1) ∧ Hid (Gr w8 W)) (fun s i W => L.length - (intOf i).toNat)
    case atStart => exact ⟨0, 0, Nat.zero_le _, rfl, rfl, by unfold Hid; rw [Nat.zero_min, lastP_zero], Gr.refl _⟩
    case round =>
      obtain ⟨k, s', hk, rfl, rfl, hp, hg⟩ := hrel
      by_cases hlt : k < L.length
      · obtain ⟨⟨xa, xs, xl⟩, hx⟩ := get_lt hlt
        obtain ⟨bt, of', rfl, c0, c1, c2⟩ := TA7.out.three hx rfl hg.out
        by_cases hle : xa ≤ t
        · have HY : Hid (xs = (lastP (0, dash) L (min (k + 1) m)).1) := by unfold Hid; rw [← LM.out, lastP_yes RI.out hx hle]
          clear hx hp
          go_wp2_with fail
          go_roundw
          case rel => exact ⟨k + 1, xs, by omega, by go_num, rfl, HY.out, hg.out.alloc' _⟩
          case measure => simp [intOf]; omega
        · have HY : Hid (s' = (lastP (0, dash) L (min (k + 1) m)).1) := by unfold Hid; rw [hp.out, ← LM.out, lastP_no RI.out hx hle]
          clear hx hp
          go_wp2_with fail
          go_roundw
          case rel => exact ⟨k + 1, s', by omega, by go_num, rfl, HY.out, hg.out.alloc' _⟩
          case measure => simp [intOf]; omega
      · have es : s' = sv := by
          have e : k = L.length := by omega
          rw [hp.out, SVE.out, show min k m = m by have := LE.out; omega]
        subst es
        clear hp SVE
        by_cases hz : s' = 0
        · obtain ⟨rfl, rfl⟩ := FT.out.1 hz
          have eo : o = r - 64800 := by have := HO.out; omega
          clear HO FT
          subst eo
          subst hz
          have NY := Lib.hid (box_one wr (.cells #[.int .i64 (r - 64800), .bool false, .string ⟨#[88]⟩] 28))
          have HX1 := Lib.hid (bheap_gr (hg.out.trans NY.out.1) HX.out)
          have y0 : (wr.alloc (.cells #[.int .i64 (r - 64800), .bool false, .string ⟨#[88]⟩] 28)).cell? ⟨qx, 0, none⟩ = some (.int .i64 (r - 64800)) := bcell_row HX1.out rfl
          have y1 : (wr.alloc (.cells #[.int .i64 (r - 64800), .bool false, .string ⟨#[88]⟩] 28)).cell? ⟨qx, 1, none⟩ = some (.bool false) := bcell_row HX1.out rfl
          have y2 : (wr.alloc (.cells #[.int .i64 (r - 64800), .bool false, .string ⟨#[88]⟩] 28)).cell? ⟨qx, 2, none⟩ = some (.string ⟨#[88]⟩) := bcell_row HX1.out rfl
          have EQ := fun w => eqType ((r - 64800)) false ⟨#[88]⟩ w
          go_wp2_with fail
          go_ret
          exact ⟨rfl, G7.out.trans (hg.out.trans NY.out.1)⟩
        · have hz' : 0 < s' := by omega
          obtain ⟨rfl, rfl⟩ := FT.out.2 hz'
          obtain rfl := HO.out
          clear FT
          have NY := Lib.hid (box_one wr (.cells #[.int .i64 (r - 64800 + s'), .bool true, .string ⟨#[89]⟩] 28))
          have HX1 := Lib.hid (bheap_gr (hg.out.trans NY.out.1) HX.out)
          have y0 : (wr.alloc (.cells #[.int .i64 (r - 64800 + s'), .bool true, .string ⟨#[89]⟩] 28)).cell? ⟨qx, 0, none⟩ = some (.int .i64 (r - 64800 + s')) := bcell_row HX1.out rfl
          have y1 : (wr.alloc (.cells #[.int .i64 (r - 64800 + s'), .bool true, .string ⟨#[89]⟩] 28)).cell? ⟨qx, 1, none⟩ = some (.bool true) := bcell_row HX1.out rfl
          have y2 : (wr.alloc (.cells #[.int .i64 (r - 64800 + s'), .bool true, .string ⟨#[89]⟩] 28)).cell? ⟨qx, 2, none⟩ = some (.string ⟨#[89]⟩) := bcell_row HX1.out rfl
          have EQ := fun w => eqType ((r - 64800 + s')) true ⟨#[89]⟩ w
          go_wp2_with fail
          go_ret
          exact ⟨rfl, G7.out.trans (hg.out.trans NY.out.1)⟩

set_option maxRecDepth 100000 in
theorem contract (H : Type) (enc : TypeId × Value → H) (W : World) (base : Nat) (args : Array Value) (ds gs : List (DataW H)) (before : List MemPlace)
    (hval : ∀ (j : Nat) t v, Tryz.f7.params[j]? = some t → args[j]? = some v → Value.okWide Tryz.prog W .any base t v)
    (hW : DataW.Whole enc Tryz.prog Tryz.f7.params.toList Rows.stateRulesSpec.vars false W args.toList ds gs before) (hL : laidMet Tryz.prog Rows.stateRulesRow.laid W) (hsh : W.ShapedOpen Tryz.prog) :
    Calls Tryz.prog 7 args W fun e W' => ∃ v, e = .returned v ∧ Rows.stateRulesSpec.post enc Tryz.prog Tryz.f7 false true false false W args v W' := by
  have hW' := hW
  obtain ⟨p, q, hA0, hV, rfl, hfz, hnd⟩ := hW
  have hA : DataW.TrodAll enc Tryz.prog W 0 (fun _ => true) true Tryz.f7.params.toList args.toList ds p := hA0
  rw [Tryz.params7] at hA hval
  obtain ⟨v0, vs0, d0, ds0, p0, q0, hargs, rfl, rfl, h0, r0⟩ := trodAll_cons hA
  obtain ⟨v1, vs1, d1, ds1, p1, q1, rfl, rfl, rfl, h1, r1⟩ := trodAll_cons r0
  obtain ⟨v2, vs2, d2, ds2, p2, q2, rfl, rfl, rfl, h2, r2⟩ := trodAll_cons r1
  obtain ⟨v3, vs3, d3, ds3, p3, q3, rfl, rfl, rfl, h3, r3⟩ := trodAll_cons r2
  obtain ⟨rfl, rfl, rfl⟩ := trodAll_nil r3
  obtain rfl : args = #[v0, v1, v2, v3] := by cases args; simp_all
  obtain ⟨rfl, rfl⟩ := trodVars_none hV
  obtain ⟨bk0, rfl, bi0⟩ := open_book (hval 0 26 v0 rfl rfl) h0
  obtain ⟨a1, rfl, rfl, rfl, w1⟩ := open_string Tryz.underlying9 (hval 1 9 v1 rfl rfl) h1
  obtain ⟨a2, rfl, rfl, rfl, w2⟩ := open_int Tryz.underlying3 (hval 2 3 v2 rfl rfl) h2
  obtain ⟨a3, rfl, rfl, rfl, w3⟩ := open_int Tryz.underlying3 (hval 3 3 v3 rfl rfl) h3
  clear hA0
  simp only [List.append_nil] at hW'
  refine (walk bk0 a1 w1 a2 (bounds_i64 w2).1 (bounds_i64 w2).2 a3 (bounds_i64 w3).1 (bounds_i64 w3).2 W bi0 ⟨lens_of hL (List.mem_of_getElem? (i := 3) rfl), pow_of hL (List.mem_of_getElem? (i := 2) rfl), max_of hsh⟩).mono fun e W' ⟨he, hg⟩ => ?_
  subst he
  exact ⟨_, rfl, post_of_below (pa := (p0 ++ ([] ++ ([] ++ ([] ++ []))))) (pv := []) hW' (fun _ _ _ => trodAll_cons_mk (shut_bool Tryz.underlying4 _) trodAll_mk0) (fun _ hsp => (trodAll_cons_mk (stays book_reads h0 hg (fun p hp => by simp [hp]) (fun p hp => hW'.lt p hp) hsp) (trodAll_cons_mk (shut_string Tryz.underlying9 w1) (trodAll_cons_mk (shut_int Tryz.underlying3 w2) (trodAll_cons_mk (shut_int Tryz.underlying3 w3) trodAll_mk0))))) (fun _ _ => rfl) (by simp)
    hg (ok_one (by kernel_rfl) rfl (okWide_bool_mk Tryz.underlying4 _))⟩

/-- A world for the witness: the settled one, the listed variables holding what their initialisers lay. -/
noncomputable def laidWorld (os : Os) : World := put (put (put (put (put (put (bare os) 5 (flat1 Rows.laid_math_bits_deBruijn32tab)) 6 (flat1 Rows.laid_math_bits_deBruijn64tab)) 2 (flat1 Rows.laid_internal_strconv_uint64pow10)) 0 (flat1 Rows.laid_timeball_civil_lengths)) 4 (flat2 Rows.laid_unicode_utf8_acceptRanges)) 3 (flat1 Rows.laid_unicode_utf8_first)
set_option maxRecDepth 100000 in
theorem laid_met (os : Os) : laidMet Tryz.prog Rows.stateRulesRow.laid ((laidWorld os).forCall (fun _ _ => 0) ⟨#[], #[.agg #[.slice none 0 0, .slice none 0 0, .slice none 0 0], .string .empty, .int .i64 0, .int .i64 0], []⟩).memory :=
  laidMet_of_run3 8 (by kernel_rfl) (by kernel_rfl) (by kernel_rfl)
theorem reads (os : Os) {H : Type} (enc : TypeId × Value → H) : ∃ places, DataW.whole enc Tryz.prog ((laidWorld os).forCall (fun _ _ => 0) ⟨#[], #[.agg #[.slice none 0 0, .slice none 0 0, .slice none 0 0], .string .empty, .int .i64 0, .int .i64 0], []⟩).memory Tryz.f7.params.toList Rows.stateRulesSpec.vars false #[Value.agg #[.slice none 0 0, .slice none 0 0, .slice none 0 0], Value.string .empty, Value.int .i64 0, Value.int .i64 0].toList 8 = some ([.agg [.nil, .nil, .nil], .lit (.string []), .lit (.int .i64 0), .lit (.int .i64 0)], [], places) :=
  ⟨[], by kernel_rfl⟩

set_option maxRecDepth 100000 in
theorem lifted (os : Os) (started : os.Started) (H : Type) (enc : TypeId × Value → H) (F : Stop.Interp) :
    ReturnsInHanded {} Tryz.checked os 7 .any ((OpenSpec.ofChange Rows.stateRulesSpec).preRow enc Tryz.prog Tryz.f7 Rows.stateRulesRow.domain false Rows.stateRulesRow.laid) (((OpenSpec.ofChange Rows.stateRulesSpec).at F).post enc Tryz.prog Tryz.f7 false true false false) := by
  obtain ⟨places, hx⟩ := reads os enc
  refine returnsInHanded_of_row (C := Tryz.checked) (s := OpenSpec.ofChange Rows.stateRulesSpec) own started (by kernel_rfl) Tryz.func7
    (witness_row_at (enc := enc) (C := Tryz.checked) false (laidWorld os) #[.agg #[.slice none 0 0, .slice none 0 0, .slice none 0 0], .string .empty, .int .i64 0, .int .i64 0] rfl (by kernel_rfl) (by kernel_rfl) (by kernel_rfl)
      (OpenSpec.preRow_of_cond 8 hx (by kernel_rfl) (fun k hk => by cases hk) (by kernel_rfl) (laid_met os))) ?_
  intro W base args ds gs before hval hW _ _ _ hL hsh _
  exact contract H enc W base args ds gs before hval hW hL hsh

theorem said : Rows.StateRulesSaid :=
  OpenClaim.holds_of_cond 7 Tryz.f7 rfl rfl rfl rfl rfl rfl rfl ⟨rfl, rfl, rfl, rfl, rfl⟩ rfl rfl rfl rfl rfl (by kernel_rfl) Tryz.func7 (by kernel_rfl)
    (of_decide_eq_true (by kernel_rfl)) (by unfold Func.isWrapper; first | (rw [if_pos (by decide +kernel)]; kernel_rfl) | (rw [if_neg (by decide +kernel)]; exact ⟨rfl, rfl⟩))
    (fun os started H enc _ F => by rw [OpenClaim.pre_eq_preRow]; exact lifted os started H enc F)

set_option maxRecDepth 100000 in
/-- No parameter wants a stand-in; whether the program has looks of its own. -/
theorem plain (f : FuncId) (fn : Func) (hf : Tryz.pinned.checked.prog.funcNamed "timeball/timeballkeep.StateRules" = some f) (hfn : Tryz.pinned.checked.prog.funcs[f]? = some fn) :
    false = Tryz.pinned.checked.prog.looks [] ∧ ∀ (j : Nat) t, fn.params[j]? = some t → Tryz.pinned.checked.prog.wantsStandIn t = false := by
  obtain rfl : f = 7 := Option.some.inj ((show Tryz.prog.funcNamed "timeball/timeballkeep.StateRules" = some 7 by kernel_rfl).symm.trans hf) |>.symm
  obtain rfl : fn = Tryz.f7 := (Option.some.inj (Tryz.func7.symm.trans hfn)).symm
  refine ⟨by kernel_rfl, fun j t ht => ?_⟩
  rw [Tryz.params7] at ht
  have hm : t = 3 ∨ t = 9 ∨ t = 26 := by have := Array.mem_of_getElem? ht; simp at this; first | exact this | exact this.symm | (rcases this with h | h | h <;> simp [h]) | omega
  rcases hm with rfl | rfl | rfl
  · exact (show Tryz.prog.wantsStandIn 3 = false by kernel_rfl)
  · exact (show Tryz.prog.wantsStandIn 9 = false by kernel_rfl)
  · exact (show Tryz.prog.wantsStandIn 26 = false by kernel_rfl)

end Go.Proofs.YtbagdlafpahgdaaGreatDoor.stateRules
namespace Go.Proofs.YtbagdlafpahgdaaGreatDoor
/-- The card. -/
theorem stateRules_holds : Rows.StateRulesCardSaid :=
  Claim7.holds_tied_plain_at .later [] _ _ _ _ stateRules.said (fun _ h => by cases h) (by kernel_rfl) (fun _ h => by cases h) stateRules_row_tie rfl ⟨rfl, rfl⟩ (by kernel_rfl) rfl stateRules.plain (by kernel_rfl)
end Go.Proofs.YtbagdlafpahgdaaGreatDoor
