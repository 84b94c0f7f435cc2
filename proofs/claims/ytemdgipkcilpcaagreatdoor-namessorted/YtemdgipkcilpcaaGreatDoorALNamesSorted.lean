/- The law NamesSorted of package timeballkeep returns true for every input and leaves its arguments as they were: The names stand in order, each once, lead tto a zone, and all names of zones are among them. Condition: the listed variables (math/bits.deBruijn32tab, math/bits.deBruijn64tab, internal/strconv.uint64pow10, timeball/civil.lengths, unicode/utf8.acceptRanges, unicode/utf8.first) lie as their initialisers lay them; the card ties that tto the program's text. -/
import Derived.Test.YtemdgipkcilpcaaGreatDoorCards
import Derived.Test.YtemdgipkcilpcaaGreatDoorTie
import Derived.Test.YtemdgipkcilpcaaGreatDoorAM28
import Derived.Test.YtemdgipkcilpcaaGreatDoorAM44
import Derived.Test.YtemdgipkcilpcaaGreatDoorAM45
import Derived.Test.YtemdgipkcilpcaaGreatDoorAM26
import Derived.Test.YtemdgipkcilpcaaGreatDoorAM22
namespace Go.Proofs.YtemdgipkcilpcaaGreatDoor.namesSorted
open Go.ChangeShapes Go.WideShapes Go.ChangeAt Go.RowKit
open Go.ChangeMaps (open_string shut_string)
set_option linter.unusedVariables false
set_option linter.unusedSimpArgs false
theorem all_nodup {rs : List RuD} {zs : List ZonD} {ls : List LinD} (h0 : bokC rs zs ls = 0) : (allN zs ls).Nodup := (List.Perm.nodup_iff (List.mergeSort_perm _ _)).2 (goods_nodup (good_of h0))
theorem all_res {rs : List RuD} {zs : List ZonD} {ls : List LinD} {x : List UInt8} (h0 : bokC rs zs ls = 0) (h : x ∈ allN zs ls) : resC rs zs ls (S x) = 0 := by
  obtain ⟨a, b⟩ := mem_allN.1 h
  exact resC_ok h0 (by rw [S_toList]; exact a) (by rw [S_toList]; exact b)
theorem all_zone {rs : List RuD} {zs : List ZonD} {ls : List LinD} {i : Nat} {z : ZonD} (h0 : bokC rs zs ls = 0) (hz : zs[i]? = some z) : (allN zs ls).contains z.nm.toList = true := by
  have : z.nm.toList ∈ allN zs ls := mem_allN.2 ⟨mem_zone hz, by rw [end_zone (good_of h0) hz]; exact (List.getElem?_eq_some_iff.1 hz).1⟩
  simpa using this

set_option maxRecDepth 100000 in
set_option maxHeartbeats 8000000 in
theorem walk (b : BokD) (w : World) (hb : b.At w) (ht : BkTab w) :
    Calls Tryz.prog 5 #[bookV b] w fun e w' => e = .returned (.bool true) ∧ Gr w w' := by
  have KP := Lib.hid (fun nm W (g : Gr w W) hn => presolve b nm W (hb.gr g) hn (g.bk ht))
  have KA := Lib.hid (fun W (g : Gr w W) => pall b W (hb.gr g) (g.bk ht))
  have KN := Lib.hid (fun W (g : Gr w W) => pnamed W (g.bk ht))
  have KH := Lib.hid (fun A c l (x : ByteArray) W hl h => rhas A c l x W hl h)
  obtain ⟨Ar, cr, rs, Az, cz, zs, Al, cl, ls⟩ := b
  have HZ : Hid (Row w 2 ZonD.cells Az zs) := hb.2.1.2.1
  have hzl : zs.length ≤ 9223372036854775807 := by have := Nat.le_trans hb.2.1.1.1 hb.2.1.1.2; unfold maxLen at this; exact this
  have hll : ls.length ≤ 9223372036854775807 := by have := Nat.le_trans hb.2.2.1.1 hb.2.2.1.2; unfold maxLen at this; exact this
  simp only at KP KA
  have B0 := Lib.hid (box_one w (.cells #[.slice Ar rs.length cr, .slice Az zs.length cz, .slice Al ls.length cl] 26))
  clear hb ht
  go_enter Tryz.func5, Tryz.ntmps5
  go_wp2_with fail
  generalize w.alloc (.cells #[.slice Ar rs.length cr, .slice Az zs.length cz, .slice Al ls.length cl] 26) = w1 at B0 ⊢
  generalize w.heap.size = q at B0 ⊢
  refine (KN.out w1 B0.out.1).mono ?_
  rintro e w2 ⟨rfl, g2⟩
  have G2 := Lib.hid (B0.out.1.trans g2)
  have HB2 := Lib.hid (bheap_gr g2 B0.out.2)
  have x0 : w2.cell? ⟨q, 0, none⟩ = some (.slice Ar rs.length cr) := bcell_row HB2.out rfl
  have x1 : w2.cell? ⟨q, 1, none⟩ = some (.slice Az zs.length cz) := bcell_row HB2.out rfl
  have x2 : w2.cell? ⟨q, 2, none⟩ = some (.slice Al ls.length cl) := bcell_row HB2.out rfl
  clear B0 g2 KN
  go_wp2_with fail
  clear x0 x1 x2
  refine (KA.out w2 G2.out).mono ?_
  rintro e w3 ⟨A, c, rfl, ra, l1, l2, g3⟩
  have G3 := Lib.hid (G2.out.trans g3)
  have HB3 := Lib.hid (bheap_gr g3 HB2.out)
  have RA := Lib.hid ra
  clear ra g3 KA G2 HB2
  by_cases h0 : bokC rs zs ls = 0
  case neg =>
    have t0 := bneT h0
    rw [namA_no h0]
    clear RA l1
    generalize bokC rs zs ls = C at t0 ⊢
    clear h0
    go_wp2_with fail
    go_ret
    exact ⟨rfl, G3.out⟩
  case pos =>
    have H0 := Lib.hid h0
    have RB := Lib.hid RA.out
    rw [namA_ok h0] at RB l1 ⊢
    rw [h0]
    have HS := Lib.hid (allN_sorted zs ls)
    have ND := Lib.hid (all_nodup h0)
    have LE := allN_len zs ls
    have RS := Lib.hid (fun x => all_res (x := x) h0)
    have AZ := Lib.hid (fun i z hz => all_zone (i := i) (z := z) h0 hz)
    have NSM := Lib.hid (fun x (hx : x ∈ allN zs ls) => nms_small h0 x (mem_allN.1 hx).1)
    have z20 : zs.length ≤ 20 := (good_of h0).z20
    have l20 : ls.length ≤ 20 := (good_of h0).l20
    clear h0 RA
    obtain ⟨L, eL⟩ : ∃ L, allN zs ls = L := ⟨_, rfl⟩
    rw [eL] at RB l1 HS ND LE RS AZ NSM ⊢
    clear eL
    go_wp2_with fail
    go_loopw [25] (fun i W => ∃ k : Nat, k ≤ L.length ∧ i = .int .i64 k ∧ Hid (Gr w3 W)) (fun i W => L.length - (intOf i).toNat)
    case atStart => exact ⟨0, Nat.zero_le _, rfl, Gr.refl _⟩
    case round =>
      obtain ⟨k, hk, rfl, hg⟩ := hrel
      have HBr := Lib.hid (bheap_gr hg.out HB3.out)
      have GR := Lib.hid (G3.out.trans hg.out)
      by_cases hlt : k < L.length
      · obtain ⟨x, hx⟩ := get_lt hlt
        obtain ⟨b, off, rfl, c0⟩ := RB.out.one hx rfl hg.out
        have HX := Lib.hid hx
        have RX := Lib.hid (RS.out x (get_mem hx))
        have SX := Lib.hid (NSM.out x (get_mem hx))
        have x0 : wr.cell? ⟨q, 0, none⟩ = some (.slice Ar rs.length cr) := bcell_row HBr.out rfl
        have x1 : wr.cell? ⟨q, 1, none⟩ = some (.slice Az zs.length cz) := bcell_row HBr.out rfl
        have x2 : wr.cell? ⟨q, 2, none⟩ = some (.slice Al ls.length cl) := bcell_row HBr.out rfl
        clear hx
        cases k with
        | zero =>
          rw [Nat.add_zero] at c0
          go_wp2_with fail
          clear x0 x1 x2 c0
          refine (KP.out (S x) wr GR.out (by rw [S_size]; have := SX.out; unfold maxLen; omega)).mono ?_
          rintro e w5 ⟨⟨znm, zA, zc, ze⟩, rfl, _, g5, _⟩
          have G5 := Lib.hid ((hg.out.trans g5).trans (Gr.alloc w5 (.cells #[.string znm, .slice zA ze.length zc] 29)))
          rw [RX.out]
          go_wp2_with fail
          go_roundw
          case rel => exact ⟨0 + 1, by omega, by go_num, G5⟩
          case measure => simp [intOf]; omega
        | succ k =>
          obtain ⟨y, hy⟩ := get_lt (show k < L.length by omega)
          obtain ⟨b2, off2, e2, d0⟩ := RB.out.one hy rfl hg.out
          injection e2 with e2; injection e2 with e21 e22
          subst e21; subst e22
          have lt := sorted_lt HS.out ND.out hy HX.out
          have e0 : Op.bytesLess y x = true := by rw [bytesLess_lt]; exact decide_eq_true lt
          have i1 : ((k + 1 : Nat) : Int) - 1 = (k : Int) := by omega
          have i2 : (0 : Int) < ((k + 1 : Nat) : Int) := by omega
          clear hy lt
          go_wp2_with fail
          clear x0 x1 x2 c0 d0 e0
          refine (KP.out (S x) wr GR.out (by rw [S_size]; have := SX.out; unfold maxLen; omega)).mono ?_
          rintro e w5 ⟨⟨znm, zA, zc, ze⟩, rfl, _, g5, _⟩
          have G5 := Lib.hid ((hg.out.trans g5).trans (Gr.alloc w5 (.cells #[.string znm, .slice zA ze.length zc] 29)))
          rw [RX.out]
          go_wp2_with fail
          go_roundw
          case rel => exact ⟨k + 1 + 1, by omega, by go_num, G5⟩
          case measure => simp [intOf]; omega
      · have x1 : wr.cell? ⟨q, 1, none⟩ = some (.slice Az zs.length cz) := bcell_row HBr.out rfl
        have HH : Hid (L.length ≤ maxLen) := by unfold Hid maxLen; omega
        clear hk
        go_wp2_with fail
        clear x1
        obtain ⟨wo, rfl⟩ : ∃ wo : World, wo = wr := ⟨_, rfl⟩
        go_loopw [53] (fun i W => ∃ k : Nat, k ≤ zs.length ∧ i = .int .i64 k ∧ Hid (Gr wo W)) (fun i W => zs.length - (intOf i).toNat)
        case atStart => exact ⟨0, Nat.zero_le _, rfl, Gr.refl _⟩
        case round =>
          obtain ⟨j, hj, rfl, hg2⟩ := hrel
          have GR2 := Lib.hid (GR.out.trans hg2.out)
          have RB2 := Lib.hid (RB.out.gr (hg.out.trans hg2.out))
          have HB2 := Lib.hid (bheap_gr hg2.out HBr.out)
          by_cases hlt2 : j < zs.length
          · obtain ⟨⟨znm, zA, zc, ze⟩, hz⟩ := get_lt hlt2
            obtain ⟨bz, off, rfl, c0, c1⟩ := HZ.out.two hz rfl GR2.out
            have CT := Lib.hid (AZ.out _ _ hz)
            have G4 := Lib.hid (hg2.out.alloc' (.cells #[.string znm, .slice zA ze.length zc] 29))
            have RB4 := Lib.hid (RB2.out.gr (Gr.alloc _ (.cells #[.string znm, .slice zA ze.length zc] 29)))
            clear hz
            go_wp2_with fail
            clear c0 c1
            refine (KH.out A c L znm _ HH.out RB4.out).mono ?_
            rintro e w5 ⟨rfl, g5⟩
            rw [CT.out]
            go_wp2_with fail
            go_roundw
            case rel => exact ⟨j + 1, by omega, by go_num, G4.out.trans g5⟩
            case measure => simp [intOf]; omega
          · have x1 : wr.cell? ⟨q, 1, none⟩ = some (.slice Az zs.length cz) := bcell_row HB2.out rfl
            have x2 : wr.cell? ⟨q, 2, none⟩ = some (.slice Al ls.length cl) := bcell_row HB2.out rfl
            have e9 : decide ((L.length : Int) ≤ (zs.length : Int) + (ls.length : Int)) = true := decide_eq_true (by omega)
            clear hj
            go_wp2_with fail
            go_ret
            exact ⟨rfl, GR2.out⟩

set_option maxRecDepth 100000 in
theorem contract (H : Type) (enc : TypeId × Value → H) (W : World) (base : Nat) (args : Array Value) (ds gs : List (DataW H)) (before : List MemPlace)
    (hval : ∀ (j : Nat) t v, Tryz.f5.params[j]? = some t → args[j]? = some v → Value.okWide Tryz.prog W .any base t v)
    (hW : DataW.Whole enc Tryz.prog Tryz.f5.params.toList Rows.namesSortedSpec.vars false W args.toList ds gs before) (hL : laidMet Tryz.prog Rows.namesSortedRow.laid W) (hsh : W.ShapedOpen Tryz.prog) :
    Calls Tryz.prog 5 args W fun e W' => ∃ v, e = .returned v ∧ Rows.namesSortedSpec.post enc Tryz.prog Tryz.f5 false true false false W args v W' := by
  have hW' := hW
  obtain ⟨p, q, hA0, hV, rfl, hfz, hnd⟩ := hW
  have hA : DataW.TrodAll enc Tryz.prog W 0 (fun _ => true) true Tryz.f5.params.toList args.toList ds p := hA0
  rw [Tryz.params5] at hA hval
  obtain ⟨v0, vs0, d0, ds0, p0, q0, hargs, rfl, rfl, h0, r0⟩ := trodAll_cons hA
  obtain ⟨rfl, rfl, rfl⟩ := trodAll_nil r0
  obtain rfl : args = #[v0] := by cases args; simp_all
  obtain ⟨rfl, rfl⟩ := trodVars_none hV
  obtain ⟨bk0, rfl, bi0⟩ := open_book (hval 0 26 v0 rfl rfl) h0
  clear hA0
  simp only [List.append_nil] at hW'
  refine (walk bk0 W bi0 ⟨lens_of hL (List.mem_of_getElem? (i := 3) rfl), pow_of hL (List.mem_of_getElem? (i := 2) rfl), max_of hsh⟩).mono fun e W' ⟨he, hg⟩ => ?_
  subst he
  exact ⟨_, rfl, post_of_below (pa := (p0 ++ [])) (pv := []) hW' (fun _ _ _ => trodAll_cons_mk (shut_bool Tryz.underlying4 _) trodAll_mk0) (fun _ hsp => (trodAll_cons_mk (stays book_reads h0 hg (fun p hp => by simp [hp]) (fun p hp => hW'.lt p hp) hsp) trodAll_mk0)) (fun _ _ => rfl) (by simp)
    hg (ok_one (by kernel_rfl) rfl (okWide_bool_mk Tryz.underlying4 _))⟩

/-- A world for the witness: the settled one, the listed variables holding what their initialisers lay. -/
noncomputable def laidWorld (os : Os) : World := put (put (put (put (put (put (bare os) 5 (flat1 Rows.laid_math_bits_deBruijn32tab)) 6 (flat1 Rows.laid_math_bits_deBruijn64tab)) 4 (flat1 Rows.laid_internal_strconv_uint64pow10)) 0 (flat1 Rows.laid_timeball_civil_lengths)) 3 (flat2 Rows.laid_unicode_utf8_acceptRanges)) 2 (flat1 Rows.laid_unicode_utf8_first)
set_option maxRecDepth 100000 in
theorem laid_met (os : Os) : laidMet Tryz.prog Rows.namesSortedRow.laid ((laidWorld os).forCall (fun _ _ => 0) ⟨#[], #[.agg #[.slice none 0 0, .slice none 0 0, .slice none 0 0]], []⟩).memory :=
  laidMet_of_run3 8 (by kernel_rfl) (by kernel_rfl) (by kernel_rfl)
theorem reads (os : Os) {H : Type} (enc : TypeId × Value → H) : ∃ places, DataW.whole enc Tryz.prog ((laidWorld os).forCall (fun _ _ => 0) ⟨#[], #[.agg #[.slice none 0 0, .slice none 0 0, .slice none 0 0]], []⟩).memory Tryz.f5.params.toList Rows.namesSortedSpec.vars false #[Value.agg #[.slice none 0 0, .slice none 0 0, .slice none 0 0]].toList 8 = some ([.agg [.nil, .nil, .nil]], [], places) :=
  ⟨[], by kernel_rfl⟩

set_option maxRecDepth 100000 in
theorem lifted (os : Os) (started : os.Started) (H : Type) (enc : TypeId × Value → H) (F : Stop.Interp) :
    ReturnsInHanded {} Tryz.checked os 5 .any ((OpenSpec.ofChange Rows.namesSortedSpec).preRow enc Tryz.prog Tryz.f5 Rows.namesSortedRow.domain false Rows.namesSortedRow.laid) (((OpenSpec.ofChange Rows.namesSortedSpec).at F).post enc Tryz.prog Tryz.f5 false true false false) := by
  obtain ⟨places, hx⟩ := reads os enc
  refine returnsInHanded_of_row (C := Tryz.checked) (s := OpenSpec.ofChange Rows.namesSortedSpec) own started (by kernel_rfl) Tryz.func5
    (witness_row_at (enc := enc) (C := Tryz.checked) false (laidWorld os) #[.agg #[.slice none 0 0, .slice none 0 0, .slice none 0 0]] rfl (by kernel_rfl) (by kernel_rfl) (by kernel_rfl)
      (OpenSpec.preRow_of_cond 8 hx (by kernel_rfl) (fun k hk => by cases hk) (by kernel_rfl) (laid_met os))) ?_
  intro W base args ds gs before hval hW _ _ _ hL hsh _
  exact contract H enc W base args ds gs before hval hW hL hsh

theorem said : Rows.NamesSortedSaid :=
  OpenClaim.holds_of_cond 5 Tryz.f5 rfl rfl rfl rfl rfl rfl rfl ⟨rfl, rfl, rfl, rfl, rfl⟩ rfl rfl rfl rfl rfl (by kernel_rfl) Tryz.func5 (by kernel_rfl)
    (of_decide_eq_true (by kernel_rfl)) (by unfold Func.isWrapper; first | (rw [if_pos (by decide +kernel)]; kernel_rfl) | (rw [if_neg (by decide +kernel)]; exact ⟨rfl, rfl⟩))
    (fun os started H enc _ F => by rw [OpenClaim.pre_eq_preRow]; exact lifted os started H enc F)

set_option maxRecDepth 100000 in
/-- No parameter wants a stand-in; whether the program has looks of its own. -/
theorem plain (f : FuncId) (fn : Func) (hf : Tryz.pinned.checked.prog.funcNamed "timeball/timeballkeep.NamesSorted" = some f) (hfn : Tryz.pinned.checked.prog.funcs[f]? = some fn) :
    false = Tryz.pinned.checked.prog.looks [] ∧ ∀ (j : Nat) t, fn.params[j]? = some t → Tryz.pinned.checked.prog.wantsStandIn t = false := by
  obtain rfl : f = 5 := Option.some.inj ((show Tryz.prog.funcNamed "timeball/timeballkeep.NamesSorted" = some 5 by kernel_rfl).symm.trans hf) |>.symm
  obtain rfl : fn = Tryz.f5 := (Option.some.inj (Tryz.func5.symm.trans hfn)).symm
  refine ⟨by kernel_rfl, fun j t ht => ?_⟩
  rw [Tryz.params5] at ht
  obtain rfl : t = 26 := by simpa using Array.mem_of_getElem? ht
  exact (show Tryz.prog.wantsStandIn 26 = false by kernel_rfl)

end Go.Proofs.YtemdgipkcilpcaaGreatDoor.namesSorted
namespace Go.Proofs.YtemdgipkcilpcaaGreatDoor
/-- The card. -/
theorem namesSorted_holds : Rows.NamesSortedCardSaid :=
  Claim7.holds_tied_plain_at .later [] _ _ _ _ namesSorted.said (fun _ h => by cases h) (by kernel_rfl) (fun _ h => by cases h) namesSorted_row_tie rfl ⟨rfl, rfl⟩ (by kernel_rfl) rfl namesSorted.plain (by kernel_rfl)
end Go.Proofs.YtemdgipkcilpcaaGreatDoor
