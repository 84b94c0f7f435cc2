/- The law NamesAll of package timeballlaw returns true for every input and leaves its arguments as they were: All returns what the reference returns. Condition: the listed variables (math/bits.deBruijn32tab, math/bits.deBruijn64tab, internal/strconv.uint64pow10, timeball/civil.lengths, unicode/utf8.acceptRanges, unicode/utf8.first) lie as their initialisers lay them; the card ties that tto the program's text. -/
import Derived.Test.YtemdgipkcilpcaaGreatDoorCards
import Derived.Test.YtemdgipkcilpcaaGreatDoorTie
import Derived.Test.YtemdgipkcilpcaaGreatDoorAM28
import Derived.Test.YtemdgipkcilpcaaGreatDoorAM44
import Derived.Test.YtemdgipkcilpcaaGreatDoorAM22
namespace Go.Proofs.YtemdgipkcilpcaaGreatDoor.namesAll
open Go.ChangeShapes Go.WideShapes Go.ChangeAt Go.RowKit
open Go.ChangeMaps (open_string shut_string)
set_option linter.unusedVariables false
set_option linter.unusedSimpArgs false
set_option maxRecDepth 100000 in
set_option maxHeartbeats 8000000 in
theorem walk (b : BokD) (w : World) (hb : b.At w) (ht : BkTab w) :
    Calls Tryz.prog 4 #[bookV b] w fun e w' => e = .returned (.bool true) ∧ Gr w w' := by
  have KP := Lib.hid (fun W (g : Gr w W) => pall b W (hb.gr g) (g.bk ht))
  have KR := Lib.hid (fun W (g : Gr w W) h0 => rnames b W (hb.gr g) h0 (g.max ht.2.2))
  have KC := Lib.hid (fun W (g : Gr w W) => rbookCheck b W (hb.gr g) (g.max ht.2.2))
  have KE := Lib.hid (fun W (g : Gr w W) => presolve_empty ⟨#[97]⟩ W (by unfold maxLen; decide) (g.bk ht))
  have KQ := Lib.hid (fun A c A' c' l n' w hn hl h h' => reqStr A c A' c' l n' w hn hl h h')
  obtain ⟨Ar, cr, rs, Az, cz, zs, Al, cl, ls⟩ := b
  simp only at KP KR KC
  have B0 := Lib.hid (box_one w (.cells #[.slice Ar rs.length cr, .slice Az zs.length cz, .slice Al ls.length cl] 26))
  clear hb ht
  go_enter Tryz.func4, Tryz.ntmps4
  go_wp2_with fail
  generalize w.alloc (.cells #[.slice Ar rs.length cr, .slice Az zs.length cz, .slice Al ls.length cl] 26) = w1 at B0 ⊢
  generalize w.heap.size = q at B0 ⊢
  have x0 : w1.cell? ⟨q, 0, none⟩ = some (.slice Ar rs.length cr) := bcell_row B0.out.2 rfl
  have x1 : w1.cell? ⟨q, 1, none⟩ = some (.slice Az zs.length cz) := bcell_row B0.out.2 rfl
  have x2 : w1.cell? ⟨q, 2, none⟩ = some (.slice Al ls.length cl) := bcell_row B0.out.2 rfl
  go_wp2_with fail
  clear x0 x1 x2
  refine (KP.out w1 B0.out.1).mono ?_
  rintro e w2 ⟨A, c, rfl, ra, l1, l2, g2⟩
  have G2 := Lib.hid (B0.out.1.trans g2)
  have HB2 := Lib.hid (bheap_gr g2 B0.out.2)
  have RA := Lib.hid ra
  clear ra g2 B0 KP
  go_wp2_with fail
  refine (KE.out w2 G2.out).mono ?_
  rintro e w3 ⟨⟨znm3, zA3, zc3, ze3⟩, rfl, g3⟩
  have B3 := Lib.hid (box_one w3 (.cells #[.string znm3, .slice zA3 ze3.length zc3] 29))
  have G4 := Lib.hid ((G2.out.trans g3).trans B3.out.1)
  have HB4 := Lib.hid (bheap_gr (g3.trans B3.out.1) HB2.out)
  have RA4 := Lib.hid (RA.out.gr (g3.trans B3.out.1))
  have x0 : (w3.alloc (.cells #[.string znm3, .slice zA3 ze3.length zc3] 29)).cell? ⟨q, 0, none⟩ = some (.slice Ar rs.length cr) := bcell_row HB4.out rfl
  have x1 : (w3.alloc (.cells #[.string znm3, .slice zA3 ze3.length zc3] 29)).cell? ⟨q, 1, none⟩ = some (.slice Az zs.length cz) := bcell_row HB4.out rfl
  have x2 : (w3.alloc (.cells #[.string znm3, .slice zA3 ze3.length zc3] 29)).cell? ⟨q, 2, none⟩ = some (.slice Al ls.length cl) := bcell_row HB4.out rfl
  clear g3 KE G2 HB2 RA B3
  go_wp2_with fail
  clear x0 x1 x2
  generalize w3.alloc (.cells #[.string znm3, .slice zA3 ze3.length zc3] 29) = w4 at G4 HB4 RA4 ⊢
  refine (KC.out w4 G4.out).mono ?_
  rintro e w5 ⟨rfl, g5⟩
  have G5 := Lib.hid (G4.out.trans g5)
  have HB5 := Lib.hid (bheap_gr g5 HB4.out)
  have RA5 := Lib.hid (RA4.out.gr g5)
  clear g5 KC G4 HB4 RA4
  by_cases h0 : bokC rs zs ls = 0
  case neg =>
    have t0 := bneT h0
    have t1 : (bokC rs zs ls == bokC rs zs ls) = true := by simp
    rw [namA_no h0]
    clear RA5 KR l1 h0
    generalize bokC rs zs ls = C at t0 t1 ⊢
    go_wp2_with fail
    go_ret
    exact ⟨rfl, G5.out⟩
  case pos =>
    have KR0 := Lib.hid (fun W g => KR.out W g h0)
    have LE : Hid ((allN zs ls).length ≤ 100000) := by have := allN_len zs ls; have g := good_of h0; have := g.z20; have := g.l20; unfold Hid; omega
    have RA6 := Lib.hid RA5.out
    rw [namA_ok h0] at RA6 ⊢
    rw [h0]
    have x0 : w5.cell? ⟨q, 0, none⟩ = some (.slice Ar rs.length cr) := bcell_row HB5.out rfl
    have x1 : w5.cell? ⟨q, 1, none⟩ = some (.slice Az zs.length cz) := bcell_row HB5.out rfl
    have x2 : w5.cell? ⟨q, 2, none⟩ = some (.slice Al ls.length cl) := bcell_row HB5.out rfl
    clear KR RA5 l1 h0
    go_wp2_with fail
    clear x0 x1 x2
    refine (KR0.out w5 G5.out).mono ?_
    rintro e w6 ⟨A6, c6, rfl, ra6, _, _, g6⟩
    have RB := Lib.hid ra6
    clear ra6
    go_wp2_with fail
    refine (KQ.out A c A6 c6 (allN zs ls) _ w6 rfl LE.out (RA6.out.gr g6) RB.out).mono ?_
    rintro e w7 ⟨rfl, g7⟩
    go_wp2_with fail
    go_ret
    exact ⟨rfl, (G5.out.trans g6).trans g7⟩

set_option maxRecDepth 100000 in
theorem contract (H : Type) (enc : TypeId × Value → H) (W : World) (base : Nat) (args : Array Value) (ds gs : List (DataW H)) (before : List MemPlace)
    (hval : ∀ (j : Nat) t v, Tryz.f4.params[j]? = some t → args[j]? = some v → Value.okWide Tryz.prog W .any base t v)
    (hW : DataW.Whole enc Tryz.prog Tryz.f4.params.toList Rows.namesAllSpec.vars false W args.toList ds gs before) (hL : laidMet Tryz.prog Rows.namesAllRow.laid W) (hsh : W.ShapedOpen Tryz.prog) :
    Calls Tryz.prog 4 args W fun e W' => ∃ v, e = .returned v ∧ Rows.namesAllSpec.post enc Tryz.prog Tryz.f4 false true false false W args v W' := by
  have hW' := hW
  obtain ⟨p, q, hA0, hV, rfl, hfz, hnd⟩ := hW
  have hA : DataW.TrodAll enc Tryz.prog W 0 (fun _ => true) true Tryz.f4.params.toList args.toList ds p := hA0
  rw [Tryz.params4] at hA hval
  obtain ⟨v0, vs0, d0, ds0, p0, q0, hargs, rfl, rfl, h0, r0⟩ := trodAll_cons hA
  obtain ⟨rfl, rfl, rfl⟩ := trodAll_nil r0
  obtain rfl : args = #[v0] := by cases args; simp_all
  obtain ⟨rfl, rfl⟩ := trodVars_none hV
  obtain ⟨bk0, rfl, bi0⟩ := open_book (hval 0 26 v0 rfl rfl) h0
  clear hA0
  simp only [List.append_nil] at hW'
  refine (walk bk0 W bi0 ⟨lens_of hL (List.mem_of_getElem? (i := 3) rfl), pow_of hL (List.mem_of_getElem? (i := 2) rfl), max_of hsh⟩).mono fun e W' ⟨he, hg⟩ => ?_
  subst he
  exact ⟨_, rfl, post_of_below (pa := (p0 ++ [])) (pv := []) hW' (fun _ _ _ => trodAll_cons_mk (shut_bool Tryz.underlying4 _) trodAll_mk0) (fun _ hsp => (trodAll_cons_mk (stays book_reads h0 hg (fun p hp => by simp [hp]) (fun p hp => hW'.lt p hp) hsp) trodAll_mk0)) (fun _ _ => rfl) (by simp)
    hg (ok_one (by kernel_rfl) rfl (okWide_bool_mk Tryz.underlying4 _))⟩

/-- A world for the witness: the settled one, the listed variables holding what their initialisers lay. -/
noncomputable def laidWorld (os : Os) : World := put (put (put (put (put (put (bare os) 5 (flat1 Rows.laid_math_bits_deBruijn32tab)) 6 (flat1 Rows.laid_math_bits_deBruijn64tab)) 4 (flat1 Rows.laid_internal_strconv_uint64pow10)) 0 (flat1 Rows.laid_timeball_civil_lengths)) 3 (flat2 Rows.laid_unicode_utf8_acceptRanges)) 2 (flat1 Rows.laid_unicode_utf8_first)
set_option maxRecDepth 100000 in
theorem laid_met (os : Os) : laidMet Tryz.prog Rows.namesAllRow.laid ((laidWorld os).forCall (fun _ _ => 0) ⟨#[], #[.agg #[.slice none 0 0, .slice none 0 0, .slice none 0 0]], []⟩).memory :=
  laidMet_of_run3 8 (by kernel_rfl) (by kernel_rfl) (by kernel_rfl)
theorem reads (os : Os) {H : Type} (enc : TypeId × Value → H) : ∃ places, DataW.whole enc Tryz.prog ((laidWorld os).forCall (fun _ _ => 0) ⟨#[], #[.agg #[.slice none 0 0, .slice none 0 0, .slice none 0 0]], []⟩).memory Tryz.f4.params.toList Rows.namesAllSpec.vars false #[Value.agg #[.slice none 0 0, .slice none 0 0, .slice none 0 0]].toList 8 = some ([.agg [.nil, .nil, .nil]], [], places) :=
  ⟨[], by kernel_rfl⟩

set_option maxRecDepth 100000 in
theorem lifted (os : Os) (started : os.Started) (H : Type) (enc : TypeId × Value → H) (F : Stop.Interp) :
    ReturnsInHanded {} Tryz.checked os 4 .any ((OpenSpec.ofChange Rows.namesAllSpec).preRow enc Tryz.prog Tryz.f4 Rows.namesAllRow.domain false Rows.namesAllRow.laid) (((OpenSpec.ofChange Rows.namesAllSpec).at F).post enc Tryz.prog Tryz.f4 false true false false) := by
  obtain ⟨places, hx⟩ := reads os enc
  refine returnsInHanded_of_row (C := Tryz.checked) (s := OpenSpec.ofChange Rows.namesAllSpec) own started (by kernel_rfl) Tryz.func4
    (witness_row_at (enc := enc) (C := Tryz.checked) false (laidWorld os) #[.agg #[.slice none 0 0, .slice none 0 0, .slice none 0 0]] rfl (by kernel_rfl) (by kernel_rfl) (by kernel_rfl)
      (OpenSpec.preRow_of_cond 8 hx (by kernel_rfl) (fun k hk => by cases hk) (by kernel_rfl) (laid_met os))) ?_
  intro W base args ds gs before hval hW _ _ _ hL hsh _
  exact contract H enc W base args ds gs before hval hW hL hsh

theorem said : Rows.NamesAllSaid :=
  OpenClaim.holds_of_cond 4 Tryz.f4 rfl rfl rfl rfl rfl rfl rfl ⟨rfl, rfl, rfl, rfl, rfl⟩ rfl rfl rfl rfl rfl (by kernel_rfl) Tryz.func4 (by kernel_rfl)
    (of_decide_eq_true (by kernel_rfl)) (by unfold Func.isWrapper; first | (rw [if_pos (by decide +kernel)]; kernel_rfl) | (rw [if_neg (by decide +kernel)]; exact ⟨rfl, rfl⟩))
    (fun os started H enc _ F => by rw [OpenClaim.pre_eq_preRow]; exact lifted os started H enc F)

set_option maxRecDepth 100000 in
/-- No parameter wants a stand-in; whether the program has looks of its own. -/
theorem plain (f : FuncId) (fn : Func) (hf : Tryz.pinned.checked.prog.funcNamed "timeball/timeballlaw.NamesAll" = some f) (hfn : Tryz.pinned.checked.prog.funcs[f]? = some fn) :
    false = Tryz.pinned.checked.prog.looks [] ∧ ∀ (j : Nat) t, fn.params[j]? = some t → Tryz.pinned.checked.prog.wantsStandIn t = false := by
  obtain rfl : f = 4 := Option.some.inj ((show Tryz.prog.funcNamed "timeball/timeballlaw.NamesAll" = some 4 by kernel_rfl).symm.trans hf) |>.symm
  obtain rfl : fn = Tryz.f4 := (Option.some.inj (Tryz.func4.symm.trans hfn)).symm
  refine ⟨by kernel_rfl, fun j t ht => ?_⟩
  rw [Tryz.params4] at ht
  obtain rfl : t = 26 := by simpa using Array.mem_of_getElem? ht
  exact (show Tryz.prog.wantsStandIn 26 = false by kernel_rfl)

end Go.Proofs.YtemdgipkcilpcaaGreatDoor.namesAll
namespace Go.Proofs.YtemdgipkcilpcaaGreatDoor
/-- The card. -/
theorem namesAll_holds : Rows.NamesAllCardSaid :=
  Claim7.holds_tied_plain_at .later [] _ _ _ _ namesAll.said (fun _ h => by cases h) (by kernel_rfl) (fun _ h => by cases h) namesAll_row_tie rfl ⟨rfl, rfl⟩ (by kernel_rfl) rfl namesAll.plain (by kernel_rfl)
end Go.Proofs.YtemdgipkcilpcaaGreatDoor
