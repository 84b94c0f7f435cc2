/- The law BookTells of package timeballlaw returns true for every input and leaves its arguments as they were: Text returns what the reference returns. Condition: the listed variables (math/bits.deBruijn32tab, math/bits.deBruijn64tab, internal/strconv.uint64pow10, timeball/civil.lengths, unicode/utf8.acceptRanges, timeball/day.weekdays, timeball/rule.clockLetters, unicode/utf8.first) lie as their initialisers lay them; the card ties that tto the program's text. -/
import Derived.Test.YtmemgpmijphkmaaGreatDoorCards
import Derived.Test.YtmemgpmijphkmaaGreatDoorTie
import Derived.Test.YtmemgpmijphkmaaGreatDoorWM23
import Derived.Test.YtmemgpmijphkmaaGreatDoorWM40
import Derived.Test.YtmemgpmijphkmaaGreatDoorWM43
import Derived.Test.YtmemgpmijphkmaaGreatDoorWM28
import Derived.Test.YtmemgpmijphkmaaGreatDoorWM21
import Derived.Test.YtmemgpmijphkmaaGreatDoorWM44
namespace Go.Proofs.YtmemgpmijphkmaaGreatDoor.bookTells
open Go.ChangeShapes Go.WideShapes Go.ChangeAt Go.RowKit
open Go.ChangeMaps (open_string shut_string)
set_option linter.unusedVariables false
set_option linter.unusedSimpArgs false
set_option maxRecDepth 100000 in
set_option maxHeartbeats 20000000 in
theorem walk (b : BokD) (w : World) (hb : b.At w) (ht : RtTab w) (hk : BkTab w) :
    Calls Tryz.prog 3 #[bookV b] w fun e w' => e = .returned (.bool true) ∧ Gr w w' := by
  obtain ⟨a, c, e⟩ := bokTA_two b.rs b.zs b.ls
  have KP0 := fun W (g : Gr w W) => pbookText b W (hb.gr g) (g.rtT ht) (g.bk hk)
  have KR0 := fun W (g : Gr w W) => rbookText b W (hb.gr g) (g.max hk.2.2)
  rw [e] at KP0 KR0
  have KP := Lib.hid KP0
  have KR := Lib.hid KR0
  have KZ0 := fun w hm => pabbrFmt ⟨#[]⟩ 0 ⟨#[45]⟩ w hm (by decide)
  rw [lit0, show (ByteArray.mk #[45]).toList = [45] from ByteArray.toList_mk [45], show abbrR [] 0 [45] = ([], 3) by decide] at KZ0
  have KZ := Lib.hid KZ0
  have HM := Lib.hid hk.2.2
  obtain ⟨Ar, cr, rs, Az, cz, zs, Al, cl, ls⟩ := b
  have B0 := Lib.hid (box_one w (.cells #[.slice Ar rs.length cr, .slice Az zs.length cz, .slice Al ls.length cl] 26))
  clear KP0 KR0 KZ0 e hb ht hk
  go_enter Tryz.func3, Tryz.ntmps3
  go_wp2_with fail
  generalize w.alloc (.cells #[.slice Ar rs.length cr, .slice Az zs.length cz, .slice Al ls.length cl] 26) = w0 at B0 ⊢
  generalize w.heap.size = q at B0 ⊢
  refine (KP.out w0 B0.out.1).mono ?_
  rintro e w1 ⟨rfl, g1⟩
  have G1 := Lib.hid (B0.out.1.trans g1)
  have HQ1 := Lib.hid (bheap_gr g1 B0.out.2)
  clear g1 B0 KP
  have y0 : w1.cell? ⟨q, 0, none⟩ = some (.slice Ar rs.length cr) := bcell_row HQ1.out rfl
  have y1 : w1.cell? ⟨q, 1, none⟩ = some (.slice Az zs.length cz) := bcell_row HQ1.out rfl
  have y2 : w1.cell? ⟨q, 2, none⟩ = some (.slice Al ls.length cl) := bcell_row HQ1.out rfl
  go_wp2_with fail
  clear y0 y1 y2
  refine (KR.out w1 G1.out).mono ?_
  rintro e w2 ⟨rfl, g2⟩
  have G2 := Lib.hid (G1.out.trans g2)
  clear g2 G1 HQ1 KR
  go_wp2_with fail
  refine (KZ.out w2 (G2.out.max HM.out)).mono ?_
  rintro e w3 ⟨rfl, g3⟩
  have G3 := Lib.hid (G2.out.trans g3)
  clear g3 G2 KZ
  go_wp2
  go_ret
  exact ⟨rfl, G3.out⟩

set_option maxRecDepth 100000 in
theorem contract (H : Type) (enc : TypeId × Value → H) (W : World) (base : Nat) (args : Array Value) (ds gs : List (DataW H)) (before : List MemPlace)
    (hval : ∀ (j : Nat) t v, Tryz.f3.params[j]? = some t → args[j]? = some v → Value.okWide Tryz.prog W .any base t v)
    (hW : DataW.Whole enc Tryz.prog Tryz.f3.params.toList Rows.bookTellsSpec.vars false W args.toList ds gs before) (hL : laidMet Tryz.prog Rows.bookTellsRow.laid W) (hsh : W.ShapedOpen Tryz.prog) :
    Calls Tryz.prog 3 args W fun e W' => ∃ v, e = .returned v ∧ Rows.bookTellsSpec.post enc Tryz.prog Tryz.f3 false true false false W args v W' := by
  have hW' := hW
  obtain ⟨p, q, hA0, hV, rfl, hfz, hnd⟩ := hW
  have hA : DataW.TrodAll enc Tryz.prog W 0 (fun _ => true) true Tryz.f3.params.toList args.toList ds p := hA0
  rw [Tryz.params3] at hA hval
  obtain ⟨v0, vs0, d0, ds0, p0, q0, hargs, rfl, rfl, h0, r0⟩ := trodAll_cons hA
  obtain ⟨rfl, rfl, rfl⟩ := trodAll_nil r0
  obtain rfl : args = #[v0] := by cases args; simp_all
  obtain ⟨rfl, rfl⟩ := trodVars_none hV
  obtain ⟨bk0, rfl, bi0⟩ := open_book (hval 0 26 v0 rfl rfl) h0
  clear hA0
  simp only [List.append_nil] at hW'
  refine (walk bk0 W bi0 ⟨lens_of hL (List.mem_of_getElem? (i := 3) rfl), ⟨pow_of hL (List.mem_of_getElem? (i := 2) rfl), wk_of hL (List.mem_of_getElem? (i := 5) rfl)⟩, cl_of hL (List.mem_of_getElem? (i := 6) rfl)⟩ ⟨lens_of hL (List.mem_of_getElem? (i := 3) rfl), pow_of hL (List.mem_of_getElem? (i := 2) rfl), max_of hsh⟩).mono fun e W' ⟨he, hg⟩ => ?_
  subst he
  exact ⟨_, rfl, post_of_below (pa := (p0 ++ [])) (pv := []) hW' (fun _ _ _ => trodAll_cons_mk (shut_bool Tryz.underlying4 _) trodAll_mk0) (fun _ hsp => (trodAll_cons_mk (stays book_reads h0 hg (fun p hp => by simp [hp]) (fun p hp => hW'.lt p hp) hsp) trodAll_mk0)) (fun _ _ => rfl) (by simp)
    hg (ok_one (by kernel_rfl) rfl (okWide_bool_mk Tryz.underlying4 _))⟩

/-- A world for the witness: the settled one, the listed variables holding what their initialisers lay. -/
noncomputable def laidWorld (os : Os) : World := put (put (put (put (put (put (put (put (bare os) 7 (flat1 Rows.laid_math_bits_deBruijn32tab)) 8 (flat1 Rows.laid_math_bits_deBruijn64tab)) 6 (flat1 Rows.laid_internal_strconv_uint64pow10)) 3 (flat1 Rows.laid_timeball_civil_lengths)) 5 (flat2 Rows.laid_unicode_utf8_acceptRanges)) 2 (flat1 Rows.laid_timeball_day_weekdays)) 0 (flat1 Rows.laid_timeball_rule_clockLetters)) 4 (flat1 Rows.laid_unicode_utf8_first)
set_option maxRecDepth 100000 in
theorem laid_met (os : Os) : laidMet Tryz.prog Rows.bookTellsRow.laid ((laidWorld os).forCall (fun _ _ => 0) ⟨#[], #[.agg #[.slice none 0 0, .slice none 0 0, .slice none 0 0]], []⟩).memory :=
  laidMet_of_run3 8 (by kernel_rfl) (by kernel_rfl) (by kernel_rfl)
theorem reads (os : Os) {H : Type} (enc : TypeId × Value → H) : ∃ places, DataW.whole enc Tryz.prog ((laidWorld os).forCall (fun _ _ => 0) ⟨#[], #[.agg #[.slice none 0 0, .slice none 0 0, .slice none 0 0]], []⟩).memory Tryz.f3.params.toList Rows.bookTellsSpec.vars false #[Value.agg #[.slice none 0 0, .slice none 0 0, .slice none 0 0]].toList 8 = some ([.agg [.nil, .nil, .nil]], [], places) :=
  ⟨[], by kernel_rfl⟩

set_option maxRecDepth 100000 in
theorem lifted (os : Os) (started : os.Started) (H : Type) (enc : TypeId × Value → H) (F : Stop.Interp) :
    ReturnsInHanded {} Tryz.checked os 3 .any ((OpenSpec.ofChange Rows.bookTellsSpec).preRow enc Tryz.prog Tryz.f3 Rows.bookTellsRow.domain false Rows.bookTellsRow.laid) (((OpenSpec.ofChange Rows.bookTellsSpec).at F).post enc Tryz.prog Tryz.f3 false true false false) := by
  obtain ⟨places, hx⟩ := reads os enc
  refine returnsInHanded_of_row (C := Tryz.checked) (s := OpenSpec.ofChange Rows.bookTellsSpec) own started (by kernel_rfl) Tryz.func3
    (witness_row_at (enc := enc) (C := Tryz.checked) false (laidWorld os) #[.agg #[.slice none 0 0, .slice none 0 0, .slice none 0 0]] rfl (by kernel_rfl) (by kernel_rfl) (by kernel_rfl)
      (OpenSpec.preRow_of_cond 8 hx (by kernel_rfl) (fun k hk => by cases hk) (by kernel_rfl) (laid_met os))) ?_
  intro W base args ds gs before hval hW _ _ _ hL hsh _
  exact contract H enc W base args ds gs before hval hW hL hsh

theorem said : Rows.BookTellsSaid :=
  OpenClaim.holds_of_cond 3 Tryz.f3 rfl rfl rfl rfl rfl rfl rfl ⟨rfl, rfl, rfl, rfl, rfl⟩ rfl rfl rfl rfl rfl (by kernel_rfl) Tryz.func3 (by kernel_rfl)
    (of_decide_eq_true (by kernel_rfl)) (by unfold Func.isWrapper; first | (rw [if_pos (by decide +kernel)]; kernel_rfl) | (rw [if_neg (by decide +kernel)]; exact ⟨rfl, rfl⟩))
    (fun os started H enc _ F => by rw [OpenClaim.pre_eq_preRow]; exact lifted os started H enc F)

set_option maxRecDepth 100000 in
/-- No parameter wants a stand-in; whether the program has looks of its own. -/
theorem plain (f : FuncId) (fn : Func) (hf : Tryz.pinned.checked.prog.funcNamed "timeball/timeballlaw.BookTells" = some f) (hfn : Tryz.pinned.checked.prog.funcs[f]? = some fn) :
    true = Tryz.pinned.checked.prog.looks [] ∧ ∀ (j : Nat) t, fn.params[j]? = some t → Tryz.pinned.checked.prog.wantsStandIn t = false := by
  obtain rfl : f = 3 := Option.some.inj ((show Tryz.prog.funcNamed "timeball/timeballlaw.BookTells" = some 3 by kernel_rfl).symm.trans hf) |>.symm
  obtain rfl : fn = Tryz.f3 := (Option.some.inj (Tryz.func3.symm.trans hfn)).symm
  refine ⟨by kernel_rfl, fun j t ht => ?_⟩
  rw [Tryz.params3] at ht
  obtain rfl : t = 26 := by simpa using Array.mem_of_getElem? ht
  exact (show Tryz.prog.wantsStandIn 26 = false by kernel_rfl)

end Go.Proofs.YtmemgpmijphkmaaGreatDoor.bookTells
namespace Go.Proofs.YtmemgpmijphkmaaGreatDoor
/-- The card. -/
theorem bookTells_holds : Rows.BookTellsCardSaid :=
  Claim7.holds_tied_plain_at .later [] _ _ _ _ bookTells.said (fun _ h => by cases h) (by kernel_rfl) (fun _ h => by cases h) bookTells_row_tie rfl ⟨rfl, rfl⟩ (by kernel_rfl) rfl bookTells.plain (by kernel_rfl)
end Go.Proofs.YtmemgpmijphkmaaGreatDoor
