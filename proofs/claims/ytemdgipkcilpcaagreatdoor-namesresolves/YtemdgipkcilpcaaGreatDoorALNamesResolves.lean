/- The law NamesResolves of package timeballlaw returns true for every input and leaves its arguments as they were: Resolve returns what the reference returns. Condition: the listed variables (math/bits.deBruijn32tab, math/bits.deBruijn64tab, internal/strconv.uint64pow10, timeball/civil.lengths, unicode/utf8.acceptRanges, unicode/utf8.first) lie as their initialisers lay them; the card ties that tto the program's text. -/
import Derived.Test.YtemdgipkcilpcaaGreatDoorCards
import Derived.Test.YtemdgipkcilpcaaGreatDoorTie
import Derived.Test.YtemdgipkcilpcaaGreatDoorAM28
import Derived.Test.YtemdgipkcilpcaaGreatDoorAM37
import Derived.Test.YtemdgipkcilpcaaGreatDoorAM42
import Derived.Test.YtemdgipkcilpcaaGreatDoorAM21
import Derived.Test.YtemdgipkcilpcaaGreatDoorAM22
namespace Go.Proofs.YtemdgipkcilpcaaGreatDoor.namesResolves
open Go.ChangeShapes Go.WideShapes Go.ChangeAt Go.RowKit
open Go.ChangeMaps (open_string shut_string)
set_option linter.unusedVariables false
set_option linter.unusedSimpArgs false
set_option maxRecDepth 100000 in
set_option maxHeartbeats 8000000 in
theorem walk (b : BokD) (nm : ByteArray) (hn : nm.size ≤ maxLen) (w : World) (hb : b.At w) (ht : BkTab w) :
    Calls Tryz.prog 3 #[bookV b, .string nm] w fun e w' => e = .returned (.bool true) ∧ Gr w w' := by
  have KP := Lib.hid (fun W (g : Gr w W) => presolve b nm W (hb.gr g) hn (g.bk ht))
  have KR := Lib.hid (fun W (g : Gr w W) => rresolve b nm W (hb.gr g) (g.max ht.2.2))
  have KE := Lib.hid (fun W (g : Gr w W) => presolve_empty ⟨#[97]⟩ W (by unfold maxLen; decide) (g.bk ht))
  have KZ := Lib.hid (fun nm A c A' c' l n' w hn hl h h' => rzoneEq nm A c A' c' l n' w hn hl h h')
  obtain ⟨Ar, cr, rs, Az, cz, zs, Al, cl, ls⟩ := b
  simp only at KP KR
  have B0 := Lib.hid (box_one w (.cells #[.slice Ar rs.length cr, .slice Az zs.length cz, .slice Al ls.length cl] 26))
  clear hb ht hn
  go_enter Tryz.func3, Tryz.ntmps3
  go_wp2_with fail
  generalize w.alloc (.cells #[.slice Ar rs.length cr, .slice Az zs.length cz, .slice Al ls.length cl] 26) = w1 at B0 ⊢
  generalize w.heap.size = q at B0 ⊢
  have x0 : w1.cell? ⟨q, 0, none⟩ = some (.slice Ar rs.length cr) := bcell_row B0.out.2 rfl
  have x1 : w1.cell? ⟨q, 1, none⟩ = some (.slice Az zs.length cz) := bcell_row B0.out.2 rfl
  have x2 : w1.cell? ⟨q, 2, none⟩ = some (.slice Al ls.length cl) := bcell_row B0.out.2 rfl
  go_wp2_with fail
  clear x0 x1 x2
  refine (KP.out w1 B0.out.1).mono ?_
  rintro e w2 ⟨⟨znm, zA, zc, ze⟩, rfl, za, g2, hok, hno⟩
  have B2 := Lib.hid (box_one w2 (.cells #[.string znm, .slice zA ze.length zc] 29))
  have G3 := Lib.hid ((B0.out.1.trans g2).trans B2.out.1)
  have R3 := Lib.hid (za.2.2.1.gr B2.out.1)
  have HB3 := Lib.hid (bheap_gr (g2.trans B2.out.1) B0.out.2)
  have OK1 := Lib.hid hok
  have NO1 := Lib.hid hno
  clear za g2 hok hno KP
  have x0 : (w2.alloc (.cells #[.string znm, .slice zA ze.length zc] 29)).cell? ⟨q, 0, none⟩ = some (.slice Ar rs.length cr) := bcell_row HB3.out rfl
  have x1 : (w2.alloc (.cells #[.string znm, .slice zA ze.length zc] 29)).cell? ⟨q, 1, none⟩ = some (.slice Az zs.length cz) := bcell_row HB3.out rfl
  have x2 : (w2.alloc (.cells #[.string znm, .slice zA ze.length zc] 29)).cell? ⟨q, 2, none⟩ = some (.slice Al ls.length cl) := bcell_row HB3.out rfl
  go_wp2_with fail
  clear x0 x1 x2
  generalize w2.alloc (.cells #[.string znm, .slice zA ze.length zc] 29) = w3 at B2 G3 R3 HB3 ⊢
  generalize w2.heap.size = q2 at B2 ⊢
  refine (KR.out w3 G3.out).mono ?_
  rintro e w4 ⟨⟨znm2, zA2, zc2, ze2⟩, rfl, za, g4, hok, hno⟩
  obtain ⟨e1, e2, hl⟩ := res_same (z := ⟨znm, zA, zc, ze⟩) (z2 := ⟨znm2, zA2, zc2, ze2⟩) OK1.out NO1.out hok hno
  simp only at e1 e2 hl
  subst e1; subst e2
  have HL := Lib.hid hl
  have B4 := Lib.hid (box_one w4 (.cells #[.string znm2, .slice zA2 ze2.length zc2] 29))
  have G5 := Lib.hid ((G3.out.trans g4).trans B4.out.1)
  have R5 := Lib.hid (R3.out.gr (g4.trans B4.out.1))
  have S5 := Lib.hid (za.2.2.1.gr B4.out.1)
  have HZ5 := Lib.hid (bheap_gr (g4.trans B4.out.1) B2.out.2)
  clear za g4 hok hno hl KR OK1 NO1 G3 R3 HB3 B2
  have e1 : (resC rs zs ls nm == resC rs zs ls nm) = true := by simp
  generalize resC rs zs ls nm = C at e1 ⊢
  go_wp2_with fail
  generalize w4.alloc (.cells #[.string znm2, .slice zA2 ze2.length zc2] 29) = w5 at B4 G5 R5 S5 HZ5 ⊢
  generalize w4.heap.size = q4 at B4 ⊢
  refine (KE.out w5 G5.out).mono ?_
  rintro e w6 ⟨⟨znm3, zA3, zc3, ze3⟩, rfl, g6⟩
  have B6 := Lib.hid (box_one w6 (.cells #[.string znm3, .slice zA3 ze3.length zc3] 29))
  have G7 := Lib.hid ((G5.out.trans g6).trans B6.out.1)
  have R7 := Lib.hid (R5.out.gr (g6.trans B6.out.1))
  have S7 := Lib.hid (S5.out.gr (g6.trans B6.out.1))
  have y0 : (w6.alloc (.cells #[.string znm3, .slice zA3 ze3.length zc3] 29)).cell? ⟨q2, 0, none⟩ = some (.string znm2) := bcell_row (bheap_gr (g6.trans B6.out.1) HZ5.out) rfl
  have y1 : (w6.alloc (.cells #[.string znm3, .slice zA3 ze3.length zc3] 29)).cell? ⟨q2, 1, none⟩ = some (.slice zA ze2.length zc) := bcell_row (bheap_gr (g6.trans B6.out.1) HZ5.out) rfl
  have y2 : (w6.alloc (.cells #[.string znm3, .slice zA3 ze3.length zc3] 29)).cell? ⟨q4, 0, none⟩ = some (.string znm2) := bcell_row (bheap_gr (g6.trans B6.out.1) B4.out.2) rfl
  have y3 : (w6.alloc (.cells #[.string znm3, .slice zA3 ze3.length zc3] 29)).cell? ⟨q4, 1, none⟩ = some (.slice zA2 ze2.length zc2) := bcell_row (bheap_gr (g6.trans B6.out.1) B4.out.2) rfl
  clear g6 KE G5 R5 S5 HZ5 B4 B6
  go_wp2_with fail
  clear y0 y1 y2 y3
  refine (KZ.out znm2 zA zc zA2 zc2 ze2 ze2.length _ rfl HL.out R7.out S7.out).mono ?_
  rintro e w8 ⟨rfl, g8⟩
  go_wp2_with fail
  go_ret
  exact ⟨rfl, G7.out.trans g8⟩

set_option maxRecDepth 100000 in
theorem contract (H : Type) (enc : TypeId × Value → H) (W : World) (base : Nat) (args : Array Value) (ds gs : List (DataW H)) (before : List MemPlace)
    (hval : ∀ (j : Nat) t v, Tryz.f3.params[j]? = some t → args[j]? = some v → Value.okWide Tryz.prog W .any base t v)
    (hW : DataW.Whole enc Tryz.prog Tryz.f3.params.toList Rows.namesResolvesSpec.vars false W args.toList ds gs before) (hL : laidMet Tryz.prog Rows.namesResolvesRow.laid W) (hsh : W.ShapedOpen Tryz.prog) :
    Calls Tryz.prog 3 args W fun e W' => ∃ v, e = .returned v ∧ Rows.namesResolvesSpec.post enc Tryz.prog Tryz.f3 false true false false W args v W' := by
  have hW' := hW
  obtain ⟨p, q, hA0, hV, rfl, hfz, hnd⟩ := hW
  have hA : DataW.TrodAll enc Tryz.prog W 0 (fun _ => true) true Tryz.f3.params.toList args.toList ds p := hA0
  rw [Tryz.params3] at hA hval
  obtain ⟨v0, vs0, d0, ds0, p0, q0, hargs, rfl, rfl, h0, r0⟩ := trodAll_cons hA
  obtain ⟨v1, vs1, d1, ds1, p1, q1, rfl, rfl, rfl, h1, r1⟩ := trodAll_cons r0
  obtain ⟨rfl, rfl, rfl⟩ := trodAll_nil r1
  obtain rfl : args = #[v0, v1] := by cases args; simp_all
  obtain ⟨rfl, rfl⟩ := trodVars_none hV
  obtain ⟨bk0, rfl, bi0⟩ := open_book (hval 0 26 v0 rfl rfl) h0
  obtain ⟨a1, rfl, rfl, rfl, w1⟩ := open_string Tryz.underlying9 (hval 1 9 v1 rfl rfl) h1
  clear hA0
  simp only [List.append_nil] at hW'
  refine (walk bk0 a1 w1 W bi0 ⟨lens_of hL (List.mem_of_getElem? (i := 3) rfl), pow_of hL (List.mem_of_getElem? (i := 2) rfl), max_of hsh⟩).mono fun e W' ⟨he, hg⟩ => ?_
  subst he
  exact ⟨_, rfl, post_of_below (pa := (p0 ++ ([] ++ []))) (pv := []) hW' (fun _ _ _ => trodAll_cons_mk (shut_bool Tryz.underlying4 _) trodAll_mk0) (fun _ hsp => (trodAll_cons_mk (stays book_reads h0 hg (fun p hp => by simp [hp]) (fun p hp => hW'.lt p hp) hsp) (trodAll_cons_mk (shut_string Tryz.underlying9 w1) trodAll_mk0))) (fun _ _ => rfl) (by simp)
    hg (ok_one (by kernel_rfl) rfl (okWide_bool_mk Tryz.underlying4 _))⟩

/-- A world for the witness: the settled one, the listed variables holding what their initialisers lay. -/
noncomputable def laidWorld (os : Os) : World := put (put (put (put (put (put (bare os) 5 (flat1 Rows.laid_math_bits_deBruijn32tab)) 6 (flat1 Rows.laid_math_bits_deBruijn64tab)) 4 (flat1 Rows.laid_internal_strconv_uint64pow10)) 0 (flat1 Rows.laid_timeball_civil_lengths)) 3 (flat2 Rows.laid_unicode_utf8_acceptRanges)) 2 (flat1 Rows.laid_unicode_utf8_first)
set_option maxRecDepth 100000 in
theorem laid_met (os : Os) : laidMet Tryz.prog Rows.namesResolvesRow.laid ((laidWorld os).forCall (fun _ _ => 0) ⟨#[], #[.agg #[.slice none 0 0, .slice none 0 0, .slice none 0 0], .string .empty], []⟩).memory :=
  laidMet_of_run3 8 (by kernel_rfl) (by kernel_rfl) (by kernel_rfl)
theorem reads (os : Os) {H : Type} (enc : TypeId × Value → H) : ∃ places, DataW.whole enc Tryz.prog ((laidWorld os).forCall (fun _ _ => 0) ⟨#[], #[.agg #[.slice none 0 0, .slice none 0 0, .slice none 0 0], .string .empty], []⟩).memory Tryz.f3.params.toList Rows.namesResolvesSpec.vars false #[Value.agg #[.slice none 0 0, .slice none 0 0, .slice none 0 0], Value.string .empty].toList 8 = some ([.agg [.nil, .nil, .nil], .lit (.string [])], [], places) :=
  ⟨[], by kernel_rfl⟩

set_option maxRecDepth 100000 in
theorem lifted (os : Os) (started : os.Started) (H : Type) (enc : TypeId × Value → H) (F : Stop.Interp) :
    ReturnsInHanded {} Tryz.checked os 3 .any ((OpenSpec.ofChange Rows.namesResolvesSpec).preRow enc Tryz.prog Tryz.f3 Rows.namesResolvesRow.domain false Rows.namesResolvesRow.laid) (((OpenSpec.ofChange Rows.namesResolvesSpec).at F).post enc Tryz.prog Tryz.f3 false true false false) := by
  obtain ⟨places, hx⟩ := reads os enc
  refine returnsInHanded_of_row (C := Tryz.checked) (s := OpenSpec.ofChange Rows.namesResolvesSpec) own started (by kernel_rfl) Tryz.func3
    (witness_row_at (enc := enc) (C := Tryz.checked) false (laidWorld os) #[.agg #[.slice none 0 0, .slice none 0 0, .slice none 0 0], .string .empty] rfl (by kernel_rfl) (by kernel_rfl) (by kernel_rfl)
      (OpenSpec.preRow_of_cond 8 hx (by kernel_rfl) (fun k hk => by cases hk) (by kernel_rfl) (laid_met os))) ?_
  intro W base args ds gs before hval hW _ _ _ hL hsh _
  exact contract H enc W base args ds gs before hval hW hL hsh

theorem said : Rows.NamesResolvesSaid :=
  OpenClaim.holds_of_cond 3 Tryz.f3 rfl rfl rfl rfl rfl rfl rfl ⟨rfl, rfl, rfl, rfl, rfl⟩ rfl rfl rfl rfl rfl (by kernel_rfl) Tryz.func3 (by kernel_rfl)
    (of_decide_eq_true (by kernel_rfl)) (by unfold Func.isWrapper; first | (rw [if_pos (by decide +kernel)]; kernel_rfl) | (rw [if_neg (by decide +kernel)]; exact ⟨rfl, rfl⟩))
    (fun os started H enc _ F => by rw [OpenClaim.pre_eq_preRow]; exact lifted os started H enc F)

set_option maxRecDepth 100000 in
/-- No parameter wants a stand-in; whether the program has looks of its own. -/
theorem plain (f : FuncId) (fn : Func) (hf : Tryz.pinned.checked.prog.funcNamed "timeball/timeballlaw.NamesResolves" = some f) (hfn : Tryz.pinned.checked.prog.funcs[f]? = some fn) :
    false = Tryz.pinned.checked.prog.looks [] ∧ ∀ (j : Nat) t, fn.params[j]? = some t → Tryz.pinned.checked.prog.wantsStandIn t = false := by
  obtain rfl : f = 3 := Option.some.inj ((show Tryz.prog.funcNamed "timeball/timeballlaw.NamesResolves" = some 3 by kernel_rfl).symm.trans hf) |>.symm
  obtain rfl : fn = Tryz.f3 := (Option.some.inj (Tryz.func3.symm.trans hfn)).symm
  refine ⟨by kernel_rfl, fun j t ht => ?_⟩
  rw [Tryz.params3] at ht
  have hm : t = 9 ∨ t = 26 := by have := Array.mem_of_getElem? ht; simp at this; first | exact this | exact this.symm | (rcases this with h | h | h <;> simp [h]) | omega
  rcases hm with rfl | rfl
  · exact (show Tryz.prog.wantsStandIn 9 = false by kernel_rfl)
  · exact (show Tryz.prog.wantsStandIn 26 = false by kernel_rfl)

end Go.Proofs.YtemdgipkcilpcaaGreatDoor.namesResolves
namespace Go.Proofs.YtemdgipkcilpcaaGreatDoor
/-- The card. -/
theorem namesResolves_holds : Rows.NamesResolvesCardSaid :=
  Claim7.holds_tied_plain_at .later [] _ _ _ _ namesResolves.said (fun _ h => by cases h) (by kernel_rfl) (fun _ h => by cases h) namesResolves_row_tie rfl ⟨rfl, rfl⟩ (by kernel_rfl) rfl namesResolves.plain (by kernel_rfl)
end Go.Proofs.YtemdgipkcilpcaaGreatDoor
