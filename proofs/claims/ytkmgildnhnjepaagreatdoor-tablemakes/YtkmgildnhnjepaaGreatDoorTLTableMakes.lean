/- The law TableMakes of package timeballlaw returns true for every input and leaves its arguments as they were: Make returns what the reference returns. Condition: the listed variables (math/bits.deBruijn32tab, math/bits.deBruijn64tab, internal/strconv.uint64pow10, timeball/civil.lengths, unicode/utf8.acceptRanges, unicode/utf8.first) lie as their initialisers lay them; the card ties that tto the program's text. -/
import Derived.Test.YtkmgildnhnjepaaGreatDoorCards
import Derived.Test.YtkmgildnhnjepaaGreatDoorTie
import Derived.Test.YtkmgildnhnjepaaGreatDoorTM23
import Derived.Test.YtkmgildnhnjepaaGreatDoorTM46
import Derived.Test.YtkmgildnhnjepaaGreatDoorTM51
import Derived.Test.YtkmgildnhnjepaaGreatDoorTM22
import Derived.Test.YtkmgildnhnjepaaGreatDoorTM52
namespace Go.Proofs.YtkmgildnhnjepaaGreatDoor.tableMakes
open Go.ChangeShapes Go.WideShapes Go.ChangeAt Go.RowKit
open Go.ChangeMaps (open_string shut_string)
set_option linter.unusedVariables false
set_option linter.unusedSimpArgs false
set_option maxRecDepth 100000 in
set_option maxHeartbeats 16000000 in
theorem walk (b : BokD) (nm : ByteArray) (hn : nm.size ≤ maxLen) (F T : Int) (sf : I64 F) (st : I64 T) (w : World) (hb : b.At w) (ht : BkTab w) :
    Calls Tryz.prog 3 #[bookV b, .string nm, .agg #[.int .i64 F, .int .i64 T]] w fun e w' => e = .returned (.bool true) ∧ Gr w w' := by
  have KP := Lib.hid (fun W (g : Gr w W) => pMake b nm F T W (hb.gr g) hn (by unfold I64 at sf; omega) (by unfold I64 at sf; omega) (by unfold I64 at st; omega) (by unfold I64 at st; omega) (g.bk ht))
  have KR := Lib.hid (fun W (g : Gr w W) => rTableMake b nm F T W (hb.gr g) (g.bk ht).2.2)
  have K0 : Hid (∀ W, Calls Tryz.prog 12 #[.agg #[.slice none 0 0, .int .i64 0, .slice none 0 0]] W fun e w' => e = .returned (.int .i64 5) ∧ Gr W w') := fun W => ptabCheck none 0 [] 0 none 0 [] W (Row.nil _ _ _ _) (fun x hx => by cases hx) (Row.nil _ _ _ _)
  have LN := Lib.hid (mk_lens b.rs b.zs b.ls nm F T)
  obtain ⟨Ar, cr, rs, Az, cz, zs, Al, cl, ls⟩ := b
  simp only at KP KR LN
  unfold MkE at KP KR
  generalize mkTy rs zs ls nm F T = ty at KP KR LN
  generalize mkCh rs zs ls nm F T = ch at KP KR LN
  generalize mkC rs zs ls nm F T = C at KP KR
  have tc : (C == C) = true := beqT rfl
  have t5 : ((5 : Int) == 5) = true := rfl
  have B0 := Lib.hid (box_two w (.cells #[.slice Ar rs.length cr, .slice Az zs.length cz, .slice Al ls.length cl] 26) (.cells #[.int .i64 F, .int .i64 T] 28))
  clear hb ht hn sf st
  go_enter Tryz.func3, Tryz.ntmps3
  go_wp2_with fail
  generalize (w.alloc (.cells #[.slice Ar rs.length cr, .slice Az zs.length cz, .slice Al ls.length cl] 26)).alloc (.cells #[.int .i64 F, .int .i64 T] 28) = w1 at B0 ⊢
  generalize w.heap.size = q at B0 ⊢
  have x0 : w1.cell? ⟨q, 0, none⟩ = some (.slice Ar rs.length cr) := bcell_row B0.out.2.1 rfl
  have x1 : w1.cell? ⟨q, 1, none⟩ = some (.slice Az zs.length cz) := bcell_row B0.out.2.1 rfl
  have x2 : w1.cell? ⟨q, 2, none⟩ = some (.slice Al ls.length cl) := bcell_row B0.out.2.1 rfl
  have y0 : w1.cell? ⟨q + 1, 0, none⟩ = some (.int .i64 F) := bcell_row B0.out.2.2 rfl
  have y1 : w1.cell? ⟨q + 1, 1, none⟩ = some (.int .i64 T) := bcell_row B0.out.2.2 rfl
  go_wp2_with fail
  clear x0 x1 x2 y0 y1
  refine (KP.out w1 B0.out.1).mono ?_
  rintro e w2 ⟨A1, c1, A2, c2, rfl, ta, ca, g2⟩
  have N3 := Lib.hid (box_one w2 (.cells #[.slice A1 ty.length c1, .int .i64 0, .slice A2 ch.length c2] 32))
  have G3 := Lib.hid ((B0.out.1.trans g2).trans N3.out.1)
  have HB3 := Lib.hid (bheap_gr (g2.trans N3.out.1) B0.out.2.1)
  have HS3 := Lib.hid (bheap_gr (g2.trans N3.out.1) B0.out.2.2)
  have TA := Lib.hid (ta.2.1.gr N3.out.1)
  have CA := Lib.hid (ca.2.1.gr N3.out.1)
  clear g2 B0 ta ca KP
  have x0 : (w2.alloc (.cells #[.slice A1 ty.length c1, .int .i64 0, .slice A2 ch.length c2] 32)).cell? ⟨q, 0, none⟩ = some (.slice Ar rs.length cr) := bcell_row HB3.out rfl
  have x1 : (w2.alloc (.cells #[.slice A1 ty.length c1, .int .i64 0, .slice A2 ch.length c2] 32)).cell? ⟨q, 1, none⟩ = some (.slice Az zs.length cz) := bcell_row HB3.out rfl
  have x2 : (w2.alloc (.cells #[.slice A1 ty.length c1, .int .i64 0, .slice A2 ch.length c2] 32)).cell? ⟨q, 2, none⟩ = some (.slice Al ls.length cl) := bcell_row HB3.out rfl
  have y0 : (w2.alloc (.cells #[.slice A1 ty.length c1, .int .i64 0, .slice A2 ch.length c2] 32)).cell? ⟨q + 1, 0, none⟩ = some (.int .i64 F) := bcell_row HS3.out rfl
  have y1 : (w2.alloc (.cells #[.slice A1 ty.length c1, .int .i64 0, .slice A2 ch.length c2] 32)).cell? ⟨q + 1, 1, none⟩ = some (.int .i64 T) := bcell_row HS3.out rfl
  go_wp2_with fail
  clear x0 x1 x2 y0 y1
  generalize w2.alloc (.cells #[.slice A1 ty.length c1, .int .i64 0, .slice A2 ch.length c2] 32) = w3 at N3 G3 TA CA HB3 HS3 ⊢
  generalize w2.heap.size = p at N3 ⊢
  refine (KR.out w3 G3.out).mono ?_
  rintro e w4 ⟨B1, d1, B2, d2, rfl, tb, cb, g4⟩
  have N5 := Lib.hid (box_one w4 (.cells #[.slice B1 ty.length d1, .int .i64 0, .slice B2 ch.length d2] 32))
  have G5 := Lib.hid ((G3.out.trans g4).trans N5.out.1)
  have H5 := Lib.hid (bheap_gr (g4.trans N5.out.1) N3.out.2)
  have TA5 := Lib.hid (TA.out.gr (g4.trans N5.out.1))
  have CA5 := Lib.hid (CA.out.gr (g4.trans N5.out.1))
  have TB5 := Lib.hid (tb.2.1.gr N5.out.1)
  have CB5 := Lib.hid (cb.2.1.gr N5.out.1)
  have H6 := Lib.hid N5.out.2
  clear g4 tb cb KR N3 N5 TA CA G3 HB3 HS3
  have x0 : (w4.alloc (.cells #[.slice B1 ty.length d1, .int .i64 0, .slice B2 ch.length d2] 32)).cell? ⟨p, 0, none⟩ = some (.slice A1 ty.length c1) := bcell_row H5.out rfl
  have x1 : (w4.alloc (.cells #[.slice B1 ty.length d1, .int .i64 0, .slice B2 ch.length d2] 32)).cell? ⟨p, 1, none⟩ = some (.int .i64 0) := bcell_row H5.out rfl
  have x2 : (w4.alloc (.cells #[.slice B1 ty.length d1, .int .i64 0, .slice B2 ch.length d2] 32)).cell? ⟨p, 2, none⟩ = some (.slice A2 ch.length c2) := bcell_row H5.out rfl
  have y0 : (w4.alloc (.cells #[.slice B1 ty.length d1, .int .i64 0, .slice B2 ch.length d2] 32)).cell? ⟨w4.heap.size, 0, none⟩ = some (.slice B1 ty.length d1) := bcell_row H6.out rfl
  have y1 : (w4.alloc (.cells #[.slice B1 ty.length d1, .int .i64 0, .slice B2 ch.length d2] 32)).cell? ⟨w4.heap.size, 1, none⟩ = some (.int .i64 0) := bcell_row H6.out rfl
  have y2 : (w4.alloc (.cells #[.slice B1 ty.length d1, .int .i64 0, .slice B2 ch.length d2] 32)).cell? ⟨w4.heap.size, 2, none⟩ = some (.slice B2 ch.length d2) := bcell_row H6.out rfl
  go_wp2_with fail
  clear x0 x1 x2 y0 y1 y2
  refine (rtabEq A1 c1 ty 0 A2 c2 ch B1 d1 B2 d2 _ (by have := LN.out; omega) (by have := LN.out; omega) TA5.out CA5.out TB5.out CB5.out).mono ?_
  rintro e w6 ⟨rfl, g6⟩
  have G6 := Lib.hid (G5.out.trans g6)
  clear g6 G5 H5 H6 TA5 CA5 TB5 CB5
  go_wp2_with fail
  refine (K0.out w6).mono ?_
  rintro e w7 ⟨rfl, g7⟩
  have G7 := Lib.hid (G6.out.trans g7)
  clear g7 G6
  go_wp2_with fail
  go_ret
  exact ⟨rfl, G7.out⟩

set_option maxRecDepth 100000 in
theorem contract (H : Type) (enc : TypeId × Value → H) (W : World) (base : Nat) (args : Array Value) (ds gs : List (DataW H)) (before : List MemPlace)
    (hval : ∀ (j : Nat) t v, Tryz.f3.params[j]? = some t → args[j]? = some v → Value.okWide Tryz.prog W .any base t v)
    (hW : DataW.Whole enc Tryz.prog Tryz.f3.params.toList Rows.tableMakesSpec.vars false W args.toList ds gs before) (hL : laidMet Tryz.prog Rows.tableMakesRow.laid W) (hsh : W.ShapedOpen Tryz.prog) :
    Calls Tryz.prog 3 args W fun e W' => ∃ v, e = .returned v ∧ Rows.tableMakesSpec.post enc Tryz.prog Tryz.f3 false true false false W args v W' := by
  have hW' := hW
  obtain ⟨p, q, hA0, hV, rfl, hfz, hnd⟩ := hW
  have hA : DataW.TrodAll enc Tryz.prog W 0 (fun _ => true) true Tryz.f3.params.toList args.toList ds p := hA0
  rw [Tryz.params3] at hA hval
  obtain ⟨v0, vs0, d0, ds0, p0, q0, hargs, rfl, rfl, h0, r0⟩ := trodAll_cons hA
  obtain ⟨v1, vs1, d1, ds1, p1, q1, rfl, rfl, rfl, h1, r1⟩ := trodAll_cons r0
  obtain ⟨v2, vs2, d2, ds2, p2, q2, rfl, rfl, rfl, h2, r2⟩ := trodAll_cons r1
  obtain ⟨rfl, rfl, rfl⟩ := trodAll_nil r2
  obtain rfl : args = #[v0, v1, v2] := by cases args; simp_all
  obtain ⟨rfl, rfl⟩ := trodVars_none hV
  obtain ⟨bk0, rfl, bi0⟩ := open_book (hval 0 26 v0 rfl rfl) h0
  obtain ⟨a1, rfl, rfl, rfl, w1⟩ := open_string Tryz.underlying9 (hval 1 9 v1 rfl rfl) h1
  obtain ⟨a2, b2, rfl, sa2, sb2⟩ := open_span (hval 2 28 v2 rfl rfl) h2
  clear hA0
  simp only [List.append_nil] at hW'
  refine (walk bk0 a1 w1 a2 b2 sa2 sb2 W bi0 ⟨lens_of hL (List.mem_of_getElem? (i := 3) rfl), pow_of hL (List.mem_of_getElem? (i := 2) rfl), max_of hsh⟩).mono fun e W' ⟨he, hg⟩ => ?_
  subst he
  exact ⟨_, rfl, post_of_below (pa := (p0 ++ ([] ++ (p2 ++ [])))) (pv := []) hW' (fun _ _ _ => trodAll_cons_mk (shut_bool Tryz.underlying4 _) trodAll_mk0) (fun _ hsp => (trodAll_cons_mk (stays book_reads h0 hg (fun p hp => by simp [hp]) (fun p hp => hW'.lt p hp) hsp) (trodAll_cons_mk (shut_string Tryz.underlying9 w1) (trodAll_cons_mk (stays span_reads h2 hg (fun p hp => by simp [hp]) (fun p hp => hW'.lt p hp) hsp) trodAll_mk0)))) (fun _ _ => rfl) (by simp)
    hg (ok_one (by kernel_rfl) rfl (okWide_bool_mk Tryz.underlying4 _))⟩

/-- A world for the witness: the settled one, the listed variables holding what their initialisers lay. -/
noncomputable def laidWorld (os : Os) : World := put (put (put (put (put (put (bare os) 5 (flat1 Rows.laid_math_bits_deBruijn32tab)) 6 (flat1 Rows.laid_math_bits_deBruijn64tab)) 2 (flat1 Rows.laid_internal_strconv_uint64pow10)) 0 (flat1 Rows.laid_timeball_civil_lengths)) 4 (flat2 Rows.laid_unicode_utf8_acceptRanges)) 3 (flat1 Rows.laid_unicode_utf8_first)
set_option maxRecDepth 100000 in
theorem laid_met (os : Os) : laidMet Tryz.prog Rows.tableMakesRow.laid ((laidWorld os).forCall (fun _ _ => 0) ⟨#[], #[.agg #[.slice none 0 0, .slice none 0 0, .slice none 0 0], .string .empty, .agg #[.int .i64 0, .int .i64 0]], []⟩).memory :=
  laidMet_of_run3 8 (by kernel_rfl) (by kernel_rfl) (by kernel_rfl)
theorem reads (os : Os) {H : Type} (enc : TypeId × Value → H) : ∃ places, DataW.whole enc Tryz.prog ((laidWorld os).forCall (fun _ _ => 0) ⟨#[], #[.agg #[.slice none 0 0, .slice none 0 0, .slice none 0 0], .string .empty, .agg #[.int .i64 0, .int .i64 0]], []⟩).memory Tryz.f3.params.toList Rows.tableMakesSpec.vars false #[Value.agg #[.slice none 0 0, .slice none 0 0, .slice none 0 0], Value.string .empty, Value.agg #[.int .i64 0, .int .i64 0]].toList 8 = some ([.agg [.nil, .nil, .nil], .lit (.string []), .agg [.lit (.int .i64 0), .lit (.int .i64 0)]], [], places) :=
  ⟨[], by kernel_rfl⟩

set_option maxRecDepth 100000 in
theorem lifted (os : Os) (started : os.Started) (H : Type) (enc : TypeId × Value → H) (F : Stop.Interp) :
    ReturnsInHanded {} Tryz.checked os 3 .any ((OpenSpec.ofChange Rows.tableMakesSpec).preRow enc Tryz.prog Tryz.f3 Rows.tableMakesRow.domain false Rows.tableMakesRow.laid) (((OpenSpec.ofChange Rows.tableMakesSpec).at F).post enc Tryz.prog Tryz.f3 false true false false) := by
  obtain ⟨places, hx⟩ := reads os enc
  refine returnsInHanded_of_row (C := Tryz.checked) (s := OpenSpec.ofChange Rows.tableMakesSpec) own started (by kernel_rfl) Tryz.func3
    (witness_row_at (enc := enc) (C := Tryz.checked) false (laidWorld os) #[.agg #[.slice none 0 0, .slice none 0 0, .slice none 0 0], .string .empty, .agg #[.int .i64 0, .int .i64 0]] rfl (by kernel_rfl) (by kernel_rfl) (by kernel_rfl)
      (OpenSpec.preRow_of_cond 8 hx (by kernel_rfl) (fun k hk => by cases hk) (by kernel_rfl) (laid_met os))) ?_
  intro W base args ds gs before hval hW _ _ _ hL hsh _
  exact contract H enc W base args ds gs before hval hW hL hsh

theorem said : Rows.TableMakesSaid :=
  OpenClaim.holds_of_cond 3 Tryz.f3 rfl rfl rfl rfl rfl rfl rfl ⟨rfl, rfl, rfl, rfl, rfl⟩ rfl rfl rfl rfl rfl (by kernel_rfl) Tryz.func3 (by kernel_rfl)
    (of_decide_eq_true (by kernel_rfl)) (by unfold Func.isWrapper; first | (rw [if_pos (by decide +kernel)]; kernel_rfl) | (rw [if_neg (by decide +kernel)]; exact ⟨rfl, rfl⟩))
    (fun os started H enc _ F => by rw [OpenClaim.pre_eq_preRow]; exact lifted os started H enc F)

set_option maxRecDepth 100000 in
/-- No parameter wants a stand-in; whether the program has looks of its own. -/
theorem plain (f : FuncId) (fn : Func) (hf : Tryz.pinned.checked.prog.funcNamed "timeball/timeballlaw.TableMakes" = some f) (hfn : Tryz.pinned.checked.prog.funcs[f]? = some fn) :
    false = Tryz.pinned.checked.prog.looks [] ∧ ∀ (j : Nat) t, fn.params[j]? = some t → Tryz.pinned.checked.prog.wantsStandIn t = false := by
  obtain rfl : f = 3 := Option.some.inj ((show Tryz.prog.funcNamed "timeball/timeballlaw.TableMakes" = some 3 by kernel_rfl).symm.trans hf) |>.symm
  obtain rfl : fn = Tryz.f3 := (Option.some.inj (Tryz.func3.symm.trans hfn)).symm
  refine ⟨by kernel_rfl, fun j t ht => ?_⟩
  rw [Tryz.params3] at ht
  have hm : t = 9 ∨ t = 26 ∨ t = 28 := by have := Array.mem_of_getElem? ht; simp at this; first | exact this | exact this.symm | (rcases this with h | h | h <;> simp [h]) | omega
  rcases hm with rfl | rfl | rfl
  · exact (show Tryz.prog.wantsStandIn 9 = false by kernel_rfl)
  · exact (show Tryz.prog.wantsStandIn 26 = false by kernel_rfl)
  · exact (show Tryz.prog.wantsStandIn 28 = false by kernel_rfl)

end Go.Proofs.YtkmgildnhnjepaaGreatDoor.tableMakes
namespace Go.Proofs.YtkmgildnhnjepaaGreatDoor
/-- The card. -/
theorem tableMakes_holds : Rows.TableMakesCardSaid :=
  Claim7.holds_tied_plain_at .later [] _ _ _ _ tableMakes.said (fun _ h => by cases h) (by kernel_rfl) (fun _ h => by cases h) tableMakes_row_tie rfl ⟨rfl, rfl⟩ (by kernel_rfl) rfl tableMakes.plain (by kernel_rfl)
end Go.Proofs.YtkmgildnhnjepaaGreatDoor
