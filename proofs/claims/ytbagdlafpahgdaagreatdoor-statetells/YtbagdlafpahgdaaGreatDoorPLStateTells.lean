/- The law StateTells of package timeballlaw returns true for every input and leaves its arguments as they were: At returns what the reference returns. Condition: the listed variables (math/bits.deBruijn32tab, math/bits.deBruijn64tab, internal/strconv.uint64pow10, timeball/civil.lengths, unicode/utf8.acceptRanges, unicode/utf8.first) lie as their initialisers lay them; the card ties that tto the program's text. -/
import Derived.Test.YtbagdlafpahgdaaGreatDoorCards
import Derived.Test.YtbagdlafpahgdaaGreatDoorTie
import Derived.Test.YtbagdlafpahgdaaGreatDoorPM30
import Derived.Test.YtbagdlafpahgdaaGreatDoorPM46
import Derived.Test.YtbagdlafpahgdaaGreatDoorPM51
import Derived.Test.YtbagdlafpahgdaaGreatDoorPM28
namespace Go.Proofs.YtbagdlafpahgdaaGreatDoor.stateTells
open Go.ChangeShapes Go.WideShapes Go.ChangeAt Go.RowKit
open Go.ChangeMaps (open_string shut_string)
set_option linter.unusedVariables false
set_option linter.unusedSimpArgs false
set_option maxRecDepth 100000 in
set_option maxHeartbeats 8000000 in
theorem walk (b : BokD) (nm : ByteArray) (hn : nm.size ≤ maxLen) (t : Int) (hf1 : -9223372036854775808 ≤ t) (hf2 : t ≤ 9223372036854775807) (w : World) (hb : b.At w) (ht : BkTab w) :
    Calls Tryz.prog 3 #[bookV b, .string nm, .int .i64 t] w fun e w' => e = .returned (.bool true) ∧ Gr w w' := by
  have KP := Lib.hid (fun W (g : Gr w W) => pAt b nm t W (hb.gr g) hn hf1 hf2 (g.bk ht))
  have KR := Lib.hid (fun W (g : Gr w W) => rAt b nm t W (hb.gr g) (g.max ht.2.2))
  have KE := Lib.hid (fun W (g : Gr w W) => pAt emptyB (S [97]) 0 W (empty_at W) (by rw [S_size]; unfold maxLen; decide) (by decide) (by decide) (g.bk ht))
  have RE : resC emptyB.rs emptyB.zs emptyB.ls (S [97]) = 6 := empty_res _
  have R0 : atC emptyB.rs emptyB.zs emptyB.ls (S [97]) 0 = 6 := (atC_res (by rw [RE]; decide)).trans RE
  have R1 : Hid (atC emptyB.rs emptyB.zs emptyB.ls (S [97]) 0 = 6 ∧ atT emptyB.rs emptyB.zs emptyB.ls (S [97]) 0 = ⟨0, false, ⟨#[]⟩⟩) := And.intro R0 (atT_no (rs := emptyB.rs) (zs := emptyB.zs) (ls := emptyB.ls) (nm := S [97]) (t := 0) (by rw [R0]; decide))
  obtain ⟨Ar, cr, rs, Az, cz, zs, Al, cl, ls⟩ := b
  simp only at KP KR
  have B0 := Lib.hid (box_one w (.cells #[.slice Ar rs.length cr, .slice Az zs.length cz, .slice Al ls.length cl] 26))
  clear hb ht hn hf1 hf2 RE R0
  go_enter Tryz.func3, Tryz.ntmps3
  go_wp2_with fail
  generalize w.alloc (.cells #[.slice Ar rs.length cr, .slice Az zs.length cz, .slice Al ls.length cl] 26) = w1 at B0 ⊢
  generalize w.heap.size = q at B0 ⊢
  have x0 : w1.cell? ⟨q, 0, none⟩ = some (.slice Ar rs.length cr) := bcell_row B0.out.2 rfl
  have x1 : w1.cell? ⟨q, 1, none⟩ = some (.slice Az zs.length cz) := bcell_row B0.out.2 rfl
  have x2 : w1.cell? ⟨q, 2, none⟩ = some (.slice Al ls.length cl) := bcell_row B0.out.2 rfl
  go_wp2_with fail
  clear x0 x1 x2
  refine (KP.out w1 B0.out.1).mono ?_
  rintro e w2 ⟨rfl, g2⟩
  have G2 := Lib.hid (B0.out.1.trans g2)
  have HQ2 := Lib.hid (bheap_gr g2 B0.out.2)
  have AE : Hid (∀ (e : Ending) (w w' : World), AtE rs zs ls nm t w e w' → e = .returned (.tuple #[.agg #[.int .i64 (atT rs zs ls nm t).off, .bool (atT rs zs ls nm t).sv, .string (atT rs zs ls nm t).nm], .int .i64 (atC rs zs ls nm t)]) ∧ Gr w w') := fun e w w' h => h
  clear g2 B0 KP
  generalize atT rs zs ls nm t = T at AE ⊢
  generalize atC rs zs ls nm t = C at AE ⊢
  obtain ⟨o, s, n⟩ := T
  simp only at AE ⊢
  have NB := Lib.hid (box_one w2 (.cells #[.int .i64 o, .bool s, .string n] 28))
  have G3 := Lib.hid (G2.out.trans NB.out.1)
  have HQ3 := Lib.hid (bheap_gr NB.out.1 HQ2.out)
  have x0 : (w2.alloc (.cells #[.int .i64 o, .bool s, .string n] 28)).cell? ⟨q, 0, none⟩ = some (.slice Ar rs.length cr) := bcell_row HQ3.out rfl
  have x1 : (w2.alloc (.cells #[.int .i64 o, .bool s, .string n] 28)).cell? ⟨q, 1, none⟩ = some (.slice Az zs.length cz) := bcell_row HQ3.out rfl
  have x2 : (w2.alloc (.cells #[.int .i64 o, .bool s, .string n] 28)).cell? ⟨q, 2, none⟩ = some (.slice Al ls.length cl) := bcell_row HQ3.out rfl
  go_wp2_with fail
  clear x0 x1 x2
  generalize w2.alloc (.cells #[.int .i64 o, .bool s, .string n] 28) = w3 at NB G3 HQ3 ⊢
  generalize w2.heap.size = q3 at NB ⊢
  refine (KR.out w3 G3.out).mono ?_
  rintro e w4 he
  obtain ⟨rfl, g4⟩ := AE.out e w3 w4 he
  have G4 := Lib.hid (G3.out.trans g4)
  have HA4 := Lib.hid (bheap_gr g4 NB.out.2)
  clear g4 he AE KR NB HQ3 HQ2 G2 G3
  have NB := Lib.hid (box_one w4 (.cells #[.int .i64 o, .bool s, .string n] 28))
  go_wp2_with fail
  have G5 := Lib.hid (G4.out.trans NB.out.1)
  have HA5 := Lib.hid (bheap_gr NB.out.1 HA4.out)
  generalize w4.alloc (.cells #[.int .i64 o, .bool s, .string n] 28) = w5 at NB G5 HA5 ⊢
  generalize w4.heap.size = q5 at NB ⊢
  refine (KE.out w5 G5.out).mono ?_
  rintro e w6 ⟨rfl, g6⟩
  rw [R1.out.1, R1.out.2]
  have G6 := Lib.hid (G5.out.trans g6)
  have HA6 := Lib.hid (bheap_gr g6 HA5.out)
  have HB6 := Lib.hid (bheap_gr g6 NB.out.2)
  have NC := Lib.hid (box_one w6 (.cells #[.int .i64 0, .bool false, .string ⟨#[]⟩] 28))
  have HA7 := Lib.hid (bheap_gr NC.out.1 HA6.out)
  have HB7 := Lib.hid (bheap_gr NC.out.1 HB6.out)
  clear g6 KE G5 NB HA5 HA4 G4
  have y0 : (w6.alloc (.cells #[.int .i64 0, .bool false, .string ⟨#[]⟩] 28)).cell? ⟨q3, 0, none⟩ = some (.int .i64 o) := bcell_row HA7.out rfl
  have y1 : (w6.alloc (.cells #[.int .i64 0, .bool false, .string ⟨#[]⟩] 28)).cell? ⟨q3, 1, none⟩ = some (.bool s) := bcell_row HA7.out rfl
  have y2 : (w6.alloc (.cells #[.int .i64 0, .bool false, .string ⟨#[]⟩] 28)).cell? ⟨q3, 2, none⟩ = some (.string n) := bcell_row HA7.out rfl
  have z0 : (w6.alloc (.cells #[.int .i64 0, .bool false, .string ⟨#[]⟩] 28)).cell? ⟨q5, 0, none⟩ = some (.int .i64 o) := bcell_row HB7.out rfl
  have z1 : (w6.alloc (.cells #[.int .i64 0, .bool false, .string ⟨#[]⟩] 28)).cell? ⟨q5, 1, none⟩ = some (.bool s) := bcell_row HB7.out rfl
  have z2 : (w6.alloc (.cells #[.int .i64 0, .bool false, .string ⟨#[]⟩] 28)).cell? ⟨q5, 2, none⟩ = some (.string n) := bcell_row HB7.out rfl
  have EQ := fun w => eqType o s n w
  have tc : (C == C) = true := by simp
  go_wp2_with fail
  go_ret
  exact ⟨rfl, G6.out.trans NC.out.1⟩

set_option maxRecDepth 100000 in
theorem contract (H : Type) (enc : TypeId × Value → H) (W : World) (base : Nat) (args : Array Value) (ds gs : List (DataW H)) (before : List MemPlace)
    (hval : ∀ (j : Nat) t v, Tryz.f3.params[j]? = some t → args[j]? = some v → Value.okWide Tryz.prog W .any base t v)
    (hW : DataW.Whole enc Tryz.prog Tryz.f3.params.toList Rows.stateTellsSpec.vars false W args.toList ds gs before) (hL : laidMet Tryz.prog Rows.stateTellsRow.laid W) (hsh : W.ShapedOpen Tryz.prog) :
    Calls Tryz.prog 3 args W fun e W' => ∃ v, e = .returned v ∧ Rows.stateTellsSpec.post enc Tryz.prog Tryz.f3 false true false false W args v W' := by
  have hW' := hW
  obtain ⟨p, q, hA0, hV, rfl, hfz, hnd⟩ := hW
  have hA : DataW.TrodAll enc Tryz.prog W 0 (fun _ => true) true Tryz.f3.params.toList args.toList ds p := hA0
  rw [Tryz.params3] at hA hval
  obtain ⟨v0, vs0, d0, ds0, p0, q0, hargs, rfl, rfl, h0, r0⟩ := trodAll_cons hA
  obtain ⟨v1, vs1, d1, ds1, p1, q1, rfl, rfl, rfl, h1, r1⟩ := trodAll_cons r0
  obtain ⟨v2, vs2, d2, ds2, p2, q2, rfl, rfl, rfl, h2, r2⟩ := trodAll_cons r1
  obtain ⟨rfl, rfl, rfl⟩ := trodAll_nil r2
  obtain rfl : args = #[v0, v1, v2] := by cases args; simp_all
  obtain ⟨rfl, rfl⟩ := trodVars_none hV
  obtain ⟨bk0, rfl, bi0⟩ := open_book (hval 0 26 v0 rfl rfl) h0
  obtain ⟨a1, rfl, rfl, rfl, w1⟩ := open_string Tryz.underlying9 (hval 1 9 v1 rfl rfl) h1
  obtain ⟨a2, rfl, rfl, rfl, w2⟩ := open_int Tryz.underlying3 (hval 2 3 v2 rfl rfl) h2
  clear hA0
  simp only [List.append_nil] at hW'
  refine (walk bk0 a1 w1 a2 (bounds_i64 w2).1 (bounds_i64 w2).2 W bi0 ⟨lens_of hL (List.mem_of_getElem? (i := 3) rfl), pow_of hL (List.mem_of_getElem? (i := 2) rfl), max_of hsh⟩).mono fun e W' ⟨he, hg⟩ => ?_
  subst he
  exact ⟨_, rfl, post_of_below (pa := (p0 ++ ([] ++ ([] ++ [])))) (pv := []) hW' (fun _ _ _ => trodAll_cons_mk (shut_bool Tryz.underlying4 _) trodAll_mk0) (fun _ hsp => (trodAll_cons_mk (stays book_reads h0 hg (fun p hp => by simp [hp]) (fun p hp => hW'.lt p hp) hsp) (trodAll_cons_mk (shut_string Tryz.underlying9 w1) (trodAll_cons_mk (shut_int Tryz.underlying3 w2) trodAll_mk0)))) (fun _ _ => rfl) (by simp)
    hg (ok_one (by kernel_rfl) rfl (okWide_bool_mk Tryz.underlying4 _))⟩

/-- A world for the witness: the settled one, the listed variables holding what their initialisers lay. -/
noncomputable def laidWorld (os : Os) : World := put (put (put (put (put (put (bare os) 5 (flat1 Rows.laid_math_bits_deBruijn32tab)) 6 (flat1 Rows.laid_math_bits_deBruijn64tab)) 2 (flat1 Rows.laid_internal_strconv_uint64pow10)) 0 (flat1 Rows.laid_timeball_civil_lengths)) 4 (flat2 Rows.laid_unicode_utf8_acceptRanges)) 3 (flat1 Rows.laid_unicode_utf8_first)
set_option maxRecDepth 100000 in
theorem laid_met (os : Os) : laidMet Tryz.prog Rows.stateTellsRow.laid ((laidWorld os).forCall (fun _ _ => 0) ⟨#[], #[.agg #[.slice none 0 0, .slice none 0 0, .slice none 0 0], .string .empty, .int .i64 0], []⟩).memory :=
  laidMet_of_run3 8 (by kernel_rfl) (by kernel_rfl) (by kernel_rfl)
theorem reads (os : Os) {H : Type} (enc : TypeId × Value → H) : ∃ places, DataW.whole enc Tryz.prog ((laidWorld os).forCall (fun _ _ => 0) ⟨#[], #[.agg #[.slice none 0 0, .slice none 0 0, .slice none 0 0], .string .empty, .int .i64 0], []⟩).memory Tryz.f3.params.toList Rows.stateTellsSpec.vars false #[Value.agg #[.slice none 0 0, .slice none 0 0, .slice none 0 0], Value.string .empty, Value.int .i64 0].toList 8 = some ([.agg [.nil, .nil, .nil], .lit (.string []), .lit (.int .i64 0)], [], places) :=
  ⟨[], by kernel_rfl⟩

set_option maxRecDepth 100000 in
theorem lifted (os : Os) (started : os.Started) (H : Type) (enc : TypeId × Value → H) (F : Stop.Interp) :
    ReturnsInHanded {} Tryz.checked os 3 .any ((OpenSpec.ofChange Rows.stateTellsSpec).preRow enc Tryz.prog Tryz.f3 Rows.stateTellsRow.domain false Rows.stateTellsRow.laid) (((OpenSpec.ofChange Rows.stateTellsSpec).at F).post enc Tryz.prog Tryz.f3 false true false false) := by
  obtain ⟨places, hx⟩ := reads os enc
  refine returnsInHanded_of_row (C := Tryz.checked) (s := OpenSpec.ofChange Rows.stateTellsSpec) own started (by kernel_rfl) Tryz.func3
    (witness_row_at (enc := enc) (C := Tryz.checked) false (laidWorld os) #[.agg #[.slice none 0 0, .slice none 0 0, .slice none 0 0], .string .empty, .int .i64 0] rfl (by kernel_rfl) (by kernel_rfl) (by kernel_rfl)
      (OpenSpec.preRow_of_cond 8 hx (by kernel_rfl) (fun k hk => by cases hk) (by kernel_rfl) (laid_met os))) ?_
  intro W base args ds gs before hval hW _ _ _ hL hsh _
  exact contract H enc W base args ds gs before hval hW hL hsh

theorem said : Rows.StateTellsSaid :=
  OpenClaim.holds_of_cond 3 Tryz.f3 rfl rfl rfl rfl rfl rfl rfl ⟨rfl, rfl, rfl, rfl, rfl⟩ rfl rfl rfl rfl rfl (by kernel_rfl) Tryz.func3 (by kernel_rfl)
    (of_decide_eq_true (by kernel_rfl)) (by unfold Func.isWrapper; first | (rw [if_pos (by decide +kernel)]; kernel_rfl) | (rw [if_neg (by decide +kernel)]; exact ⟨rfl, rfl⟩))
    (fun os started H enc _ F => by rw [OpenClaim.pre_eq_preRow]; exact lifted os started H enc F)

set_option maxRecDepth 100000 in
/-- No parameter wants a stand-in; whether the program has looks of its own. -/
theorem plain (f : FuncId) (fn : Func) (hf : Tryz.pinned.checked.prog.funcNamed "timeball/timeballlaw.StateTells" = some f) (hfn : Tryz.pinned.checked.prog.funcs[f]? = some fn) :
    false = Tryz.pinned.checked.prog.looks [] ∧ ∀ (j : Nat) t, fn.params[j]? = some t → Tryz.pinned.checked.prog.wantsStandIn t = false := by
  obtain rfl : f = 3 := Option.some.inj ((show Tryz.prog.funcNamed "timeball/timeballlaw.StateTells" = some 3 by kernel_rfl).symm.trans hf) |>.symm
  obtain rfl : fn = Tryz.f3 := (Option.some.inj (Tryz.func3.symm.trans hfn)).symm
  refine ⟨by kernel_rfl, fun j t ht => ?_⟩
  rw [Tryz.params3] at ht
  have hm : t = 3 ∨ t = 9 ∨ t = 26 := by have := Array.mem_of_getElem? ht; simp at this; first | exact this | exact this.symm | (rcases this with h | h | h <;> simp [h]) | omega
  rcases hm with rfl | rfl | rfl
  · exact (show Tryz.prog.wantsStandIn 3 = false by kernel_rfl)
  · exact (show Tryz.prog.wantsStandIn 9 = false by kernel_rfl)
  · exact (show Tryz.prog.wantsStandIn 26 = false by kernel_rfl)

end Go.Proofs.YtbagdlafpahgdaaGreatDoor.stateTells
namespace Go.Proofs.YtbagdlafpahgdaaGreatDoor
/-- The card. -/
theorem stateTells_holds : Rows.StateTellsCardSaid :=
  Claim7.holds_tied_plain_at .later [] _ _ _ _ stateTells.said (fun _ h => by cases h) (by kernel_rfl) (fun _ h => by cases h) stateTells_row_tie rfl ⟨rfl, rfl⟩ (by kernel_rfl) rfl stateTells.plain (by kernel_rfl)
end Go.Proofs.YtbagdlafpahgdaaGreatDoor
