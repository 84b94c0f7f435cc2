/- The law TurnsTells of package timeballlaw returns true for every input and leaves its arguments as they were: Of returns what the reference returns. Condition: the listed variables (math/bits.deBruijn32tab, math/bits.deBruijn64tab, internal/strconv.uint64pow10, timeball/civil.lengths, unicode/utf8.acceptRanges, unicode/utf8.first) lie as their initialisers lay them; the card ties that tto the program's text. -/
import Derived.Test.YtkbegommjlmfmaaGreatDoorCards
import Derived.Test.YtkbegommjlmfmaaGreatDoorTie
import Derived.Test.YtkbegommjlmfmaaGreatDoorQM34
import Derived.Test.YtkbegommjlmfmaaGreatDoorQM46
import Derived.Test.YtkbegommjlmfmaaGreatDoorQM49
import Derived.Test.YtkbegommjlmfmaaGreatDoorQM52
import Derived.Test.YtkbegommjlmfmaaGreatDoorQM29
namespace Go.Proofs.YtkbegommjlmfmaaGreatDoor.turnsTells
open Go.ChangeShapes Go.WideShapes Go.ChangeAt Go.RowKit
open Go.ChangeMaps (open_string shut_string)
set_option linter.unusedVariables false
set_option linter.unusedSimpArgs false
theorem of_empty (nm : ByteArray) : ofC [] [] [] nm 0 = 6 ∧ ofL [] [] [] nm 0 = [] := by
  have e : ofC [] [] [] nm 0 = 6 := by unfold ofC; rw [bok_none]; rfl
  refine ⟨e, ?_⟩
  unfold ofL
  rw [e]
  rfl
theorem at_empty (w : World) : BokD.At w ⟨none, 0, [], none, 0, [], none, 0, []⟩ :=
  ⟨⟨⟨Nat.le_refl _, by unfold maxLen; exact Nat.zero_le _⟩, Row.nil _ _ _ _, fun z hz => by cases hz⟩, ⟨⟨Nat.le_refl _, by unfold maxLen; exact Nat.zero_le _⟩, Row.nil _ _ _ _, fun z hz => by cases hz⟩, ⟨⟨Nat.le_refl _, by unfold maxLen; exact Nat.zero_le _⟩, Row.nil _ _ _ _, fun z hz => by cases hz⟩⟩

set_option maxRecDepth 100000 in
set_option maxHeartbeats 8000000 in
theorem walk (b : BokD) (nm : ByteArray) (hn : nm.size ≤ maxLen) (off : Int) (hf1 : -9223372036854775808 ≤ off) (hf2 : off ≤ 9223372036854775807) (w : World) (hb : b.At w) (ht : BkTab w) :
    Calls Tryz.prog 3 #[bookV b, .string nm, .int .i64 off] w fun e w' => e = .returned (.bool true) ∧ Gr w w' := by
  have KC := Lib.hid (fun W (g : Gr w W) => rbookCheck b W (hb.gr g) (g.max ht.2.2))
  have KO := Lib.hid (fun W (g : Gr w W) => tOf b nm off W (hb.gr g) (g.bk ht))
  have KR := Lib.hid (fun h0 h1 h2 W (g : Gr w W) => rturns b nm off W (hb.gr g) h0 h1 h2)
  have KN := Lib.hid (fun W (g : Gr w W) => tOf ⟨none, 0, [], none, 0, [], none, 0, []⟩ (S [97]) 0 W (at_empty W) (g.bk ht))
  have KE := Lib.hid (fun A c A' c' l n' w hn hl h h' => reqTurn A c A' c' l n' w hn hl h h')
  have EN := Lib.hid (of_empty (S [97]))
  obtain ⟨Ar, cr, rs, Az, cz, zs, Al, cl, ls⟩ := b
  simp only at KO KC KR
  have B0 := Lib.hid (box_one w (.cells #[.slice Ar rs.length cr, .slice Az zs.length cz, .slice Al ls.length cl] 26))
  clear hb ht hn hf1 hf2
  go_enter Tryz.func3, Tryz.ntmps3
  go_wp2_with fail
  generalize w.alloc (.cells #[.slice Ar rs.length cr, .slice Az zs.length cz, .slice Al ls.length cl] 26) = w1 at B0 ⊢
  generalize w.heap.size = q at B0 ⊢
  have x0 : w1.cell? ⟨q, 0, none⟩ = some (.slice Ar rs.length cr) := bcell_row B0.out.2 rfl
  have x1 : w1.cell? ⟨q, 1, none⟩ = some (.slice Az zs.length cz) := bcell_row B0.out.2 rfl
  have x2 : w1.cell? ⟨q, 2, none⟩ = some (.slice Al ls.length cl) := bcell_row B0.out.2 rfl
  go_wp2_with fail
  clear x0 x1 x2
  refine (KO.out w1 B0.out.1).mono ?_
  rintro e w2 ⟨A, c, rfl, ta, g2⟩
  have G2 := Lib.hid (B0.out.1.trans g2)
  have HQ2 := Lib.hid (bheap_gr g2 B0.out.2)
  have TA := Lib.hid ta
  clear ta g2 B0 KO
  have x0 : w2.cell? ⟨q, 0, none⟩ = some (.slice Ar rs.length cr) := bcell_row HQ2.out rfl
  have x1 : w2.cell? ⟨q, 1, none⟩ = some (.slice Az zs.length cz) := bcell_row HQ2.out rfl
  have x2 : w2.cell? ⟨q, 2, none⟩ = some (.slice Al ls.length cl) := bcell_row HQ2.out rfl
  go_wp2_with fail
  clear x0 x1 x2
  refine (KC.out w2 G2.out).mono ?_
  rintro e w3 ⟨rfl, g3⟩
  have G3 := Lib.hid (G2.out.trans g3)
  have HQ3 := Lib.hid (bheap_gr g3 HQ2.out)
  have TA3 := Lib.hid (TA.out.2.gr g3)
  have LN := Lib.hid (ofL_len (rs := rs) (zs := zs) (ls := ls) (nm := nm) (off := off))
  clear g3 G2 HQ2 TA KC
  by_cases h0 : bokC rs zs ls = 0
  case neg =>
    have e1 : ofC rs zs ls nm off = bokC rs zs ls := by unfold ofC; rw [if_pos h0]
    have e2 : ofL rs zs ls nm off = [] := by unfold ofL; rw [e1, if_neg h0]
    rw [e1, e2]
    clear e1 e2 LN TA3 HQ3 KR
    generalize bokC rs zs ls = C at h0 ⊢
    have t0 : (C == 0) = false := by rw [beq_eq_false_iff_ne]; exact h0
    have t1 : (C == C) = true := by simp
    clear h0
    go_wp2_with fail
    refine (KN.out w3 G3.out).mono ?_
    rintro e w4 ⟨A4, c4, rfl, _, g4⟩
    rw [EN.out.1, EN.out.2]
    have G4 := Lib.hid (G3.out.trans g4)
    clear g4 G3
    go_wp2_with fail
    refine (KE.out A c none 0 [] 0 w4 rfl (by simp) (Row.nil _ _ _ _) (Row.nil _ _ _ _)).mono ?_
    rintro e w5 ⟨rfl, g5⟩
    go_wp2_with fail
    go_ret
    exact ⟨rfl, G4.out.trans g5⟩
  case pos =>
    have H0 := Lib.hid h0
    rw [h0]
    clear h0
    by_cases ho : off < -64800 ∨ 64800 < off
    · have e1 : ofC rs zs ls nm off = 1 := by unfold ofC; rw [H0.out, if_neg (by simp), if_pos ho]
      have e2 : ofL rs zs ls nm off = [] := by unfold ofL; rw [e1, if_neg (by decide)]
      rw [e1, e2]
      clear e1 e2 LN TA3 HQ3 KR
      have fin : ∀ (w5 : World), Gr w w5 → Gr w w5 := fun _ h => h
      by_cases c1 : off < -64800
      · go_wp2_with fail
        refine (KN.out w3 G3.out).mono ?_
        rintro e w4 ⟨A4, c4, rfl, _, g4⟩
        rw [EN.out.1, EN.out.2]
        have G4 := Lib.hid (G3.out.trans g4)
        clear g4 G3
        go_wp2_with fail
        refine (KE.out A c none 0 [] 0 w4 rfl (by simp) (Row.nil _ _ _ _) (Row.nil _ _ _ _)).mono ?_
        rintro e w5 ⟨rfl, g5⟩
        go_wp2_with fail
        go_ret
        exact ⟨rfl, G4.out.trans g5⟩
      · have c2 : 64800 < off := by omega
        go_wp2_with fail
        refine (KN.out w3 G3.out).mono ?_
        rintro e w4 ⟨A4, c4, rfl, _, g4⟩
        rw [EN.out.1, EN.out.2]
        have G4 := Lib.hid (G3.out.trans g4)
        clear g4 G3
        go_wp2_with fail
        refine (KE.out A c none 0 [] 0 w4 rfl (by simp) (Row.nil _ _ _ _) (Row.nil _ _ _ _)).mono ?_
        rintro e w5 ⟨rfl, g5⟩
        go_wp2_with fail
        go_ret
        exact ⟨rfl, G4.out.trans g5⟩
    · have c1 : ¬ off < -64800 := by omega
      have c2 : ¬ 64800 < off := by omega
      have KR2 := Lib.hid (KR.out H0.out (by omega) (by omega))
      clear ho KR
      have x0 : w3.cell? ⟨q, 0, none⟩ = some (.slice Ar rs.length cr) := bcell_row HQ3.out rfl
      have x1 : w3.cell? ⟨q, 1, none⟩ = some (.slice Az zs.length cz) := bcell_row HQ3.out rfl
      have x2 : w3.cell? ⟨q, 2, none⟩ = some (.slice Al ls.length cl) := bcell_row HQ3.out rfl
      go_wp2_with fail
      clear x0 x1 x2
      refine (KR2.out w3 G3.out).mono ?_
      rintro e w4 ⟨A4, c4, rfl, tb, g4⟩
      have G4 := Lib.hid (G3.out.trans g4)
      have TB := Lib.hid tb
      have TA4 := Lib.hid (TA3.out.gr g4)
      clear tb g4 G3 HQ3 TA3 KR2
      generalize ofL rs zs ls nm off = TL at TB TA4 LN ⊢
      generalize ofC rs zs ls nm off = C
      have t1 : (C == C) = true := by simp
      go_wp2_with fail
      refine (KN.out w4 G4.out).mono ?_
      rintro e w5 ⟨A5, c5, rfl, _, g5⟩
      rw [EN.out.1, EN.out.2]
      have G5 := Lib.hid (G4.out.trans g5)
      have TA5 := Lib.hid (TA4.out.gr g5)
      have TB5 := Lib.hid (TB.out.2.gr g5)
      clear g5 G4 TA4 TB
      go_wp2_with fail
      refine (KE.out A c A4 c4 TL _ w5 rfl LN.out TA5.out TB5.out).mono ?_
      rintro e w6 ⟨rfl, g6⟩
      have G6 := Lib.hid (G5.out.trans g6)
      go_wp2_with fail
      go_ret
      exact ⟨rfl, G6.out⟩

set_option maxRecDepth 100000 in
theorem contract (H : Type) (enc : TypeId × Value → H) (W : World) (base : Nat) (args : Array Value) (ds gs : List (DataW H)) (before : List MemPlace)
    (hval : ∀ (j : Nat) t v, Tryz.f3.params[j]? = some t → args[j]? = some v → Value.okWide Tryz.prog W .any base t v)
    (hW : DataW.Whole enc Tryz.prog Tryz.f3.params.toList Rows.turnsTellsSpec.vars false W args.toList ds gs before) (hL : laidMet Tryz.prog Rows.turnsTellsRow.laid W) (hsh : W.ShapedOpen Tryz.prog) :
    Calls Tryz.prog 3 args W fun e W' => ∃ v, e = .returned v ∧ Rows.turnsTellsSpec.post enc Tryz.prog Tryz.f3 false true false false W args v W' := by
  have hW' := hW
  obtain ⟨p, q, hA0, hV, rfl, hfz, hnd⟩ := hW
  have hA : DataW.TrodAll enc Tryz.prog W 0 (fun _ => true) true Tryz.f3.params.toList args.toList ds p := hA0
  rw [Tryz.params3] at hA hval
  obtain ⟨v0, vs0, d0, ds0, p0, q0, hargs, rfl, rfl, h0, r0⟩ := trodAll_cons hA
  obtain ⟨v1, vs1, d1, ds1, p1, q1, rfl, rfl, rfl, h1, r1⟩ := trodAll_cons r0
  obtain ⟨v2, vs2, d2, ds2, p2, q2, rfl, rfl, rfl, h2, r2⟩ := trodAll_cons r1
  obtain ⟨rfl, rfl, rfl⟩ := trodAll_nil r2
  obtain rfl : args = #[v0, v1, v2] := by cases args; simp_all
  obtain ⟨rfl, rfl⟩ := trodVars_none hV
  obtain ⟨bk0, rfl, bi0⟩ := open_book (hval 0 26 v0 rfl rfl) h0
  obtain ⟨a1, rfl, rfl, rfl, w1⟩ := open_string Tryz.underlying9 (hval 1 9 v1 rfl rfl) h1
  obtain ⟨a2, rfl, rfl, rfl, w2⟩ := open_int Tryz.underlying3 (hval 2 3 v2 rfl rfl) h2
  clear hA0
  simp only [List.append_nil] at hW'
  refine (walk bk0 a1 w1 a2 (bounds_i64 w2).1 (bounds_i64 w2).2 W bi0 ⟨lens_of hL (List.mem_of_getElem? (i := 3) rfl), pow_of hL (List.mem_of_getElem? (i := 2) rfl), max_of hsh⟩).mono fun e W' ⟨he, hg⟩ => ?_
  subst he
  exact ⟨_, rfl, post_of_below (pa := (p0 ++ ([] ++ ([] ++ [])))) (pv := []) hW' (fun _ _ _ => trodAll_cons_mk (shut_bool Tryz.underlying4 _) trodAll_mk0) (fun _ hsp => (trodAll_cons_mk (stays book_reads h0 hg (fun p hp => by simp [hp]) (fun p hp => hW'.lt p hp) hsp) (trodAll_cons_mk (shut_string Tryz.underlying9 w1) (trodAll_cons_mk (shut_int Tryz.underlying3 w2) trodAll_mk0)))) (fun _ _ => rfl) (by simp)
    hg (ok_one (by kernel_rfl) rfl (okWide_bool_mk Tryz.underlying4 _))⟩

/-- A world for the witness: the settled one, the listed variables holding what their initialisers lay. -/
noncomputable def laidWorld (os : Os) : World := put (put (put (put (put (put (bare os) 5 (flat1 Rows.laid_math_bits_deBruijn32tab)) 6 (flat1 Rows.laid_math_bits_deBruijn64tab)) 4 (flat1 Rows.laid_internal_strconv_uint64pow10)) 0 (flat1 Rows.laid_timeball_civil_lengths)) 3 (flat2 Rows.laid_unicode_utf8_acceptRanges)) 2 (flat1 Rows.laid_unicode_utf8_first)
set_option maxRecDepth 100000 in
theorem laid_met (os : Os) : laidMet Tryz.prog Rows.turnsTellsRow.laid ((laidWorld os).forCall (fun _ _ => 0) ⟨#[], #[.agg #[.slice none 0 0, .slice none 0 0, .slice none 0 0], .string .empty, .int .i64 0], []⟩).memory :=
  laidMet_of_run3 8 (by kernel_rfl) (by kernel_rfl) (by kernel_rfl)
theorem reads (os : Os) {H : Type} (enc : TypeId × Value → H) : ∃ places, DataW.whole enc Tryz.prog ((laidWorld os).forCall (fun _ _ => 0) ⟨#[], #[.agg #[.slice none 0 0, .slice none 0 0, .slice none 0 0], .string .empty, .int .i64 0], []⟩).memory Tryz.f3.params.toList Rows.turnsTellsSpec.vars false #[Value.agg #[.slice none 0 0, .slice none 0 0, .slice none 0 0], Value.string .empty, Value.int .i64 0].toList 8 = some ([.agg [.nil, .nil, .nil], .lit (.string []), .lit (.int .i64 0)], [], places) :=
  ⟨[], by kernel_rfl⟩

set_option maxRecDepth 100000 in
theorem lifted (os : Os) (started : os.Started) (H : Type) (enc : TypeId × Value → H) (F : Stop.Interp) :
    ReturnsInHanded {} Tryz.checked os 3 .any ((OpenSpec.ofChange Rows.turnsTellsSpec).preRow enc Tryz.prog Tryz.f3 Rows.turnsTellsRow.domain false Rows.turnsTellsRow.laid) (((OpenSpec.ofChange Rows.turnsTellsSpec).at F).post enc Tryz.prog Tryz.f3 false true false false) := by
  obtain ⟨places, hx⟩ := reads os enc
  refine returnsInHanded_of_row (C := Tryz.checked) (s := OpenSpec.ofChange Rows.turnsTellsSpec) own started (by kernel_rfl) Tryz.func3
    (witness_row_at (enc := enc) (C := Tryz.checked) false (laidWorld os) #[.agg #[.slice none 0 0, .slice none 0 0, .slice none 0 0], .string .empty, .int .i64 0] rfl (by kernel_rfl) (by kernel_rfl) (by kernel_rfl)
      (OpenSpec.preRow_of_cond 8 hx (by kernel_rfl) (fun k hk => by cases hk) (by kernel_rfl) (laid_met os))) ?_
  intro W base args ds gs before hval hW _ _ _ hL hsh _
  exact contract H enc W base args ds gs before hval hW hL hsh

theorem said : Rows.TurnsTellsSaid :=
  OpenClaim.holds_of_cond 3 Tryz.f3 rfl rfl rfl rfl rfl rfl rfl ⟨rfl, rfl, rfl, rfl, rfl⟩ rfl rfl rfl rfl rfl (by kernel_rfl) Tryz.func3 (by kernel_rfl)
    (of_decide_eq_true (by kernel_rfl)) (by unfold Func.isWrapper; first | (rw [if_pos (by decide +kernel)]; kernel_rfl) | (rw [if_neg (by decide +kernel)]; exact ⟨rfl, rfl⟩))
    (fun os started H enc _ F => by rw [OpenClaim.pre_eq_preRow]; exact lifted os started H enc F)

set_option maxRecDepth 100000 in
/-- No parameter wants a stand-in; whether the program has looks of its own. -/
theorem plain (f : FuncId) (fn : Func) (hf : Tryz.pinned.checked.prog.funcNamed "timeball/timeballlaw.TurnsTells" = some f) (hfn : Tryz.pinned.checked.prog.funcs[f]? = some fn) :
    false = Tryz.pinned.checked.prog.looks [] ∧ ∀ (j : Nat) t, fn.params[j]? = some t → Tryz.pinned.checked.prog.wantsStandIn t = false := by
  obtain rfl : f = 3 := Option.some.inj ((show Tryz.prog.funcNamed "timeball/timeballlaw.TurnsTells" = some 3 by kernel_rfl).symm.trans hf) |>.symm
  obtain rfl : fn = Tryz.f3 := (Option.some.inj (Tryz.func3.symm.trans hfn)).symm
  refine ⟨by kernel_rfl, fun j t ht => ?_⟩
  rw [Tryz.params3] at ht
  have hm : t = 3 ∨ t = 9 ∨ t = 26 := by have := Array.mem_of_getElem? ht; simp at this; first | exact this | exact this.symm | (rcases this with h | h | h <;> simp [h]) | omega
  rcases hm with rfl | rfl | rfl
  · exact (show Tryz.prog.wantsStandIn 3 = false by kernel_rfl)
  · exact (show Tryz.prog.wantsStandIn 9 = false by kernel_rfl)
  · exact (show Tryz.prog.wantsStandIn 26 = false by kernel_rfl)

end Go.Proofs.YtkbegommjlmfmaaGreatDoor.turnsTells
namespace Go.Proofs.YtkbegommjlmfmaaGreatDoor
/-- The card. -/
theorem turnsTells_holds : Rows.TurnsTellsCardSaid :=
  Claim7.holds_tied_plain_at .later [] _ _ _ _ turnsTells.said (fun _ h => by cases h) (by kernel_rfl) (fun _ h => by cases h) turnsTells_row_tie rfl ⟨rfl, rfl⟩ (by kernel_rfl) rfl turnsTells.plain (by kernel_rfl)
end Go.Proofs.YtkbegommjlmfmaaGreatDoor
