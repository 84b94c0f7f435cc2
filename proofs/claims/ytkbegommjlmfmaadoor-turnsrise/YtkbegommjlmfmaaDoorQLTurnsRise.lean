/- The law TurnsRise of package timeballkeep returns true for every input and leaves its arguments as they were: The times of turns rise, and there are as many as the rules have years. Condition: the listed variables (math/bits.deBruijn32tab, math/bits.deBruijn64tab, internal/strconv.uint64pow10, timeball/civil.lengths, unicode/utf8.acceptRanges, unicode/utf8.first) lie as their initialisers lay them; the card ties that tto the program's text. -/
import Derived.Test.YtkbegommjlmfmaaDoorCards
import Derived.Test.YtkbegommjlmfmaaDoorTie
import Derived.Test.YtkbegommjlmfmaaDoorQM24
import Derived.Test.YtkbegommjlmfmaaDoorQM34
import Derived.Test.YtkbegommjlmfmaaDoorQM22
namespace Go.Proofs.YtkbegommjlmfmaaDoor.turnsRise
open Go.ChangeShapes Go.WideShapes Go.ChangeAt Go.RowKit
open Go.ChangeMaps (open_string shut_string)
set_option linter.unusedVariables false
set_option linter.unusedSimpArgs false
set_option maxRecDepth 100000 in
set_option maxHeartbeats 8000000 in
theorem walk (b : BokD) (nm : ByteArray) (hn : nm.size ≤ maxLen) (off : Int) (hf1 : -9223372036854775808 ≤ off) (hf2 : off ≤ 9223372036854775807) (w : World) (hb : b.At w) (ht : BkTab w) :
    Calls Tryd.prog 3 #[bookV b, .string nm, .int .i64 off] w fun e w' => e = .returned (.bool true) ∧ Gr w w' := by
  have mixed : Tryd.prog.follows .mixedOrders = true := by kernel_rfl
  have KT := Lib.hid (fun W (g : Gr w W) => turned_any W (g.bk ht))
  have KO := Lib.hid (fun W (g : Gr w W) => tOf b nm off W (hb.gr g) (g.bk ht))
  obtain ⟨Ar, cr, rs, Az, cz, zs, Al, cl, ls⟩ := b
  have HR : Hid (Row w 11 RuD.cells Ar rs) := hb.1.2.1
  simp only at KO
  have B0 := Lib.hid (box_one w (.cells #[.slice Ar rs.length cr, .slice Az zs.length cz, .slice Al ls.length cl] 26))
  clear hb ht hn hf1 hf2
  go_enter Tryd.func3, Tryd.ntmps3
  go_wp2_with fail
  generalize w.alloc (.cells #[.slice Ar rs.length cr, .slice Az zs.length cz, .slice Al ls.length cl] 26) = w1 at B0 ⊢
  generalize w.heap.size = q at B0 ⊢
  refine (KT.out w1 B0.out.1).mono ?_
  rintro e w2 ⟨rfl, g2⟩
  have G2 := Lib.hid (B0.out.1.trans g2)
  have HQ2 := Lib.hid (bheap_gr g2 B0.out.2)
  clear g2 B0 KT
  have x0 : w2.cell? ⟨q, 0, none⟩ = some (.slice Ar rs.length cr) := bcell_row HQ2.out rfl
  have x1 : w2.cell? ⟨q, 1, none⟩ = some (.slice Az zs.length cz) := bcell_row HQ2.out rfl
  have x2 : w2.cell? ⟨q, 2, none⟩ = some (.slice Al ls.length cl) := bcell_row HQ2.out rfl
  go_wp2_with fail
  clear x0 x1 x2
  refine (KO.out w2 G2.out).mono ?_
  rintro e w3 ⟨A, c, rfl, ta, g3⟩
  have G3 := Lib.hid (G2.out.trans g3)
  have HQ3 := Lib.hid (bheap_gr g3 HQ2.out)
  have TA := Lib.hid ta
  clear ta g3 G2 HQ2 KO
  by_cases h0 : ofC rs zs ls nm off = 0
  case neg =>
    have e0 : (ofL rs zs ls nm off).length = 0 := by unfold ofL; rw [if_neg h0]; rfl
    rw [e0]
    generalize ofC rs zs ls nm off = C at h0 ⊢
    have t0 : (C != 0) = true := by rw [bne_iff_ne]; exact h0
    clear h0 e0
    go_wp2_with fail
    go_ret
    exact ⟨rfl, G3.out⟩
  case pos =>
    obtain ⟨h1, h2, h3, h4, h5⟩ := ofC_zero.1 h0
    have OK : Hid (∀ r ∈ rs, r.Ok) := fun r hr => RuD.ok_of (rules_ok h1 r hr)
    have L40 : rs.length ≤ 40 := by have := (bokC_ok.1 h1).1; omega
    have E1 : Hid (ofL rs zs ls nm off = turL off 0 (sorted rs nm)) := by unfold Hid ofL; rw [if_pos h0]
    have EL : Hid (((ofL rs zs ls nm off).length : Int) = yrs (selR rs nm) ∧ (ofL rs zs ls nm off).length ≤ 1500) := by
      have p := pens_len (l := selR rs nm) (fun r hr => OK.out r (sel_mem hr).1)
      unfold Hid
      rw [E1.out, turL_len, sorted_len]
      omega
    have RI : Hid (Rise (ofL rs zs ls nm off)) := by unfold Hid; rw [E1.out]; exact (rise_iff _).1 h5
    rw [h0]
    clear h0 h1 h2 h3 h4 h5 E1
    generalize ofL rs zs ls nm off = TL at TA EL RI ⊢
    obtain ⟨n, hN⟩ : ∃ n, TL.length = n := ⟨_, rfl⟩
    rw [hN] at EL ⊢
    have NN := Lib.hid hN
    clear hN
    have x0 : w3.cell? ⟨q, 0, none⟩ = some (.slice Ar rs.length cr) := bcell_row HQ3.out rfl
    go_wp2_with fail
    clear x0 HQ3
    go_loopw [9, 30] (fun v i W => ∃ (k : Nat) (y : Int), k ≤ rs.length ∧ i = .int .i64 k ∧ v = .int .i64 y ∧ 0 ≤ y ∧ y ≤ 201 * k ∧ Hid (y = yrs (selR (rs.take k) nm)) ∧ Hid (Gr w W) ∧ Hid (Gr w3 W)) (fun v i W => rs.length - (intOf i).toNat)
    case atStart => exact ⟨0, 0, Nat.zero_le _, rfl, rfl, by omega, by omega, rfl, G3, Gr.refl _⟩
    case round =>
      obtain ⟨k, y, hk, rfl, rfl, hy0, hy1, HY, hg, hg3⟩ := hrel
      by_cases hlt : k < rs.length
      · obtain ⟨⟨znm, fr, tt, mo, zk, d, n', at', by', sv, lt⟩, hx⟩ := get_lt hlt
        have RT := Lib.hid (sel_take (nm := nm) hx)
        have ok : RuleNum fr tt mo := (OK.out _ (get_mem hx)).1
        obtain ⟨o1, o2, o3, _⟩ := ok
        obtain ⟨b, of', rfl, c0, c1, c2, c3, c4, c5, c6, c7, c8, c9, c10⟩ := HR.out.eleven hx rfl hg.out
        clear hx
        obtain ⟨p, ep⟩ : ∃ p, (znm.toList == nm.toList) = p := ⟨_, rfl⟩
        simp only [ep] at RT
        cases p with
        | false =>
          go_wp2_with fail
          go_roundw
          case rel => exact ⟨k + 1, y, by omega, by go_num, rfl, hy0, by omega, by unfold Hid; rw [RT.out, if_neg (by simp), List.append_nil]; exact HY.out, hg.out.alloc' _, hg3.out.alloc' _⟩
          case measure => simp [intOf]; omega
        | true =>
          go_wp2_with fail
          go_roundw
          case rel => exact ⟨k + 1, y + (tt - fr + 1), by omega, by go_num, rfl, by omega, by omega, by unfold Hid; rw [RT.out, if_pos rfl, yrs_app, ← HY.out]; simp [yrs], hg.out.alloc' _, hg3.out.alloc' _⟩
          case measure => simp [intOf]; omega
      · have e : k = rs.length := by omega
        have HE : Hid (y = yrs (selR rs nm)) := by have := HY.out; rw [e, List.take_length] at this; exact this
        have yn : y = (n : Int) := by rw [HE.out]; exact EL.out.1.symm
        subst yn
        have N15 := EL.out.2
        clear e HY HE hy0 hy1
        go_wp2_with fail
        go_loopw [12] (fun i W => ∃ k : Nat, k ≤ n ∧ i = .int .i64 ((k : Int) + 1) ∧ Hid (Gr w W) ∧ Hid (Gr w3 W)) (fun i W => n + 1 - (intOf i).toNat)
        case atStart => exact ⟨0, Nat.zero_le _, rfl, hg, hg3⟩
        case round =>
          clear hg hg3
          obtain ⟨k, hk, rfl, hg, hg3⟩ := hrel
          by_cases hlt : k + 1 < n
          · have hlz : (k : Int) + 1 < (n : Int) := by omega
            obtain ⟨⟨a1, s1, l1⟩, hx1⟩ := get_lt (show k < TL.length by have := NN.out; omega)
            obtain ⟨⟨a2, s2, l2⟩, hx2⟩ := get_lt (show k + 1 < TL.length by have := NN.out; omega)
            have hr := RI.out k _ _ hx1 hx2
            simp only at hr
            obtain ⟨b, of', rfl, c0, _, _⟩ := TA.out.2.three hx1 rfl hg3.out
            obtain ⟨b', of2, hAA, d0, _, _⟩ := TA.out.2.three hx2 rfl hg3.out
            injection hAA with hAA; injection hAA with e1 e2
            subst e1; subst e2
            clear hx1 hx2
            have qz : ((k : Int) + 1 - 1) = (k : Int) := by omega
            have qw : IntKind.i64.wrap ((k : Int) + 1 - 1) = (k : Int) := by rw [IntKind.wrap_i64]; omega
            have ka : (0 : Int) ≤ (k : Int) := by omega
            have kb : (k : Int) < (n : Int) := by omega
            have kc : ((k : Int) + 1).toNat = k + 1 := by omega
            have kd : (0 : Int) ≤ (k : Int) + 1 := by omega
            have ge : decide (a1 ≥ a2) = false := decide_eq_false (by omega)
            have gf : decide (a2 ≤ a1) = false := decide_eq_false (by omega)
            go_wp2_with fail
            go_quiet (fail)
            clear c0 d0 qz qw ka kb kc kd
            go_wp2_with fail
            go_roundw
            case rel => exact ⟨k + 1, by omega, by go_num, hg.out.drewN _, hg3.out.drewN _⟩
            case measure => simp [intOf]; omega
          · have hlz : ¬ (k : Int) + 1 < (n : Int) := by omega
            go_wp2_with fail
            go_ret
            exact ⟨by simp, hg.out⟩

set_option maxRecDepth 100000 in
theorem contract (H : Type) (enc : TypeId × Value → H) (W : World) (base : Nat) (args : Array Value) (ds gs : List (DataW H)) (before : List MemPlace)
    (hval : ∀ (j : Nat) t v, Tryd.f3.params[j]? = some t → args[j]? = some v → Value.okWide Tryd.prog W .any base t v)
    (hW : DataW.Whole enc Tryd.prog Tryd.f3.params.toList Rows.turnsRiseSpec.vars false W args.toList ds gs before) (hL : laidMet Tryd.prog Rows.turnsRiseRow.laid W) (hsh : W.ShapedOpen Tryd.prog) :
    Calls Tryd.prog 3 args W fun e W' => ∃ v, e = .returned v ∧ Rows.turnsRiseSpec.post enc Tryd.prog Tryd.f3 false true false false W args v W' := by
  have hW' := hW
  obtain ⟨p, q, hA0, hV, rfl, hfz, hnd⟩ := hW
  have hA : DataW.TrodAll enc Tryd.prog W 0 (fun _ => true) true Tryd.f3.params.toList args.toList ds p := hA0
  rw [Tryd.params3] at hA hval
  obtain ⟨v0, vs0, d0, ds0, p0, q0, hargs, rfl, rfl, h0, r0⟩ := trodAll_cons hA
  obtain ⟨v1, vs1, d1, ds1, p1, q1, rfl, rfl, rfl, h1, r1⟩ := trodAll_cons r0
  obtain ⟨v2, vs2, d2, ds2, p2, q2, rfl, rfl, rfl, h2, r2⟩ := trodAll_cons r1
  obtain ⟨rfl, rfl, rfl⟩ := trodAll_nil r2
  obtain rfl : args = #[v0, v1, v2] := by cases args; simp_all
  obtain ⟨rfl, rfl⟩ := trodVars_none hV
  obtain ⟨bk0, rfl, bi0⟩ := open_book (hval 0 26 v0 rfl rfl) h0
  obtain ⟨a1, rfl, rfl, rfl, w1⟩ := open_string Tryd.underlying9 (hval 1 9 v1 rfl rfl) h1
  obtain ⟨a2, rfl, rfl, rfl, w2⟩ := open_int Tryd.underlying3 (hval 2 3 v2 rfl rfl) h2
  clear hA0
  simp only [List.append_nil] at hW'
  refine (walk bk0 a1 w1 a2 (bounds_i64 w2).1 (bounds_i64 w2).2 W bi0 ⟨lens_of hL (List.mem_of_getElem? (i := 3) rfl), pow_of hL (List.mem_of_getElem? (i := 2) rfl), max_of hsh⟩).mono fun e W' ⟨he, hg⟩ => ?_
  subst he
  exact ⟨_, rfl, post_of_below (pa := (p0 ++ ([] ++ ([] ++ [])))) (pv := []) hW' (fun _ _ _ => trodAll_cons_mk (shut_bool Tryd.underlying4 _) trodAll_mk0) (fun _ hsp => (trodAll_cons_mk (stays book_reads h0 hg (fun p hp => by simp [hp]) (fun p hp => hW'.lt p hp) hsp) (trodAll_cons_mk (shut_string Tryd.underlying9 w1) (trodAll_cons_mk (shut_int Tryd.underlying3 w2) trodAll_mk0)))) (fun _ _ => rfl) (by simp)
    hg (ok_one (by kernel_rfl) rfl (okWide_bool_mk Tryd.underlying4 _))⟩

/-- A world for the witness: the settled one, the listed variables holding what their initialisers lay. -/
noncomputable def laidWorld (os : Os) : World := put (put (put (put (put (put (bare os) 5 (flat1 Rows.laid_math_bits_deBruijn32tab)) 6 (flat1 Rows.laid_math_bits_deBruijn64tab)) 4 (flat1 Rows.laid_internal_strconv_uint64pow10)) 0 (flat1 Rows.laid_timeball_civil_lengths)) 3 (flat2 Rows.laid_unicode_utf8_acceptRanges)) 2 (flat1 Rows.laid_unicode_utf8_first)
set_option maxRecDepth 100000 in
theorem laid_met (os : Os) : laidMet Tryd.prog Rows.turnsRiseRow.laid ((laidWorld os).forCall (fun _ _ => 0) ⟨#[], #[.agg #[.slice none 0 0, .slice none 0 0, .slice none 0 0], .string .empty, .int .i64 0], []⟩).memory :=
  laidMet_of_run3 8 (by kernel_rfl) (by kernel_rfl) (by kernel_rfl)
theorem reads (os : Os) {H : Type} (enc : TypeId × Value → H) : ∃ places, DataW.whole enc Tryd.prog ((laidWorld os).forCall (fun _ _ => 0) ⟨#[], #[.agg #[.slice none 0 0, .slice none 0 0, .slice none 0 0], .string .empty, .int .i64 0], []⟩).memory Tryd.f3.params.toList Rows.turnsRiseSpec.vars false #[Value.agg #[.slice none 0 0, .slice none 0 0, .slice none 0 0], Value.string .empty, Value.int .i64 0].toList 8 = some ([.agg [.nil, .nil, .nil], .lit (.string []), .lit (.int .i64 0)], [], places) :=
  ⟨[], by kernel_rfl⟩

set_option maxRecDepth 100000 in
theorem lifted (os : Os) (started : os.Started) (H : Type) (enc : TypeId × Value → H) (F : Stop.Interp) :
    ReturnsInHanded {} Tryd.checked os 3 .any ((OpenSpec.ofChange Rows.turnsRiseSpec).preRow enc Tryd.prog Tryd.f3 Rows.turnsRiseRow.domain false Rows.turnsRiseRow.laid) (((OpenSpec.ofChange Rows.turnsRiseSpec).at F).post enc Tryd.prog Tryd.f3 false true false false) := by
  obtain ⟨places, hx⟩ := reads os enc
  refine returnsInHanded_of_row (C := Tryd.checked) (s := OpenSpec.ofChange Rows.turnsRiseSpec) own started (by kernel_rfl) Tryd.func3
    (witness_row_at (enc := enc) (C := Tryd.checked) false (laidWorld os) #[.agg #[.slice none 0 0, .slice none 0 0, .slice none 0 0], .string .empty, .int .i64 0] rfl (by kernel_rfl) (by kernel_rfl) (by kernel_rfl)
      (OpenSpec.preRow_of_cond 8 hx (by kernel_rfl) (fun k hk => by cases hk) (by kernel_rfl) (laid_met os))) ?_
  intro W base args ds gs before hval hW _ _ _ hL hsh _
  exact contract H enc W base args ds gs before hval hW hL hsh

theorem said : Rows.TurnsRiseSaid :=
  OpenClaim.holds_of_cond 3 Tryd.f3 rfl rfl rfl rfl rfl rfl rfl ⟨rfl, rfl, rfl, rfl, rfl⟩ rfl rfl rfl rfl rfl (by kernel_rfl) Tryd.func3 (by kernel_rfl)
    (of_decide_eq_true (by kernel_rfl)) (by unfold Func.isWrapper; first | (rw [if_pos (by decide +kernel)]; kernel_rfl) | (rw [if_neg (by decide +kernel)]; exact ⟨rfl, rfl⟩))
    (fun os started H enc _ F => by rw [OpenClaim.pre_eq_preRow]; exact lifted os started H enc F)

set_option maxRecDepth 100000 in
/-- No parameter wants a stand-in; whether the program has looks of its own. -/
theorem plain (f : FuncId) (fn : Func) (hf : Tryd.pinned.checked.prog.funcNamed "timeball/timeballkeep.TurnsRise" = some f) (hfn : Tryd.pinned.checked.prog.funcs[f]? = some fn) :
    false = Tryd.pinned.checked.prog.looks [] ∧ ∀ (j : Nat) t, fn.params[j]? = some t → Tryd.pinned.checked.prog.wantsStandIn t = false := by
  obtain rfl : f = 3 := Option.some.inj ((show Tryd.prog.funcNamed "timeball/timeballkeep.TurnsRise" = some 3 by kernel_rfl).symm.trans hf) |>.symm
  obtain rfl : fn = Tryd.f3 := (Option.some.inj (Tryd.func3.symm.trans hfn)).symm
  refine ⟨by kernel_rfl, fun j t ht => ?_⟩
  rw [Tryd.params3] at ht
  have hm : t = 3 ∨ t = 9 ∨ t = 26 := by have := Array.mem_of_getElem? ht; simp at this; first | exact this | exact this.symm | (rcases this with h | h | h <;> simp [h]) | omega
  rcases hm with rfl | rfl | rfl
  · exact (show Tryd.prog.wantsStandIn 3 = false by kernel_rfl)
  · exact (show Tryd.prog.wantsStandIn 9 = false by kernel_rfl)
  · exact (show Tryd.prog.wantsStandIn 26 = false by kernel_rfl)

end Go.Proofs.YtkbegommjlmfmaaDoor.turnsRise
namespace Go.Proofs.YtkbegommjlmfmaaDoor
/-- The card. -/
theorem turnsRise_holds : Rows.TurnsRiseCardSaid :=
  Claim7.holds_tied_plain_at .later [] _ _ _ _ turnsRise.said (fun _ h => by cases h) (by kernel_rfl) (fun _ h => by cases h) turnsRise_row_tie rfl ⟨rfl, rfl⟩ (by kernel_rfl) rfl turnsRise.plain (by kernel_rfl)
end Go.Proofs.YtkbegommjlmfmaaDoor
