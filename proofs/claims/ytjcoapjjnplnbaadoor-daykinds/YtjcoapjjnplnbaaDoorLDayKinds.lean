/- The law DayKinds of package timeballkeep returns true for every input and leaves its arguments as they were: The specified day has the weekday, lies on the right side of day N, and is less than a week away. Condition: the listed variables (timeball/civil.lengths) lie as their initialisers lay them; the card ties that to the program's text. -/
import Derived.Test.YtjcoapjjnplnbaaDoorCards
import Derived.Test.YtjcoapjjnplnbaaDoorTie
import Derived.Test.YtjcoapjjnplnbaaDoorR0
import Derived.Test.YtjcoapjjnplnbaaDoorE2
import Derived.Test.YtjcoapjjnplnbaaDoorS0
import Derived.Test.YtjcoapjjnplnbaaDoorD3
namespace Go.Proofs.YtjcoapjjnplnbaaDoor.dayKinds
open Go.ChangeShapes Go.WideShapes Go.ChangeAt Go.RowKit
open Go.ChangeMaps (open_string shut_string)
set_option linter.unusedVariables false
set_option linter.unusedSimpArgs false

set_option maxHeartbeats 4000000 in
theorem walk (y : Int) (y1 : -9223372036854775808 ≤ y) (y2 : y ≤ 9223372036854775807) (m : Int) (m1 : -9223372036854775808 ≤ m) (m2 : m ≤ 9223372036854775807) (k d n : Int) (w : World) (ho : OfTab w) (hl : HasLen w) :
    Calls Tryd.prog 6 #[.int .i64 y, .int .i64 m, dayV k d n] w fun e w' => e = .returned (.bool true) ∧ Gr w w' := by
  have c0 := Lib.hid (fun w h => mondays_any w h)
  have HO := Lib.hid ho
  have HT := Lib.hid hl
  clear ho hl
  obtain ⟨a, b, e⟩ := dayA_two y m k d n
  have KO0 := fun w h => dayOf y m k d n w h
  rw [e] at KO0
  have KO := Lib.hid KO0
  clear KO0
  by_cases hb : b = 0
  case neg =>
    have ha := dayA_zero e hb
    subst ha
    have tb := bneT hb
    have L := laid3 w k d n 23
    clear e hb
    go_enter Tryd.func6, Tryd.ntmps6
    go_wp2_with fail
    generalize w.alloc (.cells #[.int .i64 k, .int .i64 d, .int .i64 n] 23) = w0 at L ⊢
    generalize w.heap.size = q at L ⊢
    have HL := Lib.hid L
    clear L
    refine (c0.out w0 (Gr.ofT HL.out.2.2.2 HO.out)).mono ?_
    rintro e w1 ⟨rfl, hg1⟩
    have L1 := keep4 HL.out hg1
    clear HL hg1 c0
    have c0 := L1.1
    have c1 := L1.2.1
    have c2 := L1.2.2.1
    have HL := Lib.hid L1
    clear L1
    go_wp2_with fail
    refine (KO.out w1 (Gr.ofT HL.out.2.2.2 HO.out)).mono ?_
    rintro e w2 ⟨rfl, hg2⟩
    have L2 := keep4 HL.out hg2
    clear HL hg2 c0 c1 c2 KO
    have c0 := L2.1
    have c1 := L2.2.1
    have c2 := L2.2.2.1
    have HL := Lib.hid L2
    clear L2
    go_wp2_with fail
    go_ret
    exact ⟨rfl, HL.out.2.2.2⟩
  subst hb
  obtain ⟨hi, ⟨i1, i2, i3, i4⟩, i5, i6, i7, i8⟩ := dayA_inv e
  clear e
  have KL := Lib.hid (fun w hl => length_yes y m w hl i1 i2 i3 i4)
  have KD := Lib.hid (fun w hl => days_yes y m 1 w hl (first_valid i1 i2 i3 i4))
  have KW := Lib.hid (fun w => weekday_yes a w i7 i8)
  have mb := Cal.ml_bd y i3 i4
  obtain ⟨mb1, mb2⟩ := mb
  have fb := Cal.days_bd (first_valid i1 i2 i3 i4)
  obtain ⟨fb1, fb2⟩ := fb
  have db := dayOk_bd hi
  obtain ⟨db1, db2, db3, db4⟩ := db
  have kk : k = 1 ∨ k = 2 ∨ k = 3 ∨ k = 4 := by have := hi.1; omega
  unfold dayT at i6
  generalize Cal.days y m 1 = f at KD fb1 fb2 i6
  generalize Cal.ml y m = ml at KL mb1 mb2 i5 i6
  rcases kk with kk | kk | kk | kk
  · subst kk
    have L := laid3 w 1 d n 23
    simp only [if_true] at i6
    have t1 : (a - f + 1 == n) = true := beqT (by omega)
    generalize (a + 135146) % 7 = x at KW
    clear hi i1 i6
    go_enter Tryd.func6, Tryd.ntmps6
    go_wp2_with fail
    generalize w.alloc (.cells #[.int .i64 1, .int .i64 d, .int .i64 n] 23) = w0 at L ⊢
    generalize w.heap.size = q at L ⊢
    have HL := Lib.hid L
    clear L
    refine (c0.out w0 (Gr.ofT HL.out.2.2.2 HO.out)).mono ?_
    rintro e w1 ⟨rfl, hg1⟩
    have L1 := keep4 HL.out hg1
    clear HL hg1 c0
    have c0 := L1.1
    have c1 := L1.2.1
    have c2 := L1.2.2.1
    have HL := Lib.hid L1
    clear L1
    go_wp2_with fail
    refine (KO.out w1 (Gr.ofT HL.out.2.2.2 HO.out)).mono ?_
    rintro e w2 ⟨rfl, hg2⟩
    have L2 := keep4 HL.out hg2
    clear HL hg2 c0 c1 c2 KO
    have c0 := L2.1
    have c1 := L2.2.1
    have c2 := L2.2.2.1
    have HL := Lib.hid L2
    clear L2
    go_wp2_with fail
    refine (KL.out w2 (HL.out.2.2.2.len HT.out)).mono ?_
    rintro e w3 ⟨rfl, rfl⟩
    go_wp2_with fail
    refine (KD.out w2 (HL.out.2.2.2.len HT.out)).mono ?_
    rintro e w3 ⟨rfl, rfl⟩
    go_wp2_with fail
    refine (KW.out w2).mono ?_
    rintro e w3 ⟨rfl, rfl⟩
    go_wp2_with fail
    go_ret
    exact ⟨rfl, HL.out.2.2.2⟩
  · subst kk
    have L := laid3 w 2 d n 23
    simp only [Int.reduceEq, if_false, if_true] at i6
    have nb := nd_bd (f + ml - 7) d
    have ni := nd_is (a := f + ml - 7) db1 db2
    rw [← i6] at nb ni
    have t1 : ((a + 135146) % 7 == d) = true := beqT ni
    have t2 : a - f + 1 ≤ ml := by omega
    have t3 : ml - 7 < a - f + 1 := by omega
    clear nb ni
    have x1 : 0 ≤ (a + 135146) % 7 := by omega
    have x2 : (a + 135146) % 7 ≤ 6 := by omega
    generalize (a + 135146) % 7 = x at KW t1 x1 x2
    clear hi i1 i6
    go_enter Tryd.func6, Tryd.ntmps6
    go_wp2_with fail
    generalize w.alloc (.cells #[.int .i64 2, .int .i64 d, .int .i64 n] 23) = w0 at L ⊢
    generalize w.heap.size = q at L ⊢
    have HL := Lib.hid L
    clear L
    refine (c0.out w0 (Gr.ofT HL.out.2.2.2 HO.out)).mono ?_
    rintro e w1 ⟨rfl, hg1⟩
    have L1 := keep4 HL.out hg1
    clear HL hg1 c0
    have c0 := L1.1
    have c1 := L1.2.1
    have c2 := L1.2.2.1
    have HL := Lib.hid L1
    clear L1
    go_wp2_with fail
    refine (KO.out w1 (Gr.ofT HL.out.2.2.2 HO.out)).mono ?_
    rintro e w2 ⟨rfl, hg2⟩
    have L2 := keep4 HL.out hg2
    clear HL hg2 c0 c1 c2 KO
    have c0 := L2.1
    have c1 := L2.2.1
    have c2 := L2.2.2.1
    have HL := Lib.hid L2
    clear L2
    go_wp2_with fail
    refine (KL.out w2 (HL.out.2.2.2.len HT.out)).mono ?_
    rintro e w3 ⟨rfl, rfl⟩
    go_wp2_with fail
    refine (KD.out w2 (HL.out.2.2.2.len HT.out)).mono ?_
    rintro e w3 ⟨rfl, rfl⟩
    go_wp2_with fail
    refine (KW.out w2).mono ?_
    rintro e w3 ⟨rfl, rfl⟩
    go_wp2_with fail
    go_ret
    exact ⟨rfl, HL.out.2.2.2⟩
  · subst kk
    have L := laid3 w 3 d n 23
    simp only [Int.reduceEq, if_false, if_true] at i6
    have nb := nd_bd (f + n - 1) d
    have ni := nd_is (a := f + n - 1) db1 db2
    rw [← i6] at nb ni
    have t1 : ((a + 135146) % 7 == d) = true := beqT ni
    have t2 : n ≤ a - f + 1 := by omega
    have t3 : a - f + 1 < n + 7 := by omega
    clear nb ni
    have x1 : 0 ≤ (a + 135146) % 7 := by omega
    have x2 : (a + 135146) % 7 ≤ 6 := by omega
    generalize (a + 135146) % 7 = x at KW t1 x1 x2
    clear hi i1 i6
    go_enter Tryd.func6, Tryd.ntmps6
    go_wp2_with fail
    generalize w.alloc (.cells #[.int .i64 3, .int .i64 d, .int .i64 n] 23) = w0 at L ⊢
    generalize w.heap.size = q at L ⊢
    have HL := Lib.hid L
    clear L
    refine (c0.out w0 (Gr.ofT HL.out.2.2.2 HO.out)).mono ?_
    rintro e w1 ⟨rfl, hg1⟩
    have L1 := keep4 HL.out hg1
    clear HL hg1 c0
    have c0 := L1.1
    have c1 := L1.2.1
    have c2 := L1.2.2.1
    have HL := Lib.hid L1
    clear L1
    go_wp2_with fail
    refine (KO.out w1 (Gr.ofT HL.out.2.2.2 HO.out)).mono ?_
    rintro e w2 ⟨rfl, hg2⟩
    have L2 := keep4 HL.out hg2
    clear HL hg2 c0 c1 c2 KO
    have c0 := L2.1
    have c1 := L2.2.1
    have c2 := L2.2.2.1
    have HL := Lib.hid L2
    clear L2
    go_wp2_with fail
    refine (KL.out w2 (HL.out.2.2.2.len HT.out)).mono ?_
    rintro e w3 ⟨rfl, rfl⟩
    go_wp2_with fail
    refine (KD.out w2 (HL.out.2.2.2.len HT.out)).mono ?_
    rintro e w3 ⟨rfl, rfl⟩
    go_wp2_with fail
    refine (KW.out w2).mono ?_
    rintro e w3 ⟨rfl, rfl⟩
    go_wp2_with fail
    go_ret
    exact ⟨rfl, HL.out.2.2.2⟩
  · subst kk
    have L := laid3 w 4 d n 23
    simp only [Int.reduceEq, if_false] at i6
    have nb := nd_bd (f + n - 1 - 6) d
    have ni := nd_is (a := f + n - 1 - 6) db1 db2
    rw [← i6] at nb ni
    have t1 : ((a + 135146) % 7 == d) = true := beqT ni
    have t2 : a - f + 1 ≤ n := by omega
    have t3 : n - 7 < a - f + 1 := by omega
    clear nb ni
    have x1 : 0 ≤ (a + 135146) % 7 := by omega
    have x2 : (a + 135146) % 7 ≤ 6 := by omega
    generalize (a + 135146) % 7 = x at KW t1 x1 x2
    clear hi i1 i6
    go_enter Tryd.func6, Tryd.ntmps6
    go_wp2_with fail
    generalize w.alloc (.cells #[.int .i64 4, .int .i64 d, .int .i64 n] 23) = w0 at L ⊢
    generalize w.heap.size = q at L ⊢
    have HL := Lib.hid L
    clear L
    refine (c0.out w0 (Gr.ofT HL.out.2.2.2 HO.out)).mono ?_
    rintro e w1 ⟨rfl, hg1⟩
    have L1 := keep4 HL.out hg1
    clear HL hg1 c0
    have c0 := L1.1
    have c1 := L1.2.1
    have c2 := L1.2.2.1
    have HL := Lib.hid L1
    clear L1
    go_wp2_with fail
    refine (KO.out w1 (Gr.ofT HL.out.2.2.2 HO.out)).mono ?_
    rintro e w2 ⟨rfl, hg2⟩
    have L2 := keep4 HL.out hg2
    clear HL hg2 c0 c1 c2 KO
    have c0 := L2.1
    have c1 := L2.2.1
    have c2 := L2.2.2.1
    have HL := Lib.hid L2
    clear L2
    go_wp2_with fail
    refine (KL.out w2 (HL.out.2.2.2.len HT.out)).mono ?_
    rintro e w3 ⟨rfl, rfl⟩
    go_wp2_with fail
    refine (KD.out w2 (HL.out.2.2.2.len HT.out)).mono ?_
    rintro e w3 ⟨rfl, rfl⟩
    go_wp2_with fail
    refine (KW.out w2).mono ?_
    rintro e w3 ⟨rfl, rfl⟩
    go_wp2_with fail
    go_ret
    exact ⟨rfl, HL.out.2.2.2⟩


set_option maxRecDepth 100000 in
theorem contract (H : Type) (enc : TypeId × Value → H) (W : World) (base : Nat) (args : Array Value) (ds gs : List (DataW H)) (before : List MemPlace)
    (hval : ∀ (j : Nat) t v, Tryd.f6.params[j]? = some t → args[j]? = some v → Value.okWide Tryd.prog W .any base t v)
    (hW : DataW.Whole enc Tryd.prog Tryd.f6.params.toList Rows.dayKindsSpec.vars false W args.toList ds gs before) (hL : laidMet Tryd.prog Rows.dayKindsRow.laid W) (hsh : W.ShapedOpen Tryd.prog) :
    Calls Tryd.prog 6 args W fun e W' => ∃ v, e = .returned v ∧ Rows.dayKindsSpec.post enc Tryd.prog Tryd.f6 false true false false W args v W' := by
  have hW' := hW
  obtain ⟨p, q, hA0, hV, rfl, hfz, hnd⟩ := hW
  have hA : DataW.TrodAll enc Tryd.prog W 0 (fun _ => true) true Tryd.f6.params.toList args.toList ds p := hA0
  rw [Tryd.params6] at hA hval
  obtain ⟨v0, vs0, d0, ds0, p0, q0, hargs, rfl, rfl, h0, r0⟩ := trodAll_cons hA
  obtain ⟨v1, vs1, d1, ds1, p1, q1, rfl, rfl, rfl, h1, r1⟩ := trodAll_cons r0
  obtain ⟨v2, vs2, d2, ds2, p2, q2, rfl, rfl, rfl, h2, r2⟩ := trodAll_cons r1
  obtain ⟨rfl, rfl, rfl⟩ := trodAll_nil r2
  obtain rfl : args = #[v0, v1, v2] := by cases args; simp_all
  obtain ⟨rfl, rfl⟩ := trodVars_none hV
  obtain ⟨a0, rfl, rfl, rfl, w0⟩ := open_int Tryd.underlying3 (hval 0 3 v0 rfl rfl) h0
  obtain ⟨a1, rfl, rfl, rfl, w1⟩ := open_int Tryd.underlying3 (hval 1 3 v1 rfl rfl) h1
  obtain ⟨a2, b2, c2, rfl, rfl, rfl, wa2, wb2, wc2⟩ := open_day (hval 2 23 v2 rfl rfl) h2
  clear hA0
  simp only [List.append_nil] at hW'
  refine (walk a0 (bounds_i64 w0).1 (bounds_i64 w0).2 a1 (bounds_i64 w1).1 (bounds_i64 w1).2 a2 b2 c2 W (lens_of hL (List.mem_of_getElem? (i := 0) rfl)) (lens_of hL (List.mem_of_getElem? (i := 0) rfl))).mono fun e W' ⟨he, hg⟩ => ?_
  subst he
  exact ⟨_, rfl, post_of_below (pa := []) (pv := []) hW' (fun _ _ _ => trodAll_cons_mk (shut_bool Tryd.underlying4 _) trodAll_mk0) (fun _ _ => (trodAll_cons_mk (shut_int Tryd.underlying3 w0) (trodAll_cons_mk (shut_int Tryd.underlying3 w1) (trodAll_cons_mk (shut_day wa2 wb2 wc2) trodAll_mk0)))) (fun _ _ => rfl) rfl
    hg (ok_one (by kernel_rfl) rfl (okWide_bool_mk Tryd.underlying4 _))⟩

/-- A world for the witness: the settled one, the listed variables holding what their initialisers lay. -/
noncomputable def laidWorld (os : Os) : World := put (bare os) 1 (flat1 Rows.laid_timeball_civil_lengths)
set_option maxRecDepth 100000 in
theorem laid_met (os : Os) : laidMet Tryd.prog Rows.dayKindsRow.laid ((laidWorld os).forCall (fun _ _ => 0) ⟨#[], #[.int .i64 0, .int .i64 0, .agg #[.int .i64 0, .int .i64 0, .int .i64 0]], []⟩).memory :=
  laidMet_of_run3 8 (by kernel_rfl) (by kernel_rfl) (by kernel_rfl)
theorem reads (os : Os) {H : Type} (enc : TypeId × Value → H) : ∃ places, DataW.whole enc Tryd.prog ((laidWorld os).forCall (fun _ _ => 0) ⟨#[], #[.int .i64 0, .int .i64 0, .agg #[.int .i64 0, .int .i64 0, .int .i64 0]], []⟩).memory Tryd.f6.params.toList Rows.dayKindsSpec.vars false #[Value.int .i64 0, Value.int .i64 0, Value.agg #[.int .i64 0, .int .i64 0, .int .i64 0]].toList 8 = some ([.lit (.int .i64 0), .lit (.int .i64 0), .agg [.lit (.int .i64 0), .lit (.int .i64 0), .lit (.int .i64 0)]], [], places) :=
  ⟨[], by kernel_rfl⟩

set_option maxRecDepth 100000 in
theorem lifted (os : Os) (started : os.Started) (H : Type) (enc : TypeId × Value → H) (F : Stop.Interp) :
    ReturnsInHanded {} Tryd.checked os 6 .any ((OpenSpec.ofChange Rows.dayKindsSpec).preRow enc Tryd.prog Tryd.f6 Rows.dayKindsRow.domain false Rows.dayKindsRow.laid) (((OpenSpec.ofChange Rows.dayKindsSpec).at F).post enc Tryd.prog Tryd.f6 false true false false) := by
  obtain ⟨places, hx⟩ := reads os enc
  refine returnsInHanded_of_row (C := Tryd.checked) (s := OpenSpec.ofChange Rows.dayKindsSpec) own started (by kernel_rfl) Tryd.func6
    (witness_row_at (enc := enc) (C := Tryd.checked) false (laidWorld os) #[.int .i64 0, .int .i64 0, .agg #[.int .i64 0, .int .i64 0, .int .i64 0]] rfl (by kernel_rfl) (by kernel_rfl) (by kernel_rfl)
      (OpenSpec.preRow_of_cond 8 hx (by kernel_rfl) (fun k hk => by cases hk) (by kernel_rfl) (laid_met os))) ?_
  intro W base args ds gs before hval hW _ _ _ hL hsh _
  exact contract H enc W base args ds gs before hval hW hL hsh

theorem said : Rows.DayKindsSaid :=
  OpenClaim.holds_of_cond 6 Tryd.f6 rfl rfl rfl rfl rfl rfl rfl ⟨rfl, rfl, rfl, rfl, rfl⟩ rfl rfl rfl rfl rfl (by kernel_rfl) Tryd.func6 (by kernel_rfl)
    (of_decide_eq_true (by kernel_rfl)) (by unfold Func.isWrapper; first | (rw [if_pos (by decide +kernel)]; kernel_rfl) | (rw [if_neg (by decide +kernel)]; exact ⟨rfl, rfl⟩))
    (fun os started H enc _ F => by rw [OpenClaim.pre_eq_preRow]; exact lifted os started H enc F)

set_option maxRecDepth 100000 in
/-- No parameter wants a stand-in; whether the program has looks of its own. -/
theorem plain (f : FuncId) (fn : Func) (hf : Tryd.pinned.checked.prog.funcNamed "timeball/timeballkeep.DayKinds" = some f) (hfn : Tryd.pinned.checked.prog.funcs[f]? = some fn) :
    true = Tryd.pinned.checked.prog.looks [] ∧ ∀ (j : Nat) t, fn.params[j]? = some t → Tryd.pinned.checked.prog.wantsStandIn t = false := by
  obtain rfl : f = 6 := Option.some.inj ((show Tryd.prog.funcNamed "timeball/timeballkeep.DayKinds" = some 6 by kernel_rfl).symm.trans hf) |>.symm
  obtain rfl : fn = Tryd.f6 := (Option.some.inj (Tryd.func6.symm.trans hfn)).symm
  refine ⟨by kernel_rfl, fun j t ht => ?_⟩
  rw [Tryd.params6] at ht
  have hm : t = 3 ∨ t = 23 := by have := Array.mem_of_getElem? ht; simp at this; omega
  rcases hm with rfl | rfl
  · exact (show Tryd.prog.wantsStandIn 3 = false by kernel_rfl)
  · exact (show Tryd.prog.wantsStandIn 23 = false by kernel_rfl)

end Go.Proofs.YtjcoapjjnplnbaaDoor.dayKinds
namespace Go.Proofs.YtjcoapjjnplnbaaDoor
/-- The card. -/
theorem dayKinds_holds : Rows.DayKindsCardSaid :=
  Claim7.holds_tied_plain_at .later [] _ _ _ _ dayKinds.said (fun _ h => by cases h) (by kernel_rfl) (fun _ h => by cases h) dayKinds_row_tie rfl ⟨rfl, rfl⟩ (by kernel_rfl) rfl dayKinds.plain (by kernel_rfl)
end Go.Proofs.YtjcoapjjnplnbaaDoor
