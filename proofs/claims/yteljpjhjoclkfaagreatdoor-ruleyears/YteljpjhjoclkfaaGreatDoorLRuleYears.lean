/- The law RuleYears of package timeballkeep returns true for every input and leaves its arguments as they were: A valid rule remains valid for a shorter range of years. Condition: the listed variables (math/bits.deBruijn32tab, math/bits.deBruijn64tab, internal/strconv.uint64pow10, timeball/civil.lengths, unicode/utf8.acceptRanges, strconv.ErrRange, strconv.ErrSyntax, timeball/day.weekdays, timeball/rule.clockLetters, unicode/utf8.first) lie as their initialisers lay them; the card ties that to the program's text. -/
import Derived.Test.YteljpjhjoclkfaaGreatDoorCards
import Derived.Test.YteljpjhjoclkfaaGreatDoorTie
import Derived.Test.YteljpjhjoclkfaaGreatDoorR0
import Derived.Test.YteljpjhjoclkfaaGreatDoorP7
import Derived.Test.YteljpjhjoclkfaaGreatDoorSA
import Derived.Test.YteljpjhjoclkfaaGreatDoorRA
namespace Go.Proofs.YteljpjhjoclkfaaGreatDoor.ruleYears
open Go.ChangeShapes Go.WideShapes Go.ChangeAt Go.RowKit
open Go.ChangeMaps (open_string shut_string)
set_option linter.unusedVariables false
set_option linter.unusedSimpArgs false

theorem rest_q (n m : Int) (w : World) (b1 : -9223372036854775808 ≤ n) (b2 : n ≤ 9223372036854775807) (h1 : 0 < m) (h2 : m ≤ 1099511627776) :
    Calls Tryz.prog 15 #[.int .i64 n, .int .i64 m] w fun e w' => e = .returned (.int .i64 (n % m)) ∧ w' = w := (rest_any n m w b1 b2 h1 h2).mono fun _ _ ⟨a, b⟩ => ⟨a, b.symm⟩

set_option maxRecDepth 100000 in
set_option maxHeartbeats 8000000 in
theorem walk (nm : ByteArray) (fr tt mo k d n at' by' sv : Int) (lt : ByteArray) (ri : RuleIn nm fr tt mo k d n at' by' sv lt) (a : Int) (a1 : -9223372036854775808 ≤ a) (a2 : a ≤ 9223372036854775807) (c : Int) (c1 : -9223372036854775808 ≤ c) (c2 : c ≤ 9223372036854775807) (w : World) (ht : RpTab w) :
    Calls Tryz.prog 6 #[ruleV nm fr tt mo k d n at' by' sv lt, .int .i64 a, .int .i64 c] w fun e w' => e = .returned (.bool true) ∧ Gr w w' := by
  have KC := Lib.hid (fun fr tt w hl => pruleCheck nm fr tt mo k d n at' by' sv lt w hl ri.1 ri.2.1)
  have KR := Lib.hid (fun w h => ruled_any w h)
  have HT := Lib.hid ht
  have hB := Lib.hid (heap_new w (.cells #[.string nm, .int .i64 fr, .int .i64 tt, .int .i64 mo, .int .i64 k, .int .i64 d, .int .i64 n, .int .i64 at', .int .i64 by', .int .i64 sv, .string lt] 25))
  have G0 := Lib.hid (Gr.alloc w (.cells #[.string nm, .int .i64 fr, .int .i64 tt, .int .i64 mo, .int .i64 k, .int .i64 d, .int .i64 n, .int .i64 at', .int .i64 by', .int .i64 sv, .string lt] 25))
  clear ht ri
  go_enter Tryz.func6, Tryz.ntmps6
  go_wp2_with fail
  generalize w.alloc (.cells #[.string nm, .int .i64 fr, .int .i64 tt, .int .i64 mo, .int .i64 k, .int .i64 d, .int .i64 n, .int .i64 at', .int .i64 by', .int .i64 sv, .string lt] 25) = w0 at hB G0 ⊢
  generalize hb0 : w.heap.size = b at hB ⊢
  have HB0 := Lib.hid hb0
  clear hb0
  refine (KR.out w0 (G0.out.rpT HT.out)).mono ?_
  rintro e w1 ⟨rfl, g1⟩
  have G1 := Lib.hid (G0.out.trans g1)
  have hB1 := Lib.hid (heap_gr g1 hB.out)
  clear G0 hB g1 KR
  have z0 : w1.cell? ⟨b, 0, none⟩ = some (.string nm) := by simp [World.cell?, hB1.out]
  have z1 : w1.cell? ⟨b, 1, none⟩ = some (.int .i64 fr) := by simp [World.cell?, hB1.out]
  have z2 : w1.cell? ⟨b, 2, none⟩ = some (.int .i64 tt) := by simp [World.cell?, hB1.out]
  have z3 : w1.cell? ⟨b, 3, none⟩ = some (.int .i64 mo) := by simp [World.cell?, hB1.out]
  have z4 : w1.cell? ⟨b, 4, none⟩ = some (.int .i64 k) := by simp [World.cell?, hB1.out]
  have z5 : w1.cell? ⟨b, 5, none⟩ = some (.int .i64 d) := by simp [World.cell?, hB1.out]
  have z6 : w1.cell? ⟨b, 6, none⟩ = some (.int .i64 n) := by simp [World.cell?, hB1.out]
  have z7 : w1.cell? ⟨b, 7, none⟩ = some (.int .i64 at') := by simp [World.cell?, hB1.out]
  have z8 : w1.cell? ⟨b, 8, none⟩ = some (.int .i64 by') := by simp [World.cell?, hB1.out]
  have z9 : w1.cell? ⟨b, 9, none⟩ = some (.int .i64 sv) := by simp [World.cell?, hB1.out]
  have z10 : w1.cell? ⟨b, 10, none⟩ = some (.string lt) := by simp [World.cell?, hB1.out]
  go_wp2_with fail
  clear z0 z1 z2 z3 z4 z5 z6 z7 z8 z9 z10
  have KC0 := KC.out fr tt w1 (G1.out.len HT.out.2.1)
  by_cases ok : ruleC nm.toList lt.toList fr tt mo k d n at' by' sv = 0
  case neg =>
    have tc := bneT ok
    generalize ruleC nm.toList lt.toList fr tt mo k d n at' by' sv = cc at KC0 tc
    clear ok
    refine KC0.mono ?_
    rintro e w2 ⟨rfl, g2⟩
    go_wp2_with fail
    go_ret
    exact ⟨rfl, G1.out.trans g2⟩
  rw [ok] at KC0
  obtain ⟨hy, hm, hd, hr⟩ := ruleC_zero.1 ok
  have NEW : Hid (∀ x y : Int, fr ≤ x → x ≤ y → y ≤ tt → ruleC nm.toList lt.toList x y mo k d n at' by' sv = 0) := fun x y p q r => ruleC_zero.2 ⟨hy, ⟨⟨by have := hm.1; omega, by have := hm.2.1; omega⟩, ⟨by have := hm.1; omega, by have := hm.2.1; omega⟩, q, hm.2.2.2⟩, hd, hr⟩
  obtain ⟨⟨f1, f2⟩, ⟨t1, t2⟩, ft, _⟩ := hm
  clear ok hy hd hr
  refine KC0.mono ?_
  rintro e w2 ⟨rfl, g2⟩
  have G2 := Lib.hid (G1.out.trans g2)
  have hB2 := Lib.hid (heap_gr g2 hB1.out)
  clear KC0 G1 hB1 g2
  have z1 : w2.cell? ⟨b, 1, none⟩ = some (.int .i64 fr) := by simp [World.cell?, hB2.out]
  have z2 : w2.cell? ⟨b, 2, none⟩ = some (.int .i64 tt) := by simp [World.cell?, hB2.out]
  have KA0 := fun w => rest_q a (tt - fr + 1) w a1 a2 (by omega) (by omega)
  have KD0 := fun w => rest_q c (tt - fr + 1) w c1 c2 (by omega) (by omega)
  have x1 := Int.emod_nonneg a (show tt - fr + 1 ≠ 0 by omega)
  have x2 := Int.emod_lt_of_pos a (show 0 < tt - fr + 1 by omega)
  have y1 := Int.emod_nonneg c (show tt - fr + 1 ≠ 0 by omega)
  have y2 := Int.emod_lt_of_pos c (show 0 < tt - fr + 1 by omega)
  generalize a % (tt - fr + 1) = x at KA0 x1 x2
  generalize c % (tt - fr + 1) = y at KD0 y1 y2
  have KA := Lib.hid KA0
  have KD := Lib.hid KD0
  clear KA0 KD0 a1 a2 c1 c2
  go_wp2_with fail
  have e1 : IntKind.i64.wrap (fr + x) = fr + x := IntWalk.i64_in _ (by omega)
  have e2 : IntKind.i64.wrap (fr + y) = fr + y := IntWalk.i64_in _ (by omega)
  go_quiet (first | (go_at_call 15; with_reducible exact Calls.quiet_of_same (KA.out _)) | (go_at_call 15; with_reducible exact Calls.quiet_of_same (KD.out _)))
  have hB3 := Lib.hid (heap_gr ((Gr.refl w2).drewN nq) hB2.out)
  have G3 := Lib.hid (G2.out.drewN nq)
  clear KA KD e1 e2 z1 z2 G2 hB2
  generalize w2.drewN nq = W at hB3 G3 ⊢
  have xb : fr ≤ fr + x ∧ fr + x ≤ tt := ⟨by omega, by omega⟩
  have yb : fr ≤ fr + y ∧ fr + y ≤ tt := ⟨by omega, by omega⟩
  generalize fr + x = X at xb ⊢
  generalize fr + y = Y at yb ⊢
  clear x1 x2 y1 y2
  have z0 : W.cell? ⟨b, 0, none⟩ = some (.string nm) := by simp [World.cell?, hB3.out]
  have z1 : W.cell? ⟨b, 1, none⟩ = some (.int .i64 fr) := by simp [World.cell?, hB3.out]
  have z2 : W.cell? ⟨b, 2, none⟩ = some (.int .i64 tt) := by simp [World.cell?, hB3.out]
  have z3 : W.cell? ⟨b, 3, none⟩ = some (.int .i64 mo) := by simp [World.cell?, hB3.out]
  have z4 : W.cell? ⟨b, 4, none⟩ = some (.int .i64 k) := by simp [World.cell?, hB3.out]
  have z5 : W.cell? ⟨b, 5, none⟩ = some (.int .i64 d) := by simp [World.cell?, hB3.out]
  have z6 : W.cell? ⟨b, 6, none⟩ = some (.int .i64 n) := by simp [World.cell?, hB3.out]
  have z7 : W.cell? ⟨b, 7, none⟩ = some (.int .i64 at') := by simp [World.cell?, hB3.out]
  have z8 : W.cell? ⟨b, 8, none⟩ = some (.int .i64 by') := by simp [World.cell?, hB3.out]
  have z9 : W.cell? ⟨b, 9, none⟩ = some (.int .i64 sv) := by simp [World.cell?, hB3.out]
  have z10 : W.cell? ⟨b, 10, none⟩ = some (.string lt) := by simp [World.cell?, hB3.out]
  have fz : ∀ i, W.frozen? ⟨b, i, none⟩ = false := fun i => by simp [World.frozen?, hB3.out]
  have hlw : w.heap.size ≤ b := by have := HB0.out; omega
  have E1 : (W.setCell ⟨b, 1, none⟩ (.int .i64 (min X Y))).heap[b]? = some (.cells #[.string nm, .int .i64 (min X Y), .int .i64 tt, .int .i64 mo, .int .i64 k, .int .i64 d, .int .i64 n, .int .i64 at', .int .i64 by', .int .i64 sv, .string lt] 25 (0, 0)) := heap_setCell_same W b 1 #[.string nm, .int .i64 fr, .int .i64 tt, .int .i64 mo, .int .i64 k, .int .i64 d, .int .i64 n, .int .i64 at', .int .i64 by', .int .i64 sv, .string lt] 25 (.int .i64 (min X Y)) hB3.out
  have E2 := Lib.hid (show ((W.setCell ⟨b, 1, none⟩ (.int .i64 (min X Y))).setCell ⟨b, 2, none⟩ (.int .i64 (max X Y))).heap[b]? = some (.cells #[.string nm, .int .i64 (min X Y), .int .i64 (max X Y), .int .i64 mo, .int .i64 k, .int .i64 d, .int .i64 n, .int .i64 at', .int .i64 by', .int .i64 sv, .string lt] 25 (0, 0)) from heap_setCell_same (W.setCell ⟨b, 1, none⟩ (.int .i64 (min X Y))) b 2 #[.string nm, .int .i64 (min X Y), .int .i64 tt, .int .i64 mo, .int .i64 k, .int .i64 d, .int .i64 n, .int .i64 at', .int .i64 by', .int .i64 sv, .string lt] 25 (.int .i64 (max X Y)) E1)
  have GF := Lib.hid (show Gr w ((W.setCell ⟨b, 1, none⟩ (.int .i64 (min X Y))).setCell ⟨b, 2, none⟩ (.int .i64 (max X Y))) from Below.setCell (Below.setCell G3.out hlw _) hlw _)
  have Z := Lib.hid (NEW.out (min X Y) (max X Y) (by omega) (by omega) (by omega))
  clear E1
  go_upto_region 8 with (fail)
  generalize (W.setCell ⟨b, 1, none⟩ (.int .i64 (min X Y))).setCell ⟨b, 2, none⟩ (.int .i64 (max X Y)) = F at E2 GF ⊢
  clear fz z0 z1 z2 z3 z4 z5 z6 z7 z8 z9 z10
  have y0 : F.cell? ⟨b, 0, none⟩ = some (.string nm) := by simp [World.cell?, E2.out]
  have y1 : F.cell? ⟨b, 1, none⟩ = some (.int .i64 (min X Y)) := by simp [World.cell?, E2.out]
  have y2 : F.cell? ⟨b, 2, none⟩ = some (.int .i64 (max X Y)) := by simp [World.cell?, E2.out]
  have y3 : F.cell? ⟨b, 3, none⟩ = some (.int .i64 mo) := by simp [World.cell?, E2.out]
  have y4 : F.cell? ⟨b, 4, none⟩ = some (.int .i64 k) := by simp [World.cell?, E2.out]
  have y5 : F.cell? ⟨b, 5, none⟩ = some (.int .i64 d) := by simp [World.cell?, E2.out]
  have y6 : F.cell? ⟨b, 6, none⟩ = some (.int .i64 n) := by simp [World.cell?, E2.out]
  have y7 : F.cell? ⟨b, 7, none⟩ = some (.int .i64 at') := by simp [World.cell?, E2.out]
  have y8 : F.cell? ⟨b, 8, none⟩ = some (.int .i64 by') := by simp [World.cell?, E2.out]
  have y9 : F.cell? ⟨b, 9, none⟩ = some (.int .i64 sv) := by simp [World.cell?, E2.out]
  have y10 : F.cell? ⟨b, 10, none⟩ = some (.string lt) := by simp [World.cell?, E2.out]
  go_wp2_with fail
  have KZ := KC.out (min X Y) (max X Y) F (GF.out.len HT.out.2.1)
  rw [Z.out] at KZ
  refine KZ.mono ?_
  rintro e wz ⟨rfl, gz⟩
  clear KZ
  go_wp2_with fail
  go_ret
  exact ⟨rfl, GF.out.trans gz⟩


set_option maxRecDepth 100000 in
theorem contract (H : Type) (enc : TypeId × Value → H) (W : World) (base : Nat) (args : Array Value) (ds gs : List (DataW H)) (before : List MemPlace)
    (hval : ∀ (j : Nat) t v, Tryz.f6.params[j]? = some t → args[j]? = some v → Value.okWide Tryz.prog W .any base t v)
    (hW : DataW.Whole enc Tryz.prog Tryz.f6.params.toList Rows.ruleYearsSpec.vars false W args.toList ds gs before) (hL : laidMet Tryz.prog Rows.ruleYearsRow.laid W) (hsh : W.ShapedOpen Tryz.prog) :
    Calls Tryz.prog 6 args W fun e W' => ∃ v, e = .returned v ∧ Rows.ruleYearsSpec.post enc Tryz.prog Tryz.f6 false true false false W args v W' := by
  have hW' := hW
  obtain ⟨p, q, hA0, hV, rfl, hfz, hnd⟩ := hW
  have hA : DataW.TrodAll enc Tryz.prog W 0 (fun _ => true) true Tryz.f6.params.toList args.toList ds p := hA0
  rw [Tryz.params6] at hA hval
  obtain ⟨v0, vs0, d0, ds0, p0, q0, hargs, rfl, rfl, h0, r0⟩ := trodAll_cons hA
  obtain ⟨v1, vs1, d1, ds1, p1, q1, rfl, rfl, rfl, h1, r1⟩ := trodAll_cons r0
  obtain ⟨v2, vs2, d2, ds2, p2, q2, rfl, rfl, rfl, h2, r2⟩ := trodAll_cons r1
  obtain ⟨rfl, rfl, rfl⟩ := trodAll_nil r2
  obtain rfl : args = #[v0, v1, v2] := by cases args; simp_all
  obtain ⟨rfl, rfl⟩ := trodVars_none hV
  obtain ⟨a0, fr0, tt0, mo0, k0, d0, n0, at0, by0, sv0, lt0, rfl, rfl, rfl, ri0⟩ := open_rule (hval 0 25 v0 rfl rfl) h0
  obtain ⟨a1, rfl, rfl, rfl, w1⟩ := open_int Tryz.underlying3 (hval 1 3 v1 rfl rfl) h1
  obtain ⟨a2, rfl, rfl, rfl, w2⟩ := open_int Tryz.underlying3 (hval 2 3 v2 rfl rfl) h2
  clear hA0
  simp only [List.append_nil] at hW'
  refine (walk a0 fr0 tt0 mo0 k0 d0 n0 at0 by0 sv0 lt0 ri0 a1 (bounds_i64 w1).1 (bounds_i64 w1).2 a2 (bounds_i64 w2).1 (bounds_i64 w2).2 W ⟨⟨⟨pow_of hL (List.mem_of_getElem? (i := 2) rfl), wk_of hL (List.mem_of_getElem? (i := 7) rfl)⟩, syn_of hL (List.mem_of_getElem? (i := 6) rfl), rng_of hL (List.mem_of_getElem? (i := 5) rfl), max_of hsh⟩, ⟨lens_of hL (List.mem_of_getElem? (i := 3) rfl), ⟨pow_of hL (List.mem_of_getElem? (i := 2) rfl), wk_of hL (List.mem_of_getElem? (i := 7) rfl)⟩, cl_of hL (List.mem_of_getElem? (i := 8) rfl)⟩⟩).mono fun e W' ⟨he, hg⟩ => ?_
  subst he
  exact ⟨_, rfl, post_of_below (pa := []) (pv := []) hW' (fun _ _ _ => trodAll_cons_mk (shut_bool Tryz.underlying4 _) trodAll_mk0) (fun _ _ => (trodAll_cons_mk (shut_rule ri0) (trodAll_cons_mk (shut_int Tryz.underlying3 w1) (trodAll_cons_mk (shut_int Tryz.underlying3 w2) trodAll_mk0)))) (fun _ _ => rfl) rfl
    hg (ok_one (by kernel_rfl) rfl (okWide_bool_mk Tryz.underlying4 _))⟩

/-- A world for the witness: the settled one, the listed variables holding what their initialisers lay. -/
noncomputable def laidWorld (os : Os) : World := put (put (put (putErr (putErr (put (put (put (put (put (bare os) 9 (flat1 Rows.laid_math_bits_deBruijn32tab)) 10 (flat1 Rows.laid_math_bits_deBruijn64tab)) 4 (flat1 Rows.laid_internal_strconv_uint64pow10)) 2 (flat1 Rows.laid_timeball_civil_lengths)) 6 (flat2 Rows.laid_unicode_utf8_acceptRanges)) 8 (textOf Rows.laid_strconv_ErrRange)) 7 (textOf Rows.laid_strconv_ErrSyntax)) 1 (flat1 Rows.laid_timeball_day_weekdays)) 0 (flat1 Rows.laid_timeball_rule_clockLetters)) 5 (flat1 Rows.laid_unicode_utf8_first)
set_option maxRecDepth 100000 in
theorem laid_met (os : Os) : laidMet Tryz.prog Rows.ruleYearsRow.laid ((laidWorld os).forCall (fun _ _ => 0) ⟨#[], #[.agg #[.string .empty, .int .i64 0, .int .i64 0, .int .i64 0, .int .i64 0, .int .i64 0, .int .i64 0, .int .i64 0, .int .i64 0, .int .i64 0, .string .empty], .int .i64 0, .int .i64 0], []⟩).memory :=
  laidMet_of_run3 8 (by kernel_rfl) (by kernel_rfl) (by kernel_rfl)
theorem reads (os : Os) {H : Type} (enc : TypeId × Value → H) : ∃ places, DataW.whole enc Tryz.prog ((laidWorld os).forCall (fun _ _ => 0) ⟨#[], #[.agg #[.string .empty, .int .i64 0, .int .i64 0, .int .i64 0, .int .i64 0, .int .i64 0, .int .i64 0, .int .i64 0, .int .i64 0, .int .i64 0, .string .empty], .int .i64 0, .int .i64 0], []⟩).memory Tryz.f6.params.toList Rows.ruleYearsSpec.vars false #[Value.agg #[.string .empty, .int .i64 0, .int .i64 0, .int .i64 0, .int .i64 0, .int .i64 0, .int .i64 0, .int .i64 0, .int .i64 0, .int .i64 0, .string .empty], Value.int .i64 0, Value.int .i64 0].toList 8 = some ([.agg [.lit (.string []), .lit (.int .i64 0), .lit (.int .i64 0), .lit (.int .i64 0), .agg [.lit (.int .i64 0), .lit (.int .i64 0), .lit (.int .i64 0)], .lit (.int .i64 0), .lit (.int .i64 0), .lit (.int .i64 0), .lit (.string [])], .lit (.int .i64 0), .lit (.int .i64 0)], [], places) :=
  ⟨[], by kernel_rfl⟩

set_option maxRecDepth 100000 in
theorem lifted (os : Os) (started : os.Started) (H : Type) (enc : TypeId × Value → H) (F : Stop.Interp) :
    ReturnsInHanded {} Tryz.checked os 6 .any ((OpenSpec.ofChange Rows.ruleYearsSpec).preRow enc Tryz.prog Tryz.f6 Rows.ruleYearsRow.domain false Rows.ruleYearsRow.laid) (((OpenSpec.ofChange Rows.ruleYearsSpec).at F).post enc Tryz.prog Tryz.f6 false true false false) := by
  obtain ⟨places, hx⟩ := reads os enc
  refine returnsInHanded_of_row (C := Tryz.checked) (s := OpenSpec.ofChange Rows.ruleYearsSpec) own started (by kernel_rfl) Tryz.func6
    (witness_row_at (enc := enc) (C := Tryz.checked) false (laidWorld os) #[.agg #[.string .empty, .int .i64 0, .int .i64 0, .int .i64 0, .int .i64 0, .int .i64 0, .int .i64 0, .int .i64 0, .int .i64 0, .int .i64 0, .string .empty], .int .i64 0, .int .i64 0] rfl (by kernel_rfl) (by kernel_rfl) (by kernel_rfl)
      (OpenSpec.preRow_of_cond 8 hx (by kernel_rfl) (fun k hk => by cases hk) (by kernel_rfl) (laid_met os))) ?_
  intro W base args ds gs before hval hW _ _ _ hL hsh _
  exact contract H enc W base args ds gs before hval hW hL hsh

theorem said : Rows.RuleYearsSaid :=
  OpenClaim.holds_of_cond 6 Tryz.f6 rfl rfl rfl rfl rfl rfl rfl ⟨rfl, rfl, rfl, rfl, rfl⟩ rfl rfl rfl rfl rfl (by kernel_rfl) Tryz.func6 (by kernel_rfl)
    (of_decide_eq_true (by kernel_rfl)) (by unfold Func.isWrapper; first | (rw [if_pos (by decide +kernel)]; kernel_rfl) | (rw [if_neg (by decide +kernel)]; exact ⟨rfl, rfl⟩))
    (fun os started H enc _ F => by rw [OpenClaim.pre_eq_preRow]; exact lifted os started H enc F)

set_option maxRecDepth 100000 in
/-- No parameter wants a stand-in; whether the program has looks of its own. -/
theorem plain (f : FuncId) (fn : Func) (hf : Tryz.pinned.checked.prog.funcNamed "timeball/timeballkeep.RuleYears" = some f) (hfn : Tryz.pinned.checked.prog.funcs[f]? = some fn) :
    true = Tryz.pinned.checked.prog.looks [] ∧ ∀ (j : Nat) t, fn.params[j]? = some t → Tryz.pinned.checked.prog.wantsStandIn t = false := by
  obtain rfl : f = 6 := Option.some.inj ((show Tryz.prog.funcNamed "timeball/timeballkeep.RuleYears" = some 6 by kernel_rfl).symm.trans hf) |>.symm
  obtain rfl : fn = Tryz.f6 := (Option.some.inj (Tryz.func6.symm.trans hfn)).symm
  refine ⟨by kernel_rfl, fun j t ht => ?_⟩
  rw [Tryz.params6] at ht
  have hm : t = 3 ∨ t = 25 := by have := Array.mem_of_getElem? ht; simp at this; first | exact this | exact this.symm | (rcases this with h | h | h <;> simp [h]) | omega
  rcases hm with rfl | rfl
  · exact (show Tryz.prog.wantsStandIn 3 = false by kernel_rfl)
  · exact (show Tryz.prog.wantsStandIn 25 = false by kernel_rfl)

end Go.Proofs.YteljpjhjoclkfaaGreatDoor.ruleYears
namespace Go.Proofs.YteljpjhjoclkfaaGreatDoor
/-- The card. -/
theorem ruleYears_holds : Rows.RuleYearsCardSaid :=
  Claim7.holds_tied_plain_at .later [] _ _ _ _ ruleYears.said (fun _ h => by cases h) (by kernel_rfl) (fun _ h => by cases h) ruleYears_row_tie rfl ⟨rfl, rfl⟩ (by kernel_rfl) rfl ruleYears.plain (by kernel_rfl)
end Go.Proofs.YteljpjhjoclkfaaGreatDoor
