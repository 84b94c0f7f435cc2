/- The law StampDates of package timeballkeep returns true for every input and leaves its arguments as they were: A timestamp begins with the date of its day and ends with its time of day. Condition: the listed variables (math/bits.deBruijn32tab, math/bits.deBruijn64tab, internal/strconv.uint64pow10, timeball/civil.lengths) lie as their initialisers lay them; the card ties that to the program's text. -/
import Derived.Test.YteciijcgnaojeaaDoorCards
import Derived.Test.YteciijcgnaojeaaDoorTie
import Derived.Test.YteciijcgnaojeaaDoorR0
import Derived.Test.YteciijcgnaojeaaDoorK10
import Derived.Test.YteciijcgnaojeaaDoorK11
namespace Go.Proofs.YteciijcgnaojeaaDoor.stampDates
open Go.ChangeShapes Go.WideShapes Go.ChangeAt Go.RowKit
open Go.ChangeMaps (open_string shut_string)
set_option linter.unusedVariables false
set_option linter.unusedSimpArgs false

set_option maxHeartbeats 2000000 in
theorem walk (y : Int) (y1 : -9223372036854775808 ≤ y) (y2 : y ≤ 9223372036854775807) (m : Int) (m1 : -9223372036854775808 ≤ m) (m2 : m ≤ 9223372036854775807) (d : Int) (d1 : -9223372036854775808 ≤ d) (d2' : d ≤ 9223372036854775807)
    (n : Int) (n1 : -9223372036854775808 ≤ n) (n2 : n ≤ 9223372036854775807) (w : World) (hl : HasLen w) (hp : HasPow w) :
    Calls Tryd.prog 13 #[.int .i64 y, .int .i64 m, .int .i64 d, .int .i64 n] w fun e w' => e = .returned (.bool true) ∧ Gr w w' := by
  have c0 := clocked_any w hl hp
  have c1 := fun w => date_any y m d w y1 y2 m1 m2 d1 d2'
  have c2 := Lib.hid (fun w => rest_any n 86400 w n1 n2 (by omega) (by omega))
  have r1 : 0 ≤ n % 86400 := by omega
  have r2 : n % 86400 < 86400 := by omega
  have hY1 : 1600 ≤ y % 800 + 1600 := by omega
  have hY2 : y % 800 + 1600 ≤ 2399 := by omega
  have hM1 : 1 ≤ m % 12 + 1 := by omega
  have hM2 : m % 12 + 1 ≤ 12 := by omega
  generalize y % 800 + 1600 = Y at c1 hY1 hY2
  generalize m % 12 + 1 = M at c1 hM1 hM2
  have hb := Cal.ml_bd Y hM1 hM2
  have hD1 : 1 ≤ d % Cal.ml Y M + 1 := by have := Int.emod_nonneg d (b := Cal.ml Y M) (by omega); omega
  have hD2 : d % Cal.ml Y M + 1 ≤ Cal.ml Y M := by have := Int.emod_lt_of_pos d (b := Cal.ml Y M) (by omega); omega
  generalize d % Cal.ml Y M + 1 = D at c1 hD1 hD2
  generalize n % 86400 = r at c2 r1 r2
  have hv : Cal.Valid Y M D := ⟨hY1, hY2, hM1, hM2, hD1, hD2⟩
  have C1 := Lib.hid c1
  have c3 := Lib.hid (fun w hl => days_yes Y M D w hl hv)
  have c4 := Lib.hid (fun w hl hp => stamp_yes (86400 * Cal.days Y M D + r) Y M D r w hl hp hv r1 r2 rfl)
  have c5 := Lib.hid (fun w hp => span_pos r w hp r1 (by omega))
  have c6 := Lib.hid (fun w => digits_any 8 Y w (by omega) (by omega) (by omega))
  have hdz : dz Y = d4 Y := dz_d4 (by omega) (by omega)
  have c7 : Hid (∀ w, Calls Tryd.prog 24 #[.string (S (stampL Y M D r)), .string (S (dz Y ++ [45]))] w fun e w' => e = .returned (.bool true) ∧ Gr w w') := fun w => by
    refine (Tryd.strings_HasPrefix (S (stampL Y M D r)) (S (dz Y ++ [45])) w).mono ?_
    rintro e w' ⟨rfl, rfl⟩
    refine ⟨ret_bool ?_, Gr.refl _⟩
    rw [hdz]
    simp [Lib.hasPrefix, S, stampL, d4, List.isPrefixOf]
  have hlen := stampL_len Y M D r
  have f1 : ((S (stampL Y M D r)).extract 11 19).toList = clockL r := by
    have e : stampL Y M D r = (dateL Y M D ++ [84]) ++ clockL r := by rw [stampL_parts]; simp
    rw [e]
    exact part_tail (by simp [dateL_len]) (by simp [dateL_len, clockL_len])
  have gT : ∀ w, (Instr.index 9 (.string (S (stampL Y M D r))) (.int .i64 10)).run Tryd.prog w = .ok (.int .u8 84) w := fun w => by
    have := idx (S (stampL Y M D r)) 10 (by rw [S_size]; omega) w
    rw [S_toList] at this
    have e : bt (stampL Y M D r) 10 = 84 := by simp [bt, stampL, d4, d2]
    rw [e] at this
    exact this
  have yl : (dz Y).length = 4 := by rw [hdz]; rfl
  have db := Cal.days_bd hv
  obtain ⟨db1, db2⟩ := db
  have HP := Lib.hid hp
  have HL := Lib.hid hl
  have hcl : Hid (clockL r = d2 (r / 3600) ++ 58 :: (d2 (r / 60 % 60) ++ 58 :: d2 (r % 60))) := rfl
  have hsl : Hid (spanL0 r = dz (r / 3600) ++ 58 :: (d2 (r / 60 % 60) ++ (if r % 60 = 0 then [] else 58 :: d2 (r % 60)))) := rfl
  have hdl := dz_len 8 (r / 3600) (by omega) (by omega)
  clear hl hp c1 hv hb hdz hD1 hD2 hM1 hM2 y1 y2 m1 m2 d1 d2' n1 n2
  generalize stampL Y M D r = l at c4 c7 hlen f1 gT
  generalize Cal.days Y M D = q at c3 c4 db1 db2
  generalize dz Y = yt at c6 c7 yl
  by_cases z : r % 60 = 0
  · by_cases s : r / 3600 < 10
    · have z1 := beqT z
      have e0 : spanL0 r ++ [58, 48, 48] = dz (r / 3600) ++ 58 :: (d2 (r / 60 % 60) ++ 58 :: d2 (r % 60)) := by rw [hsl.out, if_pos z, z]; simp [d2]; decide
      have ln : (spanL0 r).length = (dz (r / 3600)).length + 3 := by rw [hsl.out, if_pos z]; simp [d2]
      have e1 : clockL r = 48 :: (spanL0 r ++ [58, 48, 48]) := by rw [e0, hcl.out, d2_small (by omega) s]; rfl
      have l1 : (dz (r / 3600)).length = 1 := by rw [dz_small (by omega) s]; rfl
      rw [e1] at f1
      have ln2 : (spanL0 r).length = 4 := by omega
      clear e0 e1 ln l1 hcl hsl hdl s z
      generalize spanL0 r = x at c5 f1 ln2
      go_enter Tryd.func13, Tryd.ntmps13
      go_wp2_with fail
      refine c0.mono ?_
      rintro e w1 ⟨rfl, hg1⟩
      clear c0
      go_wp2_with fail
      refine (C1.out w1).mono ?_
      rintro e w2 ⟨rfl, hg2⟩
      have g12 := hg1.trans hg2
      clear hg1 hg2 C1
      go_wp2_with fail
      refine (c2.out w2).mono ?_
      rintro e w3 ⟨rfl, rfl⟩
      clear c2
      go_wp2_with fail
      refine (c3.out w2 (g12.len HL.out)).mono ?_
      rintro e w3 ⟨rfl, rfl⟩
      clear c3
      go_wp2_with fail
      refine (c4.out w2 (g12.len HL.out) (g12.pow HP.out)).mono ?_
      rintro e w4 ⟨rfl, hg4⟩
      have g14 := g12.trans hg4
      clear g12 hg4 c4
      go_wp2_with fail
      refine (c5.out w4 (g14.pow HP.out)).mono ?_
      rintro e w5 ⟨rfl, hg5⟩
      have g15 := g14.trans hg5
      clear g14 hg5 c5
      go_wp2_with fail
      refine (c6.out w5).mono ?_
      rintro e w6 ⟨rfl, hg6⟩
      have g16 := g15.trans hg6
      clear g15 hg6 c6
      go_wp2_with fail
      refine (c7.out w6).mono ?_
      rintro e w7 ⟨rfl, hg7⟩
      go_wp2_with fail
      go_ret
      exact ⟨rfl, g16.trans hg7⟩
    · have z1 := beqT z
      have e0 : spanL0 r ++ [58, 48, 48] = dz (r / 3600) ++ 58 :: (d2 (r / 60 % 60) ++ 58 :: d2 (r % 60)) := by rw [hsl.out, if_pos z, z]; simp [d2]; decide
      have ln : (spanL0 r).length = (dz (r / 3600)).length + 3 := by rw [hsl.out, if_pos z]; simp [d2]
      have e1 : clockL r = spanL0 r ++ [58, 48, 48] := by rw [e0, hcl.out, dz_d2 (by omega) (by omega)]
      have l1 : (dz (r / 3600)).length = 2 := by rw [dz_d2 (by omega) (by omega)]; rfl
      rw [e1] at f1
      have ln2 : (spanL0 r).length = 5 := by omega
      clear e0 e1 ln l1 hcl hsl hdl s z
      generalize spanL0 r = x at c5 f1 ln2
      go_enter Tryd.func13, Tryd.ntmps13
      go_wp2_with fail
      refine c0.mono ?_
      rintro e w1 ⟨rfl, hg1⟩
      clear c0
      go_wp2_with fail
      refine (C1.out w1).mono ?_
      rintro e w2 ⟨rfl, hg2⟩
      have g12 := hg1.trans hg2
      clear hg1 hg2 C1
      go_wp2_with fail
      refine (c2.out w2).mono ?_
      rintro e w3 ⟨rfl, rfl⟩
      clear c2
      go_wp2_with fail
      refine (c3.out w2 (g12.len HL.out)).mono ?_
      rintro e w3 ⟨rfl, rfl⟩
      clear c3
      go_wp2_with fail
      refine (c4.out w2 (g12.len HL.out) (g12.pow HP.out)).mono ?_
      rintro e w4 ⟨rfl, hg4⟩
      have g14 := g12.trans hg4
      clear g12 hg4 c4
      go_wp2_with fail
      refine (c5.out w4 (g14.pow HP.out)).mono ?_
      rintro e w5 ⟨rfl, hg5⟩
      have g15 := g14.trans hg5
      clear g14 hg5 c5
      go_wp2_with fail
      refine (c6.out w5).mono ?_
      rintro e w6 ⟨rfl, hg6⟩
      have g16 := g15.trans hg6
      clear g15 hg6 c6
      go_wp2_with fail
      refine (c7.out w6).mono ?_
      rintro e w7 ⟨rfl, hg7⟩
      go_wp2_with fail
      go_ret
      exact ⟨rfl, g16.trans hg7⟩
  · by_cases s : r / 3600 < 10
    · have z1 := beqF z
      have e0 : spanL0 r = dz (r / 3600) ++ 58 :: (d2 (r / 60 % 60) ++ 58 :: d2 (r % 60)) := by rw [hsl.out, if_neg z]
      have ln : (spanL0 r).length = (dz (r / 3600)).length + 6 := by rw [hsl.out, if_neg z]; simp [d2]
      have e1 : clockL r = 48 :: spanL0 r := by rw [e0, hcl.out, d2_small (by omega) s]; rfl
      have l1 : (dz (r / 3600)).length = 1 := by rw [dz_small (by omega) s]; rfl
      rw [e1] at f1
      have ln2 : (spanL0 r).length = 7 := by omega
      clear e0 e1 ln l1 hcl hsl hdl s z
      generalize spanL0 r = x at c5 f1 ln2
      go_enter Tryd.func13, Tryd.ntmps13
      go_wp2_with fail
      refine c0.mono ?_
      rintro e w1 ⟨rfl, hg1⟩
      clear c0
      go_wp2_with fail
      refine (C1.out w1).mono ?_
      rintro e w2 ⟨rfl, hg2⟩
      have g12 := hg1.trans hg2
      clear hg1 hg2 C1
      go_wp2_with fail
      refine (c2.out w2).mono ?_
      rintro e w3 ⟨rfl, rfl⟩
      clear c2
      go_wp2_with fail
      refine (c3.out w2 (g12.len HL.out)).mono ?_
      rintro e w3 ⟨rfl, rfl⟩
      clear c3
      go_wp2_with fail
      refine (c4.out w2 (g12.len HL.out) (g12.pow HP.out)).mono ?_
      rintro e w4 ⟨rfl, hg4⟩
      have g14 := g12.trans hg4
      clear g12 hg4 c4
      go_wp2_with fail
      refine (c5.out w4 (g14.pow HP.out)).mono ?_
      rintro e w5 ⟨rfl, hg5⟩
      have g15 := g14.trans hg5
      clear g14 hg5 c5
      go_wp2_with fail
      refine (c6.out w5).mono ?_
      rintro e w6 ⟨rfl, hg6⟩
      have g16 := g15.trans hg6
      clear g15 hg6 c6
      go_wp2_with fail
      refine (c7.out w6).mono ?_
      rintro e w7 ⟨rfl, hg7⟩
      go_wp2_with fail
      go_ret
      exact ⟨rfl, g16.trans hg7⟩
    · have z1 := beqF z
      have e0 : spanL0 r = dz (r / 3600) ++ 58 :: (d2 (r / 60 % 60) ++ 58 :: d2 (r % 60)) := by rw [hsl.out, if_neg z]
      have ln : (spanL0 r).length = (dz (r / 3600)).length + 6 := by rw [hsl.out, if_neg z]; simp [d2]
      have e1 : clockL r = spanL0 r := by rw [e0, hcl.out, dz_d2 (by omega) (by omega)]
      have l1 : (dz (r / 3600)).length = 2 := by rw [dz_d2 (by omega) (by omega)]; rfl
      rw [e1] at f1
      have ln2 : (spanL0 r).length = 8 := by omega
      clear e0 e1 ln l1 hcl hsl hdl s z
      generalize spanL0 r = x at c5 f1 ln2
      go_enter Tryd.func13, Tryd.ntmps13
      go_wp2_with fail
      refine c0.mono ?_
      rintro e w1 ⟨rfl, hg1⟩
      clear c0
      go_wp2_with fail
      refine (C1.out w1).mono ?_
      rintro e w2 ⟨rfl, hg2⟩
      have g12 := hg1.trans hg2
      clear hg1 hg2 C1
      go_wp2_with fail
      refine (c2.out w2).mono ?_
      rintro e w3 ⟨rfl, rfl⟩
      clear c2
      go_wp2_with fail
      refine (c3.out w2 (g12.len HL.out)).mono ?_
      rintro e w3 ⟨rfl, rfl⟩
      clear c3
      go_wp2_with fail
      refine (c4.out w2 (g12.len HL.out) (g12.pow HP.out)).mono ?_
      rintro e w4 ⟨rfl, hg4⟩
      have g14 := g12.trans hg4
      clear g12 hg4 c4
      go_wp2_with fail
      refine (c5.out w4 (g14.pow HP.out)).mono ?_
      rintro e w5 ⟨rfl, hg5⟩
      have g15 := g14.trans hg5
      clear g14 hg5 c5
      go_wp2_with fail
      refine (c6.out w5).mono ?_
      rintro e w6 ⟨rfl, hg6⟩
      have g16 := g15.trans hg6
      clear g15 hg6 c6
      go_wp2_with fail
      refine (c7.out w6).mono ?_
      rintro e w7 ⟨rfl, hg7⟩
      go_wp2_with fail
      go_ret
      exact ⟨rfl, g16.trans hg7⟩


theorem contract (H : Type) (enc : TypeId × Value → H) (W : World) (base : Nat) (args : Array Value) (ds gs : List (DataW H)) (before : List MemPlace)
    (hval : ∀ (j : Nat) t v, Tryd.f13.params[j]? = some t → args[j]? = some v → Value.okWide Tryd.prog W .any base t v)
    (hW : DataW.Whole enc Tryd.prog Tryd.f13.params.toList Rows.stampDatesSpec.vars false W args.toList ds gs before) (hL : laidMet Tryd.prog Rows.stampDatesRow.laid W) (hsh : W.ShapedOpen Tryd.prog) :
    Calls Tryd.prog 13 args W fun e W' => ∃ v, e = .returned v ∧ Rows.stampDatesSpec.post enc Tryd.prog Tryd.f13 false true false false W args v W' := by
  have hW' := hW
  obtain ⟨p, q, hA0, hV, rfl, hfz, hnd⟩ := hW
  have hA : DataW.TrodAll enc Tryd.prog W 0 (fun _ => true) true Tryd.f13.params.toList args.toList ds p := hA0
  rw [Tryd.params13] at hA hval
  obtain ⟨v0, vs0, d0, ds0, p0, q0, hargs, rfl, rfl, h0, r0⟩ := trodAll_cons hA
  obtain ⟨v1, vs1, d1, ds1, p1, q1, rfl, rfl, rfl, h1, r1⟩ := trodAll_cons r0
  obtain ⟨v2, vs2, d2, ds2, p2, q2, rfl, rfl, rfl, h2, r2⟩ := trodAll_cons r1
  obtain ⟨v3, vs3, d3, ds3, p3, q3, rfl, rfl, rfl, h3, r3⟩ := trodAll_cons r2
  obtain ⟨rfl, rfl, rfl⟩ := trodAll_nil r3
  obtain rfl : args = #[v0, v1, v2, v3] := by cases args; simp_all
  obtain ⟨rfl, rfl⟩ := trodVars_none hV
  obtain ⟨a0, rfl, rfl, rfl, w0⟩ := open_int Tryd.underlying3 (hval 0 3 v0 rfl rfl) h0
  obtain ⟨a1, rfl, rfl, rfl, w1⟩ := open_int Tryd.underlying3 (hval 1 3 v1 rfl rfl) h1
  obtain ⟨a2, rfl, rfl, rfl, w2⟩ := open_int Tryd.underlying3 (hval 2 3 v2 rfl rfl) h2
  obtain ⟨a3, rfl, rfl, rfl, w3⟩ := open_int Tryd.underlying3 (hval 3 3 v3 rfl rfl) h3
  clear hA0
  simp only [List.append_nil] at hW'
  refine (walk a0 (bounds_i64 w0).1 (bounds_i64 w0).2 a1 (bounds_i64 w1).1 (bounds_i64 w1).2 a2 (bounds_i64 w2).1 (bounds_i64 w2).2 a3 (bounds_i64 w3).1 (bounds_i64 w3).2 W (lens_of hL (List.mem_of_getElem? (i := 3) rfl)) (pow_of hL (List.mem_of_getElem? (i := 2) rfl))).mono fun e W' ⟨he, hg⟩ => ?_
  subst he
  exact ⟨_, rfl, post_of_below (pa := []) (pv := []) hW' (fun _ _ _ => trodAll_cons_mk (shut_bool Tryd.underlying4 _) trodAll_mk0) (fun _ _ => (trodAll_cons_mk (shut_int Tryd.underlying3 w0) (trodAll_cons_mk (shut_int Tryd.underlying3 w1) (trodAll_cons_mk (shut_int Tryd.underlying3 w2) (trodAll_cons_mk (shut_int Tryd.underlying3 w3) trodAll_mk0))))) (fun _ _ => rfl) rfl
    hg (ok_one (by kernel_rfl) rfl (okWide_bool_mk Tryd.underlying4 _))⟩

/-- A world for the witness: the settled one, the listed variables holding what their initialisers lay. -/
noncomputable def laidWorld (os : Os) : World := put (put (put (put (bare os) 5 (flat1 Rows.laid_math_bits_deBruijn32tab)) 6 (flat1 Rows.laid_math_bits_deBruijn64tab)) 2 (flat1 Rows.laid_internal_strconv_uint64pow10)) 0 (flat1 Rows.laid_timeball_civil_lengths)
set_option maxRecDepth 100000 in
theorem laid_met (os : Os) : laidMet Tryd.prog Rows.stampDatesRow.laid ((laidWorld os).forCall (fun _ _ => 0) ⟨#[], #[.int .i64 0, .int .i64 0, .int .i64 0, .int .i64 0], []⟩).memory :=
  laidMet_of_run3 8 (by kernel_rfl) (by kernel_rfl) (by kernel_rfl)
theorem reads (os : Os) {H : Type} (enc : TypeId × Value → H) : ∃ places, DataW.whole enc Tryd.prog ((laidWorld os).forCall (fun _ _ => 0) ⟨#[], #[.int .i64 0, .int .i64 0, .int .i64 0, .int .i64 0], []⟩).memory Tryd.f13.params.toList Rows.stampDatesSpec.vars false #[Value.int .i64 0, Value.int .i64 0, Value.int .i64 0, Value.int .i64 0].toList 8 = some ([.lit (.int .i64 0), .lit (.int .i64 0), .lit (.int .i64 0), .lit (.int .i64 0)], [], places) :=
  ⟨[], by kernel_rfl⟩

set_option maxRecDepth 100000 in
theorem lifted (os : Os) (started : os.Started) (H : Type) (enc : TypeId × Value → H) (F : Stop.Interp) :
    ReturnsInHanded {} Tryd.checked os 13 .any ((OpenSpec.ofChange Rows.stampDatesSpec).preRow enc Tryd.prog Tryd.f13 Rows.stampDatesRow.domain false Rows.stampDatesRow.laid) (((OpenSpec.ofChange Rows.stampDatesSpec).at F).post enc Tryd.prog Tryd.f13 false true false false) := by
  obtain ⟨places, hx⟩ := reads os enc
  refine returnsInHanded_of_row (C := Tryd.checked) (s := OpenSpec.ofChange Rows.stampDatesSpec) own started (by kernel_rfl) Tryd.func13
    (witness_row_at (enc := enc) (C := Tryd.checked) false (laidWorld os) #[.int .i64 0, .int .i64 0, .int .i64 0, .int .i64 0] rfl (by kernel_rfl) (by kernel_rfl) (by kernel_rfl)
      (OpenSpec.preRow_of_cond 8 hx (by kernel_rfl) (fun k hk => by cases hk) (by kernel_rfl) (laid_met os))) ?_
  intro W base args ds gs before hval hW _ _ _ hL hsh _
  exact contract H enc W base args ds gs before hval hW hL hsh

theorem said : Rows.StampDatesSaid :=
  OpenClaim.holds_of_cond 13 Tryd.f13 rfl rfl rfl rfl rfl rfl rfl ⟨rfl, rfl, rfl, rfl, rfl⟩ rfl rfl rfl rfl rfl (by kernel_rfl) Tryd.func13 (by kernel_rfl)
    (of_decide_eq_true (by kernel_rfl)) (by unfold Func.isWrapper; first | (rw [if_pos (by decide +kernel)]; kernel_rfl) | (rw [if_neg (by decide +kernel)]; exact ⟨rfl, rfl⟩))
    (fun os started H enc _ F => by rw [OpenClaim.pre_eq_preRow]; exact lifted os started H enc F)

/-- No parameter wants a stand-in; the program's own looks are off. -/
theorem plain (f : FuncId) (fn : Func) (hf : Tryd.pinned.checked.prog.funcNamed "timeball/timeballkeep.StampDates" = some f) (hfn : Tryd.pinned.checked.prog.funcs[f]? = some fn) :
    false = Tryd.pinned.checked.prog.looks [] ∧ ∀ (j : Nat) t, fn.params[j]? = some t → Tryd.pinned.checked.prog.wantsStandIn t = false := by
  obtain rfl : f = 13 := Option.some.inj ((show Tryd.prog.funcNamed "timeball/timeballkeep.StampDates" = some 13 by kernel_rfl).symm.trans hf) |>.symm
  obtain rfl : fn = Tryd.f13 := (Option.some.inj (Tryd.func13.symm.trans hfn)).symm
  refine ⟨by kernel_rfl, fun j t ht => ?_⟩
  rw [Tryd.params13] at ht
  obtain rfl : t = 3 := by simpa using Array.mem_of_getElem? ht
  exact (show Tryd.prog.wantsStandIn 3 = false by kernel_rfl)

end Go.Proofs.YteciijcgnaojeaaDoor.stampDates
namespace Go.Proofs.YteciijcgnaojeaaDoor
/-- The card. -/
theorem stampDates_holds : Rows.StampDatesCardSaid :=
  Claim7.holds_tied_plain_at .later [] _ _ _ _ stampDates.said (fun _ h => by cases h) (by kernel_rfl) (fun _ h => by cases h) stampDates_row_tie rfl ⟨rfl, rfl⟩ (by kernel_rfl) rfl stampDates.plain (by kernel_rfl)
end Go.Proofs.YteciijcgnaojeaaDoor
