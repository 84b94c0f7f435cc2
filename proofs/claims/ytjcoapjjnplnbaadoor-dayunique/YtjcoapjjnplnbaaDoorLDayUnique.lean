/- The law DayUnique of package timeballkeep returns true for every input and leaves its arguments as they were: The seven weekdays on or after a day are seven consecutive days. Condition: the listed variables (timeball/civil.lengths) lie as their initialisers lay them; the card ties that to the program's text. -/
import Derived.Test.YtjcoapjjnplnbaaDoorCards
import Derived.Test.YtjcoapjjnplnbaaDoorTie
import Derived.Test.YtjcoapjjnplnbaaDoorR0
import Derived.Test.YtjcoapjjnplnbaaDoorE2
import Derived.Test.YtjcoapjjnplnbaaDoorS0
import Derived.Test.YtjcoapjjnplnbaaDoorE3
namespace Go.Proofs.YtjcoapjjnplnbaaDoor.dayUnique
open Go.ChangeShapes Go.WideShapes Go.ChangeAt Go.RowKit
open Go.ChangeMaps (open_string shut_string)
set_option linter.unusedVariables false
set_option linter.unusedSimpArgs false

set_option maxRecDepth 100000 in
set_option maxHeartbeats 4000000 in
theorem walk (y : Int) (y1 : -9223372036854775808 ≤ y) (y2 : y ≤ 9223372036854775807) (m : Int) (m1 : -9223372036854775808 ≤ m) (m2 : m ≤ 9223372036854775807) (n : Int) (n1 : -9223372036854775808 ≤ n) (n2 : n ≤ 9223372036854775807)
    (w : World) (ho : OfTab w) (hl : HasLen w) :
    Calls Tryd.prog 9 #[.int .i64 y, .int .i64 m, .int .i64 n] w fun e w' => e = .returned (.bool true) ∧ Gr w w' := by
  have law : Go.Maps.Keyed Tryd.prog 3 := Go.Maps.int_keyed Tryd.underlying3
  have hmm := @run_makeMap Tryd.prog
  have c0 := mondays_any w ho
  have c1 := fun w => date_any y m n w y1 y2 m1 m2 n1 n2
  have hv := date_valid y m n
  generalize y % 800 + 1600 = Y at c1 hv
  generalize m % 12 + 1 = M at c1 hv
  generalize n % Cal.ml Y M + 1 = D at c1 hv
  have C1 := Lib.hid c1
  have HO := Lib.hid ho
  have HT := Lib.hid hl
  have HV := Lib.hid hv
  obtain ⟨v1, v2, v3, v4, v5, v6⟩ := hv
  have mb := (Cal.ml_bd Y v3 v4).2
  clear c1 ho hl
  by_cases last : Y = 2399 ∧ M = 12
  · obtain ⟨x1, x2⟩ := last
    subst x1 x2
    go_enter Tryd.func9, Tryd.ntmps9
    go_wp2_with fail
    refine c0.mono ?_
    rintro e w1 ⟨rfl, hg1⟩
    clear c0
    go_wp2_with fail
    refine (C1.out w1).mono ?_
    rintro e w2 ⟨rfl, hg2⟩
    go_wp2_with fail
    go_ret
    exact ⟨rfl, hg1.trans hg2⟩
  · have tl : ((Y == 2399) = true ∧ (M == 12) = false) ∨ (Y == 2399) = false := by
      by_cases yy : Y = 2399
      · exact Or.inl ⟨beqT yy, beqF (fun h => last ⟨yy, h⟩)⟩
      · exact Or.inr (beqF yy)
    have nx := after_bd v1 v2 v3 v4 last
    have K2 := Lib.hid (fun w hl => days_yes Y M D w hl HV.out)
    have db := Cal.days_bd HV.out
    obtain ⟨db1, db2⟩ := db
    have df : Cal.days Y M D = Cal.days Y M 1 + D - 1 := by unfold Cal.days; omega
    have KO : Hid (∀ k : Nat, k ≤ 6 → ∀ w, OfTab w → Calls Tryd.prog 12 #[.int .i64 Y, .int .i64 M, dayV 3 k D] w fun e w' => e = two (nd (Cal.days Y M D) k) 0 ∧ Gr w w') := fun k hk w h => by
      have K := dayOf Y M 3 k D w h
      have t : dayT Y M 3 k D = nd (Cal.days Y M D) k := by simp only [dayT]; simp only [Int.reduceEq, if_false, if_true]; rw [df]
      have b := nd_bd (Cal.days Y M D) k
      rw [dayA_yes (by unfold DayOk; omega) v1 v2 v3 v4 (by omega) (by omega) (by omega), t] at K
      exact K
    clear nx df last HV
    generalize Cal.days Y M D = A at K2 db1 db2 KO
    have main : ∀ w2, Gr w w2 → HasLen w2 → OfTab w2 → Hid True := fun _ _ _ _ => trivial
    clear main
    rcases tl with ⟨u1, u2⟩ | u1
    all_goals
      go_enter Tryd.func9, Tryd.ntmps9
      go_wp2_with fail
      refine c0.mono ?_
      rintro e w1 ⟨rfl, hg1⟩
      clear c0
      go_wp2_with fail
      refine (C1.out w1).mono ?_
      rintro e w2 ⟨rfl, hg2⟩
      have g2 := hg1.trans hg2
      clear hg1 hg2 C1
      go_wp2_with fail
      refine (K2.out w2 (g2.len HT.out)).mono ?_
      rintro e w3 ⟨rfl, rfl⟩
      clear K2
      go_wp2_with fail
      have S0 := Lib.hid (HasSet.made w2 A)
      have g3 := Lib.hid (g2.alloc' (.map #[] 0))
      have hB := Lib.hid (g2.size)
      generalize w2.alloc (.map #[] 0) = w4 at S0 g3 ⊢
      generalize w2.heap.size = B at S0 hB ⊢
      clear g2
      go_loopw [39] (fun i wr => ∃ k : Nat, k ≤ 7 ∧ i = .int .i64 k ∧ HasSet wr B A k ∧ Gr w wr) (fun i _ => 7 - (intOf i).toNat)
      case atStart => exact ⟨0, by omega, rfl, S0.out, g3.out⟩
      case round =>
        obtain ⟨k, hk, rfl, hset, hg⟩ := hrel
        have HS := Lib.hid hset
        clear hset
        by_cases hlt : k < 7
        · have nb := nd_bd A k
          have k1 := Lib.hid (KO.out k (by omega))
          have nb1 := nb.1
          have nb2 := nb.2
          have step : Hid (∀ es, Seen A k es → ∃ es', (DataW.map es).put (.int .i64 (nd A k)) (.lit (.bool true)) = .map es' ∧ Seen A (k + 1) es') := fun es h => h.put (by omega) _
          have t1 : ¬ nd A k < A := by omega
          have t1' := ltF t1
          have t2 : ¬ A + 6 < nd A k := by omega
          have t2' := ltF t2
          clear nb
          generalize nd A k = x at k1 nb1 nb2 step t1 t1' t2 t2'
          go_wp2_with fail
          refine (k1.out wr (Gr.ofT hg HO.out)).mono ?_
          rintro e w5 ⟨rfl, hg5⟩
          have hs5 := HS.out.gr hg5
          have g5 := Lib.hid (hg.trans hg5)
          clear hg hg5 HS k1
          obtain ⟨es, hown, hseen⟩ := hs5
          have hkey : keyOf Tryd.prog 3 (.int .i64 x) = some (.int .i64 x) := Go.Maps.keyOf_int_mk Tryd.underlying3 (WalkArith.wf_i64 (by omega))
          have HSEEN := Lib.hid hseen
          clear hseen
          go_wp2_with (first | (at_mapUpdate; refine wpList_mapUpdate_own _ rfl _ _ _ 44 rfl 3 4 law Tryd.underlying44 _ B k _ rfl hown (by unfold maxLen; omega) _ _ _ rfl rfl hkey _ [] (plainElem_bool Tryd.underlying4 true) ?_; intro w6 hown1 hgrow1) | go_in)
          go_roundw
          case rel =>
            obtain ⟨es', e1, hs'⟩ := step.out es HSEEN.out
            rw [e1] at hown1
            exact ⟨k + 1, by omega, by go_num, ⟨es', hown1, hs'⟩, Below.grown g5.out hgrow1 g5.out.size (fun j hj => by cases hj; exact hB.out)⟩
          case measure => simp [intOf]; omega
        · obtain rfl : k = 7 := by omega
          obtain ⟨es, hown, hseen⟩ := HS.out
          have len := Lib.hid hseen.1
          clear hseen HS
          go_wp2_with (first | (at_len; refine wpList_len_own _ rfl _ 44 rfl 3 4 Tryd.underlying44 _ B 7 _ rfl hown ?_; rw [show Go.Maps.size (DataW.map es) = 7 from len.out]) | go_in)
          go_ret
          exact ⟨rfl, hg⟩


set_option maxRecDepth 100000 in
theorem contract (H : Type) (enc : TypeId × Value → H) (W : World) (base : Nat) (args : Array Value) (ds gs : List (DataW H)) (before : List MemPlace)
    (hval : ∀ (j : Nat) t v, Tryd.f9.params[j]? = some t → args[j]? = some v → Value.okWide Tryd.prog W .any base t v)
    (hW : DataW.Whole enc Tryd.prog Tryd.f9.params.toList Rows.dayUniqueSpec.vars false W args.toList ds gs before) (hL : laidMet Tryd.prog Rows.dayUniqueRow.laid W) (hsh : W.ShapedOpen Tryd.prog) :
    Calls Tryd.prog 9 args W fun e W' => ∃ v, e = .returned v ∧ Rows.dayUniqueSpec.post enc Tryd.prog Tryd.f9 false true false false W args v W' := by
  have hW' := hW
  obtain ⟨p, q, hA0, hV, rfl, hfz, hnd⟩ := hW
  have hA : DataW.TrodAll enc Tryd.prog W 0 (fun _ => true) true Tryd.f9.params.toList args.toList ds p := hA0
  rw [Tryd.params9] at hA hval
  obtain ⟨v0, vs0, d0, ds0, p0, q0, hargs, rfl, rfl, h0, r0⟩ := trodAll_cons hA
  obtain ⟨v1, vs1, d1, ds1, p1, q1, rfl, rfl, rfl, h1, r1⟩ := trodAll_cons r0
  obtain ⟨v2, vs2, d2, ds2, p2, q2, rfl, rfl, rfl, h2, r2⟩ := trodAll_cons r1
  obtain ⟨rfl, rfl, rfl⟩ := trodAll_nil r2
  obtain rfl : args = #[v0, v1, v2] := by cases args; simp_all
  obtain ⟨rfl, rfl⟩ := trodVars_none hV
  obtain ⟨a0, rfl, rfl, rfl, w0⟩ := open_int Tryd.underlying3 (hval 0 3 v0 rfl rfl) h0
  obtain ⟨a1, rfl, rfl, rfl, w1⟩ := open_int Tryd.underlying3 (hval 1 3 v1 rfl rfl) h1
  obtain ⟨a2, rfl, rfl, rfl, w2⟩ := open_int Tryd.underlying3 (hval 2 3 v2 rfl rfl) h2
  clear hA0
  simp only [List.append_nil] at hW'
  refine (walk a0 (bounds_i64 w0).1 (bounds_i64 w0).2 a1 (bounds_i64 w1).1 (bounds_i64 w1).2 a2 (bounds_i64 w2).1 (bounds_i64 w2).2 W (lens_of hL (List.mem_of_getElem? (i := 0) rfl)) (lens_of hL (List.mem_of_getElem? (i := 0) rfl))).mono fun e W' ⟨he, hg⟩ => ?_
  subst he
  exact ⟨_, rfl, post_of_below (pa := []) (pv := []) hW' (fun _ _ _ => trodAll_cons_mk (shut_bool Tryd.underlying4 _) trodAll_mk0) (fun _ _ => (trodAll_cons_mk (shut_int Tryd.underlying3 w0) (trodAll_cons_mk (shut_int Tryd.underlying3 w1) (trodAll_cons_mk (shut_int Tryd.underlying3 w2) trodAll_mk0)))) (fun _ _ => rfl) rfl
    hg (ok_one (by kernel_rfl) rfl (okWide_bool_mk Tryd.underlying4 _))⟩

/-- A world for the witness: the settled one, the listed variables holding what their initialisers lay. -/
noncomputable def laidWorld (os : Os) : World := put (bare os) 1 (flat1 Rows.laid_timeball_civil_lengths)
set_option maxRecDepth 100000 in
theorem laid_met (os : Os) : laidMet Tryd.prog Rows.dayUniqueRow.laid ((laidWorld os).forCall (fun _ _ => 0) ⟨#[], #[.int .i64 0, .int .i64 0, .int .i64 0], []⟩).memory :=
  laidMet_of_run3 8 (by kernel_rfl) (by kernel_rfl) (by kernel_rfl)
theorem reads (os : Os) {H : Type} (enc : TypeId × Value → H) : ∃ places, DataW.whole enc Tryd.prog ((laidWorld os).forCall (fun _ _ => 0) ⟨#[], #[.int .i64 0, .int .i64 0, .int .i64 0], []⟩).memory Tryd.f9.params.toList Rows.dayUniqueSpec.vars false #[Value.int .i64 0, Value.int .i64 0, Value.int .i64 0].toList 8 = some ([.lit (.int .i64 0), .lit (.int .i64 0), .lit (.int .i64 0)], [], places) :=
  ⟨[], by kernel_rfl⟩

set_option maxRecDepth 100000 in
theorem lifted (os : Os) (started : os.Started) (H : Type) (enc : TypeId × Value → H) (F : Stop.Interp) :
    ReturnsInHanded {} Tryd.checked os 9 .any ((OpenSpec.ofChange Rows.dayUniqueSpec).preRow enc Tryd.prog Tryd.f9 Rows.dayUniqueRow.domain false Rows.dayUniqueRow.laid) (((OpenSpec.ofChange Rows.dayUniqueSpec).at F).post enc Tryd.prog Tryd.f9 false true false false) := by
  obtain ⟨places, hx⟩ := reads os enc
  refine returnsInHanded_of_row (C := Tryd.checked) (s := OpenSpec.ofChange Rows.dayUniqueSpec) own started (by kernel_rfl) Tryd.func9
    (witness_row_at (enc := enc) (C := Tryd.checked) false (laidWorld os) #[.int .i64 0, .int .i64 0, .int .i64 0] rfl (by kernel_rfl) (by kernel_rfl) (by kernel_rfl)
      (OpenSpec.preRow_of_cond 8 hx (by kernel_rfl) (fun k hk => by cases hk) (by kernel_rfl) (laid_met os))) ?_
  intro W base args ds gs before hval hW _ _ _ hL hsh _
  exact contract H enc W base args ds gs before hval hW hL hsh

theorem said : Rows.DayUniqueSaid :=
  OpenClaim.holds_of_cond 9 Tryd.f9 rfl rfl rfl rfl rfl rfl rfl ⟨rfl, rfl, rfl, rfl, rfl⟩ rfl rfl rfl rfl rfl (by kernel_rfl) Tryd.func9 (by kernel_rfl)
    (of_decide_eq_true (by kernel_rfl)) (by unfold Func.isWrapper; first | (rw [if_pos (by decide +kernel)]; kernel_rfl) | (rw [if_neg (by decide +kernel)]; exact ⟨rfl, rfl⟩))
    (fun os started H enc _ F => by rw [OpenClaim.pre_eq_preRow]; exact lifted os started H enc F)

set_option maxRecDepth 100000 in
/-- No parameter wants a stand-in; whether the program has looks of its own. -/
theorem plain (f : FuncId) (fn : Func) (hf : Tryd.pinned.checked.prog.funcNamed "timeball/timeballkeep.DayUnique" = some f) (hfn : Tryd.pinned.checked.prog.funcs[f]? = some fn) :
    true = Tryd.pinned.checked.prog.looks [] ∧ ∀ (j : Nat) t, fn.params[j]? = some t → Tryd.pinned.checked.prog.wantsStandIn t = false := by
  obtain rfl : f = 9 := Option.some.inj ((show Tryd.prog.funcNamed "timeball/timeballkeep.DayUnique" = some 9 by kernel_rfl).symm.trans hf) |>.symm
  obtain rfl : fn = Tryd.f9 := (Option.some.inj (Tryd.func9.symm.trans hfn)).symm
  refine ⟨by kernel_rfl, fun j t ht => ?_⟩
  rw [Tryd.params9] at ht
  obtain rfl : t = 3 := by simpa using Array.mem_of_getElem? ht
  exact (show Tryd.prog.wantsStandIn 3 = false by kernel_rfl)

end Go.Proofs.YtjcoapjjnplnbaaDoor.dayUnique
namespace Go.Proofs.YtjcoapjjnplnbaaDoor
/-- The card. -/
theorem dayUnique_holds : Rows.DayUniqueCardSaid :=
  Claim7.holds_tied_plain_at .later [] _ _ _ _ dayUnique.said (fun _ h => by cases h) (by kernel_rfl) (fun _ h => by cases h) dayUnique_row_tie rfl ⟨rfl, rfl⟩ (by kernel_rfl) rfl dayUnique.plain (by kernel_rfl)
end Go.Proofs.YtjcoapjjnplnbaaDoor
