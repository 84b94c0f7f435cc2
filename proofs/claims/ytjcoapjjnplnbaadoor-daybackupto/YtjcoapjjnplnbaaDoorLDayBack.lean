/- The law DayBack of package timeballkeep returns true for every input and where the arguments hold together at most 1048576 values and letters and leaves its arguments as they were: A day is read as it was written; what is read is written so. Condition: the listed variables (math/bits.deBruijn32tab, math/bits.deBruijn64tab, internal/strconv.uint64pow10, timeball/civil.lengths, strconv.ErrRange, strconv.ErrSyntax, timeball/day.weekdays) lie as their initialisers lay them; the card ties that to the program's text. -/
import Derived.Test.YtjcoapjjnplnbaaDoorCards
import Derived.Test.YtjcoapjjnplnbaaDoorTie
import Derived.Test.YtjcoapjjnplnbaaDoorR0
import Derived.Test.YtjcoapjjnplnbaaDoorE2
import Derived.Test.YtjcoapjjnplnbaaDoorS0
import Derived.Test.YtjcoapjjnplnbaaDoorD4
import Derived.Test.YtjcoapjjnplnbaaDoorR1
namespace Go.Proofs.YtjcoapjjnplnbaaDoor.dayBack
open Go.ChangeShapes Go.WideShapes Go.ChangeAt Go.RowKit
open Go.ChangeMaps (open_string shut_string)
set_option linter.unusedVariables false
set_option linter.unusedSimpArgs false

set_option maxHeartbeats 4000000 in
theorem walk (k d n : Int) (s : ByteArray) (hm : s.size ≤ maxLen) (w : World) (ho : OfTab w) (ht : TxTab w) (hr : RdTab w) (hs : s.size ≤ 1048576) :
    Calls Tryd.prog 7 #[dayV k d n, .string s] w fun e w' => e = .returned (.bool true) ∧ Gr w w' := by
  have c0 := Lib.hid (fun w h => mondays_any w h)
  have HO := Lib.hid ho
  have HT := Lib.hid ht
  have HR := Lib.hid hr
  have KC0 := dayCheck k d n
  have KT0 := fun w h => dayText k d n w h
  have L := laid3 w k d n 23
  clear ho ht hr
  have last : Hid (∃ (k' d' n' b : Int) (l : List UInt8) (b' : Int), (∀ w, RdTab w → Calls Tryd.prog 18 #[.string s] w fun e w' => e = dayInt k' d' n' b ∧ Gr w w') ∧ (∀ w, TxTab w → Calls Tryd.prog 16 #[dayV k' d' n'] w fun e w' => e = strInt (S l) b' ∧ Gr w w') ∧
      ((b = 0 ∧ b' = 0 ∧ l = s.toList) ∨ (b = 3 ∧ k' = 0 ∧ d' = 0 ∧ n' = 0))) := by
    by_cases h : ∃ k d n, DayOk k d n ∧ dayL k d n = s.toList
    · obtain ⟨k', d', n', ok, hl⟩ := h
      refine ⟨k', d', n', 0, s.toList, 0, fun w h => (dayRead s w h hs).mono (fun e w' hh => ⟨dayReadA_yes hh.1 ok hl, hh.2⟩), fun w h => ?_, Or.inl ⟨rfl, rfl, rfl⟩⟩
      have := dayText k' d' n' w h
      unfold dayTextA at this
      rw [if_pos ok, hl] at this
      exact this
    · obtain ⟨l, b', e⟩ := dayTextA_two 0 0 0
      refine ⟨0, 0, 0, 3, l, b', fun w hh => (dayRead s w hh hs).mono (fun e w' hh => ⟨dayReadA_no hh.1 h, hh.2⟩), fun w h => ?_, Or.inr ⟨rfl, rfl, rfl, rfl⟩⟩
      have := dayText 0 0 0 w h
      rw [e] at this
      exact this
  obtain ⟨k', d', n', b, l, b', KR, KU, hcase⟩ := last.out
  have KR' := Lib.hid KR
  have KU' := Lib.hid KU
  have HC := Lib.hid hcase
  clear last KR KU hcase
  by_cases ok : DayOk k d n
  · have KT1 := KT0
    unfold dayTextA at KT1
    rw [if_pos ok] at KT1
    have KT := Lib.hid KT1
    rw [dchk_yes ok] at KC0
    have KC := Lib.hid KC0
    have bd := dayOk_bd ok
    have tl := tells_dz (n := n) (by omega) (by omega)
    have sz : (dayL k d n).length ≤ 20 := by
      unfold dayL
      split
      · omega
      · split
        · simp [wk_length]
        · split <;> simp [wk_length] <;> omega
    have KB : Hid (∀ w, RdTab w → Calls Tryd.prog 18 #[.string (S (dayL k d n))] w fun e w' => e = dayInt k d n 0 ∧ Gr w w') := fun w h =>
      (dayRead (S (dayL k d n)) w h (by rw [S_size]; omega)).mono (fun e w' hh => ⟨dayReadA_yes hh.1 ok (S_toList _).symm, hh.2⟩)
    clear KT0 KT1 KC0 bd tl sz ok
    generalize dayL k d n = lt at KT KB
    go_enter Tryd.func7, Tryd.ntmps7
    go_wp2_with fail
    generalize w.alloc (.cells #[.int .i64 k, .int .i64 d, .int .i64 n] 23) = w0 at L ⊢
    generalize w.heap.size = q at L ⊢
    have HL := Lib.hid L
    clear L
    refine (c0.out w0 (Gr.ofT HL.out.2.2.2 HO.out)).mono ?_
    rintro e w1 ⟨rfl, hg1⟩
    have L1 := keep4 HL.out hg1
    clear HL hg1 c0
    have c0 := L1.1
    have c1 := L1.2.1
    have c2 := L1.2.2.1
    have HL := Lib.hid L1
    clear L1
    go_wp2_with fail
    refine (KT.out w1 (Gr.txT HL.out.2.2.2 HT.out)).mono ?_
    rintro e w2 ⟨rfl, hg2⟩
    have L2 := keep4 HL.out hg2
    clear HL hg2 c0 c1 c2 KT
    have c0 := L2.1
    have c1 := L2.2.1
    have c2 := L2.2.2.1
    have HL := Lib.hid L2
    clear L2
    go_wp2_with fail
    refine (KC.out w2).mono ?_
    rintro e w3 ⟨rfl, hg3⟩
    have L3 := keep4 HL.out hg3
    clear HL hg3 c0 c1 c2 KC
    have c0 := L3.1
    have c1 := L3.2.1
    have c2 := L3.2.2.1
    have HL := Lib.hid L3
    clear L3
    go_wp2_with fail
    refine (KB.out w3 (Gr.rdT HL.out.2.2.2 HR.out)).mono ?_
    rintro e w4 ⟨rfl, hg4⟩
    have L4 := keep4 HL.out hg4
    clear HL hg4 c0 c1 c2 KB
    have M := laid3 w4 k d n 23
    have N4 := keep4 L4 M.2.2.2
    have c0 := N4.1
    have c1 := N4.2.1
    have c2 := N4.2.2.1
    have b0 := M.1
    have b1 := M.2.1
    have b2 := M.2.2.1
    have HL := Lib.hid N4
    clear L4 M N4
    go_wp2_with fail
    generalize w4.alloc (.cells #[.int .i64 k, .int .i64 d, .int .i64 n] 23) = w9 at c0 c1 c2 b0 b1 b2 HL ⊢
    clear b0 b1 b2
    refine (KR'.out w9 (Gr.rdT HL.out.2.2.2 HR.out)).mono ?_
    rintro e w5 ⟨rfl, hg5⟩
    have g5 := HL.out.2.2.2.trans hg5
    clear HL hg5 c0 c1 c2 KR'
    have M := laid3 w5 k' d' n' 23
    have g6 := g5.trans M.2.2.2
    have HM := Lib.hid M
    have c0 := M.1
    have c1 := M.2.1
    have c2 := M.2.2.1
    clear M g5
    go_wp2_with fail
    generalize w5.alloc (.cells #[.int .i64 k', .int .i64 d', .int .i64 n'] 23) = w6 at c0 c1 c2 g6 ⊢
    generalize w5.heap.size = p at c0 c1 c2 ⊢
    clear HM
    refine (KU'.out w6 (Gr.txT g6 HT.out)).mono ?_
    rintro e w7 ⟨rfl, hg7⟩
    have g7 := g6.trans hg7
    have d0 := hg7.holds c0
    have d1 := hg7.holds c1
    have d2 := hg7.holds c2
    clear g6 hg7 c0 c1 c2 KU'
    rcases HC.out with ⟨x1, x2, x3⟩ | ⟨x1, x2, x3, x4⟩
    · subst x1 x2
      have x3' : (l == s.toList) = true := by simpa using x3
      clear HC x3
      go_wp2_with fail
      go_ret
      exact ⟨rfl, g7⟩
    · subst x1 x2 x3 x4
      clear HC
      go_wp2_with fail
      go_ret
      exact ⟨rfl, g7⟩
  · have KT1 := KT0
    unfold dayTextA at KT1
    rw [if_neg ok] at KT1
    have KT := Lib.hid KT1
    rw [dchk_no ok] at KC0
    have KC := Lib.hid KC0
    clear KT0 KT1 KC0 ok
    go_enter Tryd.func7, Tryd.ntmps7
    go_wp2_with fail
    generalize w.alloc (.cells #[.int .i64 k, .int .i64 d, .int .i64 n] 23) = w0 at L ⊢
    generalize w.heap.size = q at L ⊢
    have HL := Lib.hid L
    clear L
    refine (c0.out w0 (Gr.ofT HL.out.2.2.2 HO.out)).mono ?_
    rintro e w1 ⟨rfl, hg1⟩
    have L1 := keep4 HL.out hg1
    clear HL hg1 c0
    have c0 := L1.1
    have c1 := L1.2.1
    have c2 := L1.2.2.1
    have HL := Lib.hid L1
    clear L1
    go_wp2_with fail
    refine (KT.out w1 (Gr.txT HL.out.2.2.2 HT.out)).mono ?_
    rintro e w2 ⟨rfl, hg2⟩
    have L2 := keep4 HL.out hg2
    clear HL hg2 c0 c1 c2 KT
    have c0 := L2.1
    have c1 := L2.2.1
    have c2 := L2.2.2.1
    have HL := Lib.hid L2
    clear L2
    go_wp2_with fail
    refine (KC.out w2).mono ?_
    rintro e w3 ⟨rfl, hg3⟩
    have L3 := keep4 HL.out hg3
    clear HL hg3 c0 c1 c2 KC
    have c0 := L3.1
    have c1 := L3.2.1
    have c2 := L3.2.2.1
    have HL := Lib.hid L3
    clear L3
    go_wp2_with fail
    refine (KR'.out w3 (Gr.rdT HL.out.2.2.2 HR.out)).mono ?_
    rintro e w5 ⟨rfl, hg5⟩
    have g5 := HL.out.2.2.2.trans hg5
    clear HL hg5 c0 c1 c2 KR'
    have M := laid3 w5 k' d' n' 23
    have g6 := g5.trans M.2.2.2
    have HM := Lib.hid M
    have c0 := M.1
    have c1 := M.2.1
    have c2 := M.2.2.1
    clear M g5
    go_wp2_with fail
    generalize w5.alloc (.cells #[.int .i64 k', .int .i64 d', .int .i64 n'] 23) = w6 at c0 c1 c2 g6 ⊢
    generalize w5.heap.size = p at c0 c1 c2 ⊢
    clear HM
    refine (KU'.out w6 (Gr.txT g6 HT.out)).mono ?_
    rintro e w7 ⟨rfl, hg7⟩
    have g7 := g6.trans hg7
    have d0 := hg7.holds c0
    have d1 := hg7.holds c1
    have d2 := hg7.holds c2
    clear g6 hg7 c0 c1 c2 KU'
    rcases HC.out with ⟨x1, x2, x3⟩ | ⟨x1, x2, x3, x4⟩
    · subst x1 x2
      have x3' : (l == s.toList) = true := by simpa using x3
      clear HC x3
      go_wp2_with fail
      go_ret
      exact ⟨rfl, g7⟩
    · subst x1 x2 x3 x4
      clear HC
      go_wp2_with fail
      go_ret
      exact ⟨rfl, g7⟩

theorem short1 {H : Type} {a0 b0 c0 : Int} {a1 : ByteArray} (hk : Rows.uptoSmall H [dayD a0 b0 c0, .lit (.string a1.data.toList)] = true) : a1.size ≤ 1048576 := by
  have h : Rows.uptoBulkAll (H := H) [dayD a0 b0 c0, .lit (.string a1.data.toList)] ≤ 1048576 := of_decide_eq_true hk
  simp only [Rows.uptoBulkAll, Rows.uptoBulk] at h
  have e : a1.data.toList.length = a1.size := by rw [Array.length_toList]; rfl
  omega

set_option maxRecDepth 100000 in
theorem contract (H : Type) (enc : TypeId × Value → H) (W : World) (base : Nat) (args : Array Value) (ds gs : List (DataW H)) (before : List MemPlace)
    (hval : ∀ (j : Nat) t v, Tryd.f7.params[j]? = some t → args[j]? = some v → Value.okWide Tryd.prog W .any base t v)
    (hW : DataW.Whole enc Tryd.prog Tryd.f7.params.toList Rows.dayBackSpec.vars false W args.toList ds gs before) (hL : laidMet Tryd.prog Rows.dayBackUptoRow.laid W) (hsh : W.ShapedOpen Tryd.prog) (hk : Rows.uptoSmall H (ds ++ gs) = true) :
    Calls Tryd.prog 7 args W fun e W' => ∃ v, e = .returned v ∧ Rows.dayBackSpec.post enc Tryd.prog Tryd.f7 false true false false W args v W' := by
  have hW' := hW
  obtain ⟨p, q, hA0, hV, rfl, hfz, hnd⟩ := hW
  have hA : DataW.TrodAll enc Tryd.prog W 0 (fun _ => true) true Tryd.f7.params.toList args.toList ds p := hA0
  rw [Tryd.params7] at hA hval
  obtain ⟨v0, vs0, d0, ds0, p0, q0, hargs, rfl, rfl, h0, r0⟩ := trodAll_cons hA
  obtain ⟨v1, vs1, d1, ds1, p1, q1, rfl, rfl, rfl, h1, r1⟩ := trodAll_cons r0
  obtain ⟨rfl, rfl, rfl⟩ := trodAll_nil r1
  obtain rfl : args = #[v0, v1] := by cases args; simp_all
  obtain ⟨rfl, rfl⟩ := trodVars_none hV
  obtain ⟨a0, b0, c0, rfl, rfl, rfl, wa0, wb0, wc0⟩ := open_day (hval 0 23 v0 rfl rfl) h0
  obtain ⟨a1, rfl, rfl, rfl, w1⟩ := open_string Tryd.underlying9 (hval 1 9 v1 rfl rfl) h1
  clear hA0
  simp only [List.append_nil] at hW' hk
  refine (walk a0 b0 c0 a1 w1 W (lens_of hL (List.mem_of_getElem? (i := 3) rfl)) ⟨pow_of hL (List.mem_of_getElem? (i := 2) rfl), wk_of hL (List.mem_of_getElem? (i := 6) rfl)⟩ ⟨⟨pow_of hL (List.mem_of_getElem? (i := 2) rfl), wk_of hL (List.mem_of_getElem? (i := 6) rfl)⟩, syn_of hL (List.mem_of_getElem? (i := 5) rfl), rng_of hL (List.mem_of_getElem? (i := 4) rfl), max_of hsh⟩ (short1 hk)).mono fun e W' ⟨he, hg⟩ => ?_
  subst he
  exact ⟨_, rfl, post_of_below (pa := []) (pv := []) hW' (fun _ _ _ => trodAll_cons_mk (shut_bool Tryd.underlying4 _) trodAll_mk0) (fun _ _ => (trodAll_cons_mk (shut_day wa0 wb0 wc0) (trodAll_cons_mk (shut_string Tryd.underlying9 w1) trodAll_mk0))) (fun _ _ => rfl) rfl
    hg (ok_one (by kernel_rfl) rfl (okWide_bool_mk Tryd.underlying4 _))⟩

/-- A world for the witness: the settled one, the listed variables holding what their initialisers lay. -/
noncomputable def laidWorld (os : Os) : World := put (putErr (putErr (put (put (put (put (bare os) 6 (flat1 Rows.laid_math_bits_deBruijn32tab)) 7 (flat1 Rows.laid_math_bits_deBruijn64tab)) 2 (flat1 Rows.laid_internal_strconv_uint64pow10)) 1 (flat1 Rows.laid_timeball_civil_lengths)) 5 (textOf Rows.laid_strconv_ErrRange)) 4 (textOf Rows.laid_strconv_ErrSyntax)) 0 (flat1 Rows.laid_timeball_day_weekdays)
set_option maxRecDepth 100000 in
theorem laid_met (os : Os) : laidMet Tryd.prog Rows.dayBackUptoRow.laid ((laidWorld os).forCall (fun _ _ => 0) ⟨#[], #[.agg #[.int .i64 0, .int .i64 0, .int .i64 0], .string .empty], []⟩).memory :=
  laidMet_of_run3 8 (by kernel_rfl) (by kernel_rfl) (by kernel_rfl)
theorem reads (os : Os) {H : Type} (enc : TypeId × Value → H) : ∃ places, DataW.whole enc Tryd.prog ((laidWorld os).forCall (fun _ _ => 0) ⟨#[], #[.agg #[.int .i64 0, .int .i64 0, .int .i64 0], .string .empty], []⟩).memory Tryd.f7.params.toList Rows.dayBackSpec.vars false #[Value.agg #[.int .i64 0, .int .i64 0, .int .i64 0], Value.string .empty].toList 8 = some ([.agg [.lit (.int .i64 0), .lit (.int .i64 0), .lit (.int .i64 0)], .lit (.string [])], [], places) :=
  ⟨[], by kernel_rfl⟩

set_option maxRecDepth 100000 in
theorem lifted (os : Os) (started : os.Started) (H : Type) (enc : TypeId × Value → H) (F : Stop.Interp) :
    ReturnsInHanded {} Tryd.checked os 7 .any ((Rows.OpenSpec.upto Rows.dayBackSpec).preRow enc Tryd.prog Tryd.f7 Rows.dayBackUptoRow.domain false Rows.dayBackUptoRow.laid) (((Rows.OpenSpec.upto Rows.dayBackSpec).at F).post enc Tryd.prog Tryd.f7 false true false false) := by
  obtain ⟨places, hx⟩ := reads os enc
  refine returnsInHanded_of_row (C := Tryd.checked) (s := Rows.OpenSpec.upto Rows.dayBackSpec) own started (by kernel_rfl) Tryd.func7
    (witness_row_at (enc := enc) (C := Tryd.checked) false (laidWorld os) #[.agg #[.int .i64 0, .int .i64 0, .int .i64 0], .string .empty] rfl (by kernel_rfl) (by kernel_rfl) (by kernel_rfl)
      (OpenSpec.preRow_of_cond 8 hx (by kernel_rfl) (fun k hk => by cases hk; kernel_rfl) (by kernel_rfl) (laid_met os))) ?_
  intro W base args ds gs before hval hW _ hcond _ hL hsh _
  exact contract H enc W base args ds gs before hval hW hL hsh (hcond _ rfl)

theorem said : Rows.DayBackUptoSaid :=
  OpenClaim.holds_of_cond 7 Tryd.f7 rfl rfl rfl rfl rfl rfl rfl ⟨rfl, rfl, rfl, rfl, rfl⟩ rfl rfl rfl rfl rfl (by kernel_rfl) Tryd.func7 (by kernel_rfl)
    (of_decide_eq_true (by kernel_rfl)) (by unfold Func.isWrapper; first | (rw [if_pos (by decide +kernel)]; kernel_rfl) | (rw [if_neg (by decide +kernel)]; exact ⟨rfl, rfl⟩))
    (fun os started H enc _ F => by rw [OpenClaim.pre_eq_preRow]; exact lifted os started H enc F)

set_option maxRecDepth 100000 in
/-- No parameter wants a stand-in; whether the program has looks of its own. -/
theorem plain (f : FuncId) (fn : Func) (hf : Tryd.pinned.checked.prog.funcNamed "timeball/timeballkeep.DayBack" = some f) (hfn : Tryd.pinned.checked.prog.funcs[f]? = some fn) :
    true = Tryd.pinned.checked.prog.looks [] ∧ ∀ (j : Nat) t, fn.params[j]? = some t → Tryd.pinned.checked.prog.wantsStandIn t = false := by
  obtain rfl : f = 7 := Option.some.inj ((show Tryd.prog.funcNamed "timeball/timeballkeep.DayBack" = some 7 by kernel_rfl).symm.trans hf) |>.symm
  obtain rfl : fn = Tryd.f7 := (Option.some.inj (Tryd.func7.symm.trans hfn)).symm
  refine ⟨by kernel_rfl, fun j t ht => ?_⟩
  rw [Tryd.params7] at ht
  have hm : t = 9 ∨ t = 23 := by have := Array.mem_of_getElem? ht; simp at this; first | exact this | exact this.symm | (rcases this with h | h | h <;> simp [h]) | omega
  rcases hm with rfl | rfl
  · exact (show Tryd.prog.wantsStandIn 9 = false by kernel_rfl)
  · exact (show Tryd.prog.wantsStandIn 23 = false by kernel_rfl)

end Go.Proofs.YtjcoapjjnplnbaaDoor.dayBack
namespace Go.Proofs.YtjcoapjjnplnbaaDoor
/-- The card. -/
theorem dayBackUpto_holds : Rows.DayBackUptoCardSaid :=
  Claim7.holds_tied_plain_at .later [] _ _ _ _ dayBack.said (fun _ h => by cases h) (by kernel_rfl) (fun _ h => by cases h) dayBackUpto_row_tie rfl ⟨rfl, rfl⟩ (by kernel_rfl) rfl dayBack.plain (by kernel_rfl)
end Go.Proofs.YtjcoapjjnplnbaaDoor
