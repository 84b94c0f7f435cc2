/- The law DayReads of package timeballlaw returns true for every input and where the arguments hold together at most 1048576 values and letters and leaves its arguments as they were: Read returns what the reference returns. Condition: the listed variables (math/bits.deBruijn32tab, math/bits.deBruijn64tab, internal/strconv.uint64pow10, strconv.ErrRange, strconv.ErrSyntax, timeball/day.weekdays) lie as their initialisers lay them; the card ties that to the program's text. -/
import Derived.Test.YtjcoapjjnplnbaaDoorCards
import Derived.Test.YtjcoapjjnplnbaaDoorTie
import Derived.Test.YtjcoapjjnplnbaaDoorR0
import Derived.Test.YtjcoapjjnplnbaaDoorE2
import Derived.Test.YtjcoapjjnplnbaaDoorS0
import Derived.Test.YtjcoapjjnplnbaaDoorD4
import Derived.Test.YtjcoapjjnplnbaaDoorR1
namespace Go.Proofs.YtjcoapjjnplnbaaDoor.dayReads
open Go.ChangeShapes Go.WideShapes Go.ChangeAt Go.RowKit
open Go.ChangeMaps (open_string shut_string)
set_option linter.unusedVariables false
set_option linter.unusedSimpArgs false

set_option maxHeartbeats 1000000 in
theorem walk (s : ByteArray) (hm : s.size ≤ maxLen) (w : World) (hr : RdTab w) (hs : s.size ≤ 1048576) :
    Calls Tryd.prog 5 #[.string s] w fun e w' => e = .returned (.bool true) ∧ Gr w w' := by
  obtain ⟨k, d, n, b, Q⟩ := dayReadA_one (l := s.toList)
  have K1 := Lib.hid (fun w h => (dayRead s w h hs).mono (fun e w' hh => (⟨Q e hh.1, hh.2⟩ : e = dayInt k d n b ∧ Gr w w')))
  have K2 := Lib.hid (fun w => (rdayRead s w).mono (fun e w' hh => (⟨Q e hh.1, hh.2⟩ : e = dayInt k d n b ∧ Gr w w')))
  have KZ0 := dayCheck 0 0 0
  rw [show dchk 0 0 0 = 1 by decide] at KZ0
  have KZ := Lib.hid KZ0
  have HR := Lib.hid hr
  clear KZ0 hr Q
  unfold maxLen at hm
  go_enter Tryd.func5, Tryd.ntmps5
  go_wp2_with fail
  refine (K1.out w HR.out).mono ?_
  rintro e w2 ⟨rfl, hg2⟩
  clear K1
  have L := laid3 w2 k d n 23
  go_wp2_with fail
  generalize w2.alloc (.cells #[.int .i64 k, .int .i64 d, .int .i64 n] 23) = w3 at L ⊢
  generalize w2.heap.size = q at L ⊢
  have HL := Lib.hid L
  clear L
  refine (K2.out w3).mono ?_
  rintro e w4 ⟨rfl, hg4⟩
  clear K2
  have L4 := keep4 HL.out hg4
  have g4 := hg2.trans L4.2.2.2
  have M := laid3 w4 k d n 23
  have N4 := keep4 L4 M.2.2.2
  have a0 := N4.1
  have a1 := N4.2.1
  have a2 := N4.2.2.1
  have b0 := M.1
  have b1 := M.2.1
  have b2 := M.2.2.1
  have g5 := g4.trans M.2.2.2
  have G5 := Lib.hid g5
  clear HL hg4 L4 g4 M N4 hg2 g5
  go_wp2_with fail
  refine (KZ.out _).mono ?_
  rintro e w6 ⟨rfl, hg6⟩
  go_wp2_with fail
  go_ret
  exact ⟨rfl, G5.out.trans hg6⟩

theorem short0 {H : Type} {a0 : ByteArray} (hk : Rows.uptoSmall H [.lit (.string a0.data.toList)] = true) : a0.size ≤ 1048576 := by
  have h : Rows.uptoBulkAll (H := H) [.lit (.string a0.data.toList)] ≤ 1048576 := of_decide_eq_true hk
  simp only [Rows.uptoBulkAll, Rows.uptoBulk] at h
  have e : a0.data.toList.length = a0.size := by rw [Array.length_toList]; rfl
  omega

set_option maxRecDepth 100000 in
theorem contract (H : Type) (enc : TypeId × Value → H) (W : World) (base : Nat) (args : Array Value) (ds gs : List (DataW H)) (before : List MemPlace)
    (hval : ∀ (j : Nat) t v, Tryd.f5.params[j]? = some t → args[j]? = some v → Value.okWide Tryd.prog W .any base t v)
    (hW : DataW.Whole enc Tryd.prog Tryd.f5.params.toList Rows.dayReadsSpec.vars false W args.toList ds gs before) (hL : laidMet Tryd.prog Rows.dayReadsUptoRow.laid W) (hsh : W.ShapedOpen Tryd.prog) (hk : Rows.uptoSmall H (ds ++ gs) = true) :
    Calls Tryd.prog 5 args W fun e W' => ∃ v, e = .returned v ∧ Rows.dayReadsSpec.post enc Tryd.prog Tryd.f5 false true false false W args v W' := by
  have hW' := hW
  obtain ⟨p, q, hA0, hV, rfl, hfz, hnd⟩ := hW
  have hA : DataW.TrodAll enc Tryd.prog W 0 (fun _ => true) true Tryd.f5.params.toList args.toList ds p := hA0
  rw [Tryd.params5] at hA hval
  obtain ⟨v0, vs0, d0, ds0, p0, q0, hargs, rfl, rfl, h0, r0⟩ := trodAll_cons hA
  obtain ⟨rfl, rfl, rfl⟩ := trodAll_nil r0
  obtain rfl : args = #[v0] := by cases args; simp_all
  obtain ⟨rfl, rfl⟩ := trodVars_none hV
  obtain ⟨a0, rfl, rfl, rfl, w0⟩ := open_string Tryd.underlying9 (hval 0 9 v0 rfl rfl) h0
  clear hA0
  simp only [List.append_nil] at hW' hk
  refine (walk a0 w0 W ⟨⟨pow_of hL (List.mem_of_getElem? (i := 2) rfl), wk_of hL (List.mem_of_getElem? (i := 5) rfl)⟩, syn_of hL (List.mem_of_getElem? (i := 4) rfl), rng_of hL (List.mem_of_getElem? (i := 3) rfl), max_of hsh⟩ (short0 hk)).mono fun e W' ⟨he, hg⟩ => ?_
  subst he
  exact ⟨_, rfl, post_of_below (pa := []) (pv := []) hW' (fun _ _ _ => trodAll_cons_mk (shut_bool Tryd.underlying4 _) trodAll_mk0) (fun _ _ => (trodAll_cons_mk (shut_string Tryd.underlying9 w0) trodAll_mk0)) (fun _ _ => rfl) rfl
    hg (ok_one (by kernel_rfl) rfl (okWide_bool_mk Tryd.underlying4 _))⟩

/-- A world for the witness: the settled one, the listed variables holding what their initialisers lay. -/
noncomputable def laidWorld (os : Os) : World := put (putErr (putErr (put (put (put (bare os) 6 (flat1 Rows.laid_math_bits_deBruijn32tab)) 7 (flat1 Rows.laid_math_bits_deBruijn64tab)) 2 (flat1 Rows.laid_internal_strconv_uint64pow10)) 5 (textOf Rows.laid_strconv_ErrRange)) 4 (textOf Rows.laid_strconv_ErrSyntax)) 0 (flat1 Rows.laid_timeball_day_weekdays)
set_option maxRecDepth 100000 in
theorem laid_met (os : Os) : laidMet Tryd.prog Rows.dayReadsUptoRow.laid ((laidWorld os).forCall (fun _ _ => 0) ⟨#[], #[.string .empty], []⟩).memory :=
  laidMet_of_run3 8 (by kernel_rfl) (by kernel_rfl) (by kernel_rfl)
theorem reads (os : Os) {H : Type} (enc : TypeId × Value → H) : ∃ places, DataW.whole enc Tryd.prog ((laidWorld os).forCall (fun _ _ => 0) ⟨#[], #[.string .empty], []⟩).memory Tryd.f5.params.toList Rows.dayReadsSpec.vars false #[Value.string .empty].toList 8 = some ([.lit (.string [])], [], places) :=
  ⟨[], by kernel_rfl⟩

set_option maxRecDepth 100000 in
theorem lifted (os : Os) (started : os.Started) (H : Type) (enc : TypeId × Value → H) (F : Stop.Interp) :
    ReturnsInHanded {} Tryd.checked os 5 .any ((Rows.OpenSpec.upto Rows.dayReadsSpec).preRow enc Tryd.prog Tryd.f5 Rows.dayReadsUptoRow.domain false Rows.dayReadsUptoRow.laid) (((Rows.OpenSpec.upto Rows.dayReadsSpec).at F).post enc Tryd.prog Tryd.f5 false true false false) := by
  obtain ⟨places, hx⟩ := reads os enc
  refine returnsInHanded_of_row (C := Tryd.checked) (s := Rows.OpenSpec.upto Rows.dayReadsSpec) own started (by kernel_rfl) Tryd.func5
    (witness_row_at (enc := enc) (C := Tryd.checked) false (laidWorld os) #[.string .empty] rfl (by kernel_rfl) (by kernel_rfl) (by kernel_rfl)
      (OpenSpec.preRow_of_cond 8 hx (by kernel_rfl) (fun k hk => by cases hk; kernel_rfl) (by kernel_rfl) (laid_met os))) ?_
  intro W base args ds gs before hval hW _ hcond _ hL hsh _
  exact contract H enc W base args ds gs before hval hW hL hsh (hcond _ rfl)

theorem said : Rows.DayReadsUptoSaid :=
  OpenClaim.holds_of_cond 5 Tryd.f5 rfl rfl rfl rfl rfl rfl rfl ⟨rfl, rfl, rfl, rfl, rfl⟩ rfl rfl rfl rfl rfl (by kernel_rfl) Tryd.func5 (by kernel_rfl)
    (of_decide_eq_true (by kernel_rfl)) (by unfold Func.isWrapper; first | (rw [if_pos (by decide +kernel)]; kernel_rfl) | (rw [if_neg (by decide +kernel)]; exact ⟨rfl, rfl⟩))
    (fun os started H enc _ F => by rw [OpenClaim.pre_eq_preRow]; exact lifted os started H enc F)

set_option maxRecDepth 100000 in
/-- No parameter wants a stand-in; whether the program has looks of its own. -/
theorem plain (f : FuncId) (fn : Func) (hf : Tryd.pinned.checked.prog.funcNamed "timeball/timeballlaw.DayReads" = some f) (hfn : Tryd.pinned.checked.prog.funcs[f]? = some fn) :
    true = Tryd.pinned.checked.prog.looks [] ∧ ∀ (j : Nat) t, fn.params[j]? = some t → Tryd.pinned.checked.prog.wantsStandIn t = false := by
  obtain rfl : f = 5 := Option.some.inj ((show Tryd.prog.funcNamed "timeball/timeballlaw.DayReads" = some 5 by kernel_rfl).symm.trans hf) |>.symm
  obtain rfl : fn = Tryd.f5 := (Option.some.inj (Tryd.func5.symm.trans hfn)).symm
  refine ⟨by kernel_rfl, fun j t ht => ?_⟩
  rw [Tryd.params5] at ht
  obtain rfl : t = 9 := by simpa using Array.mem_of_getElem? ht
  exact (show Tryd.prog.wantsStandIn 9 = false by kernel_rfl)

end Go.Proofs.YtjcoapjjnplnbaaDoor.dayReads
namespace Go.Proofs.YtjcoapjjnplnbaaDoor
/-- The card. -/
theorem dayReadsUpto_holds : Rows.DayReadsUptoCardSaid :=
  Claim7.holds_tied_plain_at .later [] _ _ _ _ dayReads.said (fun _ h => by cases h) (by kernel_rfl) (fun _ h => by cases h) dayReadsUpto_row_tie rfl ⟨rfl, rfl⟩ (by kernel_rfl) rfl dayReads.plain (by kernel_rfl)
end Go.Proofs.YtjcoapjjnplnbaaDoor
