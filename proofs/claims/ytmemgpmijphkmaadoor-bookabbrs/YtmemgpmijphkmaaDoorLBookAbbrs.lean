/- The law BookAbbrs of package timeballlaw returns true for every input and leaves its arguments as they were: Abbr returns what the reference returns. Condition: the listed variables (unicode/utf8.acceptRanges, unicode/utf8.first) lie as their initialisers lay them; the card ties that to the program's text. -/
import Derived.Test.YtmemgpmijphkmaaDoorCards
import Derived.Test.YtmemgpmijphkmaaDoorTie
import Derived.Test.YtmemgpmijphkmaaDoorR0
import Derived.Test.YtmemgpmijphkmaaDoorH2
import Derived.Test.YtmemgpmijphkmaaDoorH11
namespace Go.Proofs.YtmemgpmijphkmaaDoor.bookAbbrs
open Go.ChangeShapes Go.WideShapes Go.ChangeAt Go.RowKit
open Go.ChangeMaps (open_string shut_string)
set_option linter.unusedVariables false
set_option linter.unusedSimpArgs false

set_option maxHeartbeats 4000000 in
theorem walk (s : ByteArray) (hs : s.size ≤ maxLen) (sv : Int) (s1 : -9223372036854775808 ≤ sv) (s2 : sv ≤ 9223372036854775807) (lt : ByteArray) (hlt : lt.size ≤ maxLen) (w : World) (m : Int) (hm : w.cell? ⟨0, 0, none⟩ = some (.int .i64 m)) :
    Calls Tryd.prog 3 #[.string s, .int .i64 sv, .string lt] w fun e w' => e = .returned (.bool true) ∧ Gr w w' := by
  have HM : Hid (HasMax w) := ⟨m, hm⟩
  have KP := Lib.hid (fun w hm => pabbrFmt s sv lt w hm hlt)
  have KR := Lib.hid (fun w hm => rabbr s sv lt w hm hlt)
  have KZ0 := fun w hm => pabbrFmt ⟨#[]⟩ 0 ⟨#[45]⟩ w hm (by decide)
  rw [lit0, show (ByteArray.mk #[45]).toList = [45] from ByteArray.toList_mk [45], show abbrR [] 0 [45] = ([], 3) by decide] at KZ0
  have KZ := Lib.hid KZ0
  generalize abbrR s.toList sv lt.toList = R at KP KR
  obtain ⟨R1, R2⟩ := R
  simp only at KP KR
  generalize S R1 = Z at KP KR
  have e1 : (Z.toList == Z.toList) = true := by simp
  have e2 : (R2 == R2) = true := by simp
  clear hm hlt hs KZ0
  go_enter Tryd.func3, Tryd.ntmps3
  go_wp2_with fail
  refine (KP.out w HM.out).mono ?_
  rintro e w1 ⟨rfl, g1⟩
  have G1 := Lib.hid g1
  clear g1 KP
  go_wp2_with fail
  refine (KR.out w1 (G1.out.max HM.out)).mono ?_
  rintro e w2 ⟨rfl, g2⟩
  have G2 := Lib.hid (G1.out.trans g2)
  clear g2 G1 KR
  go_wp2_with fail
  refine (KZ.out w2 (G2.out.max HM.out)).mono ?_
  rintro e w3 ⟨rfl, g3⟩
  have G3 := Lib.hid (G2.out.trans g3)
  clear g3 G2 KZ
  go_wp2
  go_ret
  exact ⟨rfl, G3.out⟩


set_option maxRecDepth 100000 in
theorem contract (H : Type) (enc : TypeId × Value → H) (W : World) (base : Nat) (args : Array Value) (ds gs : List (DataW H)) (before : List MemPlace)
    (hval : ∀ (j : Nat) t v, Tryd.f3.params[j]? = some t → args[j]? = some v → Value.okWide Tryd.prog W .any base t v)
    (hW : DataW.Whole enc Tryd.prog Tryd.f3.params.toList Rows.bookAbbrsSpec.vars false W args.toList ds gs before) (hL : laidMet Tryd.prog Rows.bookAbbrsRow.laid W) (hsh : W.ShapedOpen Tryd.prog) :
    Calls Tryd.prog 3 args W fun e W' => ∃ v, e = .returned v ∧ Rows.bookAbbrsSpec.post enc Tryd.prog Tryd.f3 false true false false W args v W' := by
  have hW' := hW
  obtain ⟨p, q, hA0, hV, rfl, hfz, hnd⟩ := hW
  have hA : DataW.TrodAll enc Tryd.prog W 0 (fun _ => true) true Tryd.f3.params.toList args.toList ds p := hA0
  rw [Tryd.params3] at hA hval
  obtain ⟨v0, vs0, d0, ds0, p0, q0, hargs, rfl, rfl, h0, r0⟩ := trodAll_cons hA
  obtain ⟨v1, vs1, d1, ds1, p1, q1, rfl, rfl, rfl, h1, r1⟩ := trodAll_cons r0
  obtain ⟨v2, vs2, d2, ds2, p2, q2, rfl, rfl, rfl, h2, r2⟩ := trodAll_cons r1
  obtain ⟨rfl, rfl, rfl⟩ := trodAll_nil r2
  obtain rfl : args = #[v0, v1, v2] := by cases args; simp_all
  obtain ⟨rfl, rfl⟩ := trodVars_none hV
  obtain ⟨a0, rfl, rfl, rfl, w0⟩ := open_string Tryd.underlying9 (hval 0 9 v0 rfl rfl) h0
  obtain ⟨a1, rfl, rfl, rfl, w1⟩ := open_int Tryd.underlying3 (hval 1 3 v1 rfl rfl) h1
  obtain ⟨a2, rfl, rfl, rfl, w2⟩ := open_string Tryd.underlying9 (hval 2 9 v2 rfl rfl) h2
  clear hA0
  simp only [List.append_nil] at hW'
  obtain ⟨mx, hmx⟩ := max_of hsh
  refine (walk a0 w0 a1 (bounds_i64 w1).1 (bounds_i64 w1).2 a2 w2 W mx hmx).mono fun e W' ⟨he, hg⟩ => ?_
  subst he
  exact ⟨_, rfl, post_of_below (pa := []) (pv := []) hW' (fun _ _ _ => trodAll_cons_mk (shut_bool Tryd.underlying4 _) trodAll_mk0) (fun _ _ => (trodAll_cons_mk (shut_string Tryd.underlying9 w0) (trodAll_cons_mk (shut_int Tryd.underlying3 w1) (trodAll_cons_mk (shut_string Tryd.underlying9 w2) trodAll_mk0)))) (fun _ _ => rfl) rfl
    hg (ok_one (by kernel_rfl) rfl (okWide_bool_mk Tryd.underlying4 _))⟩

/-- A world for the witness: the settled one, the listed variables holding what their initialisers lay. -/
noncomputable def laidWorld (os : Os) : World := put (put (bare os) 3 (flat2 Rows.laid_unicode_utf8_acceptRanges)) 2 (flat1 Rows.laid_unicode_utf8_first)
set_option maxRecDepth 100000 in
theorem laid_met (os : Os) : laidMet Tryd.prog Rows.bookAbbrsRow.laid ((laidWorld os).forCall (fun _ _ => 0) ⟨#[], #[.string .empty, .int .i64 0, .string .empty], []⟩).memory :=
  laidMet_of_run3 8 (by kernel_rfl) (by kernel_rfl) (by kernel_rfl)
theorem reads (os : Os) {H : Type} (enc : TypeId × Value → H) : ∃ places, DataW.whole enc Tryd.prog ((laidWorld os).forCall (fun _ _ => 0) ⟨#[], #[.string .empty, .int .i64 0, .string .empty], []⟩).memory Tryd.f3.params.toList Rows.bookAbbrsSpec.vars false #[Value.string .empty, Value.int .i64 0, Value.string .empty].toList 8 = some ([.lit (.string []), .lit (.int .i64 0), .lit (.string [])], [], places) :=
  ⟨[], by kernel_rfl⟩

set_option maxRecDepth 100000 in
theorem lifted (os : Os) (started : os.Started) (H : Type) (enc : TypeId × Value → H) (F : Stop.Interp) :
    ReturnsInHanded {} Tryd.checked os 3 .any ((OpenSpec.ofChange Rows.bookAbbrsSpec).preRow enc Tryd.prog Tryd.f3 Rows.bookAbbrsRow.domain false Rows.bookAbbrsRow.laid) (((OpenSpec.ofChange Rows.bookAbbrsSpec).at F).post enc Tryd.prog Tryd.f3 false true false false) := by
  obtain ⟨places, hx⟩ := reads os enc
  refine returnsInHanded_of_row (C := Tryd.checked) (s := OpenSpec.ofChange Rows.bookAbbrsSpec) own started (by kernel_rfl) Tryd.func3
    (witness_row_at (enc := enc) (C := Tryd.checked) false (laidWorld os) #[.string .empty, .int .i64 0, .string .empty] rfl (by kernel_rfl) (by kernel_rfl) (by kernel_rfl)
      (OpenSpec.preRow_of_cond 8 hx (by kernel_rfl) (fun k hk => by cases hk) (by kernel_rfl) (laid_met os))) ?_
  intro W base args ds gs before hval hW _ _ _ hL hsh _
  exact contract H enc W base args ds gs before hval hW hL hsh

theorem said : Rows.BookAbbrsSaid :=
  OpenClaim.holds_of_cond 3 Tryd.f3 rfl rfl rfl rfl rfl rfl rfl ⟨rfl, rfl, rfl, rfl, rfl⟩ rfl rfl rfl rfl rfl (by kernel_rfl) Tryd.func3 (by kernel_rfl)
    (of_decide_eq_true (by kernel_rfl)) (by unfold Func.isWrapper; first | (rw [if_pos (by decide +kernel)]; kernel_rfl) | (rw [if_neg (by decide +kernel)]; exact ⟨rfl, rfl⟩))
    (fun os started H enc _ F => by rw [OpenClaim.pre_eq_preRow]; exact lifted os started H enc F)

set_option maxRecDepth 100000 in
/-- No parameter wants a stand-in; whether the program has looks of its own. -/
theorem plain (f : FuncId) (fn : Func) (hf : Tryd.pinned.checked.prog.funcNamed "timeball/timeballlaw.BookAbbrs" = some f) (hfn : Tryd.pinned.checked.prog.funcs[f]? = some fn) :
    false = Tryd.pinned.checked.prog.looks [] ∧ ∀ (j : Nat) t, fn.params[j]? = some t → Tryd.pinned.checked.prog.wantsStandIn t = false := by
  obtain rfl : f = 3 := Option.some.inj ((show Tryd.prog.funcNamed "timeball/timeballlaw.BookAbbrs" = some 3 by kernel_rfl).symm.trans hf) |>.symm
  obtain rfl : fn = Tryd.f3 := (Option.some.inj (Tryd.func3.symm.trans hfn)).symm
  refine ⟨by kernel_rfl, fun j t ht => ?_⟩
  rw [Tryd.params3] at ht
  have hm : t = 3 ∨ t = 9 := by have := Array.mem_of_getElem? ht; simp at this; first | exact this | exact this.symm | (rcases this with h | h | h <;> simp [h]) | omega
  rcases hm with rfl | rfl
  · exact (show Tryd.prog.wantsStandIn 3 = false by kernel_rfl)
  · exact (show Tryd.prog.wantsStandIn 9 = false by kernel_rfl)

end Go.Proofs.YtmemgpmijphkmaaDoor.bookAbbrs
namespace Go.Proofs.YtmemgpmijphkmaaDoor
/-- The card. -/
theorem bookAbbrs_holds : Rows.BookAbbrsCardSaid :=
  Claim7.holds_tied_plain_at .later [] _ _ _ _ bookAbbrs.said (fun _ h => by cases h) (by kernel_rfl) (fun _ h => by cases h) bookAbbrs_row_tie rfl ⟨rfl, rfl⟩ (by kernel_rfl) rfl bookAbbrs.plain (by kernel_rfl)
end Go.Proofs.YtmemgpmijphkmaaDoor
