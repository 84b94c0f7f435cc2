/- The law BookChecks of package timeballlaw returns true for every input and leaves its arguments as they were: Check returns what the reference returns. Condition: the listed variables (math/bits.deBruijn32tab, math/bits.deBruijn64tab, internal/strconv.uint64pow10, timeball/civil.lengths, unicode/utf8.acceptRanges, unicode/utf8.first) lie as their initialisers lay them; the card ties that to the program's text. -/
import Derived.Test.YtmemgpmijphkmaaDoorCards
import Derived.Test.YtmemgpmijphkmaaDoorTie
import Derived.Test.YtmemgpmijphkmaaDoorR0
import Derived.Test.YtmemgpmijphkmaaDoorH10
import Derived.Test.YtmemgpmijphkmaaDoorH15
import Derived.Test.YtmemgpmijphkmaaDoorS2
namespace Go.Proofs.YtmemgpmijphkmaaDoor.bookChecks
open Go.ChangeShapes Go.WideShapes Go.ChangeAt Go.RowKit
open Go.ChangeMaps (open_string shut_string)
set_option linter.unusedVariables false
set_option linter.unusedSimpArgs false

theorem keepAl {w W : World} {a b c : Addr} {x y z : Value} (h : W.cell? a = some x ∧ W.cell? b = some y ∧ W.cell? c = some z ∧ Gr w W) (o : Obj) : (W.alloc o).cell? a = some x ∧ (W.alloc o).cell? b = some y ∧ (W.alloc o).cell? c = some z ∧ Gr w (W.alloc o) := keepM h (Gr.alloc W o)
def zeroZ : ZonD := ⟨⟨#[]⟩, none, 0, []⟩
theorem zero_chk : bokC [] [zeroZ] [] = 3 := by
  have h : zonC [] [zeroZ] 0 = 3 := by rw [zonC_at (z := zeroZ) rfl, if_pos (by show isNameB (ByteArray.mk #[]).toList = false; rw [lit0]; decide)]
  unfold bokC
  simp [fe, rusC, h]
theorem zero_at (q : Nat) (W : World) (h : W.heap[q]? = some (.cells #[.string ⟨#[]⟩, .slice none 0 0] 34 (0, 0))) : BokD.At W ⟨none, 0, [], some ⟨q, 0, none⟩, 1, [zeroZ], none, 0, []⟩ := by
  refine ⟨⟨⟨by simp, by unfold maxLen; simp⟩, Row.nil _ _ _ _, fun r hr => by cases hr⟩, ⟨⟨by simp, by unfold maxLen; simp⟩, fun i x hx => ?_, fun z hz => ?_⟩, ⟨⟨by simp, by unfold maxLen; simp⟩, Row.nil _ _ _ _, fun r hr => by cases hr⟩⟩
  · have hi := (List.getElem?_eq_some_iff.1 hx).1
    have e0 : i = 0 := by simpa using hi
    subst e0
    have ex : zeroZ = x := by simpa using hx
    subst ex
    refine ⟨q, 0, rfl, (Array.getElem?_eq_some_iff.1 h).1, fun j v hv => ?_⟩
    have hj := (List.getElem?_eq_some_iff.1 hv).1
    have : j = 0 ∨ j = 1 := by have : ZonD.cells zeroZ = [Value.string ⟨#[]⟩, .slice none 0 0] := rfl; rw [this] at hj; simp at hj; omega
    rcases this with rfl | rfl
    · rw [show v = .string ⟨#[]⟩ from (Option.some.inj hv).symm]; exact bcell_row h rfl
    · rw [show v = .slice none 0 0 from (Option.some.inj hv).symm]; exact bcell_row h rfl
  · have ez : z = zeroZ := by simpa using hz
    subst ez
    exact ⟨by unfold zeroZ maxLen; decide, ⟨Nat.le_refl _, by unfold maxLen; exact Nat.zero_le _⟩, Row.nil _ _ _ _, fun e he => by cases he⟩

set_option maxRecDepth 100000 in
set_option maxHeartbeats 8000000 in
theorem walk (b : BokD) (w : World) (hb : b.At w) (ht : BkTab w) :
    Calls Tryd.prog 4 #[bookV b] w fun e w' => e = .returned (.bool true) ∧ Gr w w' := by
  have KP := Lib.hid (fun W (g : Gr w W) => pbookCheck b W (hb.gr g) (g.bk ht))
  have KR := Lib.hid (fun W (g : Gr w W) => rbookCheck b W (hb.gr g) (g.max ht.2.2))
  have KZ0 := fun q W h ht => pbookCheck ⟨none, 0, [], some ⟨q, 0, none⟩, 1, [zeroZ], none, 0, []⟩ W (zero_at q W h) ht
  simp only [zero_chk] at KZ0
  have KZ := Lib.hid (fun q W h (g : Gr w W) => KZ0 q W h (g.bk ht))
  generalize bokC b.rs b.zs b.ls = C at KP KR
  obtain ⟨Ar, cr, rs, Az, cz, zs, Al, cl, ls⟩ := b
  try simp only at KP KR
  have e1 : (C == C) = true := by simp
  have B0 := Lib.hid (box_one w (.cells #[.slice Ar rs.length cr, .slice Az zs.length cz, .slice Al ls.length cl] 30))
  clear KZ0 hb ht
  go_enter Tryd.func4, Tryd.ntmps4
  go_wp2_with fail
  generalize w.alloc (.cells #[.slice Ar rs.length cr, .slice Az zs.length cz, .slice Al ls.length cl] 30) = w1 at B0 ⊢
  generalize w.heap.size = q at B0 ⊢
  have G1 := Lib.hid B0.out.1
  have HS : w1.cell? ⟨q, 0, none⟩ = some (.slice Ar rs.length cr) ∧ w1.cell? ⟨q, 1, none⟩ = some (.slice Az zs.length cz) ∧ w1.cell? ⟨q, 2, none⟩ = some (.slice Al ls.length cl) ∧ Gr w1 w1 := ⟨bcell_row B0.out.2 rfl, bcell_row B0.out.2 rfl, bcell_row B0.out.2 rfl, Gr.refl _⟩
  clear B0
  go_region_held3 (fun wx => wx.cell? ⟨q, 0, none⟩ = some (.slice Ar rs.length cr) ∧ wx.cell? ⟨q, 1, none⟩ = some (.slice Az zs.length cz) ∧ wx.cell? ⟨q, 2, none⟩ = some (.slice Al ls.length cl) ∧ Gr w1 wx) (first | exact ⟨HS.1, HS.2.1, HS.2.2.1, HS.2.2.2.drew'⟩ | assumption | exact keepAl (by assumption) _) (first | (go_at_call 7; (with_reducible refine (KP.out _ ?_).mono ?_); (exact G1.out.trans (And.right (And.right (And.right (by assumption))))); rintro e w3 ⟨rfl, g3⟩; have HS3 := keepM (by assumption) g3) | (go_at_call 8; (with_reducible refine (KR.out _ ?_).mono ?_); (exact G1.out.trans (And.right (And.right (And.right (by assumption))))); rintro e w4 ⟨rfl, g4⟩; have HS4 := keepM (by assumption) g4) | (go_at_call 7; (refine (KZ.out _ _ ?_ ?_).mono ?_); (exact bheap_new _ _); (exact G1.out.trans (And.right (And.right (And.right (by assumption))))); rintro e w5 ⟨rfl, g5⟩; have HS5 := keepM (by assumption) g5))
  all_goals go_wp2
  all_goals go_ret
  all_goals exact ⟨rfl, G1.out.trans HS5.2.2.2⟩


set_option maxRecDepth 100000 in
theorem contract (H : Type) (enc : TypeId × Value → H) (W : World) (base : Nat) (args : Array Value) (ds gs : List (DataW H)) (before : List MemPlace)
    (hval : ∀ (j : Nat) t v, Tryd.f4.params[j]? = some t → args[j]? = some v → Value.okWide Tryd.prog W .any base t v)
    (hW : DataW.Whole enc Tryd.prog Tryd.f4.params.toList Rows.bookChecksSpec.vars false W args.toList ds gs before) (hL : laidMet Tryd.prog Rows.bookChecksRow.laid W) (hsh : W.ShapedOpen Tryd.prog) :
    Calls Tryd.prog 4 args W fun e W' => ∃ v, e = .returned v ∧ Rows.bookChecksSpec.post enc Tryd.prog Tryd.f4 false true false false W args v W' := by
  have hW' := hW
  obtain ⟨p, q, hA0, hV, rfl, hfz, hnd⟩ := hW
  have hA : DataW.TrodAll enc Tryd.prog W 0 (fun _ => true) true Tryd.f4.params.toList args.toList ds p := hA0
  rw [Tryd.params4] at hA hval
  obtain ⟨v0, vs0, d0, ds0, p0, q0, hargs, rfl, rfl, h0, r0⟩ := trodAll_cons hA
  obtain ⟨rfl, rfl, rfl⟩ := trodAll_nil r0
  obtain rfl : args = #[v0] := by cases args; simp_all
  obtain ⟨rfl, rfl⟩ := trodVars_none hV
  obtain ⟨bk0, rfl, bi0⟩ := open_book (hval 0 30 v0 rfl rfl) h0
  clear hA0
  simp only [List.append_nil] at hW'
  refine (walk bk0 W bi0 ⟨lens_of hL (List.mem_of_getElem? (i := 3) rfl), pow_of hL (List.mem_of_getElem? (i := 2) rfl), max_of hsh⟩).mono fun e W' ⟨he, hg⟩ => ?_
  subst he
  exact ⟨_, rfl, post_of_below (pa := (p0 ++ [])) (pv := []) hW' (fun _ _ _ => trodAll_cons_mk (shut_bool Tryd.underlying4 _) trodAll_mk0) (fun _ hsp => (trodAll_cons_mk (stays book_reads h0 hg (fun p hp => by simp [hp]) (fun p hp => hW'.lt p hp) hsp) trodAll_mk0)) (fun _ _ => rfl) (by simp)
    hg (ok_one (by kernel_rfl) rfl (okWide_bool_mk Tryd.underlying4 _))⟩

/-- A world for the witness: the settled one, the listed variables holding what their initialisers lay. -/
noncomputable def laidWorld (os : Os) : World := put (put (put (put (put (put (bare os) 5 (flat1 Rows.laid_math_bits_deBruijn32tab)) 6 (flat1 Rows.laid_math_bits_deBruijn64tab)) 4 (flat1 Rows.laid_internal_strconv_uint64pow10)) 1 (flat1 Rows.laid_timeball_civil_lengths)) 3 (flat2 Rows.laid_unicode_utf8_acceptRanges)) 2 (flat1 Rows.laid_unicode_utf8_first)
set_option maxRecDepth 100000 in
theorem laid_met (os : Os) : laidMet Tryd.prog Rows.bookChecksRow.laid ((laidWorld os).forCall (fun _ _ => 0) ⟨#[], #[.agg #[.slice none 0 0, .slice none 0 0, .slice none 0 0]], []⟩).memory :=
  laidMet_of_run3 8 (by kernel_rfl) (by kernel_rfl) (by kernel_rfl)
theorem reads (os : Os) {H : Type} (enc : TypeId × Value → H) : ∃ places, DataW.whole enc Tryd.prog ((laidWorld os).forCall (fun _ _ => 0) ⟨#[], #[.agg #[.slice none 0 0, .slice none 0 0, .slice none 0 0]], []⟩).memory Tryd.f4.params.toList Rows.bookChecksSpec.vars false #[Value.agg #[.slice none 0 0, .slice none 0 0, .slice none 0 0]].toList 8 = some ([.agg [.nil, .nil, .nil]], [], places) :=
  ⟨[], by kernel_rfl⟩

set_option maxRecDepth 100000 in
theorem lifted (os : Os) (started : os.Started) (H : Type) (enc : TypeId × Value → H) (F : Stop.Interp) :
    ReturnsInHanded {} Tryd.checked os 4 .any ((OpenSpec.ofChange Rows.bookChecksSpec).preRow enc Tryd.prog Tryd.f4 Rows.bookChecksRow.domain false Rows.bookChecksRow.laid) (((OpenSpec.ofChange Rows.bookChecksSpec).at F).post enc Tryd.prog Tryd.f4 false true false false) := by
  obtain ⟨places, hx⟩ := reads os enc
  refine returnsInHanded_of_row (C := Tryd.checked) (s := OpenSpec.ofChange Rows.bookChecksSpec) own started (by kernel_rfl) Tryd.func4
    (witness_row_at (enc := enc) (C := Tryd.checked) false (laidWorld os) #[.agg #[.slice none 0 0, .slice none 0 0, .slice none 0 0]] rfl (by kernel_rfl) (by kernel_rfl) (by kernel_rfl)
      (OpenSpec.preRow_of_cond 8 hx (by kernel_rfl) (fun k hk => by cases hk) (by kernel_rfl) (laid_met os))) ?_
  intro W base args ds gs before hval hW _ _ _ hL hsh _
  exact contract H enc W base args ds gs before hval hW hL hsh

theorem said : Rows.BookChecksSaid :=
  OpenClaim.holds_of_cond 4 Tryd.f4 rfl rfl rfl rfl rfl rfl rfl ⟨rfl, rfl, rfl, rfl, rfl⟩ rfl rfl rfl rfl rfl (by kernel_rfl) Tryd.func4 (by kernel_rfl)
    (of_decide_eq_true (by kernel_rfl)) (by unfold Func.isWrapper; first | (rw [if_pos (by decide +kernel)]; kernel_rfl) | (rw [if_neg (by decide +kernel)]; exact ⟨rfl, rfl⟩))
    (fun os started H enc _ F => by rw [OpenClaim.pre_eq_preRow]; exact lifted os started H enc F)

set_option maxRecDepth 100000 in
/-- No parameter wants a stand-in; whether the program has looks of its own. -/
theorem plain (f : FuncId) (fn : Func) (hf : Tryd.pinned.checked.prog.funcNamed "timeball/timeballlaw.BookChecks" = some f) (hfn : Tryd.pinned.checked.prog.funcs[f]? = some fn) :
    false = Tryd.pinned.checked.prog.looks [] ∧ ∀ (j : Nat) t, fn.params[j]? = some t → Tryd.pinned.checked.prog.wantsStandIn t = false := by
  obtain rfl : f = 4 := Option.some.inj ((show Tryd.prog.funcNamed "timeball/timeballlaw.BookChecks" = some 4 by kernel_rfl).symm.trans hf) |>.symm
  obtain rfl : fn = Tryd.f4 := (Option.some.inj (Tryd.func4.symm.trans hfn)).symm
  refine ⟨by kernel_rfl, fun j t ht => ?_⟩
  rw [Tryd.params4] at ht
  obtain rfl : t = 30 := by simpa using Array.mem_of_getElem? ht
  exact (show Tryd.prog.wantsStandIn 30 = false by kernel_rfl)

end Go.Proofs.YtmemgpmijphkmaaDoor.bookChecks
namespace Go.Proofs.YtmemgpmijphkmaaDoor
/-- The card. -/
theorem bookChecks_holds : Rows.BookChecksCardSaid :=
  Claim7.holds_tied_plain_at .later [] _ _ _ _ bookChecks.said (fun _ h => by cases h) (by kernel_rfl) (fun _ h => by cases h) bookChecks_row_tie rfl ⟨rfl, rfl⟩ (by kernel_rfl) rfl bookChecks.plain (by kernel_rfl)
end Go.Proofs.YtmemgpmijphkmaaDoor
