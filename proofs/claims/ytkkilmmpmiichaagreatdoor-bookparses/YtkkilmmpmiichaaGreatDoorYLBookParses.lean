/- The law BookParses of package timeballlaw returns true for every input and leaves its arguments as they were: Parse returns what the reference returns. Condition: the listed variables (math/bits.deBruijn32tab, math/bits.deBruijn64tab, internal/strconv.uint64pow10, timeball/civil.lengths, unicode/utf8.acceptRanges, strconv.ErrRange, strconv.ErrSyntax, timeball/day.weekdays, timeball/rule.clockLetters, unicode/utf8.first) lie as their initialisers lay them; the card ties that tto the program's text. -/
import Derived.Test.YtkkilmmpmiichaaGreatDoorCards
import Derived.Test.YtkkilmmpmiichaaGreatDoorTie
import Derived.Test.YtkkilmmpmiichaaGreatDoorYM17
import Derived.Test.YtkkilmmpmiichaaGreatDoorYM49
import Derived.Test.YtkkilmmpmiichaaGreatDoorYM50
import Derived.Test.YtkkilmmpmiichaaGreatDoorYM46
import Derived.Test.YtkkilmmpmiichaaGreatDoorYM32
import Derived.Test.YtkkilmmpmiichaaGreatDoorYM51
namespace Go.Proofs.YtkkilmmpmiichaaGreatDoor.bookParses
open Go.ChangeShapes Go.WideShapes Go.ChangeAt Go.RowKit
open Go.ChangeMaps (open_string shut_string)
set_option linter.unusedVariables false
set_option linter.unusedSimpArgs false
theorem same_is {b b2 : BokD} {p : BkS} (h : b.Is p) (h2 : b2.Is p) : SameB b b2 := ⟨h2.1.trans h.1.symm, h2.2.1.trans h.2.1.symm, h2.2.2.trans h.2.2.symm⟩
theorem few_ok {b : BokD} (h : bokC b.rs b.zs b.ls = 0) : FewB b := by
  have hl : ¬ (40 < b.rs.length ∨ 20 < b.zs.length ∨ 20 < b.ls.length) := fun c => by rw [bokC_big c] at h; cases h
  refine ⟨by omega, by omega, by omega, fun z hz => ?_⟩
  obtain ⟨i, hi, e⟩ := List.getElem_of_mem hz
  have h0 := (fe_zero _).1 (bokC_ok.1 h).2.2.1 i hi
  rw [zonC_at (z := z) (by rw [List.getElem?_eq_getElem hi, e])] at h0
  split at h0
  · cases h0
  split at h0
  · cases h0
  split at h0
  · cases h0
  split at h0
  · cases h0
  omega
theorem few_nil {b : BokD} (h : b.Is BkS.zero) : FewB b := by
  have h1 : b.rs = [] := h.1
  have h2 : b.zs.map (fun z => (z.nm, z.eras)) = [] := h.2.1
  have h3 : b.ls = [] := h.2.2
  have h2' : b.zs = [] := by simpa using h2
  exact ⟨by rw [h1]; simp, by rw [h2']; simp, by rw [h3]; simp, fun z hz => by rw [h2'] at hz; cases hz⟩
theorem few_par {s : ByteArray} {b : BokD} (h : b.Is (parB s).1) : FewB b := by
  by_cases hbig : 60000 < s.size
  · rw [parB_big hbig] at h; exact few_nil h
  by_cases hn : s.toList = []
  · rw [parB_nil hn] at h; exact few_nil h
  cases hr : runB BkS.zero (lns s) 0 with
  | inl m => rw [parB_bad hbig hn hr] at h; exact few_nil h
  | inr p =>
    by_cases h1 : p.st = 1
    · rw [parB_open hbig hn hr h1] at h; exact few_nil h
    by_cases hc : p.chk = 0
    · rw [parB_ok hbig hn hr h1 hc] at h
      exact few_ok (by rw [Is_chk h]; exact hc)
    · rw [parB_chk hbig hn hr h1 hc] at h; exact few_nil h

set_option maxRecDepth 100000 in
set_option maxHeartbeats 20000000 in
theorem walk (s : ByteArray) (hs : s.size ≤ maxLen) (w : World) (ht : RpTab w) (hk : BkTab w) :
    Calls Tryz.prog 3 #[.string s] w fun e w' => e = .returned (.bool true) ∧ Gr w w' := by
  have KP := Lib.hid (fun W (g : Gr w W) => pbookParse s W hs (g.rpT ht) (g.bk hk))
  have KR := Lib.hid (fun W (g : Gr w W) => rbookParse s W hs (g.max hk.2.2))
  have KZ0 := fun w hm => pabbrFmt ⟨#[]⟩ 0 ⟨#[45]⟩ w hm (by decide)
  rw [lit0, show (ByteArray.mk #[45]).toList = [45] from ByteArray.toList_mk [45], show abbrR [] 0 [45] = ([], 3) by decide] at KZ0
  have KZ := Lib.hid KZ0
  have HM := Lib.hid hk.2.2
  have FP := Lib.hid (fun (b : BokD) h => few_par (s := s) (b := b) h)
  have KE := Lib.hid (fun (x y : BokD) W (h : x.At W) (h2 : y.At W) (hs : SameB x y) (hf : FewB x) => rbookEq x y W h h2 hs hf)
  clear KZ0 hs ht hk
  go_enter Tryz.func3, Tryz.ntmps3
  go_wp2_with fail
  refine (KP.out w (Gr.refl _)).mono ?_
  rintro e w1 ⟨x, rfl, hax, hix, g1⟩
  have HX := Lib.hid hax
  have FX := Lib.hid (FP.out x hix)
  have IX := Lib.hid hix
  have G1 := Lib.hid g1
  clear hax hix g1 KP FP
  have KE1 := Lib.hid (fun y W h h2 hs => KE.out x y W h h2 hs FX.out)
  obtain ⟨Ax, cx, rx, Bx, dx, zx, Cx, ex, lx⟩ := x
  have BX := Lib.hid (box_one w1 (.cells #[.slice Ax rx.length cx, .slice Bx zx.length dx, .slice Cx lx.length ex] 26))
  clear KE FX
  generalize hn : (parB s).2.1 = n
  generalize hf : (parB s).2.2 = f
  have HN := Lib.hid hn
  have HF := Lib.hid hf
  clear hn hf
  go_wp2_with fail
  generalize w1.alloc (.cells #[.slice Ax rx.length cx, .slice Bx zx.length dx, .slice Cx lx.length ex] 26) = w2 at BX ⊢
  generalize w1.heap.size = q1 at BX ⊢
  refine (KR.out w2 (G1.out.trans BX.out.1)).mono ?_
  rintro e w3 ⟨y, rfl, hay, hiy, g3⟩
  have HY := Lib.hid hay
  have SY := Lib.hid (same_is IX.out hiy)
  have G3 := Lib.hid ((G1.out.trans BX.out.1).trans g3)
  have DX := Lib.hid (bheap_gr g3 BX.out.2)
  have HX3 := Lib.hid (HX.out.gr (BX.out.1.trans g3))
  clear hay hiy g3 KR BX HX IX G1
  rw [HN.out, HF.out]
  have KE2 := Lib.hid (fun W h h2 => KE1.out y W h h2 SY.out)
  obtain ⟨Ay, cy, ry, By, dy, zy, Cy, ey, ly⟩ := y
  have BY := Lib.hid (box_one w3 (.cells #[.slice Ay ry.length cy, .slice By zy.length dy, .slice Cy ly.length ey] 26))
  clear KE1 SY HN HF
  go_wp2_with fail
  generalize w3.alloc (.cells #[.slice Ay ry.length cy, .slice By zy.length dy, .slice Cy ly.length ey] 26) = w4 at BY ⊢
  generalize w3.heap.size = q2 at BY ⊢
  refine (KZ.out w4 ((G3.out.trans BY.out.1).max HM.out)).mono ?_
  rintro e w5 ⟨rfl, g5⟩
  have G5 := Lib.hid ((G3.out.trans BY.out.1).trans g5)
  have D1 := Lib.hid (bheap_gr g5 (bheap_gr BY.out.1 DX.out))
  have D2 := Lib.hid (bheap_gr g5 BY.out.2)
  have HX5 := Lib.hid (HX3.out.gr (BY.out.1.trans g5))
  have HY5 := Lib.hid (HY.out.gr (BY.out.1.trans g5))
  clear g5 BY DX HX3 HY G3 KZ
  have x0 : w5.cell? ⟨q1, 0, none⟩ = some (.slice Ax rx.length cx) := bcell_row D1.out rfl
  have x1 : w5.cell? ⟨q1, 1, none⟩ = some (.slice Bx zx.length dx) := bcell_row D1.out rfl
  have x2 : w5.cell? ⟨q1, 2, none⟩ = some (.slice Cx lx.length ex) := bcell_row D1.out rfl
  have y0 : w5.cell? ⟨q2, 0, none⟩ = some (.slice Ay ry.length cy) := bcell_row D2.out rfl
  have y1 : w5.cell? ⟨q2, 1, none⟩ = some (.slice By zy.length dy) := bcell_row D2.out rfl
  have y2 : w5.cell? ⟨q2, 2, none⟩ = some (.slice Cy ly.length ey) := bcell_row D2.out rfl
  go_wp2_with fail
  clear x0 x1 x2 y0 y1 y2
  refine (KE2.out w5 HX5.out HY5.out).mono ?_
  rintro e w6 ⟨rfl, g6⟩
  have e1 : (n == n) = true := by simp
  have e2 : (f == f) = true := by simp
  go_wp2_with fail
  go_ret
  exact ⟨rfl, G5.out.trans g6⟩

set_option maxRecDepth 100000 in
theorem contract (H : Type) (enc : TypeId × Value → H) (W : World) (base : Nat) (args : Array Value) (ds gs : List (DataW H)) (before : List MemPlace)
    (hval : ∀ (j : Nat) t v, Tryz.f3.params[j]? = some t → args[j]? = some v → Value.okWide Tryz.prog W .any base t v)
    (hW : DataW.Whole enc Tryz.prog Tryz.f3.params.toList Rows.bookParsesSpec.vars false W args.toList ds gs before) (hL : laidMet Tryz.prog Rows.bookParsesRow.laid W) (hsh : W.ShapedOpen Tryz.prog) :
    Calls Tryz.prog 3 args W fun e W' => ∃ v, e = .returned v ∧ Rows.bookParsesSpec.post enc Tryz.prog Tryz.f3 false true false false W args v W' := by
  have hW' := hW
  obtain ⟨p, q, hA0, hV, rfl, hfz, hnd⟩ := hW
  have hA : DataW.TrodAll enc Tryz.prog W 0 (fun _ => true) true Tryz.f3.params.toList args.toList ds p := hA0
  rw [Tryz.params3] at hA hval
  obtain ⟨v0, vs0, d0, ds0, p0, q0, hargs, rfl, rfl, h0, r0⟩ := trodAll_cons hA
  obtain ⟨rfl, rfl, rfl⟩ := trodAll_nil r0
  obtain rfl : args = #[v0] := by cases args; simp_all
  obtain ⟨rfl, rfl⟩ := trodVars_none hV
  obtain ⟨a0, rfl, rfl, rfl, w0⟩ := open_string Tryz.underlying9 (hval 0 9 v0 rfl rfl) h0
  clear hA0
  simp only [List.append_nil] at hW'
  refine (walk a0 w0 W ⟨⟨⟨pow_of hL (List.mem_of_getElem? (i := 2) rfl), wk_of hL (List.mem_of_getElem? (i := 7) rfl)⟩, syn_of hL (List.mem_of_getElem? (i := 6) rfl), rng_of hL (List.mem_of_getElem? (i := 5) rfl), max_of hsh⟩, ⟨lens_of hL (List.mem_of_getElem? (i := 3) rfl), ⟨pow_of hL (List.mem_of_getElem? (i := 2) rfl), wk_of hL (List.mem_of_getElem? (i := 7) rfl)⟩, cl_of hL (List.mem_of_getElem? (i := 8) rfl)⟩⟩ ⟨lens_of hL (List.mem_of_getElem? (i := 3) rfl), pow_of hL (List.mem_of_getElem? (i := 2) rfl), max_of hsh⟩).mono fun e W' ⟨he, hg⟩ => ?_
  subst he
  exact ⟨_, rfl, post_of_below (pa := []) (pv := []) hW' (fun _ _ _ => trodAll_cons_mk (shut_bool Tryz.underlying4 _) trodAll_mk0) (fun _ _ => (trodAll_cons_mk (shut_string Tryz.underlying9 w0) trodAll_mk0)) (fun _ _ => rfl) rfl
    hg (ok_one (by kernel_rfl) rfl (okWide_bool_mk Tryz.underlying4 _))⟩

/-- A world for the witness: the settled one, the listed variables holding what their initialisers lay. -/
noncomputable def laidWorld (os : Os) : World := put (put (put (putErr (putErr (put (put (put (put (put (bare os) 9 (flat1 Rows.laid_math_bits_deBruijn32tab)) 10 (flat1 Rows.laid_math_bits_deBruijn64tab)) 8 (flat1 Rows.laid_internal_strconv_uint64pow10)) 2 (flat1 Rows.laid_timeball_civil_lengths)) 4 (flat2 Rows.laid_unicode_utf8_acceptRanges)) 7 (textOf Rows.laid_strconv_ErrRange)) 6 (textOf Rows.laid_strconv_ErrSyntax)) 5 (flat1 Rows.laid_timeball_day_weekdays)) 1 (flat1 Rows.laid_timeball_rule_clockLetters)) 3 (flat1 Rows.laid_unicode_utf8_first)
set_option maxRecDepth 100000 in
theorem laid_met (os : Os) : laidMet Tryz.prog Rows.bookParsesRow.laid ((laidWorld os).forCall (fun _ _ => 0) ⟨#[], #[.string .empty], []⟩).memory :=
  laidMet_of_run3 8 (by kernel_rfl) (by kernel_rfl) (by kernel_rfl)
theorem reads (os : Os) {H : Type} (enc : TypeId × Value → H) : ∃ places, DataW.whole enc Tryz.prog ((laidWorld os).forCall (fun _ _ => 0) ⟨#[], #[.string .empty], []⟩).memory Tryz.f3.params.toList Rows.bookParsesSpec.vars false #[Value.string .empty].toList 8 = some ([.lit (.string [])], [], places) :=
  ⟨[], by kernel_rfl⟩

set_option maxRecDepth 100000 in
theorem lifted (os : Os) (started : os.Started) (H : Type) (enc : TypeId × Value → H) (F : Stop.Interp) :
    ReturnsInHanded {} Tryz.checked os 3 .any ((OpenSpec.ofChange Rows.bookParsesSpec).preRow enc Tryz.prog Tryz.f3 Rows.bookParsesRow.domain false Rows.bookParsesRow.laid) (((OpenSpec.ofChange Rows.bookParsesSpec).at F).post enc Tryz.prog Tryz.f3 false true false false) := by
  obtain ⟨places, hx⟩ := reads os enc
  refine returnsInHanded_of_row (C := Tryz.checked) (s := OpenSpec.ofChange Rows.bookParsesSpec) own started (by kernel_rfl) Tryz.func3
    (witness_row_at (enc := enc) (C := Tryz.checked) false (laidWorld os) #[.string .empty] rfl (by kernel_rfl) (by kernel_rfl) (by kernel_rfl)
      (OpenSpec.preRow_of_cond 8 hx (by kernel_rfl) (fun k hk => by cases hk) (by kernel_rfl) (laid_met os))) ?_
  intro W base args ds gs before hval hW _ _ _ hL hsh _
  exact contract H enc W base args ds gs before hval hW hL hsh

theorem said : Rows.BookParsesSaid :=
  OpenClaim.holds_of_cond 3 Tryz.f3 rfl rfl rfl rfl rfl rfl rfl ⟨rfl, rfl, rfl, rfl, rfl⟩ rfl rfl rfl rfl rfl (by kernel_rfl) Tryz.func3 (by kernel_rfl)
    (of_decide_eq_true (by kernel_rfl)) (by unfold Func.isWrapper; first | (rw [if_pos (by decide +kernel)]; kernel_rfl) | (rw [if_neg (by decide +kernel)]; exact ⟨rfl, rfl⟩))
    (fun os started H enc _ F => by rw [OpenClaim.pre_eq_preRow]; exact lifted os started H enc F)

set_option maxRecDepth 100000 in
/-- No parameter wants a stand-in; whether the program has looks of its own. -/
theorem plain (f : FuncId) (fn : Func) (hf : Tryz.pinned.checked.prog.funcNamed "timeball/timeballlaw.BookParses" = some f) (hfn : Tryz.pinned.checked.prog.funcs[f]? = some fn) :
    true = Tryz.pinned.checked.prog.looks [] ∧ ∀ (j : Nat) t, fn.params[j]? = some t → Tryz.pinned.checked.prog.wantsStandIn t = false := by
  obtain rfl : f = 3 := Option.some.inj ((show Tryz.prog.funcNamed "timeball/timeballlaw.BookParses" = some 3 by kernel_rfl).symm.trans hf) |>.symm
  obtain rfl : fn = Tryz.f3 := (Option.some.inj (Tryz.func3.symm.trans hfn)).symm
  refine ⟨by kernel_rfl, fun j t ht => ?_⟩
  rw [Tryz.params3] at ht
  obtain rfl : t = 9 := by simpa using Array.mem_of_getElem? ht
  exact (show Tryz.prog.wantsStandIn 9 = false by kernel_rfl)

end Go.Proofs.YtkkilmmpmiichaaGreatDoor.bookParses
namespace Go.Proofs.YtkkilmmpmiichaaGreatDoor
/-- The card. -/
theorem bookParses_holds : Rows.BookParsesCardSaid :=
  Claim7.holds_tied_plain_at .later [] _ _ _ _ bookParses.said (fun _ h => by cases h) (by kernel_rfl) (fun _ h => by cases h) bookParses_row_tie rfl ⟨rfl, rfl⟩ (by kernel_rfl) rfl bookParses.plain (by kernel_rfl)
end Go.Proofs.YtkkilmmpmiichaaGreatDoor
