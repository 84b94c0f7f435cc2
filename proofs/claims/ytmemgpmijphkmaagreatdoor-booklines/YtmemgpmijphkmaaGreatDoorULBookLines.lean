/- The law BookLines of package timeballkeep returns true for every input and leaves its arguments as they were: The number of the first erroneous line does not depend on the lines after it. Condition: the listed variables (math/bits.deBruijn32tab, math/bits.deBruijn64tab, internal/strconv.uint64pow10, timeball/civil.lengths, unicode/utf8.acceptRanges, strconv.ErrRange, strconv.ErrSyntax, timeball/day.weekdays, timeball/rule.clockLetters, unicode/utf8.first) lie as their initialisers lay them; the card ties that tto the program's text. -/
import Derived.Test.YtmemgpmijphkmaaGreatDoorCards
import Derived.Test.YtmemgpmijphkmaaGreatDoorTie
import Derived.Test.YtmemgpmijphkmaaGreatDoorUM04
import Derived.Test.YtmemgpmijphkmaaGreatDoorUM50
import Derived.Test.YtmemgpmijphkmaaGreatDoorUM34
import Derived.Test.YtmemgpmijphkmaaGreatDoorUM51
namespace Go.Proofs.YtmemgpmijphkmaaGreatDoor.bookLines
open Go.ChangeShapes Go.WideShapes Go.ChangeAt Go.RowKit
open Go.ChangeMaps (open_string shut_string)
set_option linter.unusedVariables false
set_option linter.unusedSimpArgs false
theorem split_more (c : UInt8) (b : List UInt8) : ∀ (n : Nat) (a : List UInt8), a.length ≤ n → Lib.split (a ++ c :: b) [c] = Lib.split a [c] ++ Lib.split b [c] := by
  intro n
  induction n with
  | zero => intro a h; have e : a = [] := List.length_eq_zero_iff.1 (by omega); subst e; rw [split_no (a := []) (by simp), split_at b (by simp)]; rfl
  | succ n ih =>
    intro a h
    rcases sep_cases c a with h' | ⟨x, y, rfl, h'⟩
    · rw [split_no h', split_at b h']; rfl
    · rw [List.append_assoc, List.cons_append, split_at _ h', split_at y h', ih y (by simp at h; omega)]; rfl
theorem split_count (c : UInt8) : ∀ (n : Nat) (a : List UInt8), a.length ≤ n → (Lib.split a [c]).length = a.count c + 1 := by
  intro n
  induction n with
  | zero => intro a h; have e : a = [] := List.length_eq_zero_iff.1 (by omega); subst e; rw [split_no (a := []) (by simp)]; rfl
  | succ n ih =>
    intro a h
    rcases sep_cases c a with h' | ⟨x, y, rfl, h'⟩
    · rw [split_no h', count_no h']; rfl
    · rw [split_at y h', List.length_cons, ih y (by simp at h; omega), List.count_append, count_no h', List.count_cons_self]; omega
theorem lns_more (s t : ByteArray) : lns (s ++ ⟨#[10]⟩ ++ t) = lns s ++ lns t := by
  have e : (s ++ ⟨#[10]⟩ ++ t).toList = s.toList ++ 10 :: t.toList := by rw [app_toList, app_toList, show (ByteArray.mk #[10]).toList = [10] from ByteArray.toList_mk [10]]; simp
  rw [of_lists (lns_split (s ++ ⟨#[10]⟩ ++ t)), of_lists (lns_split s), of_lists (lns_split t), e, split_more 10 _ _ _ (Nat.le_refl _), List.map_append]
theorem lns_count (s : ByteArray) : (lns s).length = s.toList.count 10 + 1 := by
  have := congrArg List.length (lns_split s)
  rw [List.length_map, split_count 10 _ _ (Nat.le_refl _)] at this
  exact this
theorem run_more (l' : List ByteArray) {m : Nat} : ∀ (l : List ByteArray) (p : BkS) (k : Nat), runB p l k = .inl m → runB p (l ++ l') k = .inl m
  | [], p, k, h => by simp [runB] at h
  | t :: ts, p, k, h => by
    rw [List.cons_append, runB]
    rw [runB] at h
    cases hs : stepB p t with
    | none => rw [hs] at h; exact h
    | some q => rw [hs] at h; exact run_more l' ts q (k + 1) h
theorem par_more {s t : ByteArray} (h3 : (parB s).2.2 = 3) (h1 : 1 ≤ (parB s).2.1) (hc : (parB s).2.1 ≤ (s.toList.count 10 : Int) + 1) (hz : s.size + t.size ≤ 50000) : (parB (s ++ ⟨#[10]⟩ ++ t)).2 = ((parB s).2.1, 3) := by
  have key : ∃ m : Nat, runB BkS.zero (lns s) 0 = .inl m ∧ (parB s).2.1 = (m : Int) := by
    by_cases hn : s.toList = []
    · rw [parB_nil hn] at h3; cases h3
    cases hr : runB BkS.zero (lns s) 0 with
    | inl m => exact ⟨m, rfl, by rw [parB_bad (by omega) hn hr]⟩
    | inr p =>
      by_cases p1 : p.st = 1
      · rw [parB_open (by omega) hn hr p1, lns_count] at hc
        simp at hc
        omega
      · by_cases pc : p.chk = 0
        · rw [parB_ok (by omega) hn hr p1 pc] at h3; cases h3
        · rw [parB_chk (by omega) hn hr p1 pc] at h1; simp at h1
  obtain ⟨m, hr, e⟩ := key
  have hsz : (s ++ ⟨#[10]⟩ ++ t).size = s.size + 1 + t.size := by rw [ByteArray.size_append, ByteArray.size_append]; rfl
  have hne : ¬ (s ++ ⟨#[10]⟩ ++ t).toList = [] := fun q => by
    have := congrArg List.length q
    rw [← size_toList, hsz] at this
    simp at this
  rw [parB_bad (m := m) (by omega) hne (by rw [lns_more]; exact run_more _ _ _ _ hr), e]

set_option maxRecDepth 100000 in
set_option maxHeartbeats 8000000 in
theorem walk (s : ByteArray) (hs : s.size ≤ maxLen) (t : ByteArray) (hts : t.size ≤ maxLen) (w : World) (ht : RpTab w) (hk : BkTab w) (hr : t.size ≤ 140737488351232) :
    Calls Tryz.prog 6 #[.string s, .string t] w fun e w' => e = .returned (.bool true) ∧ Gr w w' := by
  have KB := Lib.hid (booked_any w ht hk)
  have KP := Lib.hid (fun W (g : Gr w W) => pbookParse s W hs (g.rpT ht) (g.bk hk))
  have KC := Lib.hid (fun w => countOne s 10 w)
  have KQ : Hid (s.size + t.size ≤ 50000 → ∀ W, Gr w W → Calls Tryz.prog 13 #[.string (s ++ ⟨#[10]⟩ ++ t)] W (ParA (s ++ ⟨#[10]⟩ ++ t) W)) := fun h W g => pbookParse _ W (by rw [ByteArray.size_append, ByteArray.size_append]; have : (ByteArray.mk #[10]).size = 1 := rfl; unfold maxLen; omega) (g.rpT ht) (g.bk hk)
  have PM : Hid ((parB s).2.2 = 3 → 1 ≤ (parB s).2.1 → (parB s).2.1 ≤ (s.toList.count 10 : Int) + 1 → s.size + t.size ≤ 50000 → (parB (s ++ ⟨#[10]⟩ ++ t)).2 = ((parB s).2.1, 3)) := fun a b c d => par_more a b c d
  have PE : Hid (∀ W e W', ParA s W e W' → ∃ b : BokD, e = bookE b (parB s).2.1 (parB s).2.2 ∧ Gr W W') := fun W e W' ⟨b, h1, _, _, h4⟩ => ⟨b, h1, h4⟩
  have PF : Hid (∀ W e W', ParA (s ++ ⟨#[10]⟩ ++ t) W e W' → ∃ b : BokD, e = bookE b (parB (s ++ ⟨#[10]⟩ ++ t)).2.1 (parB (s ++ ⟨#[10]⟩ ++ t)).2.2 ∧ Gr W W') := fun W e W' ⟨b, h1, _, _, h4⟩ => ⟨b, h1, h4⟩
  have CB := count_le_size s 10
  have PZ : Hid ((parB s).2.2 = 3 → s.size ≤ 60000) := fun h => by
    by_cases c : 60000 < s.size
    · rw [parB_big c] at h; cases h
    · omega
  clear hts
  unfold maxLen at hs
  generalize ParA s = PA at KP PE
  generalize ParA (s ++ ⟨#[10]⟩ ++ t) = PB at KQ PF
  obtain ⟨⟨Bx, n, er⟩, hx⟩ : ∃ x, parB s = x := ⟨_, rfl⟩
  rw [hx] at PM PE PZ
  simp only at PM PE PZ
  clear hx
  obtain ⟨⟨By, m, fr⟩, hy⟩ : ∃ x, parB (s ++ ⟨#[10]⟩ ++ t) = x := ⟨_, rfl⟩
  rw [hy] at PM PF
  simp only at PM PF
  clear hy ht hk
  generalize s.toList.count 10 = cn at KC PM CB
  go_enter Tryz.func6, Tryz.ntmps6
  go_wp2_with fail
  refine KB.out.mono ?_
  rintro e w1 ⟨rfl, g1⟩
  have G1 := Lib.hid g1
  clear g1 KB
  go_wp2_with fail
  refine (KP.out w1 G1.out).mono ?_
  rintro e w2 h
  obtain ⟨b, rfl, g2⟩ := PE.out _ _ _ h
  have G2 := Lib.hid (G1.out.trans g2)
  clear g2 h KP PE G1
  by_cases h3 : er = 3
  case neg =>
    have t3 := bneT h3
    clear h3
    go_wp2_with fail
    go_ret
    exact ⟨rfl, G2.out.alloc' _⟩
  have PM1 := Lib.hid (PM.out h3)
  have hs6 := PZ.out h3
  clear PZ hs
  have t3 := bneF h3
  subst h3
  clear PM
  by_cases h1 : n < 1
  · have t1 : decide (n < 1) = true := ltT h1
    clear PM1
    go_wp2_with fail
    go_ret
    exact ⟨rfl, G2.out.alloc' _⟩
  have t1 : decide (n < 1) = false := ltF h1
  have PM2 := Lib.hid (PM1.out (by omega))
  clear PM1
  have G2b := Lib.hid (G2.out.alloc' (.cells #[.slice b.Ar b.rs.length b.cr, .slice b.Az b.zs.length b.cz, .slice b.Al b.ls.length b.cl] 26))
  clear G2
  go_wp2_with fail
  generalize w2.alloc (.cells #[.slice b.Ar b.rs.length b.cr, .slice b.Az b.zs.length b.cz, .slice b.Al b.ls.length b.cl] 26) = w2b at G2b ⊢
  refine (KC.out w2b).mono ?_
  rintro e w' ⟨rfl, rfl⟩
  by_cases hc : (cn : Int) + 1 < n
  · have tc : decide ((cn : Int) + 1 < n) = true := ltT hc
    clear PM2
    go_wp2_with fail
    go_ret
    exact ⟨rfl, G2b.out⟩
  have tc : decide ((cn : Int) + 1 < n) = false := ltF hc
  have PM3 := Lib.hid (PM2.out (by omega))
  clear PM2
  by_cases hz : 50000 < s.size + t.size
  · have tz : decide ((50000 : Int) < (s.size : Int) + (t.size : Int)) = true := ltT (by omega)
    clear PM3
    go_wp2
    go_ret
    exact ⟨rfl, G2b.out⟩
  have tz : decide ((50000 : Int) < (s.size : Int) + (t.size : Int)) = false := ltF (by omega)
  have PM4 := Lib.hid (PM3.out (by omega))
  have KQ2 := Lib.hid (KQ.out (by omega))
  clear PM3 KQ
  go_wp2_with fail
  refine (KQ2.out w2b G2b.out).mono ?_
  rintro e w3 h
  obtain ⟨b3, rfl, g3⟩ := PF.out _ _ _ h
  have em : m = n ∧ fr = 3 := by have := PM4.out; injection this with a b; exact ⟨a, b⟩
  obtain ⟨rfl, rfl⟩ := em
  have G3 := Lib.hid (G2b.out.trans g3)
  have e1 : (m == m) = true := by simp
  clear g3 h KQ2 PF PM4
  go_wp2_with fail
  go_ret
  exact ⟨rfl, G3.out.alloc' _⟩

theorem reach_str1 {H : Type} {P : Program} {t0 t1 : TypeId} {ts : List TypeId} {a0 a1 : ByteArray} {gs : List (DataW H)} (h : (DataW.weightsEach P ([t0, t1] ++ ts) ([.lit (.string a0.data.toList), .lit (.string a1.data.toList)] ++ gs)).all (· ≤ reachBytes) = true) : a1.size ≤ 140737488351232 := by
  simp only [List.cons_append, List.nil_append, DataW.weightsEach, DataW.weights, List.all_cons, Bool.and_eq_true, decide_eq_true_eq] at h
  have e : a1.data.toList.length = a1.size := by rw [Array.length_toList]; rfl
  have r : reachBytes = 140737488351232 := rfl
  omega

set_option maxRecDepth 100000 in
theorem contract (H : Type) (enc : TypeId × Value → H) (W : World) (base : Nat) (args : Array Value) (ds gs : List (DataW H)) (before : List MemPlace)
    (hval : ∀ (j : Nat) t v, Tryz.f6.params[j]? = some t → args[j]? = some v → Value.okWide Tryz.prog W .any base t v)
    (hW : DataW.Whole enc Tryz.prog Tryz.f6.params.toList Rows.bookLinesSpec.vars false W args.toList ds gs before) (hL : laidMet Tryz.prog Rows.bookLinesRow.laid W) (hsh : W.ShapedOpen Tryz.prog) (hreach : (DataW.weightsEach Tryz.prog (Tryz.f6.params.toList ++ (OpenSpec.ofChange Rows.bookLinesSpec).bare.plain.varTypes Tryz.prog) (ds ++ gs)).all (· ≤ reachBytes) = true) :
    Calls Tryz.prog 6 args W fun e W' => ∃ v, e = .returned v ∧ Rows.bookLinesSpec.post enc Tryz.prog Tryz.f6 false true false false W args v W' := by
  have hW' := hW
  obtain ⟨p, q, hA0, hV, rfl, hfz, hnd⟩ := hW
  have hA : DataW.TrodAll enc Tryz.prog W 0 (fun _ => true) true Tryz.f6.params.toList args.toList ds p := hA0
  rw [Tryz.params6] at hA hval hreach
  obtain ⟨v0, vs0, d0, ds0, p0, q0, hargs, rfl, rfl, h0, r0⟩ := trodAll_cons hA
  obtain ⟨v1, vs1, d1, ds1, p1, q1, rfl, rfl, rfl, h1, r1⟩ := trodAll_cons r0
  obtain ⟨rfl, rfl, rfl⟩ := trodAll_nil r1
  obtain rfl : args = #[v0, v1] := by cases args; simp_all
  obtain ⟨rfl, rfl⟩ := trodVars_none hV
  obtain ⟨a0, rfl, rfl, rfl, w0⟩ := open_string Tryz.underlying9 (hval 0 9 v0 rfl rfl) h0
  obtain ⟨a1, rfl, rfl, rfl, w1⟩ := open_string Tryz.underlying9 (hval 1 9 v1 rfl rfl) h1
  clear hA0
  simp only [List.append_nil] at hW'
  refine (walk a0 w0 a1 w1 W ⟨⟨⟨pow_of hL (List.mem_of_getElem? (i := 2) rfl), wk_of hL (List.mem_of_getElem? (i := 7) rfl)⟩, syn_of hL (List.mem_of_getElem? (i := 6) rfl), rng_of hL (List.mem_of_getElem? (i := 5) rfl), max_of hsh⟩, ⟨lens_of hL (List.mem_of_getElem? (i := 3) rfl), ⟨pow_of hL (List.mem_of_getElem? (i := 2) rfl), wk_of hL (List.mem_of_getElem? (i := 7) rfl)⟩, cl_of hL (List.mem_of_getElem? (i := 8) rfl)⟩⟩ ⟨lens_of hL (List.mem_of_getElem? (i := 3) rfl), pow_of hL (List.mem_of_getElem? (i := 2) rfl), max_of hsh⟩ (reach_str1 hreach)).mono fun e W' ⟨he, hg⟩ => ?_
  subst he
  exact ⟨_, rfl, post_of_below (pa := []) (pv := []) hW' (fun _ _ _ => trodAll_cons_mk (shut_bool Tryz.underlying4 _) trodAll_mk0) (fun _ _ => (trodAll_cons_mk (shut_string Tryz.underlying9 w0) (trodAll_cons_mk (shut_string Tryz.underlying9 w1) trodAll_mk0))) (fun _ _ => rfl) rfl
    hg (ok_one (by kernel_rfl) rfl (okWide_bool_mk Tryz.underlying4 _))⟩

/-- A world for the witness: the settled one, the listed variables holding what their initialisers lay. -/
noncomputable def laidWorld (os : Os) : World := put (put (put (putErr (putErr (put (put (put (put (put (bare os) 7 (flat1 Rows.laid_math_bits_deBruijn32tab)) 8 (flat1 Rows.laid_math_bits_deBruijn64tab)) 6 (flat1 Rows.laid_internal_strconv_uint64pow10)) 3 (flat1 Rows.laid_timeball_civil_lengths)) 5 (flat2 Rows.laid_unicode_utf8_acceptRanges)) 10 (textOf Rows.laid_strconv_ErrRange)) 9 (textOf Rows.laid_strconv_ErrSyntax)) 2 (flat1 Rows.laid_timeball_day_weekdays)) 0 (flat1 Rows.laid_timeball_rule_clockLetters)) 4 (flat1 Rows.laid_unicode_utf8_first)
set_option maxRecDepth 100000 in
theorem laid_met (os : Os) : laidMet Tryz.prog Rows.bookLinesRow.laid ((laidWorld os).forCall (fun _ _ => 0) ⟨#[], #[.string .empty, .string .empty], []⟩).memory :=
  laidMet_of_run3 8 (by kernel_rfl) (by kernel_rfl) (by kernel_rfl)
theorem reads (os : Os) {H : Type} (enc : TypeId × Value → H) : ∃ places, DataW.whole enc Tryz.prog ((laidWorld os).forCall (fun _ _ => 0) ⟨#[], #[.string .empty, .string .empty], []⟩).memory Tryz.f6.params.toList Rows.bookLinesSpec.vars false #[Value.string .empty, Value.string .empty].toList 8 = some ([.lit (.string []), .lit (.string [])], [], places) :=
  ⟨[], by kernel_rfl⟩

set_option maxRecDepth 100000 in
theorem lifted (os : Os) (started : os.Started) (H : Type) (enc : TypeId × Value → H) (F : Stop.Interp) :
    ReturnsInHanded {} Tryz.checked os 6 .any ((OpenSpec.ofChange Rows.bookLinesSpec).preRow enc Tryz.prog Tryz.f6 Rows.bookLinesRow.domain false Rows.bookLinesRow.laid) (((OpenSpec.ofChange Rows.bookLinesSpec).at F).post enc Tryz.prog Tryz.f6 false true false false) := by
  obtain ⟨places, hx⟩ := reads os enc
  refine returnsInHanded_of_row (C := Tryz.checked) (s := OpenSpec.ofChange Rows.bookLinesSpec) own started (by kernel_rfl) Tryz.func6
    (witness_row_at (enc := enc) (C := Tryz.checked) false (laidWorld os) #[.string .empty, .string .empty] rfl (by kernel_rfl) (by kernel_rfl) (by kernel_rfl)
      (OpenSpec.preRow_of_cond 8 hx (by kernel_rfl) (fun k hk => by cases hk) (by kernel_rfl) (laid_met os))) ?_
  intro W base args ds gs before hval hW _ _ hreach hL hsh _
  exact contract H enc W base args ds gs before hval hW hL hsh hreach

theorem said : Rows.BookLinesSaid :=
  OpenClaim.holds_of_cond 6 Tryz.f6 rfl rfl rfl rfl rfl rfl rfl ⟨rfl, rfl, rfl, rfl, rfl⟩ rfl rfl rfl rfl rfl (by kernel_rfl) Tryz.func6 (by kernel_rfl)
    (of_decide_eq_true (by kernel_rfl)) (by unfold Func.isWrapper; first | (rw [if_pos (by decide +kernel)]; kernel_rfl) | (rw [if_neg (by decide +kernel)]; exact ⟨rfl, rfl⟩))
    (fun os started H enc _ F => by rw [OpenClaim.pre_eq_preRow]; exact lifted os started H enc F)

set_option maxRecDepth 100000 in
/-- No parameter wants a stand-in; whether the program has looks of its own. -/
theorem plain (f : FuncId) (fn : Func) (hf : Tryz.pinned.checked.prog.funcNamed "timeball/timeballkeep.BookLines" = some f) (hfn : Tryz.pinned.checked.prog.funcs[f]? = some fn) :
    true = Tryz.pinned.checked.prog.looks [] ∧ ∀ (j : Nat) t, fn.params[j]? = some t → Tryz.pinned.checked.prog.wantsStandIn t = false := by
  obtain rfl : f = 6 := Option.some.inj ((show Tryz.prog.funcNamed "timeball/timeballkeep.BookLines" = some 6 by kernel_rfl).symm.trans hf) |>.symm
  obtain rfl : fn = Tryz.f6 := (Option.some.inj (Tryz.func6.symm.trans hfn)).symm
  refine ⟨by kernel_rfl, fun j t ht => ?_⟩
  rw [Tryz.params6] at ht
  obtain rfl : t = 9 := by simpa using Array.mem_of_getElem? ht
  exact (show Tryz.prog.wantsStandIn 9 = false by kernel_rfl)

end Go.Proofs.YtmemgpmijphkmaaGreatDoor.bookLines
namespace Go.Proofs.YtmemgpmijphkmaaGreatDoor
/-- The card. -/
theorem bookLines_holds : Rows.BookLinesCardSaid :=
  Claim7.holds_tied_plain_at .later [] _ _ _ _ bookLines.said (fun _ h => by cases h) (by kernel_rfl) (fun _ h => by cases h) bookLines_row_tie rfl ⟨rfl, rfl⟩ (by kernel_rfl) rfl bookLines.plain (by kernel_rfl)
end Go.Proofs.YtmemgpmijphkmaaGreatDoor
