/- The law RuleWords of package timeballkeep returns true for every input and leaves its arguments as they were: Names and abbreviations contain only their characters, and a name does not begin with a digit. Condition: the listed variables (math/bits.deBruijn32tab, math/bits.deBruijn64tab, internal/strconv.uint64pow10, timeball/civil.lengths, unicode/utf8.acceptRanges, strconv.ErrRange, strconv.ErrSyntax, timeball/day.weekdays, timeball/rule.clockLetters, unicode/utf8.first) lie as their initialisers lay them; the card ties that to the program's text. -/
import Derived.Test.YteljpjhjoclkfaaGreatDoorCards
import Derived.Test.YteljpjhjoclkfaaGreatDoorTie
import Derived.Test.YteljpjhjoclkfaaGreatDoorR0
import Derived.Test.YteljpjhjoclkfaaGreatDoorP7
import Derived.Test.YteljpjhjoclkfaaGreatDoorRA
namespace Go.Proofs.YteljpjhjoclkfaaGreatDoor.ruleWords
open Go.ChangeShapes Go.WideShapes Go.ChangeAt Go.RowKit
open Go.ChangeMaps (open_string shut_string)
set_option linter.unusedVariables false
set_option linter.unusedSimpArgs false

theorem name_ok : ∀ n : Fin 256, (alnum (n.val : Int) || inB [95, 47, 45] (n.val : Int) 3) = true → ([32, 37, 43, 46, 44, 58] : List UInt8).contains (UInt8.ofNat n.val) = false ∧ n.val < 128 := by decide +kernel
theorem abbr_ok : ∀ n : Fin 256, (alnum (n.val : Int) || inB [43, 45] (n.val : Int) 2) = true → ([32, 37, 47, 95, 46, 44, 58] : List UInt8).contains (UInt8.ofNat n.val) = false ∧ n.val < 128 := by decide +kernel
theorem bt_mem {l : List UInt8} {b : UInt8} (hb : b ∈ l) : ∃ j, j < l.length ∧ bt l j = (b.toNat : Int) := by
  obtain ⟨j, hj, e⟩ := List.getElem_of_mem hb
  exact ⟨j, hj, by unfold bt; simp [List.getD, List.getElem?_eq_getElem hj, e]⟩
theorem name_mem {l : List UInt8} (h : isNameB l = true) {b : UInt8} (hb : b ∈ l) : ([32, 37, 43, 46, 44, 58] : List UInt8).contains b = false ∧ b.toNat < 128 := by
  unfold isNameB at h
  simp only [Bool.and_eq_true] at h
  obtain ⟨j, hj, e⟩ := bt_mem hb
  have := lettersB_all h.1.1.2 j hj
  rw [e] at this
  have k := name_ok ⟨b.toNat, b.toNat_lt⟩ this
  simpa using k
theorem abbr_mem {l : List UInt8} (h : isAbbrB l = true) {b : UInt8} (hb : b ∈ l) : ([32, 37, 47, 95, 46, 44, 58] : List UInt8).contains b = false ∧ b.toNat < 128 := by
  unfold isAbbrB at h
  simp only [Bool.and_eq_true] at h
  obtain ⟨j, hj, e⟩ := bt_mem hb
  have := lettersB_all h.2 j hj
  rw [e] at this
  have k := abbr_ok ⟨b.toNat, b.toNat_lt⟩ this
  simpa using k
theorem any_none {chars : List UInt8} : ∀ {l : List UInt8}, (∀ b, b ∈ l → chars.contains b = false) → Lib.indexAny l chars = -1
  | [], _ => rfl
  | b :: l, h => by
    unfold Lib.indexAny
    have hb := h b (by simp)
    rw [if_neg (by rw [hb]; simp), any_none (fun c hc => h c (by simp [hc]))]
    rfl
theorem contains_no {l chars : List UInt8} (h : ∀ b, b ∈ l → chars.contains b = false ∧ b.toNat < 128) (hc : ∀ b, b ∈ chars → b.toNat < 128) (hl : l.length ≤ 20) (hcl : chars.length ≤ 20) (w : World) :
    Calls Tryz.prog 13 #[.string (S l), .string (S chars)] w fun e w' => e = .returned (.bool false) ∧ Gr w w' := by
  have sd : ∀ l : List UInt8, (S l).data.toList = l := fun l => by simp [S]
  have := Tryz.strings_ContainsAny_laid (S l) (S chars) w (by rw [S_size]; omega) (by rw [S_size]; omega) (fun j b hb => (h b (by rw [sd] at hb; exact List.mem_of_getElem? hb)).2) (fun j b hb => hc b (by rw [sd] at hb; exact List.mem_of_getElem? hb))
  rw [sd, sd] at this
  have e : Lib.containsAny l chars = false := by unfold Lib.containsAny; rw [any_none (fun b hb => (h b hb).1)]; rfl
  rw [e] at this
  exact this
theorem name_end (l : List UInt8) : isNameB (l ++ [32]) = false := by
  cases h : isNameB (l ++ [32]) with
  | false => rfl
  | true => exact absurd (by simp) (name_blank h)
theorem abbr_front (l : List UInt8) : isAbbrB (47 :: l) = false := by
  cases h : isAbbrB (47 :: l) with
  | false => rfl
  | true => have := (abbr_mem h (b := 47) (by simp)).1; revert this; decide
theorem name_first2 {l : List UInt8} (h : isNameB l = true) : 1 ≤ l.length ∧ l.length ≤ 20 ∧ 65 ≤ bt l 0 := by
  unfold isNameB at h
  simp only [Bool.and_eq_true, decide_eq_true_eq] at h
  obtain ⟨⟨⟨⟨a, b⟩, _⟩, c⟩, d⟩ := h
  refine ⟨a, b, ?_⟩
  unfold alnum at c
  simp at c d
  omega

set_option maxRecDepth 100000 in
set_option maxHeartbeats 8000000 in
theorem walkL (l : List UInt8) (w : World) (ht : RpTab w) (hs : l.length ≤ 140737488355328) :
    Calls Tryz.prog 5 #[.string (S l)] w fun e w' => e = .returned (.bool true) ∧ Gr w w' := by
  have KR := Lib.hid (fun w h => ruled_any w h)
  have mx : ∀ k : List UInt8, k.length ≤ 140737488355329 → (S k).size ≤ maxLen := fun k hk => by rw [S_size]; unfold maxLen; omega
  have KN0 := fun w => pname_any (S l) w (mx l (by omega))
  have KA0 := fun w => pabbr_any (S l) w (mx l (by omega))
  have KE0 := fun w => pname_any ⟨#[]⟩ w (by decide)
  have KF0 := fun w => pabbr_any ⟨#[]⟩ w (by decide)
  have KX0 := fun w => pname_any (S (l ++ [32])) w (mx _ (by simp; omega))
  have KY0 := fun w => pabbr_any (S (47 :: l)) w (mx _ (by simp; omega))
  rw [S_toList] at KN0 KA0
  rw [S_toList, name_end] at KX0
  rw [S_toList, abbr_front] at KY0
  rw [lit0, show isNameB [] = false by decide] at KE0
  rw [lit0, show isAbbrB [] = false by decide] at KF0
  have KX := Lib.hid KX0
  have KY := Lib.hid KY0
  have KE := Lib.hid KE0
  have KF := Lib.hid KF0
  have HT := Lib.hid ht
  have NF : Hid (isNameB l = true → 1 ≤ l.length ∧ l.length ≤ 20 ∧ 65 ≤ bt l 0) := name_first2
  have NC : Hid (isNameB l = true → l.length ≤ 20 → ∀ w, Calls Tryz.prog 13 #[.string (S l), .string ⟨#[32, 37, 43, 46, 44, 58]⟩] w fun e w' => e = .returned (.bool false) ∧ Gr w w') := fun h hl w => contains_no (chars := [32, 37, 43, 46, 44, 58]) (fun b hb => name_mem h hb) (by decide) hl (by decide) w
  have AF : Hid (isAbbrB l = true → 1 ≤ l.length ∧ l.length ≤ 8) := fun h => by unfold isAbbrB at h; simp at h; omega
  have AC : Hid (isAbbrB l = true → l.length ≤ 20 → ∀ w, Calls Tryz.prog 13 #[.string (S l), .string ⟨#[32, 37, 47, 95, 46, 44, 58]⟩] w fun e w' => e = .returned (.bool false) ∧ Gr w w') := fun h hl w => contains_no (chars := [32, 37, 47, 95, 46, 44, 58]) (fun b hb => abbr_mem h hb) (by decide) hl (by decide) w
  have EM : Hid (1 ≤ l.length → (l == []) = false) := fun h => by cases l with
    | nil => simp at h
    | cons a b => rfl
  have IX : Hid (1 ≤ l.length → ∀ w, (Instr.index 9 (.string (S l)) (.int .i64 0)).run Tryz.prog w = .ok (.int .u8 (bt l 0)) w) := fun h w => by
    have := idx (S l) 0 (by rw [S_size]; omega) w
    rw [S_toList] at this
    exact this
  generalize isNameB l = bn at KN0 NF NC
  generalize isAbbrB l = ba at KA0 AF AC
  have KN := Lib.hid KN0
  have KA := Lib.hid KA0
  have len1 : ¬ 9223372036854775807 < l.length + 1 := by omega
  have len2 : ¬ 9223372036854775807 < 1 + l.length := by omega
  clear KN0 KA0 KE0 KF0 KX0 KY0 mx ht
  cases bn with
  | false =>
    clear NF NC
    cases ba with
    | false =>
      clear AF AC
      go_enter Tryz.func5, Tryz.ntmps5
      go_wp2_with fail
      refine (KR.out w HT.out).mono ?_
      rintro e w1 ⟨rfl, g1⟩
      go_wp2_with fail
      refine (KN.out w1).mono ?_
      rintro e wx ⟨rfl, rfl⟩
      go_wp2_with fail
      refine (KA.out w1).mono ?_
      rintro e wx ⟨rfl, rfl⟩
      go_wp2_with fail
      refine (KE.out w1).mono ?_
      rintro e wx ⟨rfl, rfl⟩
      go_wp2_with fail
      refine (KF.out w1).mono ?_
      rintro e wx ⟨rfl, rfl⟩
      go_wp2_with fail
      refine (KX.out w1).mono ?_
      rintro e wx ⟨rfl, rfl⟩
      go_wp2_with fail
      refine (KY.out w1).mono ?_
      rintro e wx ⟨rfl, rfl⟩
      go_wp2_with fail
      go_ret
      exact ⟨rfl, g1⟩
    | true =>
      obtain ⟨l1, l8⟩ := AF.out rfl
      have CA := Lib.hid (AC.out rfl (by omega))
      have em := EM.out l1
      have b8 : decide (8 < (l.length : Int)) = false := ltF (by omega)
      clear AF AC EM IX
      go_enter Tryz.func5, Tryz.ntmps5
      go_wp2_with fail
      refine (KR.out w HT.out).mono ?_
      rintro e w1 ⟨rfl, g1⟩
      go_wp2_with fail
      refine (KN.out w1).mono ?_
      rintro e wx ⟨rfl, rfl⟩
      go_wp2_with fail
      refine (KA.out w1).mono ?_
      rintro e wx ⟨rfl, rfl⟩
      go_wp2_with fail
      refine (CA.out w1).mono ?_
      rintro e w2 ⟨rfl, g2⟩
      go_wp2_with fail
      refine (KE.out w2).mono ?_
      rintro e wx ⟨rfl, rfl⟩
      go_wp2_with fail
      refine (KF.out w2).mono ?_
      rintro e wx ⟨rfl, rfl⟩
      go_wp2_with fail
      refine (KX.out w2).mono ?_
      rintro e wx ⟨rfl, rfl⟩
      go_wp2_with fail
      refine (KY.out w2).mono ?_
      rintro e wx ⟨rfl, rfl⟩
      go_wp2_with fail
      go_ret
      exact ⟨rfl, g1.trans g2⟩
  | true =>
    obtain ⟨l1, l20, lc⟩ := NF.out rfl
    have CN := Lib.hid (NC.out rfl (by omega))
    have em := EM.out l1
    have ix := IX.out l1
    have cb := (bt_bd l 0).2
    have b20 : decide (20 < (l.length : Int)) = false := ltF (by omega)
    clear NF NC EM IX
    generalize bt l 0 = c at ix lc cb
    have q1 : decide (48 ≤ c) = true := by simp; omega
    have q2 : decide (c ≤ 57) = false := by simp; omega
    cases ba with
    | false =>
      clear AF AC
      go_enter Tryz.func5, Tryz.ntmps5
      go_wp2_with fail
      refine (KR.out w HT.out).mono ?_
      rintro e w1 ⟨rfl, g1⟩
      go_wp2_with fail
      refine (KN.out w1).mono ?_
      rintro e wx ⟨rfl, rfl⟩
      go_wp2_with fail
      refine (CN.out w1).mono ?_
      rintro e w2 ⟨rfl, g2⟩
      go_wp2_with fail
      refine (KA.out w2).mono ?_
      rintro e wx ⟨rfl, rfl⟩
      go_wp2_with fail
      refine (KE.out w2).mono ?_
      rintro e wx ⟨rfl, rfl⟩
      go_wp2_with fail
      refine (KF.out w2).mono ?_
      rintro e wx ⟨rfl, rfl⟩
      go_wp2_with fail
      refine (KX.out w2).mono ?_
      rintro e wx ⟨rfl, rfl⟩
      go_wp2_with fail
      refine (KY.out w2).mono ?_
      rintro e wx ⟨rfl, rfl⟩
      go_wp2_with fail
      go_ret
      exact ⟨rfl, g1.trans g2⟩
    | true =>
      obtain ⟨_, l8⟩ := AF.out rfl
      have CA := Lib.hid (AC.out rfl (by omega))
      have b8 : decide (8 < (l.length : Int)) = false := ltF (by omega)
      clear AF AC
      go_enter Tryz.func5, Tryz.ntmps5
      go_wp2_with fail
      refine (KR.out w HT.out).mono ?_
      rintro e w1 ⟨rfl, g1⟩
      go_wp2_with fail
      refine (KN.out w1).mono ?_
      rintro e wx ⟨rfl, rfl⟩
      go_wp2_with fail
      refine (CN.out w1).mono ?_
      rintro e w2 ⟨rfl, g2⟩
      go_wp2_with fail
      refine (KA.out w2).mono ?_
      rintro e wx ⟨rfl, rfl⟩
      go_wp2_with fail
      refine (CA.out w2).mono ?_
      rintro e w3 ⟨rfl, g3⟩
      go_wp2_with fail
      refine (KE.out w3).mono ?_
      rintro e wx ⟨rfl, rfl⟩
      go_wp2_with fail
      refine (KF.out w3).mono ?_
      rintro e wx ⟨rfl, rfl⟩
      go_wp2_with fail
      refine (KX.out w3).mono ?_
      rintro e wx ⟨rfl, rfl⟩
      go_wp2_with fail
      refine (KY.out w3).mono ?_
      rintro e wx ⟨rfl, rfl⟩
      go_wp2_with fail
      go_ret
      exact ⟨rfl, (g1.trans g2).trans g3⟩

theorem walk (s : ByteArray) (hs : s.size ≤ maxLen) (w : World) (ht : RpTab w) (hr : s.size ≤ 140737488351232) :
    Calls Tryz.prog 5 #[.string s] w fun e w' => e = .returned (.bool true) ∧ Gr w w' := by
  have := walkL s.toList w ht (by rw [toList_size]; omega)
  rw [← S_of] at this
  exact this

theorem reach_str {H : Type} {P : Program} {t : TypeId} {ts : List TypeId} {l : ByteArray} {gs : List (DataW H)} (h : (DataW.weightsEach P ([t] ++ ts) ([.lit (.string l.data.toList)] ++ gs)).all (· ≤ reachBytes) = true) : l.size ≤ 140737488351232 := by
  simp only [List.cons_append, List.nil_append, DataW.weightsEach, DataW.weights, List.all_cons, Bool.and_eq_true, decide_eq_true_eq] at h
  have e : l.data.toList.length = l.size := by rw [Array.length_toList]; rfl
  have r : reachBytes = 140737488351232 := rfl
  omega

set_option maxRecDepth 100000 in
theorem contract (H : Type) (enc : TypeId × Value → H) (W : World) (base : Nat) (args : Array Value) (ds gs : List (DataW H)) (before : List MemPlace)
    (hval : ∀ (j : Nat) t v, Tryz.f5.params[j]? = some t → args[j]? = some v → Value.okWide Tryz.prog W .any base t v)
    (hW : DataW.Whole enc Tryz.prog Tryz.f5.params.toList Rows.ruleWordsSpec.vars false W args.toList ds gs before) (hL : laidMet Tryz.prog Rows.ruleWordsRow.laid W) (hsh : W.ShapedOpen Tryz.prog) (hreach : (DataW.weightsEach Tryz.prog (Tryz.f5.params.toList ++ (OpenSpec.ofChange Rows.ruleWordsSpec).bare.plain.varTypes Tryz.prog) (ds ++ gs)).all (· ≤ reachBytes) = true) :
    Calls Tryz.prog 5 args W fun e W' => ∃ v, e = .returned v ∧ Rows.ruleWordsSpec.post enc Tryz.prog Tryz.f5 false true false false W args v W' := by
  have hW' := hW
  obtain ⟨p, q, hA0, hV, rfl, hfz, hnd⟩ := hW
  have hA : DataW.TrodAll enc Tryz.prog W 0 (fun _ => true) true Tryz.f5.params.toList args.toList ds p := hA0
  rw [Tryz.params5] at hA hval hreach
  obtain ⟨v0, vs0, d0, ds0, p0, q0, hargs, rfl, rfl, h0, r0⟩ := trodAll_cons hA
  obtain ⟨rfl, rfl, rfl⟩ := trodAll_nil r0
  obtain rfl : args = #[v0] := by cases args; simp_all
  obtain ⟨rfl, rfl⟩ := trodVars_none hV
  obtain ⟨a0, rfl, rfl, rfl, w0⟩ := open_string Tryz.underlying9 (hval 0 9 v0 rfl rfl) h0
  clear hA0
  simp only [List.append_nil] at hW'
  refine (walk a0 w0 W ⟨⟨⟨pow_of hL (List.mem_of_getElem? (i := 2) rfl), wk_of hL (List.mem_of_getElem? (i := 7) rfl)⟩, syn_of hL (List.mem_of_getElem? (i := 6) rfl), rng_of hL (List.mem_of_getElem? (i := 5) rfl), max_of hsh⟩, ⟨lens_of hL (List.mem_of_getElem? (i := 3) rfl), ⟨pow_of hL (List.mem_of_getElem? (i := 2) rfl), wk_of hL (List.mem_of_getElem? (i := 7) rfl)⟩, cl_of hL (List.mem_of_getElem? (i := 8) rfl)⟩⟩ (reach_str hreach)).mono fun e W' ⟨he, hg⟩ => ?_
  subst he
  exact ⟨_, rfl, post_of_below (pa := []) (pv := []) hW' (fun _ _ _ => trodAll_cons_mk (shut_bool Tryz.underlying4 _) trodAll_mk0) (fun _ _ => (trodAll_cons_mk (shut_string Tryz.underlying9 w0) trodAll_mk0)) (fun _ _ => rfl) rfl
    hg (ok_one (by kernel_rfl) rfl (okWide_bool_mk Tryz.underlying4 _))⟩

/-- A world for the witness: the settled one, the listed variables holding what their initialisers lay. -/
noncomputable def laidWorld (os : Os) : World := put (put (put (putErr (putErr (put (put (put (put (put (bare os) 9 (flat1 Rows.laid_math_bits_deBruijn32tab)) 10 (flat1 Rows.laid_math_bits_deBruijn64tab)) 4 (flat1 Rows.laid_internal_strconv_uint64pow10)) 2 (flat1 Rows.laid_timeball_civil_lengths)) 6 (flat2 Rows.laid_unicode_utf8_acceptRanges)) 8 (textOf Rows.laid_strconv_ErrRange)) 7 (textOf Rows.laid_strconv_ErrSyntax)) 1 (flat1 Rows.laid_timeball_day_weekdays)) 0 (flat1 Rows.laid_timeball_rule_clockLetters)) 5 (flat1 Rows.laid_unicode_utf8_first)
set_option maxRecDepth 100000 in
theorem laid_met (os : Os) : laidMet Tryz.prog Rows.ruleWordsRow.laid ((laidWorld os).forCall (fun _ _ => 0) ⟨#[], #[.string .empty], []⟩).memory :=
  laidMet_of_run3 8 (by kernel_rfl) (by kernel_rfl) (by kernel_rfl)
theorem reads (os : Os) {H : Type} (enc : TypeId × Value → H) : ∃ places, DataW.whole enc Tryz.prog ((laidWorld os).forCall (fun _ _ => 0) ⟨#[], #[.string .empty], []⟩).memory Tryz.f5.params.toList Rows.ruleWordsSpec.vars false #[Value.string .empty].toList 8 = some ([.lit (.string [])], [], places) :=
  ⟨[], by kernel_rfl⟩

set_option maxRecDepth 100000 in
theorem lifted (os : Os) (started : os.Started) (H : Type) (enc : TypeId × Value → H) (F : Stop.Interp) :
    ReturnsInHanded {} Tryz.checked os 5 .any ((OpenSpec.ofChange Rows.ruleWordsSpec).preRow enc Tryz.prog Tryz.f5 Rows.ruleWordsRow.domain false Rows.ruleWordsRow.laid) (((OpenSpec.ofChange Rows.ruleWordsSpec).at F).post enc Tryz.prog Tryz.f5 false true false false) := by
  obtain ⟨places, hx⟩ := reads os enc
  refine returnsInHanded_of_row (C := Tryz.checked) (s := OpenSpec.ofChange Rows.ruleWordsSpec) own started (by kernel_rfl) Tryz.func5
    (witness_row_at (enc := enc) (C := Tryz.checked) false (laidWorld os) #[.string .empty] rfl (by kernel_rfl) (by kernel_rfl) (by kernel_rfl)
      (OpenSpec.preRow_of_cond 8 hx (by kernel_rfl) (fun k hk => by cases hk) (by kernel_rfl) (laid_met os))) ?_
  intro W base args ds gs before hval hW _ _ hreach hL hsh _
  exact contract H enc W base args ds gs before hval hW hL hsh hreach

theorem said : Rows.RuleWordsSaid :=
  OpenClaim.holds_of_cond 5 Tryz.f5 rfl rfl rfl rfl rfl rfl rfl ⟨rfl, rfl, rfl, rfl, rfl⟩ rfl rfl rfl rfl rfl (by kernel_rfl) Tryz.func5 (by kernel_rfl)
    (of_decide_eq_true (by kernel_rfl)) (by unfold Func.isWrapper; first | (rw [if_pos (by decide +kernel)]; kernel_rfl) | (rw [if_neg (by decide +kernel)]; exact ⟨rfl, rfl⟩))
    (fun os started H enc _ F => by rw [OpenClaim.pre_eq_preRow]; exact lifted os started H enc F)

set_option maxRecDepth 100000 in
/-- No parameter wants a stand-in; whether the program has looks of its own. -/
theorem plain (f : FuncId) (fn : Func) (hf : Tryz.pinned.checked.prog.funcNamed "timeball/timeballkeep.RuleWords" = some f) (hfn : Tryz.pinned.checked.prog.funcs[f]? = some fn) :
    true = Tryz.pinned.checked.prog.looks [] ∧ ∀ (j : Nat) t, fn.params[j]? = some t → Tryz.pinned.checked.prog.wantsStandIn t = false := by
  obtain rfl : f = 5 := Option.some.inj ((show Tryz.prog.funcNamed "timeball/timeballkeep.RuleWords" = some 5 by kernel_rfl).symm.trans hf) |>.symm
  obtain rfl : fn = Tryz.f5 := (Option.some.inj (Tryz.func5.symm.trans hfn)).symm
  refine ⟨by kernel_rfl, fun j t ht => ?_⟩
  rw [Tryz.params5] at ht
  obtain rfl : t = 9 := by simpa using Array.mem_of_getElem? ht
  exact (show Tryz.prog.wantsStandIn 9 = false by kernel_rfl)

end Go.Proofs.YteljpjhjoclkfaaGreatDoor.ruleWords
namespace Go.Proofs.YteljpjhjoclkfaaGreatDoor
/-- The card. -/
theorem ruleWords_holds : Rows.RuleWordsCardSaid :=
  Claim7.holds_tied_plain_at .later [] _ _ _ _ ruleWords.said (fun _ h => by cases h) (by kernel_rfl) (fun _ h => by cases h) ruleWords_row_tie rfl ⟨rfl, rfl⟩ (by kernel_rfl) rfl ruleWords.plain (by kernel_rfl)
end Go.Proofs.YteljpjhjoclkfaaGreatDoor
