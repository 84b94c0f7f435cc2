/- The law BookAbbr of package timeballkeep returns true for every input and leaves its arguments as they were: A resulting abbreviation is valid; the letter replaces the percent sign; of two abbreviations the second one is that of daylight saving time. Condition: the listed variables (math/bits.deBruijn32tab, math/bits.deBruijn64tab, internal/strconv.uint64pow10, timeball/civil.lengths, unicode/utf8.acceptRanges, strconv.ErrRange, strconv.ErrSyntax, timeball/day.weekdays, timeball/rule.clockLetters, unicode/utf8.first) lie as their initialisers lay them; the card ties that tto the program's text. -/
import Derived.Test.YtmemgpmijphkmaaGreatDoorCards
import Derived.Test.YtmemgpmijphkmaaGreatDoorTie
import Derived.Test.YtmemgpmijphkmaaGreatDoorUM04
import Derived.Test.YtmemgpmijphkmaaGreatDoorUM50
import Derived.Test.YtmemgpmijphkmaaGreatDoorUM33
import Derived.Test.YtmemgpmijphkmaaGreatDoorUM34
import Derived.Test.YtmemgpmijphkmaaGreatDoorUM51
namespace Go.Proofs.YtmemgpmijphkmaaGreatDoor.bookAbbr
open Go.ChangeShapes Go.WideShapes Go.ChangeAt Go.RowKit
open Go.ChangeMaps (open_string shut_string)
set_option linter.unusedVariables false
set_option linter.unusedSimpArgs false
theorem letters_mem {l o : List UInt8} : lettersB l o l.length = true ↔ ∀ c ∈ l, (alnum (c.toNat : Int) || inB o (c.toNat : Int) o.length) = true := by
  constructor
  · intro h c hc
    obtain ⟨j, hj, e⟩ := List.getElem_of_mem hc
    have := lettersB_all h j hj
    rw [show bt l j = (c.toNat : Int) by unfold bt; simp [List.getD, List.getElem?_eq_getElem hj, e]] at this
    exact this
  · intro h
    have key : ∀ n, n ≤ l.length → lettersB l o n = true := by
      intro n
      induction n with
      | zero => intro _; rfl
      | succ n ih =>
        intro hn
        unfold lettersB
        rw [ih (by omega), Bool.true_and]
        have := h l[n] (List.getElem_mem _)
        rw [show bt l n = (l[n].toNat : Int) by unfold bt; simp [List.getD, List.getElem?_eq_getElem (show n < l.length by omega)]]
        exact this
    exact key _ (Nat.le_refl _)
def okc (c : UInt8) : Prop := (alnum (c.toNat : Int) || inB [43, 45] (c.toNat : Int) 2) = true
theorem abbr_iff {l : List UInt8} : isAbbrB l = true ↔ 1 ≤ l.length ∧ l.length ≤ 8 ∧ ∀ c ∈ l, okc c := by
  unfold isAbbrB
  simp only [Bool.and_eq_true, decide_eq_true_eq]
  rw [letters_mem, and_assoc]
  exact Iff.rfl
theorem abbr_good {f lt x : List UInt8} {sv : Int} (h : abbrR f sv lt = (x, 0)) : isAbbrB x = true ∧ (isAbbrB f = true → x = f) := by
  unfold abbrR at h
  cases ho : fmtOut f sv lt with
  | none => rw [ho] at h; simp [abbrOf] at h
  | some l =>
    rw [ho] at h
    have hl : l = x ∧ l.length ≤ 8 ∧ l ≠ [] := by
      simp only [abbrOf] at h
      split at h
      · simp at h
      · split at h
        · simp at h
        · split at h
          · simp at h
          · rename_i a b c
            injection h with h1 _
            exact ⟨h1, by omega, c⟩
    obtain ⟨rfl, h8, hne⟩ := hl
    have h1 : 1 ≤ l.length := by cases l with | nil => exact absurd rfl hne | cons a b => simp
    unfold fmtOut at ho
    split at ho
    · cases ho
    split at ho
    · cases ho
    rename_i hlt
    have hlt' : isAbbrB lt = true := by simpa using hlt
    split at ho
    · rename_i p hp
      split at ho
      · rename_i hab
        injection ho with ho
        refine ⟨by rw [← ho]; split; exact hab.1; exact hab.2, fun hf => ?_⟩
        rw [cutAt_no (abbr_no47 hf)] at hp
        cases hp
      · cases ho
    · split at ho
      · rename_i p hp
        split at ho
        · rename_i hab
          injection ho with ho
          refine ⟨abbr_iff.2 ⟨h1, h8, fun c hc => ?_⟩, fun hf => ?_⟩
          · rw [← ho] at hc
            have hin : c ∈ p.1 ++ p.2 ∨ c ∈ lt := by
              simp only [List.mem_append] at hc ⊢
              rcases hc with (hc | hc) | hc
              · exact Or.inl (Or.inl hc)
              · split at hc
                · cases hc
                · exact Or.inr hc
              · exact Or.inl (Or.inr hc)
            rcases hin with hin | hin
            · rcases hab with hab | hab
              · rw [hab] at hin; cases hin
              · exact (abbr_iff.1 hab).2.2 c hin
            · exact (abbr_iff.1 hlt').2.2 c hin
          · rw [cutAt_no (abbr_no37 hf)] at hp
            cases hp
        · cases ho
      · split at ho
        · rename_i hf
          injection ho with ho
          exact ⟨by rw [← ho]; exact hf, fun _ => ho.symm⟩
        · cases ho
theorem abbr_two {a b : List UInt8} {sv : Int} (ha : isAbbrB a = true) (hb : isAbbrB b = true) (hl : a.length + b.length ≤ 11) (h0 : 0 ≤ sv) (h1 : sv ≤ 10800) : abbrR (a ++ 47 :: b) sv [45] = (if sv = 0 then a else b, 0) := by
  have la := abbr_len1 ha
  have lb := abbr_len1 hb
  unfold abbrR
  rw [fmt_two (by simp; omega) (by decide) (abbr_no47 ha), if_pos ⟨ha, hb⟩]
  split
  · exact abbrOf_ok (by omega) (by omega) (fun e => by rw [e] at la; simp at la)
  · exact abbrOf_ok (by omega) (by omega) (fun e => by rw [e] at lb; simp at lb)
theorem app_lit (a b : ByteArray) : (a ++ ⟨#[47]⟩ ++ b).toList = a.toList ++ 47 :: b.toList := by
  rw [app_toList, app_toList, show (ByteArray.mk #[47]).toList = [47] from ByteArray.toList_mk [47]]; simp

set_option maxRecDepth 100000 in
set_option maxHeartbeats 8000000 in
theorem walk (a : ByteArray) (ha : a.size ≤ maxLen) (b : ByteArray) (hb : b.size ≤ maxLen) (lt : ByteArray) (hlt : lt.size ≤ maxLen) (sv : Int) (s1 : -9223372036854775808 ≤ sv) (s2 : sv ≤ 9223372036854775807) (w : World) (ht : RpTab w) (hk : BkTab w) :
    Calls Tryz.prog 7 #[.string a, .string b, .string lt, .int .i64 sv] w fun e w' => e = .returned (.bool true) ∧ Gr w w' := by
  have KB := Lib.hid (booked_any w ht hk)
  have KR := Lib.hid (fun w => rest_any sv 10800 w s1 s2 (by omega) (by omega))
  have n1 : 0 ≤ sv % 10800 := by omega
  have n2 : sv % 10800 < 10800 := by omega
  generalize sv % 10800 = n at KR n1 n2
  have KP := Lib.hid (fun w hm => pabbrFmt a (n + 1) lt w hm hlt)
  have KA := Lib.hid (fun w => pabbr_any a w ha)
  have KC := Lib.hid (fun w => pabbr_any b w hb)
  have GD : Hid (∀ x, abbrR a.toList (n + 1) lt.toList = (x, 0) → isAbbrB x = true ∧ (isAbbrB a.toList = true → x = a.toList)) := fun x h => abbr_good h
  have SA : Hid (isAbbrB a.toList = true → 1 ≤ a.size ∧ a.size ≤ 8) := fun h => by rw [size_toList]; exact abbr_len1 h
  have SB : Hid (isAbbrB b.toList = true → 1 ≤ b.size ∧ b.size ≤ 8) := fun h => by rw [size_toList]; exact abbr_len1 h
  have TW : Hid (isAbbrB a.toList = true → isAbbrB b.toList = true → a.size + b.size ≤ 11 → abbrR (a ++ ⟨#[47]⟩ ++ b).toList 0 [45] = (a.toList, 0) ∧ abbrR (a ++ ⟨#[47]⟩ ++ b).toList (n + 1) [45] = (b.toList, 0)) := fun p q r => by
    rw [app_lit]
    have hl : a.toList.length + b.toList.length ≤ 11 := by rw [← size_toList, ← size_toList]; exact r
    refine ⟨?_, ?_⟩
    · rw [abbr_two p q hl (by omega) (by omega), if_pos rfl]
    · rw [abbr_two p q hl (by omega) (by omega), if_neg (by omega)]
  have KD := Lib.hid (fun w hm => pabbrFmt (a ++ ⟨#[47]⟩ ++ b) 0 dash w hm (by decide))
  have KF := Lib.hid (fun w hm => pabbrFmt (a ++ ⟨#[47]⟩ ++ b) (n + 1) dash w hm (by decide))
  rw [show dash.toList = [45] from ByteArray.toList_mk [45]] at KD KF
  unfold dash at KD KF
  have HM := Lib.hid hk.2.2
  clear ht hk s1 s2 hlt
  unfold maxLen at ha hb
  obtain ⟨R1, R2, ER⟩ : ∃ x e, abbrR a.toList (n + 1) lt.toList = (x, e) := ⟨_, _, rfl⟩
  rw [ER] at KP GD
  have AB := Lib.hid (show ∀ x y : List UInt8, x = y → S x = S y from fun _ _ h => congrArg S h)
  clear ER
  go_enter Tryz.func7, Tryz.ntmps7
  go_wp2_with fail
  refine KB.out.mono ?_
  rintro e w1 ⟨rfl, g1⟩
  have G1 := Lib.hid g1
  clear g1 KB
  go_wp2_with fail
  refine (KR.out w1).mono ?_
  rintro e w' ⟨rfl, rfl⟩
  clear KR
  go_wp2_with fail
  refine (KP.out w1 (G1.out.max HM.out)).mono ?_
  rintro e w2 ⟨rfl, g2⟩
  have G2 := Lib.hid (G1.out.trans g2)
  clear g2 KP G1
  generalize isAbbrB a.toList = ba at KA GD SA TW
  generalize isAbbrB b.toList = bb at KC SB TW
  have rest : ∀ W : World, Hid (Gr w W) → True := fun _ _ => trivial
  clear rest
  by_cases h0 : R2 = 0
  · subst h0
    have GX := GD.out R1 rfl
    have KX := Lib.hid (fun w => pabbr_any (S R1) w (by rw [S_size]; have := abbr_len1 GX.1; unfold maxLen; omega))
    rw [S_toList, GX.1] at KX
    have HX : Hid (ba = true → S R1 = a) := fun h => by rw [GX.2 h, S_toList']
    clear GX GD
    generalize S R1 = X at KX HX ⊢
    cases ba with
    | false =>
      go_wp2_with fail
      refine (KX.out w2).mono ?_
      rintro e w' ⟨rfl, rfl⟩
      go_wp2_with fail
      refine (KA.out w2).mono ?_
      rintro e w' ⟨rfl, rfl⟩
      go_wp2_with fail
      refine (KA.out w2).mono ?_
      rintro e w' ⟨rfl, rfl⟩
      go_wp2_with fail
      go_ret
      exact ⟨rfl, G2.out⟩
    | true =>
      obtain rfl := HX.out rfl
      have xx : (X.toList != X.toList) = false := by simp
      have sz := SA.out rfl
      have TW1 := Lib.hid (TW.out rfl)
      clear TW
      go_wp2_with fail
      refine (KX.out w2).mono ?_
      rintro e w' ⟨rfl, rfl⟩
      go_wp2_with fail
      refine (KA.out w2).mono ?_
      rintro e w' ⟨rfl, rfl⟩
      go_wp2_with fail
      refine (KA.out w2).mono ?_
      rintro e w' ⟨rfl, rfl⟩
      go_wp2_with fail
      refine (KC.out w2).mono ?_
      rintro e w' ⟨rfl, rfl⟩
      cases bb with
      | false =>
        go_wp2_with fail
        go_ret
        exact ⟨rfl, G2.out⟩
      | true =>
      have sy := SB.out rfl
      by_cases h11 : 11 < X.size + b.size
      · have t11 : decide ((11 : Int) < (X.size : Int) + (b.size : Int)) = true := ltT (by omega)
        go_wp2
        go_ret
        exact ⟨rfl, G2.out⟩
      have t11 : decide ((11 : Int) < (X.size : Int) + (b.size : Int)) = false := ltF (by omega)
      obtain ⟨e1, e2⟩ := TW1.out rfl (by omega)
      rw [e1] at KD
      rw [e2] at KF
      simp only [S_toList'] at KD KF
      clear e1 e2 TW1 xx
      go_wp2_with fail
      refine (KD.out w2 (G2.out.max HM.out)).mono ?_
      rintro e w3 ⟨rfl, g3⟩
      have G3 := Lib.hid (G2.out.trans g3)
      clear g3 KD
      go_wp2_with fail
      refine (KF.out w3 (G3.out.max HM.out)).mono ?_
      rintro e w4 ⟨rfl, g4⟩
      have x1 : (X.toList == X.toList) = true := by simp
      have x2 : (b.toList == b.toList) = true := by simp
      go_wp2_with fail
      go_ret
      exact ⟨rfl, G3.out.trans g4⟩
  · have t0 := beqF h0
    generalize S R1 = X
    clear GD h0
    cases ba with
    | false =>
      go_wp2_with fail
      refine (KA.out w2).mono ?_
      rintro e w' ⟨rfl, rfl⟩
      go_wp2_with fail
      go_ret
      exact ⟨rfl, G2.out⟩
    | true =>
      have sz := SA.out rfl
      have TW1 := Lib.hid (TW.out rfl)
      clear TW
      go_wp2_with fail
      refine (KA.out w2).mono ?_
      rintro e w' ⟨rfl, rfl⟩
      go_wp2_with fail
      refine (KC.out w2).mono ?_
      rintro e w' ⟨rfl, rfl⟩
      cases bb with
      | false =>
        go_wp2_with fail
        go_ret
        exact ⟨rfl, G2.out⟩
      | true =>
      have sy := SB.out rfl
      by_cases h11 : 11 < a.size + b.size
      · have t11 : decide ((11 : Int) < (a.size : Int) + (b.size : Int)) = true := ltT (by omega)
        go_wp2
        go_ret
        exact ⟨rfl, G2.out⟩
      have t11 : decide ((11 : Int) < (a.size : Int) + (b.size : Int)) = false := ltF (by omega)
      obtain ⟨e1, e2⟩ := TW1.out rfl (by omega)
      rw [e1] at KD
      rw [e2] at KF
      simp only [S_toList'] at KD KF
      clear e1 e2 TW1
      go_wp2_with fail
      refine (KD.out w2 (G2.out.max HM.out)).mono ?_
      rintro e w3 ⟨rfl, g3⟩
      have G3 := Lib.hid (G2.out.trans g3)
      clear g3 KD
      go_wp2_with fail
      refine (KF.out w3 (G3.out.max HM.out)).mono ?_
      rintro e w4 ⟨rfl, g4⟩
      have x1 : (a.toList == a.toList) = true := by simp
      have x2 : (b.toList == b.toList) = true := by simp
      go_wp2_with fail
      go_ret
      exact ⟨rfl, G3.out.trans g4⟩

set_option maxRecDepth 100000 in
theorem contract (H : Type) (enc : TypeId × Value → H) (W : World) (base : Nat) (args : Array Value) (ds gs : List (DataW H)) (before : List MemPlace)
    (hval : ∀ (j : Nat) t v, Tryz.f7.params[j]? = some t → args[j]? = some v → Value.okWide Tryz.prog W .any base t v)
    (hW : DataW.Whole enc Tryz.prog Tryz.f7.params.toList Rows.bookAbbrSpec.vars false W args.toList ds gs before) (hL : laidMet Tryz.prog Rows.bookAbbrRow.laid W) (hsh : W.ShapedOpen Tryz.prog) :
    Calls Tryz.prog 7 args W fun e W' => ∃ v, e = .returned v ∧ Rows.bookAbbrSpec.post enc Tryz.prog Tryz.f7 false true false false W args v W' := by
  have hW' := hW
  obtain ⟨p, q, hA0, hV, rfl, hfz, hnd⟩ := hW
  have hA : DataW.TrodAll enc Tryz.prog W 0 (fun _ => true) true Tryz.f7.params.toList args.toList ds p := hA0
  rw [Tryz.params7] at hA hval
  obtain ⟨v0, vs0, d0, ds0, p0, q0, hargs, rfl, rfl, h0, r0⟩ := trodAll_cons hA
  obtain ⟨v1, vs1, d1, ds1, p1, q1, rfl, rfl, rfl, h1, r1⟩ := trodAll_cons r0
  obtain ⟨v2, vs2, d2, ds2, p2, q2, rfl, rfl, rfl, h2, r2⟩ := trodAll_cons r1
  obtain ⟨v3, vs3, d3, ds3, p3, q3, rfl, rfl, rfl, h3, r3⟩ := trodAll_cons r2
  obtain ⟨rfl, rfl, rfl⟩ := trodAll_nil r3
  obtain rfl : args = #[v0, v1, v2, v3] := by cases args; simp_all
  obtain ⟨rfl, rfl⟩ := trodVars_none hV
  obtain ⟨a0, rfl, rfl, rfl, w0⟩ := open_string Tryz.underlying9 (hval 0 9 v0 rfl rfl) h0
  obtain ⟨a1, rfl, rfl, rfl, w1⟩ := open_string Tryz.underlying9 (hval 1 9 v1 rfl rfl) h1
  obtain ⟨a2, rfl, rfl, rfl, w2⟩ := open_string Tryz.underlying9 (hval 2 9 v2 rfl rfl) h2
  obtain ⟨a3, rfl, rfl, rfl, w3⟩ := open_int Tryz.underlying3 (hval 3 3 v3 rfl rfl) h3
  clear hA0
  simp only [List.append_nil] at hW'
  refine (walk a0 w0 a1 w1 a2 w2 a3 (bounds_i64 w3).1 (bounds_i64 w3).2 W ⟨⟨⟨pow_of hL (List.mem_of_getElem? (i := 2) rfl), wk_of hL (List.mem_of_getElem? (i := 7) rfl)⟩, syn_of hL (List.mem_of_getElem? (i := 6) rfl), rng_of hL (List.mem_of_getElem? (i := 5) rfl), max_of hsh⟩, ⟨lens_of hL (List.mem_of_getElem? (i := 3) rfl), ⟨pow_of hL (List.mem_of_getElem? (i := 2) rfl), wk_of hL (List.mem_of_getElem? (i := 7) rfl)⟩, cl_of hL (List.mem_of_getElem? (i := 8) rfl)⟩⟩ ⟨lens_of hL (List.mem_of_getElem? (i := 3) rfl), pow_of hL (List.mem_of_getElem? (i := 2) rfl), max_of hsh⟩).mono fun e W' ⟨he, hg⟩ => ?_
  subst he
  exact ⟨_, rfl, post_of_below (pa := []) (pv := []) hW' (fun _ _ _ => trodAll_cons_mk (shut_bool Tryz.underlying4 _) trodAll_mk0) (fun _ _ => (trodAll_cons_mk (shut_string Tryz.underlying9 w0) (trodAll_cons_mk (shut_string Tryz.underlying9 w1) (trodAll_cons_mk (shut_string Tryz.underlying9 w2) (trodAll_cons_mk (shut_int Tryz.underlying3 w3) trodAll_mk0))))) (fun _ _ => rfl) rfl
    hg (ok_one (by kernel_rfl) rfl (okWide_bool_mk Tryz.underlying4 _))⟩

/-- A world for the witness: the settled one, the listed variables holding what their initialisers lay. -/
noncomputable def laidWorld (os : Os) : World := put (put (put (putErr (putErr (put (put (put (put (put (bare os) 7 (flat1 Rows.laid_math_bits_deBruijn32tab)) 8 (flat1 Rows.laid_math_bits_deBruijn64tab)) 6 (flat1 Rows.laid_internal_strconv_uint64pow10)) 3 (flat1 Rows.laid_timeball_civil_lengths)) 5 (flat2 Rows.laid_unicode_utf8_acceptRanges)) 10 (textOf Rows.laid_strconv_ErrRange)) 9 (textOf Rows.laid_strconv_ErrSyntax)) 2 (flat1 Rows.laid_timeball_day_weekdays)) 0 (flat1 Rows.laid_timeball_rule_clockLetters)) 4 (flat1 Rows.laid_unicode_utf8_first)
set_option maxRecDepth 100000 in
theorem laid_met (os : Os) : laidMet Tryz.prog Rows.bookAbbrRow.laid ((laidWorld os).forCall (fun _ _ => 0) ⟨#[], #[.string .empty, .string .empty, .string .empty, .int .i64 0], []⟩).memory :=
  laidMet_of_run3 8 (by kernel_rfl) (by kernel_rfl) (by kernel_rfl)
theorem reads (os : Os) {H : Type} (enc : TypeId × Value → H) : ∃ places, DataW.whole enc Tryz.prog ((laidWorld os).forCall (fun _ _ => 0) ⟨#[], #[.string .empty, .string .empty, .string .empty, .int .i64 0], []⟩).memory Tryz.f7.params.toList Rows.bookAbbrSpec.vars false #[Value.string .empty, Value.string .empty, Value.string .empty, Value.int .i64 0].toList 8 = some ([.lit (.string []), .lit (.string []), .lit (.string []), .lit (.int .i64 0)], [], places) :=
  ⟨[], by kernel_rfl⟩

set_option maxRecDepth 100000 in
theorem lifted (os : Os) (started : os.Started) (H : Type) (enc : TypeId × Value → H) (F : Stop.Interp) :
    ReturnsInHanded {} Tryz.checked os 7 .any ((OpenSpec.ofChange Rows.bookAbbrSpec).preRow enc Tryz.prog Tryz.f7 Rows.bookAbbrRow.domain false Rows.bookAbbrRow.laid) (((OpenSpec.ofChange Rows.bookAbbrSpec).at F).post enc Tryz.prog Tryz.f7 false true false false) := by
  obtain ⟨places, hx⟩ := reads os enc
  refine returnsInHanded_of_row (C := Tryz.checked) (s := OpenSpec.ofChange Rows.bookAbbrSpec) own started (by kernel_rfl) Tryz.func7
    (witness_row_at (enc := enc) (C := Tryz.checked) false (laidWorld os) #[.string .empty, .string .empty, .string .empty, .int .i64 0] rfl (by kernel_rfl) (by kernel_rfl) (by kernel_rfl)
      (OpenSpec.preRow_of_cond 8 hx (by kernel_rfl) (fun k hk => by cases hk) (by kernel_rfl) (laid_met os))) ?_
  intro W base args ds gs before hval hW _ _ _ hL hsh _
  exact contract H enc W base args ds gs before hval hW hL hsh

theorem said : Rows.BookAbbrSaid :=
  OpenClaim.holds_of_cond 7 Tryz.f7 rfl rfl rfl rfl rfl rfl rfl ⟨rfl, rfl, rfl, rfl, rfl⟩ rfl rfl rfl rfl rfl (by kernel_rfl) Tryz.func7 (by kernel_rfl)
    (of_decide_eq_true (by kernel_rfl)) (by unfold Func.isWrapper; first | (rw [if_pos (by decide +kernel)]; kernel_rfl) | (rw [if_neg (by decide +kernel)]; exact ⟨rfl, rfl⟩))
    (fun os started H enc _ F => by rw [OpenClaim.pre_eq_preRow]; exact lifted os started H enc F)

set_option maxRecDepth 100000 in
/-- No parameter wants a stand-in; whether the program has looks of its own. -/
theorem plain (f : FuncId) (fn : Func) (hf : Tryz.pinned.checked.prog.funcNamed "timeball/timeballkeep.BookAbbr" = some f) (hfn : Tryz.pinned.checked.prog.funcs[f]? = some fn) :
    true = Tryz.pinned.checked.prog.looks [] ∧ ∀ (j : Nat) t, fn.params[j]? = some t → Tryz.pinned.checked.prog.wantsStandIn t = false := by
  obtain rfl : f = 7 := Option.some.inj ((show Tryz.prog.funcNamed "timeball/timeballkeep.BookAbbr" = some 7 by kernel_rfl).symm.trans hf) |>.symm
  obtain rfl : fn = Tryz.f7 := (Option.some.inj (Tryz.func7.symm.trans hfn)).symm
  refine ⟨by kernel_rfl, fun j t ht => ?_⟩
  rw [Tryz.params7] at ht
  have hm : t = 3 ∨ t = 9 := by have := Array.mem_of_getElem? ht; simp at this; first | exact this | exact this.symm | (rcases this with h | h | h <;> simp [h]) | omega
  rcases hm with rfl | rfl
  · exact (show Tryz.prog.wantsStandIn 3 = false by kernel_rfl)
  · exact (show Tryz.prog.wantsStandIn 9 = false by kernel_rfl)

end Go.Proofs.YtmemgpmijphkmaaGreatDoor.bookAbbr
namespace Go.Proofs.YtmemgpmijphkmaaGreatDoor
/-- The card. -/
theorem bookAbbr_holds : Rows.BookAbbrCardSaid :=
  Claim7.holds_tied_plain_at .later [] _ _ _ _ bookAbbr.said (fun _ h => by cases h) (by kernel_rfl) (fun _ h => by cases h) bookAbbr_row_tie rfl ⟨rfl, rfl⟩ (by kernel_rfl) rfl bookAbbr.plain (by kernel_rfl)
end Go.Proofs.YtmemgpmijphkmaaGreatDoor
