/- What the project's isSave, isFormat, expand and Abbr of package book return. -/
import Derived.Lib.CutLaws
import Derived.Lib.IndexBytes
import Derived.Test.YtkmgildnhnjepaaGreatDoorTM11
import Derived.Test.YtkmgildnhnjepaaGreatDoorTM23
namespace Go.Proofs.YtkmgildnhnjepaaGreatDoor
set_option linter.unusedVariables false
set_option linter.unusedSimpArgs false
open Go.RowKit
/-- the cell that strings.Index reads -/
def HasMax (w : World) : Prop := ∃ m : Int, w.cell? ⟨1, 0, none⟩ = some (.int .i64 m)
theorem Gr.max {w w' : World} (g : Gr w w') (h : HasMax w) : HasMax w' := by
  obtain ⟨m, hm⟩ := h
  exact ⟨m, g.holds hm⟩
theorem S_toList' (s : ByteArray) : S s.toList = s := (S_of s).symm
theorem data_toList (s : ByteArray) : s.data.toList = s.toList := (ByteArray.toList_eq s).symm
theorem size_toList (s : ByteArray) : s.size = s.toList.length := (len_toList s).symm
/-- what Cut returns -/
abbrev cutE (x y : ByteArray) (f : Bool) : Ending := .returned (.tuple #[.string x, .string y, .bool f])
theorem cut1_no (c : UInt8) (s : ByteArray) (w : World) (hm : HasMax w) (hs : s.size ≤ 1048576) (h : c ∉ s.toList) :
    Calls Tryz.prog 90 #[.string s, .string ⟨#[c]⟩] w fun e w' => e = cutE s ⟨#[]⟩ false ∧ Gr w w' := by
  obtain ⟨m, hm⟩ := hm
  refine (Tryz.strings_Cut s ⟨#[c]⟩ m w (by omega) hm).mono ?_
  rintro e w' ⟨rfl, n, rfl⟩
  refine ⟨?_, (Gr.refl w).drewN n⟩
  rw [show (ByteArray.mk #[c]).data.toList = [c] from rfl, data_toList, cut_at_no h]
  show cutE (S s.toList) (S []) false = _
  rw [S_toList']; rfl
theorem cut1_yes (c : UInt8) (s x y : ByteArray) (w : World) (hm : HasMax w) (hs : s.size ≤ 1048576) (e : s.toList = x.toList ++ c :: y.toList) (h : c ∉ x.toList) :
    Calls Tryz.prog 90 #[.string s, .string ⟨#[c]⟩] w fun e w' => e = cutE x y true ∧ Gr w w' := by
  obtain ⟨m, hm⟩ := hm
  refine (Tryz.strings_Cut s ⟨#[c]⟩ m w (by omega) hm).mono ?_
  rintro e' w' ⟨rfl, n, rfl⟩
  refine ⟨?_, (Gr.refl w).drewN n⟩
  rw [show (ByteArray.mk #[c]).data.toList = [c] from rfl, data_toList, e, cut_at_yes _ h]
  show cutE (S x.toList) (S y.toList) true = _
  rw [S_toList', S_toList']
theorem sepB (c : UInt8) (s : ByteArray) : c ∉ s.toList ∨ ∃ x y : ByteArray, s.toList = x.toList ++ c :: y.toList ∧ c ∉ x.toList := by
  rcases sep_cases c s.toList with h | ⟨a, b, e, h⟩
  · exact Or.inl h
  · exact Or.inr ⟨S a, S b, by rw [S_toList, S_toList]; exact e, by rw [S_toList]; exact h⟩
theorem sep_sizes {c : UInt8} {s x y : ByteArray} (e : s.toList = x.toList ++ c :: y.toList) : s.size = x.size + 1 + y.size := by
  rw [size_toList, e, size_toList x, size_toList y]; simp; omega

theorem repl1 (s x : ByteArray) (w : World) (hm : HasMax w) (hs : s.size ≤ 12) (hx : x.size ≤ 8) :
    Calls Tryz.prog 123 #[.string s, .string ⟨#[37]⟩, .string x, .int .i64 1] w fun e w' => e = .returned (.string (S (Lib.replace s.toList [37] x.toList 1))) ∧ Gr w w' := by
  obtain ⟨m, hm⟩ := hm
  have hc := Lib.countB_le ⟨#[37]⟩ (by decide) s.size s (Nat.le_refl _)
  have hmul : Lib.countB s ⟨#[37]⟩ * x.size ≤ 13 * 8 := Nat.mul_le_mul (by omega) hx
  refine (Tryz.strings_Replace s ⟨#[37]⟩ x 1 m w (by omega) hm (by decide) (by omega)).mono ?_
  rintro e w' ⟨rfl, hb⟩
  refine ⟨?_, hb⟩
  rw [show (ByteArray.mk #[37]).data.toList = [37] from rfl, data_toList, data_toList]
  rfl

theorem bclone (s : ByteArray) (w : World) (hs : s.size ≤ 1048576) :
    Calls Tryz.prog 40 #[.string s] w fun e w' => e = .returned (.string s) ∧ Gr w w' := by
  have K := Tryz.stringslite_Clone s w (by omega)
  clear hs
  go_enter Tryz.func40, Tryz.ntmps40
  go_wp2_with fail
  refine K.mono ?_
  rintro e w1 ⟨rfl, hg⟩
  go_wp2_with fail
  go_ret
  exact ⟨rfl, hg⟩

theorem isSave_any (n : Int) (w : World) : Calls Tryz.prog 98 #[.int .i64 n] w fun e w' => e = .returned (.bool (svB n)) ∧ w = w' := by
  unfold svB
  obtain ⟨p1, e1⟩ : ∃ p, decide (0 ≤ n) = p := ⟨_, rfl⟩
  obtain ⟨p2, e2⟩ : ∃ p, decide (n ≤ 10800) = p := ⟨_, rfl⟩
  rw [e1, e2]
  cases p1 <;> cases p2
  all_goals
    go_enter Tryz.func98, Tryz.ntmps98
    go_wp2
    go_ret
    exact ⟨rfl, rfl⟩

set_option maxHeartbeats 4000000 in
theorem isFormat_any (s : ByteArray) (w : World) (hm : HasMax w) :
    Calls Tryz.prog 97 #[.string s] w fun e w' => e = .returned (.bool (isFmtB s.toList)) ∧ Gr w w' := by
  by_cases h12 : 12 < s.size
  · have E := Lib.hid (show isFmtB s.toList = false by unfold isFmtB; rw [show decide (s.toList.length ≤ 12) = false from decide_eq_false (by rw [← size_toList]; omega)]; rfl)
    have t1 : decide (12 < (s.size : Int)) = true := ltT (by omega)
    clear h12
    go_enter Tryz.func97, Tryz.ntmps97
    go_wp2_with fail
    go_ret
    exact ⟨ret_bool E.out.symm, Gr.refl _⟩
  have t1 : decide (12 < (s.size : Int)) = false := ltF (by omega)
  have hs : s.size ≤ 12 := by omega
  have hl : s.toList.length ≤ 12 := by rw [← size_toList]; omega
  rcases sepB 47 s with h | ⟨x, y, e, h⟩
  · have E := Lib.hid (isFmt_one hl h)
    have KC := Lib.hid (fun w hm => cut1_no 47 s w hm (by omega) h)
    have KR := Lib.hid (fun w hm => repl1 s ⟨#[]⟩ w hm hs (by decide))
    rw [lit0] at KR
    have hq : (Lib.replace s.toList [37] [] 1).length ≤ 12 := by
      rcases sep_cases 37 s.toList with g | ⟨a, b, g, ha⟩
      · rw [repl_none g]; exact hl
      · rw [g] at hl ⊢; rw [repl_one ha]; simp at hl ⊢; omega
    have KA := Lib.hid (fun w => pabbr_any (S (Lib.replace s.toList [37] [] 1)) w (by rw [S_size]; unfold maxLen; omega))
    rw [S_toList] at KA
    have HM := Lib.hid hm
    generalize Lib.replace s.toList [37] [] 1 = z at KA KR E
    have KA' := KA
    generalize S z = Z at KA KR
    clear KA'
    generalize isAbbrB z = bz at KA E
    by_cases g : s = ⟨#[37]⟩
    · subst g
      have E2 : Hid (isFmtB (ByteArray.mk #[37]).toList = true) := by unfold Hid; rw [E.out, show (ByteArray.mk #[37]).toList = [37] from ByteArray.toList_mk [37]]; rfl
      clear E KR KA h hl h12 hm
      go_enter Tryz.func97, Tryz.ntmps97
      go_wp2_with fail
      refine (KC.out w HM.out).mono ?_
      rintro e w1 ⟨rfl, g1⟩
      go_wp2_with fail
      go_ret
      exact ⟨ret_bool E2.out.symm, g1⟩
    · have f1 : (s.toList == [37]) = false := by
        cases hq : s.toList == [37] with
        | false => rfl
        | true => exact absurd (by rw [S_of s, eq_of_beq hq]; rfl) g
      have f2 : ¬ s = ⟨#[37]⟩ := g
      have E2 : Hid (isFmtB s.toList = bz) := by unfold Hid; rw [E.out, f1]; rfl
      clear E h hl h12 hm hq g
      generalize isFmtB s.toList = R at E2 ⊢
      go_enter Tryz.func97, Tryz.ntmps97
      go_wp2_with fail
      refine (KC.out w HM.out).mono ?_
      rintro e w1 ⟨rfl, g1⟩
      have G1 := Lib.hid g1
      clear g1
      go_wp2_with fail
      refine (KR.out w1 (G1.out.max HM.out)).mono ?_
      rintro e w2 ⟨rfl, g2⟩
      have G2 := Lib.hid (G1.out.trans g2)
      clear g2
      go_wp2_with fail
      refine (KA.out w2).mono ?_
      rintro e w3 ⟨rfl, rfl⟩
      go_wp2_with fail
      go_ret
      exact ⟨ret_bool E2.out.symm, G2.out⟩
  · have hz := sep_sizes e
    have E := Lib.hid (isFmt_two (a := x.toList) (b := y.toList) (by rw [← e]; exact hl) h)
    rw [← e] at E
    have KC := Lib.hid (fun w hm => cut1_yes 47 s x y w hm (by omega) e h)
    have KX := Lib.hid (fun w => pabbr_any x w (by unfold maxLen; omega))
    have KY := Lib.hid (fun w => pabbr_any y w (by unfold maxLen; omega))
    have HM := Lib.hid hm
    clear e h hz hl h12 hm
    generalize isFmtB s.toList = R at E ⊢
    generalize isAbbrB x.toList = bx at KX E
    generalize isAbbrB y.toList = by' at KY E
    cases bx with
    | false =>
      go_enter Tryz.func97, Tryz.ntmps97
      go_wp2_with fail
      refine (KC.out w HM.out).mono ?_
      rintro e w1 ⟨rfl, g1⟩
      go_wp2_with fail
      refine (KX.out w1).mono ?_
      rintro e w3 ⟨rfl, rfl⟩
      go_wp2_with fail
      go_ret
      exact ⟨ret_bool E.out.symm, g1⟩
    | true =>
      go_enter Tryz.func97, Tryz.ntmps97
      go_wp2_with fail
      refine (KC.out w HM.out).mono ?_
      rintro e w1 ⟨rfl, g1⟩
      go_wp2_with fail
      refine (KX.out w1).mono ?_
      rintro e w3 ⟨rfl, rfl⟩
      go_wp2_with fail
      refine (KY.out w1).mono ?_
      rintro e w3 ⟨rfl, rfl⟩
      go_wp2_with fail
      go_ret
      exact ⟨ret_bool E.out.symm, g1⟩

set_option maxHeartbeats 4000000 in
theorem expand_any (s : ByteArray) (sv : Int) (lt : ByteArray) (w : World) (hm : HasMax w) (hs : s.size ≤ 12) (hlt : lt.size ≤ 8) :
    Calls Tryz.prog 99 #[.string s, .int .i64 sv, .string lt] w fun e w' => e = .returned (.string (S (expL s.toList sv lt.toList))) ∧ Gr w w' := by
  rcases sepB 47 s with h | ⟨x, y, e, h⟩
  · have KC := Lib.hid (fun w hm => cut1_no 47 s w hm (by omega) h)
    have E := Lib.hid (exp_one (f := s.toList) (sv := sv) (lt := lt.toList) h)
    have HM := Lib.hid hm
    by_cases g : lt = ⟨#[45]⟩
    · subst g
      have KR := Lib.hid (fun w hm => repl1 s ⟨#[]⟩ w hm hs (by decide))
      rw [lit0] at KR
      have E2 : Hid (S (Lib.replace s.toList [37] [] 1) = S (expL s.toList sv (ByteArray.mk #[45]).toList)) := by unfold Hid; rw [E.out, show (ByteArray.mk #[45]).toList = [45] from ByteArray.toList_mk [45]]; rfl
      generalize S (expL s.toList sv (ByteArray.mk #[45]).toList) = R at E2 ⊢
      generalize S (Lib.replace s.toList [37] [] 1) = z at E2 KR
      clear E h hm hlt hs
      go_enter Tryz.func99, Tryz.ntmps99
      go_wp2_with fail
      refine (KC.out w HM.out).mono ?_
      rintro e w1 ⟨rfl, g1⟩
      have G1 := Lib.hid g1
      clear g1
      go_wp2_with fail
      refine (KR.out w1 (G1.out.max HM.out)).mono ?_
      rintro e w2 ⟨rfl, g2⟩
      go_wp2_with fail
      go_ret
      exact ⟨ret_str E2.out, G1.out.trans g2⟩
    · have KR := Lib.hid (fun w hm => repl1 s lt w hm hs hlt)
      have f1 : (lt.toList == [45]) = false := by
        cases hq : lt.toList == [45] with
        | false => rfl
        | true => exact absurd (by rw [S_of lt, eq_of_beq hq]; rfl) g
      have f2 : ¬ lt = ⟨#[45]⟩ := g
      have E2 : Hid (S (Lib.replace s.toList [37] lt.toList 1) = S (expL s.toList sv lt.toList)) := by unfold Hid; rw [E.out, if_neg (by simpa using f1)]
      generalize S (expL s.toList sv lt.toList) = R at E2 ⊢
      generalize S (Lib.replace s.toList [37] lt.toList 1) = z at E2 KR
      clear E h hm hlt hs g
      go_enter Tryz.func99, Tryz.ntmps99
      go_wp2_with fail
      refine (KC.out w HM.out).mono ?_
      rintro e w1 ⟨rfl, g1⟩
      have G1 := Lib.hid g1
      clear g1
      go_wp2_with fail
      refine (KR.out w1 (G1.out.max HM.out)).mono ?_
      rintro e w2 ⟨rfl, g2⟩
      go_wp2_with fail
      go_ret
      exact ⟨ret_str E2.out, G1.out.trans g2⟩
  · have KC := Lib.hid (fun w hm => cut1_yes 47 s x y w hm (by omega) e h)
    have E := Lib.hid (exp_two (a := x.toList) (b := y.toList) (sv := sv) (lt := lt.toList) h)
    rw [← e] at E
    have HM := Lib.hid hm
    clear e h hm hs hlt
    by_cases g : sv = 0
    · have E2 : Hid (x = S (expL s.toList sv lt.toList)) := by unfold Hid; rw [E.out, if_pos g, S_toList']
      generalize S (expL s.toList sv lt.toList) = R at E2 ⊢
      have t0 := beqT g
      clear E g
      go_enter Tryz.func99, Tryz.ntmps99
      go_wp2_with fail
      refine (KC.out w HM.out).mono ?_
      rintro e w1 ⟨rfl, g1⟩
      go_wp2_with fail
      go_ret
      exact ⟨ret_str E2.out, g1⟩
    · have E2 : Hid (y = S (expL s.toList sv lt.toList)) := by unfold Hid; rw [E.out, if_neg g, S_toList']
      generalize S (expL s.toList sv lt.toList) = R at E2 ⊢
      have t0 := beqF g
      clear E g
      go_enter Tryz.func99, Tryz.ntmps99
      go_wp2_with fail
      refine (KC.out w HM.out).mono ?_
      rintro e w1 ⟨rfl, g1⟩
      go_wp2_with fail
      go_ret
      exact ⟨ret_str E2.out, g1⟩

set_option maxHeartbeats 4000000 in
theorem pabbrFmt (s : ByteArray) (sv : Int) (lt : ByteArray) (w : World) (hm : HasMax w) (hlt : lt.size ≤ maxLen) :
    Calls Tryz.prog 72 #[.string s, .int .i64 sv, .string lt] w fun e w' => e = strInt (S (abbrR s.toList sv lt.toList).1) (abbrR s.toList sv lt.toList).2 ∧ Gr w w' := by
  have KF := Lib.hid (fun w hm => isFormat_any s w hm)
  have KL := Lib.hid (fun w => pabbr_any lt w hlt)
  have KS := Lib.hid (fun w => isSave_any sv w)
  have HM := Lib.hid hm
  have FE := Lib.hid (fmt_exp s.toList sv lt.toList)
  have A3 : Hid (fmtOut s.toList sv lt.toList = none → strInt (S (abbrR s.toList sv lt.toList).1) (abbrR s.toList sv lt.toList).2 = strInt ⟨#[]⟩ 3) := fun h => by unfold abbrR; rw [h]; rfl
  have AO : Hid (∀ l, fmtOut s.toList sv lt.toList = some l → abbrR s.toList sv lt.toList = abbrOf (some l) sv) := fun l h => by unfold abbrR; rw [h]
  have F12 : Hid (isFmtB s.toList = true → s.size ≤ 12) := fun h => by
    unfold isFmtB at h
    simp only [Bool.and_eq_true, decide_eq_true_eq] at h
    rw [size_toList]; exact h.1
  have L8 : Hid (isAbbrB lt.toList = true → lt.size ≤ 8) := fun h => by rw [size_toList]; exact (abbr_len1 h).2
  have KE : Hid (s.size ≤ 12 → lt.size ≤ 8 → ∀ w, HasMax w → Calls Tryz.prog 99 #[.string s, .int .i64 sv, .string lt] w fun e w' => e = .returned (.string (S (expL s.toList sv lt.toList))) ∧ Gr w w') := fun a b w h => expand_any s sv lt w h a b
  clear hm hlt
  generalize isFmtB s.toList = bf at KF FE F12
  generalize isAbbrB lt.toList = bl at KL FE L8
  cases bf with
  | false =>
    have E := Lib.hid (A3.out (by rw [FE.out]; simp))
    generalize strInt (S (abbrR s.toList sv lt.toList).1) (abbrR s.toList sv lt.toList).2 = R at E ⊢
    go_enter Tryz.func72, Tryz.ntmps72
    go_wp2_with fail
    refine (KF.out w HM.out).mono ?_
    rintro e w1 ⟨rfl, g1⟩
    go_wp2_with fail
    go_ret2
    exact ⟨E.out.symm, g1⟩
  | true =>
  cases bl with
  | false =>
    have E := Lib.hid (A3.out (by rw [FE.out]; simp))
    generalize strInt (S (abbrR s.toList sv lt.toList).1) (abbrR s.toList sv lt.toList).2 = R at E ⊢
    go_enter Tryz.func72, Tryz.ntmps72
    go_wp2_with fail
    refine (KF.out w HM.out).mono ?_
    rintro e w1 ⟨rfl, g1⟩
    go_wp2_with fail
    refine (KL.out w1).mono ?_
    rintro e w2 ⟨rfl, rfl⟩
    go_wp2_with fail
    go_ret2
    exact ⟨E.out.symm, g1⟩
  | true =>
  have FO := Lib.hid (AO.out _ (by rw [FE.out, if_pos (by simp)]))
  have s12 := F12.out rfl
  have l8 := L8.out rfl
  have KE2 := Lib.hid (KE.out s12 l8)
  have XL := Lib.hid (show (expL s.toList sv lt.toList).length ≤ 20 by have := exp_len (f := s.toList) (sv := sv) (lt := lt.toList); rw [← size_toList, ← size_toList] at this; omega)
  clear A3 AO F12 L8 KE FE s12 l8
  rw [FO.out]
  clear FO
  generalize expL s.toList sv lt.toList = z at KE2 XL ⊢
  have SV1 := Lib.hid (svB_no (n := sv))
  have SV2 := Lib.hid (svB_yes (n := sv))
  generalize svB sv = bs at KS SV1 SV2
  cases bs with
  | false =>
    have E := Lib.hid (abbrOf_arg (l := z) (SV1.out.1 rfl))
    rw [E.out]
    clear E SV1 SV2
    go_enter Tryz.func72, Tryz.ntmps72
    go_wp2_with fail
    refine (KF.out w HM.out).mono ?_
    rintro e w1 ⟨rfl, g1⟩
    go_wp2_with fail
    refine (KL.out w1).mono ?_
    rintro e w2 ⟨rfl, rfl⟩
    go_wp2_with fail
    refine (KS.out w1).mono ?_
    rintro e w2 ⟨rfl, rfl⟩
    go_wp2_with fail
    go_ret2
    exact ⟨rfl, g1⟩
  | true =>
  have hsv := Lib.hid (SV2.out.1 rfl)
  have zs : (S z).size = z.length := S_size z
  have ZS := Lib.hid zs
  by_cases z8 : 8 < z.length
  · have E := Lib.hid (abbrOf_long hsv.out z8)
    rw [E.out]
    have t8 : decide (8 < ((S z).size : Int)) = true := ltT (by omega)
    have u8 : 8 < (S z).size := by omega
    clear E SV1 SV2 zs ZS z8 XL hsv
    generalize S z = Z at KE2 t8 u8
    go_enter Tryz.func72, Tryz.ntmps72
    go_wp2_with fail
    refine (KF.out w HM.out).mono ?_
    rintro e w1 ⟨rfl, g1⟩
    have G1 := Lib.hid g1
    clear g1
    go_wp2_with fail
    refine (KL.out w1).mono ?_
    rintro e w2 ⟨rfl, rfl⟩
    go_wp2_with fail
    refine (KS.out w1).mono ?_
    rintro e w2 ⟨rfl, rfl⟩
    go_wp2_with fail
    refine (KE2.out w1 (G1.out.max HM.out)).mono ?_
    rintro e w2 ⟨rfl, g2⟩
    go_wp2_with fail
    go_ret2
    exact ⟨rfl, G1.out.trans g2⟩
  have t8 : decide (8 < ((S z).size : Int)) = false := ltF (by omega)
  have u8 : ¬ 8 < (S z).size := by omega
  by_cases z0 : z = []
  · subst z0
    have E := Lib.hid (abbrOf_nil hsv.out)
    rw [E.out]
    clear E SV1 SV2 zs ZS z8 XL hsv t8 u8
    rw [show S [] = ⟨#[]⟩ from rfl] at KE2
    go_enter Tryz.func72, Tryz.ntmps72
    go_wp2_with fail
    refine (KF.out w HM.out).mono ?_
    rintro e w1 ⟨rfl, g1⟩
    have G1 := Lib.hid g1
    clear g1
    go_wp2_with fail
    refine (KL.out w1).mono ?_
    rintro e w2 ⟨rfl, rfl⟩
    go_wp2_with fail
    refine (KS.out w1).mono ?_
    rintro e w2 ⟨rfl, rfl⟩
    go_wp2_with fail
    refine (KE2.out w1 (G1.out.max HM.out)).mono ?_
    rintro e w2 ⟨rfl, g2⟩
    go_wp2_with fail
    go_ret2
    exact ⟨rfl, G1.out.trans g2⟩
  · have E := Lib.hid (abbrOf_ok hsv.out z8 z0)
    rw [E.out]
    have hne : ¬ S z = ⟨#[]⟩ := fun h => z0 (S_inj (b := []) h)
    have hne2 : ((S z).toList == []) = false := by rw [S_toList]; cases z with | nil => exact absurd rfl z0 | cons a b => rfl
    have KB := Lib.hid (fun w => bclone (S z) w (by omega))
    clear E SV1 SV2 zs ZS z8 XL hsv z0
    generalize S z = Z at KE2 t8 u8 hne hne2 KB ⊢
    go_enter Tryz.func72, Tryz.ntmps72
    go_wp2_with fail
    refine (KF.out w HM.out).mono ?_
    rintro e w1 ⟨rfl, g1⟩
    have G1 := Lib.hid g1
    clear g1
    go_wp2_with fail
    refine (KL.out w1).mono ?_
    rintro e w2 ⟨rfl, rfl⟩
    go_wp2_with fail
    refine (KS.out w1).mono ?_
    rintro e w2 ⟨rfl, rfl⟩
    go_wp2_with fail
    refine (KE2.out w1 (G1.out.max HM.out)).mono ?_
    rintro e w2 ⟨rfl, g2⟩
    have G2 := Lib.hid (G1.out.trans g2)
    clear g2
    go_wp2_with fail
    refine (KB.out w2).mono ?_
    rintro e w3 ⟨rfl, g3⟩
    go_wp2_with fail
    go_ret2
    exact ⟨rfl, G2.out.trans g3⟩
end Go.Proofs.YtkmgildnhnjepaaGreatDoor
