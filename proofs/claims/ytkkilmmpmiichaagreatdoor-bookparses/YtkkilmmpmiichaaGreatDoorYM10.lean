/- What the project's Check of package rule returns, for every rule. Days of months: facts on what Of, Text and Read answer; no walk in it. What the project's function number returns, and the test of a part of a duration. -/
import Derived.Test.YtkkilmmpmiichaaGreatDoorYM09
import Derived.Test.YtkkilmmpmiichaaGreatDoorYM05
import Derived.Test.YtkkilmmpmiichaaGreatDoorYM02
import Derived.Deep.QuietTactic
import Derived.BigQuiet
import Derived.Test.YtkkilmmpmiichaaGreatDoorYM03
import Derived.Test.YtkkilmmpmiichaaGreatDoorYM06
import Derived.Test.YtkkilmmpmiichaaGreatDoorYM08
import Derived.Test.YtkkilmmpmiichaaGreatDoorYM07
import Derived.Test.YtkkilmmpmiichaaGreatDoorYM01
namespace Go.Proofs.YtkkilmmpmiichaaGreatDoor
set_option linter.unusedVariables false
set_option linter.unusedSimpArgs false
open Go.RowKit
theorem ml_common (mo : Int) : Cal.ml 2001 mo = Cal.ml 1999 mo := by
  unfold Cal.ml
  rw [show Cal.lp 2001 = Cal.lp 1999 by decide]
theorem abbr_dash : isAbbrB [45] = true := by decide
theorem ruleSyn_iff {nm lt : List UInt8} : RuleSyn nm lt ↔ isNameB nm = true ∧ isAbbrB lt = true := by
  unfold RuleSyn
  constructor
  · rintro ⟨a, b | b⟩
    · exact ⟨a, by rw [b]; exact abbr_dash⟩
    · exact ⟨a, b⟩
  · rintro ⟨a, b⟩
    exact ⟨a, Or.inr b⟩
/-- the last test -/
theorem rest_bool {mo n at' by' sv : Int} (p1 p2 p3 p4 p5 p6 q : Bool) (e1 : decide (-604800 ≤ at') = p1) (e2 : decide (at' ≤ 604800) = p2) (e3 : decide (0 ≤ by') = p3) (e4 : decide (by' < 3) = p4) (e5 : decide (0 ≤ sv) = p5) (e6 : decide (sv ≤ 10800) = p6)
    (e7 : decide (Cal.ml 1999 mo < n) = q) : RuleRest mo n at' by' sv ↔ (!q && (p1 && p2) && (p3 && p4) && (p5 && p6)) = true := by
  subst e1 e2 e3 e4 e5 e6 e7
  unfold RuleRest
  simp only [Bool.and_eq_true, Bool.not_eq_true', decide_eq_true_eq, decide_eq_false_iff_not]
  omega

set_option maxRecDepth 100000 in
set_option maxHeartbeats 8000000 in
theorem pruleCheck (nm : ByteArray) (fr tt mo k d n at' by' sv : Int) (lt : ByteArray) (w : World) (hl : HasLen w) (hn : nm.size ≤ maxLen) (ht : lt.size ≤ maxLen) :
    Calls Tryz.prog 32 #[ruleV nm fr tt mo k d n at' by' sv lt] w fun e w' => e = .returned (.int .i64 (ruleC nm.toList lt.toList fr tt mo k d n at' by' sv)) ∧ Gr w w' := by
  have R0 := Lib.hid (RuleAt.new w 42 nm fr tt mo k d n at' by' sv lt)
  have KN := Lib.hid (fun w => pname_any nm w hn)
  have KA := Lib.hid (fun w => pabbr_any lt w ht)
  have KC := Lib.hid (dayCheck k d n)
  have HL := Lib.hid hl
  have X3 : Hid (¬ RuleSyn nm.toList lt.toList → ruleC nm.toList lt.toList fr tt mo k d n at' by' sv = 3) := fun h => by unfold ruleC; rw [if_neg h]
  have X1 : Hid (RuleSyn nm.toList lt.toList → ¬ (RuleNum fr tt mo ∧ DayOk k d n ∧ RuleRest mo n at' by' sv) → ruleC nm.toList lt.toList fr tt mo k d n at' by' sv = 1) := fun h g => by
    unfold ruleC
    rw [if_pos h]
    split
    · split
      · split
        · rename_i a b c; exact absurd ⟨a, b, c⟩ g
        · rfl
      · rfl
    · rfl
  have X0 : Hid (RuleSyn nm.toList lt.toList → RuleNum fr tt mo → DayOk k d n → RuleRest mo n at' by' sv → ruleC nm.toList lt.toList fr tt mo k d n at' by' sv = 0) := fun h a b c => by
    unfold ruleC; rw [if_pos h, if_pos a, if_pos b, if_pos c]
  generalize ruleC nm.toList lt.toList fr tt mo k d n at' by' sv = C at X3 X1 X0 ⊢
  have SY : Hid (RuleSyn nm.toList lt.toList ↔ (isNameB nm.toList = true ∧ isAbbrB lt.toList = true)) := ruleSyn_iff
  clear hn ht hl
  go_enter Tryz.func32, Tryz.ntmps32
  go_wp2_with fail
  generalize w.alloc (.cells #[.string nm, .int .i64 fr, .int .i64 tt, .int .i64 mo, .int .i64 k, .int .i64 d, .int .i64 n, .int .i64 at', .int .i64 by', .int .i64 sv, .string lt] 42) = w0 at R0 ⊢
  generalize w.heap.size = b at R0 ⊢
  have c0 := R0.out.1
  have c1 := R0.out.2.1
  have c2 := R0.out.2.2.1
  have c3 := R0.out.2.2.2.1
  have c4 := R0.out.2.2.2.2.1
  have c5 := R0.out.2.2.2.2.2.1
  have c6 := R0.out.2.2.2.2.2.2.1
  have c7 := R0.out.2.2.2.2.2.2.2.1
  have c8 := R0.out.2.2.2.2.2.2.2.2.1
  have c9 := R0.out.2.2.2.2.2.2.2.2.2.1
  have c10 := R0.out.2.2.2.2.2.2.2.2.2.2.1
  have G0 := Lib.hid (R0.out.2.2.2.2.2.2.2.2.2.2.2)
  generalize isNameB nm.toList = bn at KN SY
  generalize isAbbrB lt.toList = ba at KA SY
  refine (KN.out w0).mono ?_
  rintro e w1 ⟨rfl, rfl⟩
  cases bn with
  | false =>
    have E := Lib.hid (X3.out (fun h => by have := (SY.out.1 h).1; cases this))
    clear X3 X1 X0 SY
    go_wp2_with fail
    go_ret
    exact ⟨ret_int E.out.symm, G0.out⟩
  | true =>
  go_wp2_with fail
  refine (KA.out w0).mono ?_
  rintro e w1 ⟨rfl, rfl⟩
  cases ba with
  | false =>
    have E := Lib.hid (X3.out (fun h => by have := (SY.out.1 h).2; cases this))
    clear X3 X1 X0 SY
    go_wp2_with fail
    go_ret
    exact ⟨ret_int E.out.symm, G0.out⟩
  | true =>
  have SYN : Hid (RuleSyn nm.toList lt.toList) := by first | exact SY.out.2 ⟨rfl, rfl⟩ | exact SY.out.2 (by simp)
  clear X3 SY KN KA
  by_cases q1 : fr < 1900
  case pos =>
    have E := Lib.hid (X1.out SYN.out (fun h => by have := h.1.1.1; omega))
    clear X1 X0
    go_wp2_with fail
    go_ret
    exact ⟨ret_int E.out.symm, G0.out⟩
  have q1' := ltF q1
  by_cases q2 : 2100 < fr
  case pos =>
    have E := Lib.hid (X1.out SYN.out (fun h => by have := h.1.1.2; omega))
    clear X1 X0
    go_wp2_with fail
    go_ret
    exact ⟨ret_int E.out.symm, G0.out⟩
  have q2' := ltF q2
  by_cases q3 : tt < fr
  case pos =>
    have E := Lib.hid (X1.out SYN.out (fun h => by have := h.1.2.2.1; omega))
    clear X1 X0
    go_wp2_with fail
    go_ret
    exact ⟨ret_int E.out.symm, G0.out⟩
  have q3' := ltF q3
  by_cases q4 : 2100 < tt
  case pos =>
    have E := Lib.hid (X1.out SYN.out (fun h => by have := h.1.2.1.2; omega))
    clear X1 X0
    go_wp2_with fail
    go_ret
    exact ⟨ret_int E.out.symm, G0.out⟩
  have q4' := ltF q4
  go_wp2_with fail
  by_cases q5 : 1 ≤ mo ∧ mo ≤ 12
  case neg =>
    have E := Lib.hid (X1.out SYN.out (fun h => q5 h.1.2.2.2))
    refine (length_no 2001 mo w0 (by omega)).mono ?_
    rintro e w2 ⟨rfl, rfl⟩
    clear X1 X0 q5
    go_wp2_with fail
    go_ret
    exact ⟨ret_int E.out.symm, G0.out⟩
  refine (length_yes 2001 mo w0 (G0.out.len HL.out) (by omega) (by omega) q5.1 q5.2).mono ?_
  rintro e w2 ⟨rfl, rfl⟩
  have NUM : Hid (RuleNum fr tt mo) := ⟨⟨by omega, by omega⟩, ⟨by omega, by omega⟩, by omega, q5⟩
  clear q1 q2 q3 q4 q1' q2' q3' q4' q5
  rw [ml_common]
  go_wp2_with fail
  by_cases q5 : DayOk k d n
  case neg =>
    have K := KC.out
    rw [dchk_no q5] at K
    refine (K _).mono ?_
    rintro e wx ⟨rfl, gx⟩
    have E := Lib.hid (X1.out SYN.out (fun h => q5 h.2.1))
    clear X1 X0 q5 K KC
    go_wp2_with fail
    go_ret
    exact ⟨ret_int E.out.symm, G0.out.trans gx⟩
  have K := KC.out
  rw [dchk_yes q5] at K
  refine (K _).mono ?_
  rintro e w3 ⟨rfl, g3⟩
  have DOK := Lib.hid q5
  clear K KC q5
  have R3 := Lib.hid (R0.out.gr g3)
  clear R0 G0 g3 c0 c1 c2 c3 c4 c5 c6 c7 c8 c9 c10
  have c6 := R3.out.2.2.2.2.2.2.1
  have c7 := R3.out.2.2.2.2.2.2.2.1
  have c8 := R3.out.2.2.2.2.2.2.2.2.1
  have c9 := R3.out.2.2.2.2.2.2.2.2.2.1
  obtain ⟨p1, e1⟩ : ∃ p, decide (-604800 ≤ at') = p := ⟨_, rfl⟩
  obtain ⟨p2, e2⟩ : ∃ p, decide (at' ≤ 604800) = p := ⟨_, rfl⟩
  obtain ⟨p3, e3⟩ : ∃ p, decide (0 ≤ by') = p := ⟨_, rfl⟩
  obtain ⟨p4, e4⟩ : ∃ p, decide (by' < 3) = p := ⟨_, rfl⟩
  obtain ⟨p5, e5⟩ : ∃ p, decide (0 ≤ sv) = p := ⟨_, rfl⟩
  obtain ⟨p6, e6⟩ : ∃ p, decide (sv ≤ 10800) = p := ⟨_, rfl⟩
  obtain ⟨q, e7⟩ : ∃ p, decide (Cal.ml 1999 mo < n) = p := ⟨_, rfl⟩
  have RB := rest_bool p1 p2 p3 p4 p5 p6 q e1 e2 e3 e4 e5 e6 e7
  have HC : Hid (C = if (!q && (p1 && p2) && (p3 && p4) && (p5 && p6)) = true then 0 else 1) := by
    unfold Hid
    split
    · rename_i h; exact X0.out SYN.out NUM.out DOK.out (RB.2 h)
    · rename_i h; exact X1.out SYN.out (fun g => h (RB.1 g.2.2))
  clear RB X0 X1 SYN NUM DOK HL
  generalize Cal.ml 1999 mo = ml at e7 ⊢
  cases p1 <;> cases p3 <;> cases p5 <;> cases q
  all_goals go_wp2
  all_goals go_ret
  all_goals (refine ⟨ret_int ?_, R3.out.2.2.2.2.2.2.2.2.2.2.2⟩; rw [HC.out]; clear HC R3; simp_all)
end Go.Proofs.YtkkilmmpmiichaaGreatDoor
namespace Go.Proofs.YtkkilmmpmiichaaGreatDoor
set_option linter.unusedVariables false
set_option linter.unusedSimpArgs false
open Go.RowKit
theorem wk_inj {a b : Int} (a1 : 0 ≤ a) (a2 : a ≤ 6) (b1 : 0 ≤ b) (b2 : b ≤ 6) (h : wk a = wk b) : a = b := by
  have x : a = 0 ∨ a = 1 ∨ a = 2 ∨ a = 3 ∨ a = 4 ∨ a = 5 ∨ a = 6 := by omega
  have y : b = 0 ∨ b = 1 ∨ b = 2 ∨ b = 3 ∨ b = 4 ∨ b = 5 ∨ b = 6 := by omega
  rcases x with rfl | rfl | rfl | rfl | rfl | rfl | rfl <;> rcases y with rfl | rfl | rfl | rfl | rfl | rfl | rfl <;> first | rfl | (exfalso; revert h; decide)
theorem wk_head {d : Int} (h1 : 0 ≤ d) (h2 : d ≤ 6) : ∃ c r, wk d = c :: r ∧ (57 : Int) < c.toNat ∧ ¬ c = 108 := by
  have x : d = 0 ∨ d = 1 ∨ d = 2 ∨ d = 3 ∨ d = 4 ∨ d = 5 ∨ d = 6 := by omega
  rcases x with rfl | rfl | rfl | rfl | rfl | rfl | rfl <;> exact ⟨_, _, rfl, by decide, by decide⟩
theorem dz_head {n : Int} (h1 : 0 ≤ n) (h2 : n < 1000) : ∃ c r, dz n = c :: r ∧ (c.toNat : Int) ≤ 57 := by
  obtain ⟨t, l1, _⟩ := tells_dz h1 h2
  cases hd : dz n with
  | nil => rw [hd] at l1; simp at l1
  | cons c r =>
    have := t.1 0 (by omega)
    rw [hd] at this
    simp [bt] at this
    exact ⟨c, r, rfl, by omega⟩
/-- a text tells one day -/
theorem dayL_inj {k d n a b c : Int} (h : DayOk k d n) (g : DayOk a b c) (e : dayL k d n = dayL a b c) : k = a ∧ d = b ∧ n = c := by
  have hb := dayOk_bd h
  have gb := dayOk_bd g
  obtain ⟨hk, hd, h1, h2, h3⟩ := h
  obtain ⟨gk, gd, g1, g2, g3⟩ := g
  obtain ⟨c0, r0, w0, v0, u0⟩ := wk_head (d := d) (by omega) (by omega)
  obtain ⟨c1, r1, w1, v1, u1⟩ := wk_head (d := b) (by omega) (by omega)
  obtain ⟨e0, s0, z0, y0⟩ := dz_head (n := n) (by omega) (by omega)
  obtain ⟨e1, s1, z1, y1⟩ := dz_head (n := c) (by omega) (by omega)
  have hl := wk_length d
  have gl := wk_length b
  have hk' : k = 1 ∨ k = 2 ∨ k = 3 ∨ k = 4 := by omega
  have gk' : a = 1 ∨ a = 2 ∨ a = 3 ∨ a = 4 := by omega
  have n108 : ((108 : UInt8).toNat : Int) = 108 := rfl
  have ww : ∀ x y : List UInt8, wk d ++ x = wk b ++ y → d = b ∧ x = y := fun x y q => by
    have := List.append_inj q (by rw [hl, gl])
    exact ⟨wk_inj (by omega) (by omega) (by omega) (by omega) this.1, this.2⟩
  rcases hk' with rfl | rfl | rfl | rfl <;> rcases gk' with rfl | rfl | rfl | rfl <;> simp only [dayL] at e <;> simp only [if_true, if_false, Int.reduceEq] at e
  · exact ⟨rfl, by omega, dz_inj (by omega) (by omega) (by omega) (by omega) e⟩
  · exfalso; rw [z0] at e; simp at e; rw [e.1] at y0; omega
  · exfalso; rw [z0, w1] at e; simp at e; rw [e.1] at y0; omega
  · exfalso; rw [z0, w1] at e; simp at e; rw [e.1] at y0; omega
  · exfalso; rw [z1] at e; simp at e; rw [← e.1] at y1; omega
  · have := ww [] [] (by simpa using e)
    exact ⟨rfl, this.1, by omega⟩
  · exfalso; rw [w1] at e; simp at e; exact u1 e.1.symm
  · exfalso; rw [w1] at e; simp at e; exact u1 e.1.symm
  · exfalso; rw [z1, w0] at e; simp at e; rw [← e.1] at y1; omega
  · exfalso; rw [w0] at e; simp at e; exact u0 e.1
  · have := ww _ _ e
    simp only [List.cons.injEq, true_and] at this
    exact ⟨rfl, this.1, dz_inj (by omega) (by omega) (by omega) (by omega) this.2⟩
  · exfalso
    have := (ww _ _ e).2
    simp at this
  · exfalso; rw [z1, w0] at e; simp at e; rw [← e.1] at y1; omega
  · exfalso; rw [w0] at e; simp at e; exact u0 e.1
  · exfalso
    have := (ww _ _ e).2
    simp at this
  · have := ww _ _ e
    simp only [List.cons.injEq, true_and] at this
    exact ⟨rfl, this.1, dz_inj (by omega) (by omega) (by omega) (by omega) this.2⟩
end Go.Proofs.YtkkilmmpmiichaaGreatDoor
namespace Go.Proofs.YtkkilmmpmiichaaGreatDoor
set_option linter.unusedVariables false
set_option linter.unusedSimpArgs false
open Go.RowKit
theorem toList_len (s : ByteArray) : s.toList.length = s.size := by rw [ByteArray.toList_eq]; exact Array.length_toList
/-- a text of one tto four digits -/
def okN (l : List UInt8) : Prop := 1 ≤ l.length ∧ l.length ≤ 4 ∧ ∀ j, j < l.length → 48 ≤ bt l j ∧ bt l j ≤ 57
open Classical in
/-- the number that it tells; 0 of another text -/
noncomputable def nv (l : List UInt8) : Int := if okN l then numv l 0 l.length else 0
open Classical in
noncomputable def nok (l : List UInt8) : Bool := decide (okN l)
theorem nv_yes {l : List UInt8} (h : okN l) : nv l = numv l 0 l.length := by unfold nv; rw [if_pos h]
theorem nv_no {l : List UInt8} (h : ¬ okN l) : nv l = 0 := by unfold nv; rw [if_neg h]
theorem nok_yes {l : List UInt8} (h : okN l) : nok l = true := by unfold nok; simp [h]
theorem nok_no {l : List UInt8} (h : ¬ okN l) : nok l = false := by unfold nok; simp [h]
theorem nv_bd (l : List UInt8) : 0 ≤ nv l ∧ nv l ≤ 9999 := by
  by_cases h : okN l
  · rw [nv_yes h]
    have b := numv_bd l 0 l.length (fun j hj => by simpa using h.2.2 j hj) l.length (Nat.le_refl _)
    have p : (10 : Int) ^ l.length ≤ 10000 := by
      have : l.length = 1 ∨ l.length = 2 ∨ l.length = 3 ∨ l.length = 4 := by have := h.1; have := h.2.1; omega
      rcases this with e | e | e | e <;> rw [e] <;> decide
    omega
  · rw [nv_no h]; omega
/-- a number and whether there is one -/
abbrev numB (a : Int) (b : Bool) : Ending := .returned (.tuple #[.int .i64 a, .bool b])
theorem numB_yes {l : List UInt8} (h : okN l) : numB (numv l 0 l.length) true = numB (nv l) (nok l) := by rw [nv_yes h, nok_yes h]
theorem numB_no {l : List UInt8} (h : ¬ okN l) : numB 0 false = numB (nv l) (nok l) := by rw [nv_no h, nok_no h]
theorem all_succ2 {p : Nat → Prop} {k : Nat} (h : ∀ j, j < k → p j) (hk : p k) : ∀ j, j < k + 1 → p j := fun j hj => by
  by_cases e : j = k
  · rw [e]; exact hk
  · exact h j (by omega)

set_option maxHeartbeats 400000 in
theorem isDigit_any (c : Int) (w : World) (h1 : 0 ≤ c) (h2 : c ≤ 255) :
    Calls Tryz.prog 140 #[.int .u8 c] w fun e w' => e = .returned (.bool (decide (48 ≤ c ∧ c ≤ 57))) ∧ Gr w w' := by
  by_cases c1 : 48 ≤ c
  · by_cases c2 : c ≤ 57
    · have e : decide (48 ≤ c ∧ c ≤ 57) = true := by simp; omega
      have E := Lib.hid e
      clear e
      go_enter Tryz.func140, Tryz.ntmps140
      go_wp2
      go_ret
      exact ⟨by first | rfl | exact ret_bool E.out.symm, by first | exact Gr.refl _ | exact (Gr.refl _).drewN _⟩
    · have e : decide (48 ≤ c ∧ c ≤ 57) = false := by simp; omega
      have E := Lib.hid e
      have c2' : decide (c ≤ 57) = false := by simpa using c2
      clear e
      go_enter Tryz.func140, Tryz.ntmps140
      go_wp2
      go_ret
      exact ⟨by first | rfl | exact ret_bool E.out.symm, by first | exact Gr.refl _ | exact (Gr.refl _).drewN _⟩
  · have e : decide (48 ≤ c ∧ c ≤ 57) = false := by simp; omega
    have E := Lib.hid e
    have c1' : decide (48 ≤ c) = false := by simpa using c1
    clear e
    go_enter Tryz.func140, Tryz.ntmps140
    go_wp2
    go_ret
    exact ⟨by first | rfl | exact ret_bool E.out.symm, by first | exact Gr.refl _ | exact (Gr.refl _).drewN _⟩

set_option maxHeartbeats 1000000 in
theorem number_short (s : ByteArray) (w : World) (hs : s.size ≤ 4) (h1 : 1 ≤ s.size) (hne : ¬ s = ByteArray.empty) :
    Calls Tryz.prog 119 #[.string s] w fun e w' => e = numB (nv s.toList) (nok s.toList) ∧ Gr w w' := by
  have gt : ¬ (4 : Int) < (s.size : Int) := by omega
  have HL := Lib.hid (toList_len s)
  have HNE := Lib.hid hne
  have e1 : (s.toList == []) = false := by
    have := toList_len s
    cases h : s.toList with
    | nil => rw [h] at this; simp at this; omega
    | cons a b => rfl
  go_enter Tryz.func119, Tryz.ntmps119
  go_wp2
  go_loopw [4, 15] (fun v i wr => ∃ k : Nat, k ≤ s.size ∧ (∀ j, j < k → 48 ≤ bt s.toList j ∧ bt s.toList j ≤ 57) ∧ i = .int .i64 k ∧ v = .int .i64 (numv s.toList 0 k) ∧ Gr w wr) (fun _ i _ => s.size - (intOf i).toNat)
  case atStart => exact ⟨0, Nat.zero_le _, fun j hj => absurd hj (by omega), rfl, rfl, by first | exact Gr.refl _ | exact (Gr.refl _).drewN _⟩
  case round =>
    obtain ⟨k, hk, hall, rfl, rfl, hg⟩ := hrel
    have HA := Lib.hid hall
    have nb := numv_bd s.toList 0 k (fun j hj => by simpa using hall j hj) k (Nat.le_refl _)
    have p4 : (10 : Int) ^ k ≤ 10000 := by
      have : k = 0 ∨ k = 1 ∨ k = 2 ∨ k = 3 ∨ k = 4 := by omega
      rcases this with e | e | e | e | e <;> subst e <;> decide
    have nb1 := nb.1
    have nb2 : numv s.toList 0 k < 10000 := by omega
    clear nb p4 hall
    by_cases hlt : k < s.size
    · have gS : ∀ w, (Instr.index 9 (.string s) (.int .i64 (k : Int))).run Tryz.prog w = .ok (.int .u8 (bt s.toList k)) w := fun w => idx s k (by omega) w
      have cb := bt_bd s.toList k
      have cb1 := cb.1
      have cb2 := cb.2
      clear cb
      by_cases c : 48 ≤ bt s.toList k ∧ bt s.toList k ≤ 57
      · have c1 := c.1
        have c2 := c.2
        have AS := Lib.hid (all_succ2 HA.out c)
        have E : Hid (numv s.toList 0 (k + 1) = 10 * numv s.toList 0 k + (bt s.toList k - 48)) := by simp [Hid, numv]
        have D : decide (48 ≤ bt s.toList k ∧ bt s.toList k ≤ 57) = true := by simp; omega
        have I := fun w => isDigit_any (bt s.toList k) w cb1 cb2
        rw [D] at I
        have I' := Lib.hid I
        clear c D I
        generalize bt s.toList k = c at gS c1 c2 E cb1 cb2 I' ⊢
        go_wp2_with fail
        refine (I'.out wr).mono ?_
        rintro e w2 ⟨rfl, hg2⟩
        go_wp2_with fail
        go_roundw
        case rel => exact ⟨k + 1, by omega, AS.out, by go_num, by rw [E.out], hg.trans hg2⟩
        case measure => simp [intOf]; omega
      · have NB : Hid (¬ okN s.toList) := fun hh => c (hh.2.2 k (by rw [HL.out]; exact hlt))
        have D : decide (48 ≤ bt s.toList k ∧ bt s.toList k ≤ 57) = false := by simp; omega
        have I := fun w => isDigit_any (bt s.toList k) w cb1 cb2
        rw [D] at I
        have I' := Lib.hid I
        clear c D I
        generalize bt s.toList k = c at gS cb1 cb2 I' ⊢
        go_wp2_with fail
        refine (I'.out wr).mono ?_
        rintro e w2 ⟨rfl, hg2⟩
        go_wp2_with fail
        go_ret2
        exact ⟨numB_no NB.out, hg.trans hg2⟩
    · obtain rfl : k = s.size := by omega
      have OK : Hid (okN s.toList) := ⟨by rw [HL.out]; exact h1, by rw [HL.out]; exact hs, fun j hj => HA.out j (by rw [HL.out] at hj; exact hj)⟩
      go_wp2
      go_ret2
      exact ⟨by have := numB_yes OK.out; rw [HL.out] at this; exact this, hg⟩

set_option maxHeartbeats 400000 in
theorem number_long (s : ByteArray) (w : World) (hs : 4 < s.size) (hm : s.size ≤ maxLen) (hne : ¬ s = ByteArray.empty) :
    Calls Tryz.prog 119 #[.string s] w fun e w' => e = numB (nv s.toList) (nok s.toList) ∧ Gr w w' := by
  unfold maxLen at hm
  have gt : (4 : Int) < (s.size : Int) := by omega
  have NB : Hid (¬ okN s.toList) := fun hh => by have := hh.2.1; rw [toList_len] at this; omega
  have e1 : (s.toList == []) = false := by
    have := toList_len s
    cases h : s.toList with
    | nil => rw [h] at this; simp at this; omega
    | cons a b => rfl
  clear hne
  go_enter Tryz.func119, Tryz.ntmps119
  go_wp2
  go_ret2
  exact ⟨numB_no NB.out, by first | exact Gr.refl _ | exact (Gr.refl _).drewN _⟩

set_option maxHeartbeats 400000 in
theorem number_none (w : World) :
    Calls Tryz.prog 119 #[.string ⟨#[]⟩] w fun e w' => e = numB (nv []) (nok []) ∧ Gr w w' := by
  have NB : Hid (¬ okN []) := fun hh => by have := hh.1; simp at this
  go_enter Tryz.func119, Tryz.ntmps119
  go_wp2
  go_ret2
  exact ⟨numB_no NB.out, by first | exact Gr.refl _ | exact (Gr.refl _).drewN _⟩

theorem number_any (s : ByteArray) (w : World) (hm : s.size ≤ maxLen) :
    Calls Tryz.prog 119 #[.string s] w fun e w' => e = numB (nv s.toList) (nok s.toList) ∧ Gr w w' := by
  by_cases h0 : s.size = 0
  · have e : s = ⟨#[]⟩ := by
      cases s with
      | mk d => have : d.size = 0 := h0
                congr 1; exact Array.size_eq_zero_iff.1 this
    subst e
    have e2 : (⟨#[]⟩ : ByteArray).toList = [] := by rw [ByteArray.toList_eq]
    rw [e2]
    exact number_none w
  · have hne : ¬ s = ByteArray.empty := fun e => by subst e; exact h0 rfl
    by_cases h4 : s.size ≤ 4
    · exact number_short s w h4 (by omega) hne
    · exact number_long s w (by omega) hm hne
end Go.Proofs.YtkkilmmpmiichaaGreatDoor
