/- What the reference's RuleCheck returns, for every rule. What the reference's DayText returns, for every input. Numbers as digits: no colon among them, and what they tell. No program in it. What the reference's RuleText returns, for every rule. What the reference's numeral returns, for every text. What the reference's SpanRead returns, for every text that is not too long. -/
import Derived.Test.YtmemgpmijphkmaaGreatDoorXM04
import Derived.Deep.RegionHeld3
import Derived.Test.YtmemgpmijphkmaaGreatDoorXM01
import Derived.Deep.QuietTactic
import Derived.BigQuiet
import Derived.Lib.SplitLaws
import Derived.Test.YtmemgpmijphkmaaGreatDoorXM02
namespace Go.Proofs.YtmemgpmijphkmaaGreatDoor
set_option linter.unusedVariables false
set_option linter.unusedSimpArgs false
open Go.RowKit
/-- a rule as a value -/
abbrev ruleV (nm : ByteArray) (fr tto mo k d n at' by' sv : Int) (lt : ByteArray) : Value :=
  .agg #[.string nm, .int .i64 fr, .int .i64 tto, .int .i64 mo, .int .i64 k, .int .i64 d, .int .i64 n, .int .i64 at', .int .i64 by', .int .i64 sv, .string lt]
/-- its words can be read -/
def RuleSyn (nm lt : List UInt8) : Prop := isNameB nm = true ∧ (lt = [45] ∨ isAbbrB lt = true)
def RuleNum (fr tto mo : Int) : Prop := (1900 ≤ fr ∧ fr ≤ 2100) ∧ (1900 ≤ tto ∧ tto ≤ 2100) ∧ fr ≤ tto ∧ 1 ≤ mo ∧ mo ≤ 12
def RuleRest (mo n at' by' sv : Int) : Prop := n ≤ Cal.ml 1999 mo ∧ (-604800 ≤ at' ∧ at' ≤ 604800) ∧ (0 ≤ by' ∧ by' ≤ 2) ∧ 0 ≤ sv ∧ sv ≤ 10800
instance (nm lt : List UInt8) : Decidable (RuleSyn nm lt) := by unfold RuleSyn; infer_instance
instance (fr tto mo : Int) : Decidable (RuleNum fr tto mo) := by unfold RuleNum; infer_instance
instance (mo n at' by' sv : Int) : Decidable (RuleRest mo n at' by' sv) := by unfold RuleRest; infer_instance
/-- what RuleCheck answers -/
def ruleC (nm lt : List UInt8) (fr tto mo k d n at' by' sv : Int) : Int :=
  if RuleSyn nm lt then (if RuleNum fr tto mo then (if DayOk k d n then (if RuleRest mo n at' by' sv then 0 else 1) else 1) else 1) else 3

/-- a rule lies in a block of its own -/
def RuleAt (w W : World) (b : Nat) (nm : ByteArray) (fr tto mo k d n at' by' sv : Int) (lt : ByteArray) : Prop :=
  W.cell? ⟨b, 0, none⟩ = some (.string nm) ∧ W.cell? ⟨b, 1, none⟩ = some (.int .i64 fr) ∧ W.cell? ⟨b, 2, none⟩ = some (.int .i64 tto) ∧ W.cell? ⟨b, 3, none⟩ = some (.int .i64 mo) ∧ W.cell? ⟨b, 4, none⟩ = some (.int .i64 k) ∧
  W.cell? ⟨b, 5, none⟩ = some (.int .i64 d) ∧ W.cell? ⟨b, 6, none⟩ = some (.int .i64 n) ∧ W.cell? ⟨b, 7, none⟩ = some (.int .i64 at') ∧ W.cell? ⟨b, 8, none⟩ = some (.int .i64 by') ∧ W.cell? ⟨b, 9, none⟩ = some (.int .i64 sv) ∧
  W.cell? ⟨b, 10, none⟩ = some (.string lt) ∧ Gr w W
theorem RuleAt.gr {w W W' : World} {b : Nat} {nm : ByteArray} {fr tto mo k d n at' by' sv : Int} {lt : ByteArray} (h : RuleAt w W b nm fr tto mo k d n at' by' sv lt) (g : Gr W W') : RuleAt w W' b nm fr tto mo k d n at' by' sv lt := by
  obtain ⟨h0, h1, h2, h3, h4, h5, h6, h7, h8, h9, h10, hg⟩ := h
  exact ⟨g.holds h0, g.holds h1, g.holds h2, g.holds h3, g.holds h4, g.holds h5, g.holds h6, g.holds h7, g.holds h8, g.holds h9, g.holds h10, hg.trans g⟩
theorem RuleAt.new (w : World) (T : TypeId) (nm : ByteArray) (fr tto mo k d n at' by' sv : Int) (lt : ByteArray) :
    RuleAt w (w.alloc (.cells #[.string nm, .int .i64 fr, .int .i64 tto, .int .i64 mo, .int .i64 k, .int .i64 d, .int .i64 n, .int .i64 at', .int .i64 by', .int .i64 sv, .string lt] T)) w.heap.size nm fr tto mo k d n at' by' sv lt := by
  refine ⟨?_, ?_, ?_, ?_, ?_, ?_, ?_, ?_, ?_, ?_, ?_, Gr.alloc _ _⟩ <;> (rw [World.cell?_alloc_new]; rfl)

end Go.Proofs.YtmemgpmijphkmaaGreatDoor
namespace Go.Proofs.YtmemgpmijphkmaaGreatDoor
set_option linter.unusedVariables false
set_option linter.unusedSimpArgs false
open Go.RowKit
/-- the word of a weekday -/
def wk (d : Int) : List UInt8 := if d = 0 then [83, 117, 110] else if d = 1 then [77, 111, 110] else if d = 2 then [84, 117, 101] else if d = 3 then [87, 101, 100] else if d = 4 then [84, 104, 117] else if d = 5 then [70, 114, 105] else [83, 97, 116]

@[go_sem] theorem wk_length (d : Int) : (wk d).length = 3 := by unfold wk; (repeat' split) <;> rfl

/-- a day of a month as text -/
def dayL (k d n : Int) : List UInt8 := if k = 1 then dz n else if k = 2 then [108, 97, 115, 116] ++ wk d else if k = 3 then wk d ++ 62 :: 61 :: dz n else wk d ++ 60 :: 61 :: dz n

theorem dayOk_bd {k d n : Int} (h : DayOk k d n) : 0 ≤ d ∧ d ≤ 6 ∧ 0 ≤ n ∧ n ≤ 31 := by unfold DayOk at h; omega

/-- what DayText answers -/
def dayTextA (k d n : Int) : Ending := if DayOk k d n then strInt (S (dayL k d n)) 0 else strInt (S []) 1
end Go.Proofs.YtmemgpmijphkmaaGreatDoor
namespace Go.Proofs.YtmemgpmijphkmaaGreatDoor
set_option linter.unusedVariables false
set_option linter.unusedSimpArgs false
theorem u_ne {n : Int} (h1 : 48 ≤ n) (h2 : n ≤ 57) : ¬ (58 : UInt8) = u n := fun e => by
  have h := congrArg UInt8.toNat e
  have := u_toNat (n := n) (by omega) (by omega)
  have h3 : (58 : UInt8).toNat = 58 := rfl
  omega
theorem d2_no {n : Int} (h1 : 0 ≤ n) (h2 : n < 100) : 58 ∉ d2 n := by
  unfold d2
  simp only [List.mem_cons, List.not_mem_nil, or_false]
  rintro (h | h)
  · exact u_ne (by omega) (by omega) h
  · exact u_ne (by omega) (by omega) h
theorem dz_no : ∀ (k : Nat) (n : Int), 0 ≤ n → n < 10 ^ (k + 1) → 58 ∉ dz n := by
  intro k
  induction k with
  | zero =>
    intro n h0 h
    have h10 : n < 10 := by simpa using h
    rw [dz_small h0 h10]; simp only [List.mem_cons, List.not_mem_nil, or_false]; exact u_ne (by omega) (by omega)
  | succ k ih =>
    intro n h0 h
    by_cases c : n < 10
    · rw [dz_small h0 c]; simp only [List.mem_cons, List.not_mem_nil, or_false]; exact u_ne (by omega) (by omega)
    · rw [dz_big h0 c]
      simp only [List.mem_append, List.mem_cons, List.not_mem_nil, or_false]
      rintro (h' | h')
      · exact ih (n / 10) (by omega) (by rw [Int.pow_succ] at h; omega) h'
      · exact u_ne (by omega) (by omega) h'

/-- a list of digits that tells a number -/
def Tells (l : List UInt8) (n : Int) : Prop := (∀ j, j < l.length → 48 ≤ bt l j ∧ bt l j ≤ 57) ∧ numv l 0 l.length = n
theorem tells1 {n : Int} (h1 : 0 ≤ n) (h2 : n < 10) : Tells [u (48 + n)] n := by
  have k := u_toNat (n := 48 + n) (by omega) (by omega)
  refine ⟨fun j hj => ?_, ?_⟩
  · obtain rfl : j = 0 := by simpa using hj
    simp only [bt, List.getD_cons_zero]; omega
  · simp [numv, bt]; omega
theorem tells2 {n : Int} (h1 : 0 ≤ n) (h2 : n < 100) : Tells (d2 n) n := by
  have k := u_toNat (n := 48 + n / 10) (by omega) (by omega)
  have k' := u_toNat (n := 48 + n % 10) (by omega) (by omega)
  unfold d2
  refine ⟨fun j hj => ?_, ?_⟩
  · have : j = 0 ∨ j = 1 := by simp at hj; omega
    rcases this with e | e <;> subst e <;> simp [bt] <;> omega
  · simp [numv, bt]; omega
theorem tells3 {n : Int} (h1 : 100 ≤ n) (h2 : n < 1000) : Tells (dz n) n ∧ (dz n).length = 3 := by
  have k := u_toNat (n := 48 + n / 10 / 10) (by omega) (by omega)
  have k' := u_toNat (n := 48 + n / 10 % 10) (by omega) (by omega)
  have k'' := u_toNat (n := 48 + n % 10) (by omega) (by omega)
  have e : dz n = [u (48 + n / 10 / 10), u (48 + n / 10 % 10), u (48 + n % 10)] := by
    rw [dz_big (by omega) (by omega), dz_big (by omega) (by omega), dz_small (by omega) (by omega)]; rfl
  rw [e]
  refine ⟨⟨fun j hj => ?_, ?_⟩, rfl⟩
  · have : j = 0 ∨ j = 1 ∨ j = 2 := by simp at hj; omega
    rcases this with e | e | e <;> subst e <;> simp [bt] <;> omega
  · simp [numv, bt]; omega
theorem tells_dz {n : Int} (h1 : 0 ≤ n) (h2 : n < 1000) : Tells (dz n) n ∧ 1 ≤ (dz n).length ∧ (dz n).length ≤ 3 := by
  by_cases a : n < 10
  · rw [dz_small h1 a]; exact ⟨tells1 h1 a, by simp, by simp⟩
  · by_cases b : n < 100
    · rw [dz_d2 (by omega) b]; exact ⟨tells2 h1 b, by simp [d2], by simp [d2]⟩
    · have := tells3 (n := n) (by omega) h2
      exact ⟨this.1, by omega, by omega⟩
theorem dz_inj {a b : Int} (a1 : 0 ≤ a) (a2 : a < 1000) (b1 : 0 ≤ b) (b2 : b < 1000) (h : dz a = dz b) : a = b := by
  have x := (tells_dz a1 a2).1.2
  have y := (tells_dz b1 b2).1.2
  rw [h] at x
  omega
end Go.Proofs.YtmemgpmijphkmaaGreatDoor
namespace Go.Proofs.YtmemgpmijphkmaaGreatDoor
set_option linter.unusedVariables false
set_option linter.unusedSimpArgs false
open Go.RowKit
/-- the letter of a clock -/
def suf (by' : Int) : List UInt8 := if by' = 0 then [] else if by' = 1 then [115] else [117]
/-- a rule as text -/
def ruleL (nm lt : List UInt8) (fr tto mo k d n at' by' sv : Int) : List UInt8 :=
  [114, 117, 108, 101, 32] ++ nm ++ [32] ++ dz fr ++ [32] ++ dz tto ++ [32] ++ dz mo ++ [32] ++ dayL k d n ++ [32] ++ spanL at' ++ suf by' ++ [32] ++ spanL sv ++ [32] ++ lt
theorem name_len {l : List UInt8} (h : isNameB l = true) : l.length ≤ 20 := by
  unfold isNameB at h; simp at h; omega
theorem abbr_len {l : List UInt8} (h : isAbbrB l = true) : l.length ≤ 8 := by
  unfold isAbbrB at h; simp at h; omega
theorem dayL_len {k d n : Int} (h : DayOk k d n) : (dayL k d n).length ≤ 20 := by
  have bd := dayOk_bd h
  have tl := tells_dz (n := n) (by omega) (by omega)
  unfold dayL
  split
  · omega
  · split
    · simp [wk_length]
    · split <;> simp [wk_length] <;> omega
theorem spanL_len {n : Int} (h1 : -604800 ≤ n) (h2 : n ≤ 604800) : (spanL n).length ≤ 21 := by
  unfold spanL; split
  · have := spanL0_len (-n) (by omega) (by omega); simp; omega
  · have := spanL0_len n (by omega) (by omega); omega

theorem suf_len (by' : Int) : (suf by').length ≤ 1 := by unfold suf; split <;> (try split) <;> simp

end Go.Proofs.YtmemgpmijphkmaaGreatDoor
namespace Go.Proofs.YtmemgpmijphkmaaGreatDoor
set_option linter.unusedVariables false
set_option linter.unusedSimpArgs false
open Go.RowKit
theorem bt_app {l : List UInt8} (r : List UInt8) {k : Nat} (h : k < l.length) : bt (l ++ r) k = bt l k := by
  unfold bt; simp [List.getD, List.getElem?_append_left h]
theorem bt_last (l : List UInt8) (c : UInt8) : bt (l ++ [c]) l.length = (c.toNat : Int) := by
  unfold bt; simp [List.getD]
theorem numv_app (l r : List UInt8) : ∀ k, k ≤ l.length → numv (l ++ r) 0 k = numv l 0 k := by
  intro k
  induction k with
  | zero => intro _; rfl
  | succ k ih =>
    intro hk
    unfold numv
    rw [ih (by omega), Nat.zero_add, bt_app r (by omega)]
theorem Tells.snoc {l : List UInt8} {m r : Int} (h : Tells l m) (r1 : 0 ≤ r) (r2 : r < 10) : Tells (l ++ [u (48 + r)]) (10 * m + r) := by
  have hu := u_toNat (n := 48 + r) (by omega) (by omega)
  refine ⟨fun j hj => ?_, ?_⟩
  · simp at hj
    by_cases c : j < l.length
    · rw [bt_app _ c]; exact h.1 j c
    · have e : j = l.length := by omega
      rw [e, bt_last, hu]; omega
  · rw [List.length_append, List.length_singleton]
    unfold numv
    rw [numv_app l _ l.length (Nat.le_refl _), h.2, Nat.zero_add, bt_last, hu]
    omega
theorem tells_all : ∀ (k : Nat) (n : Int), 0 ≤ n → n < 10 ^ (k + 1) → Tells (dz n) n := by
  intro k
  induction k with
  | zero => intro n h0 h; rw [dz_small h0 (by simpa using h)]; exact tells1 h0 (by simpa using h)
  | succ k ih =>
    intro n h0 h
    by_cases c : n < 10
    · rw [dz_small h0 c]; exact tells1 h0 c
    · rw [dz_big h0 c]
      have := (ih (n / 10) (by omega) (by rw [Int.pow_succ] at h; omega)).snoc (r := n % 10) (by omega) (by omega)
      have e : 10 * (n / 10) + n % 10 = n := by omega
      rw [e] at this
      exact this
theorem dz_inj9 {a b : Int} (a1 : 0 ≤ a) (a2 : a < 1000000000) (b1 : 0 ≤ b) (b2 : b < 1000000000) (h : dz a = dz b) : a = b := by
  have x := (tells_all 8 a a1 (by omega)).2
  have y := (tells_all 8 b b1 (by omega)).2
  rw [h] at x
  omega
theorem toList_size (s : ByteArray) : s.toList.length = s.size := by rw [ByteArray.toList_eq]; exact Array.length_toList
end Go.Proofs.YtmemgpmijphkmaaGreatDoor
namespace Go.Proofs.YtmemgpmijphkmaaGreatDoor
set_option linter.unusedVariables false
set_option linter.unusedSimpArgs false
open Go.RowKit
/-- the pieces of a text between its colons -/
def pieces (t : ByteArray) : List ByteArray := Lib.splitB ⟨#[58]⟩ 0 (Lib.countB t ⟨#[58]⟩) t
/-- what Split leaves -/
def Split (t : ByteArray) (w : World) (e : Ending) (w' : World) : Prop := ∃ g : Nat, e = .returned (.slice (some ⟨g, 0, none⟩) (pieces t).length (pieces t).length) ∧ Gr w w' ∧ ∀ j, j < (pieces t).length → w'.cell? ⟨g, j, none⟩ = some (.string ((pieces t).getD j ByteArray.empty))
/-- a piece that may stand at place k -/
def gp (k : Nat) (x : ByteArray) : Prop := (0 < k → x.size = 2) ∧ 1 ≤ x.size ∧ x.size ≤ 3 ∧ ∀ j, j < x.size → 48 ≤ bt x.toList j ∧ bt x.toList j ≤ 57
def wt : Nat → Int
  | 0 => 3600
  | 1 => 60
  | _ => 1
/-- what the first k pieces tell -/
def tot (ps : List ByteArray) : Nat → Int
  | 0 => 0
  | k + 1 => tot ps k + numv (ps.getD k ByteArray.empty).toList 0 (ps.getD k ByteArray.empty).size * wt k
end Go.Proofs.YtmemgpmijphkmaaGreatDoor
