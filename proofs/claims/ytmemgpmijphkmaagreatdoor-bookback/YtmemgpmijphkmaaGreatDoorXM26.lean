/- What the reference's StampRead returns, for every input. -/
import Derived.Deep.QuietTactic
import Derived.BigQuiet
import Derived.Lib.Strings
import Derived.Test.YtmemgpmijphkmaaGreatDoorXM01
import Derived.Test.YtmemgpmijphkmaaGreatDoorXM04
namespace Go.Proofs.YtmemgpmijphkmaaGreatDoor
set_option linter.unusedVariables false
set_option linter.unusedSimpArgs false
open Go.RowKit
/-- the form of a timestamp -/
def stampForm : List UInt8 := [48, 48, 48, 48, 45, 48, 48, 45, 48, 48, 84, 48, 48, 58, 48, 48, 58, 48, 48]
/-- does the text fit the form at this place? -/
def fits (l : List UInt8) (k : Nat) : Prop := if bt stampForm k = 48 then 48 ≤ bt l k ∧ bt l k ≤ 57 else bt l k = bt stampForm k

theorem fits_digit {l : List UInt8} {k : Nat} (f : bt stampForm k = 48) (h1 : ¬ bt l k < 48) (h2 : ¬ 57 < bt l k) : fits l k := by
  unfold fits; rw [if_pos f]; omega
theorem fits_sign {l : List UInt8} {k : Nat} (f : ¬ bt stampForm k = 48) (h : bt l k = bt stampForm k) : fits l k := by
  unfold fits; rw [if_neg f]; exact h
theorem digit_of {l : List UInt8} {k : Nat} (h : fits l k) (f : bt stampForm k = 48) : 48 ≤ bt l k ∧ bt l k ≤ 57 := by
  unfold fits at h; rw [if_pos f] at h; exact h
theorem sign_of {l : List UInt8} {k : Nat} (h : fits l k) (f : ¬ bt stampForm k = 48) : bt l k = bt stampForm k := by
  unfold fits at h; rw [if_neg f] at h; exact h
/-- Is the text a timestamp? place by place -/
def Stamped (l : List UInt8) : Prop := l.length = 19 ∧ (∀ j, j < 19 → fits l j) ∧ Cal.Valid (numv l 0 4) (numv l 5 2) (numv l 8 2) ∧ numv l 11 2 ≤ 23 ∧ numv l 14 2 ≤ 59 ∧ numv l 17 2 ≤ 59
/-- the time that it tells -/
def stampV (l : List UInt8) : Int := 86400 * Cal.days (numv l 0 4) (numv l 5 2) (numv l 8 2) + 3600 * numv l 11 2 + 60 * numv l 14 2 + numv l 17 2
open Classical in
/-- what reading it answers -/
noncomputable def stampAns (l : List UInt8) : Ending := if Stamped l then two (stampV l) 0 else two 0 3
theorem stampAns_yes {l : List UInt8} (h : Stamped l) : two (stampV l) 0 = stampAns l := by unfold stampAns; rw [if_pos h]
theorem stampAns_no {l : List UInt8} (h : ¬ Stamped l) : two 0 3 = stampAns l := by unfold stampAns; rw [if_neg h]
theorem digits_in {l : List UInt8} (h : ∀ j, j < 19 → fits l j) (i n : Nat) (hin : i + n ≤ 19) (hf : ∀ j, j < n → bt stampForm (i + j) = 48) : ∀ j, j < n → 48 ≤ bt l (i + j) ∧ bt l (i + j) ≤ 57 :=
  fun j hj => digit_of (h (i + j) (by omega)) (hf j hj)
theorem form0 : ∀ j, j < 4 → bt stampForm (0 + j) = 48 := by decide
theorem form5 : ∀ j, j < 2 → bt stampForm (5 + j) = 48 := by decide
theorem form8 : ∀ j, j < 2 → bt stampForm (8 + j) = 48 := by decide
theorem form11 : ∀ j, j < 2 → bt stampForm (11 + j) = 48 := by decide
theorem form14 : ∀ j, j < 2 → bt stampForm (14 + j) = 48 := by decide
theorem form17 : ∀ j, j < 2 → bt stampForm (17 + j) = 48 := by decide

end Go.Proofs.YtmemgpmijphkmaaGreatDoor
