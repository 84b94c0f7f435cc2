/- What the reference's StampRead returns, for every input. Timestamps as texts, place by place and as a whole: the two ways tto say 'this text is a timestamp' are one. No program in it. What Check of package book answers for a book; the text of a time. No function of the program in it. -/
import Derived.Deep.QuietTactic
import Derived.BigQuiet
import Derived.Lib.Strings
import Derived.Test.YtbagdlafpahgdaaGreatDoorRM01
import Derived.Test.YtbagdlafpahgdaaGreatDoorRM07
import Derived.Test.YtbagdlafpahgdaaGreatDoorRM04
import Derived.Test.YtbagdlafpahgdaaGreatDoorRM10
import Derived.Test.YtbagdlafpahgdaaGreatDoorRM12
namespace Go.Proofs.YtbagdlafpahgdaaGreatDoor
set_option linter.unusedVariables false
set_option linter.unusedSimpArgs false
open Go.RowKit
/-- the form of a timestamp -/
def stampForm : List UInt8 := [48, 48, 48, 48, 45, 48, 48, 45, 48, 48, 84, 48, 48, 58, 48, 48, 58, 48, 48]
/-- does the text fit the form at this place? -/
def fits (l : List UInt8) (k : Nat) : Prop := if bt stampForm k = 48 then 48 ≤ bt l k ∧ bt l k ≤ 57 else bt l k = bt stampForm k

end Go.Proofs.YtbagdlafpahgdaaGreatDoor
namespace Go.Proofs.YtbagdlafpahgdaaGreatDoor
set_option linter.unusedVariables false
set_option linter.unusedSimpArgs false
theorem at2 (c0 c1 c2 c3 c4 c5 c6 c7 c8 c9 c10 c11 c12 c13 c14 c15 c16 c17 c18 : UInt8) : fits [c0, c1, c2, c3, c4, c5, c6, c7, c8, c9, c10, c11, c12, c13, c14, c15, c16, c17, c18] 2 ↔ (48 ≤ (c2.toNat : Int) ∧ (c2.toNat : Int) ≤ 57) := by simp [fits, bt, stampForm]
end Go.Proofs.YtbagdlafpahgdaaGreatDoor
namespace Go.Proofs.YtbagdlafpahgdaaGreatDoor
set_option linter.unusedVariables false
set_option linter.unusedSimpArgs false
open Go.RowKit
def svB (n : Int) : Bool := decide (0 ≤ n) && decide (n ≤ 10800)
theorem svB_no {n : Int} : svB n = false ↔ (n < 0 ∨ 10800 < n) := by unfold svB; simp; omega
theorem svB_yes {n : Int} : svB n = true ↔ ¬ (n < 0 ∨ 10800 < n) := by unfold svB; simp
/-- the error of Abbr -/
def abbrC (f : ByteArray) (sv : Int) (lt : ByteArray) : Int := (abbrR f.toList sv lt.toList).2
def dash : ByteArray := ⟨#[45]⟩
/-- the error of a format with the i-th rule, if it has this name -/
def ruA (rs : List RuD) (e : EraD) (i : Nat) : Int := match rs[i]? with
  | some r => if (r.nm.toList == e.ru.toList) = true then abbrC e.fm r.sv r.lt else 0
  | none => 0
theorem ruA_at {rs : List RuD} {e : EraD} {i : Nat} {r : RuD} (h : rs[i]? = some r) : ruA rs e i = if (r.nm.toList == e.ru.toList) = true then abbrC e.fm r.sv r.lt else 0 := by unfold ruA; rw [h]
def rulC (rs : List RuD) (e : EraD) : Int := if hasR rs e.ru = false then 6 else if fe (ruA rs e) rs.length = 0 then abbrC e.fm 0 dash else fe (ruA rs e) rs.length
def eraA (rs : List RuD) (e : EraD) : Int :=
  if e.off < -64800 ∨ 64800 < e.off ∨ svB e.sv = false then 1 else if e.ru.toList = [] then abbrC e.fm e.sv dash else if e.sv ≠ 0 then 5 else rulC rs e
/-- has it a timestamp? -/
def tmB (t : Int) : Bool := decide (-11676096000 ≤ t) && decide (t ≤ 13569465599)
theorem tmB_yes {t : Int} : tmB t = true ↔ (-11676096000 ≤ t ∧ t ≤ 13569465599) := by unfold tmB; simp
theorem tmB_days {t : Int} : tmB t = true ↔ (-135140 ≤ t / 86400 ∧ t / 86400 ≤ 157053) := by rw [tmB_yes]; omega
/-- of the k-th era: is the one before it not earlier? -/
def befB (es : List EraD) (k : Nat) (u : Int) : Bool := match k with
  | 0 => false
  | j + 1 => match es[j]? with
    | none => false
    | some p => decide (u ≤ p.un)
def untC (es : List EraD) (k : Nat) : Int := match es[k]? with
  | none => 0
  | some e => if k + 1 = es.length then (if e.un = 0 then 0 else 5) else if tmB e.un = false then 1 else if befB es k e.un = true then 5 else 0
theorem untC_at {es : List EraD} {k : Nat} {e : EraD} (h : es[k]? = some e) : untC es k = if k + 1 = es.length then (if e.un = 0 then 0 else 5) else if tmB e.un = false then 1 else if befB es k e.un = true then 5 else 0 := by unfold untC; rw [h]
def eraC (rs : List RuD) (es : List EraD) (k : Nat) : Int := match es[k]? with
  | none => 0
  | some e => if eraA rs e = 0 then untC es k else eraA rs e
theorem eraC_at {rs : List RuD} {es : List EraD} {k : Nat} {e : EraD} (h : es[k]? = some e) : eraC rs es k = if eraA rs e = 0 then untC es k else eraA rs e := by unfold eraC; rw [h]
def zonC (rs : List RuD) (zs : List ZonD) (i : Nat) : Int := match zs[i]? with
  | none => 0
  | some z => if isNameB z.nm.toList = false then 3 else if hasZ (zs.take i) z.nm = true then 7 else if z.eras.length = 0 then 5 else if 700 < z.eras.length then 2 else fe (eraC rs z.eras) z.eras.length
theorem zonC_at {rs : List RuD} {zs : List ZonD} {i : Nat} {z : ZonD} (h : zs[i]? = some z) : zonC rs zs i = if isNameB z.nm.toList = false then 3 else if hasZ (zs.take i) z.nm = true then 7 else if z.eras.length = 0 then 5 else if 700 < z.eras.length then 2 else fe (eraC rs z.eras) z.eras.length := by unfold zonC; rw [h]
def linC (zs : List ZonD) (ls : List LinD) (i : Nat) : Int := match ls[i]? with
  | none => 0
  | some x => if (isNameB x.nm.toList && isNameB x.to'.toList) = false then 3 else if (hasZ zs x.nm || hasL (ls.take i) x.nm) = true then 7 else if (hasZ zs x.to' || hasL ls x.to') = false then 6 else 0
theorem linC_at {zs : List ZonD} {ls : List LinD} {i : Nat} {x : LinD} (h : ls[i]? = some x) : linC zs ls i = if (isNameB x.nm.toList && isNameB x.to'.toList) = false then 3 else if (hasZ zs x.nm || hasL (ls.take i) x.nm) = true then 7 else if (hasZ zs x.to' || hasL ls x.to') = false then 6 else 0 := by unfold linC; rw [h]
def rusC (rs : List RuD) (i : Nat) : Int := match rs[i]? with
  | none => 0
  | some r => r.chk
theorem rusC_at {rs : List RuD} {i : Nat} {r : RuD} (h : rs[i]? = some r) : rusC rs i = r.chk := by unfold rusC; rw [h]
/-- what Check answers -/
def bokC (rs : List RuD) (zs : List ZonD) (ls : List LinD) : Int :=
  if 40 < rs.length ∨ 20 < zs.length ∨ 20 < ls.length then 2
  else if fe (rusC rs) rs.length ≠ 0 then fe (rusC rs) rs.length
  else if fe (zonC rs zs) zs.length ≠ 0 then fe (zonC rs zs) zs.length
  else fe (linC zs ls) ls.length
theorem bokC_big {rs : List RuD} {zs : List ZonD} {ls : List LinD} (h : 40 < rs.length ∨ 20 < zs.length ∨ 20 < ls.length) : bokC rs zs ls = 2 := by unfold bokC; rw [if_pos h]
theorem bokC_rus {rs : List RuD} {zs : List ZonD} {ls : List LinD} (h : ¬ (40 < rs.length ∨ 20 < zs.length ∨ 20 < ls.length)) (g : fe (rusC rs) rs.length ≠ 0) : bokC rs zs ls = fe (rusC rs) rs.length := by unfold bokC; rw [if_neg h, if_pos g]
theorem bokC_zos {rs : List RuD} {zs : List ZonD} {ls : List LinD} (h : ¬ (40 < rs.length ∨ 20 < zs.length ∨ 20 < ls.length)) (g : fe (rusC rs) rs.length = 0) (k : fe (zonC rs zs) zs.length ≠ 0) : bokC rs zs ls = fe (zonC rs zs) zs.length := by unfold bokC; rw [if_neg h, if_neg (by simpa using g), if_pos k]
theorem bokC_lis {rs : List RuD} {zs : List ZonD} {ls : List LinD} (h : ¬ (40 < rs.length ∨ 20 < zs.length ∨ 20 < ls.length)) (g : fe (rusC rs) rs.length = 0) (k : fe (zonC rs zs) zs.length = 0) : bokC rs zs ls = fe (linC zs ls) ls.length := by unfold bokC; rw [if_neg h, if_neg (by simpa using g), if_neg (by simpa using k)]
theorem bokC_ok {rs : List RuD} {zs : List ZonD} {ls : List LinD} : bokC rs zs ls = 0 ↔ ¬ (40 < rs.length ∨ 20 < zs.length ∨ 20 < ls.length) ∧ fe (rusC rs) rs.length = 0 ∧ fe (zonC rs zs) zs.length = 0 ∧ fe (linC zs ls) ls.length = 0 := by
  unfold bokC
  split
  · rename_i h; simp [h]
  · rename_i h
    split
    · rename_i g; simp [g]
    · rename_i g
      split
      · rename_i k; simp [k]
      · rename_i k
        have g' : fe (rusC rs) rs.length = 0 := by simpa using g
        have k' : fe (zonC rs zs) zs.length = 0 := by simpa using k
        simp [h, g', k']
/-- the text of a time -/
theorem has_stamp (t : Int) (h : tmB t = true) : ∃ l : List UInt8, ∃ y m d r : Int, Cal.Valid y m d ∧ 0 ≤ r ∧ r < 86400 ∧ 86400 * Cal.days y m d + r = t ∧ l = stampL y m d r := by
  obtain ⟨h1, h2⟩ := tmB_days.1 h
  obtain ⟨y, m, d, hv, hd⟩ := Cal.has_date h1 h2
  exact ⟨_, y, m, d, t % 86400, hv, by omega, by omega, by omega, rfl⟩
noncomputable def stampT (t : Int) : List UInt8 := if h : tmB t = true then (has_stamp t h).choose else []
theorem stampT_of {t : Int} (h : tmB t = true) : ∃ y m d r : Int, Cal.Valid y m d ∧ 0 ≤ r ∧ r < 86400 ∧ 86400 * Cal.days y m d + r = t ∧ stampT t = stampL y m d r := by
  have := (has_stamp t h).choose_spec
  unfold stampT
  rw [dif_pos h]
  exact this
theorem stampT_no {t : Int} (h : tmB t = false) : stampT t = [] := by unfold stampT; rw [dif_neg (by rw [h]; simp)]
/-- the error of Stamp -/
def tmC (t : Int) : Int := if tmB t = true then 0 else 1
end Go.Proofs.YtbagdlafpahgdaaGreatDoor
