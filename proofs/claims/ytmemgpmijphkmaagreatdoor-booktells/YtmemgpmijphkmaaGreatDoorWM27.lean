/- The project's weekdayOf and number of package day; texts cut at an operator. What the project's guess and Read of package day return, for every text of a length up tto 1048576. What the project's guess of package day returns. What the reference's RuleParse returns: the walk through all nine words. Lines of a book's text, read one after another: what Parse of package book answers. No function of the program in it. -/
import Derived.Lib.CutLaws
import Derived.Lib.IndexBytes
import Derived.Test.YtmemgpmijphkmaaGreatDoorWM25
import Derived.Test.YtmemgpmijphkmaaGreatDoorWM15
import Derived.Deep.QuietTactic
import Derived.BigQuiet
import Derived.Test.YtmemgpmijphkmaaGreatDoorWM23
import Derived.Test.YtmemgpmijphkmaaGreatDoorWM06
import Derived.Test.YtmemgpmijphkmaaGreatDoorWM10
import Derived.Test.YtmemgpmijphkmaaGreatDoorWM13
import Derived.Test.YtmemgpmijphkmaaGreatDoorWM11
import Derived.Lib.AtoiTie
import Derived.Test.YtmemgpmijphkmaaGreatDoorWM26
import Derived.Test.YtmemgpmijphkmaaGreatDoorWM22
import Derived.Test.YtmemgpmijphkmaaGreatDoorWM20
namespace Go.Proofs.YtmemgpmijphkmaaGreatDoor
set_option linter.unusedVariables false
set_option linter.unusedSimpArgs false
open Go.RowKit
/-- the cells of the table -/
def WkCells (w : World) : Prop := w.cell? ⟨2, 0, none⟩ = some (.string ⟨#[83, 117, 110]⟩) ∧ w.cell? ⟨2, 1, none⟩ = some (.string ⟨#[77, 111, 110]⟩) ∧ w.cell? ⟨2, 2, none⟩ = some (.string ⟨#[84, 117, 101]⟩) ∧ w.cell? ⟨2, 3, none⟩ = some (.string ⟨#[87, 101, 100]⟩) ∧ w.cell? ⟨2, 4, none⟩ = some (.string ⟨#[84, 104, 117]⟩) ∧ w.cell? ⟨2, 5, none⟩ = some (.string ⟨#[70, 114, 105]⟩) ∧ w.cell? ⟨2, 6, none⟩ = some (.string ⟨#[83, 97, 116]⟩)
theorem HasWk.cells {w : World} (h : HasWk w) : WkCells w :=
  ⟨h.2 0 (by omega), h.2 1 (by omega), h.2 2 (by omega), h.2 3 (by omega), h.2 4 (by omega), h.2 5 (by omega), h.2 6 (by omega)⟩
def NoWk (l : List UInt8) (k : Nat) : Prop := ∀ j : Nat, j < k → ∀ d : Int, d = j → ¬ l = wk d
theorem NoWk.step {l : List UInt8} {k : Nat} (h : NoWk l k) (hk : ¬ l = wk (k : Int)) : NoWk l (k + 1) := fun j hj d e => by
  by_cases c : j = k
  · subst c; rw [e]; exact hk
  · exact h j (by omega) d e
end Go.Proofs.YtmemgpmijphkmaaGreatDoor
namespace Go.Proofs.YtmemgpmijphkmaaGreatDoor
set_option linter.unusedVariables false
set_option linter.unusedSimpArgs false
open Go.RowKit
theorem kinds {k0 d0 n0 : Int} (h : DayOk k0 d0 n0) : (k0 = 1 ∧ d0 = 0 ∧ 1 ≤ n0 ∧ n0 ≤ 31) ∨ (k0 = 2 ∧ 0 ≤ d0 ∧ d0 ≤ 6 ∧ n0 = 0) ∨ (k0 = 3 ∧ 0 ≤ d0 ∧ d0 ≤ 6 ∧ 1 ≤ n0 ∧ n0 ≤ 31) ∨ (k0 = 4 ∧ 0 ≤ d0 ∧ d0 ≤ 6 ∧ 1 ≤ n0 ∧ n0 ≤ 31) := by
  unfold DayOk at h
  omega
end Go.Proofs.YtmemgpmijphkmaaGreatDoor
namespace Go.Proofs.YtmemgpmijphkmaaGreatDoor
set_option linter.unusedVariables false
set_option linter.unusedSimpArgs false
open Go.RowKit
/-- the two kinds lie in their slice -/
def TwoAt (w : World) (b : Nat) : Prop := b < w.heap.size ∧ w.cell? ⟨b, 0, none⟩ = some (.int .i64 3) ∧ w.cell? ⟨b, 1, none⟩ = some (.int .i64 4)
theorem TwoAt.gr {w w' : World} {b : Nat} (h : TwoAt w b) (g : Gr w w') : TwoAt w' b := ⟨Nat.lt_of_lt_of_le h.1 g.size, g.holds h.2.1, g.holds h.2.2⟩
end Go.Proofs.YtmemgpmijphkmaaGreatDoor
namespace Go.Proofs.YtmemgpmijphkmaaGreatDoor
set_option linter.unusedVariables false
set_option linter.unusedSimpArgs false
open Go.RowKit
theorem PS.drew {w W : World} {g q : Nat} {t : ByteArray} {row : Array Value} (h : PS w W g q t row) : PS w W.drew g q t row := ⟨h.1, h.2.1, h.2.2.1, h.2.2.2.1.drew', h.2.2.2.2⟩
end Go.Proofs.YtmemgpmijphkmaaGreatDoor
namespace Go.Proofs.YtmemgpmijphkmaaGreatDoor
set_option linter.unusedVariables false
set_option linter.unusedSimpArgs false
open Go.RowKit
/-- a duration read: its value and the error -/
noncomputable def spanV (l : List UInt8) : Int × Int := by
  classical exact if h : ∃ n, IsSpan l n then (h.choose, 0) else (0, 3)
/-- a time read: its value and the error -/
noncomputable def stmpV (l : List UInt8) : Int × Int := by
  classical exact if Stamped l then (stampV l, 0) else (0, 3)
/-- the text of a rule -/
def RuD.text (r : RuD) : List UInt8 := ruleL r.nm.toList r.lt.toList r.fr r.tt r.mo r.k r.d r.n r.at' r.by' r.sv
def IsRule (l : List UInt8) (r : RuD) : Prop := r.chk = 0 ∧ r.text = l
/-- a rule read -/
noncomputable def ruleR (l : List UInt8) : Option RuD := by
  classical exact if h : ∃ r, IsRule l r then some h.choose else none
/-- the first words of lines -/
def wRule : List UInt8 := [114, 117, 108, 101]
def wZone : List UInt8 := [122, 111, 110, 101]
def wEra : List UInt8 := [101, 114, 97]
def wLink : List UInt8 := [108, 105, 110, 107]
/-- an era read, whose line has these words -/
noncomputable def eraR (t : ByteArray) : EraD × Bool :=
  let a := spanV (wd t 1).toList
  let c : Bool := Lib.hasPrefix (wd t 2).toList [45]
  let s := spanV (Lib.trimPrefix (wd t 2).toList [45])
  let u := stmpV (wd t 4).toList
  let five := decide ((bl t).length = 5)
  (⟨a.1, if c then ByteArray.mk #[] else wd t 2, if c then s.1 else 0, wd t 3, if five then u.1 else 0⟩,
    (a.2 == 0) && (if c then s.2 == 0 else isNameB (wd t 2).toList) && (if five then u.2 == 0 else true))
/-- a book under way: what the lines so far ended with: 0 rules, 1 a zone that is not whole, 2 a zone, 3 links -/
structure BkS where
  rs : List RuD
  zs : List (ByteArray × List EraD)
  ls : List LinD
  st : Nat
def BkS.zero : BkS := ⟨[], [], [], 0⟩
/-- one more era in the last zone -/
def addE (zs : List (ByteArray × List EraD)) (e : EraD) : List (ByteArray × List EraD) := match zs.getLast? with
  | none => []
  | some z => zs.dropLast ++ [(z.1, z.2 ++ [e])]
theorem addE_snoc (zs : List (ByteArray × List EraD)) (n : ByteArray) (es : List EraD) (e : EraD) : addE (zs ++ [(n, es)]) e = zs ++ [(n, es ++ [e])] := by
  unfold addE; simp
/-- a line read -/
noncomputable def stepB (p : BkS) (t : ByteArray) : Option BkS :=
  if (wd t 0).toList = wRule then (if p.st = 0 then (ruleR t.toList).map fun r => { p with rs := p.rs ++ [r] } else none)
  else if (wd t 0).toList = wZone then (if (bl t).length = 2 ∧ (p.st = 0 ∨ p.st = 2) then some { p with zs := p.zs ++ [(wd t 1, [])], st := 1 } else none)
  else if (wd t 0).toList = wEra then (if ((bl t).length = 4 ∨ (bl t).length = 5) ∧ p.st = 1 ∧ (eraR t).2 = true then some { p with zs := addE p.zs (eraR t).1, st := if (bl t).length = 4 then 2 else 1 } else none)
  else if (wd t 0).toList = wLink then (if (bl t).length = 3 ∧ p.st ≠ 1 then some { p with ls := p.ls ++ [⟨wd t 1, wd t 2⟩], st := 3 } else none)
  else none
/-- lines read one after another: the number of the first that can't be, or what they give -/
noncomputable def runB : BkS → List ByteArray → Nat → Nat ⊕ BkS
  | p, [], _ => .inr p
  | p, t :: ts, k => match stepB p t with
    | none => .inl (k + 1)
    | some q => runB q ts (k + 1)
/-- what is so of a book under way -/
structure BkS.Ok (p : BkS) : Prop where
  st3 : p.st ≤ 3
  st0 : p.st = 0 ↔ (p.zs = [] ∧ p.ls = [])
  st3' : p.st = 3 ↔ p.ls ≠ []
  open' : p.st = 1 → p.zs ≠ []
theorem BkS.Ok.zero : BkS.zero.Ok := ⟨by decide, by simp [BkS.zero], by simp [BkS.zero], by simp [BkS.zero]⟩
/-- a zone without its place -/
def zonP (z : ByteArray × List EraD) : ZonD := ⟨z.1, none, 0, z.2⟩
def BkS.chk (p : BkS) : Int := bokC p.rs (p.zs.map zonP) p.ls
/-- the lines of a text -/
def lns (t : ByteArray) : List ByteArray := Lib.splitB ⟨#[10]⟩ 0 (Lib.countB t ⟨#[10]⟩) t
/-- what Parse answers: a book, the number of a line, an error -/
noncomputable def parB (s : ByteArray) : BkS × Int × Int :=
  if 60000 < s.size then (BkS.zero, 0, 2) else if s.toList = [] then (BkS.zero, 0, 0) else
  match runB BkS.zero (lns s) 0 with
  | .inl n => (BkS.zero, n, 3)
  | .inr p => if p.st = 1 then (BkS.zero, (lns s).length + 1, 3) else if p.chk ≠ 0 then (BkS.zero, 0, p.chk) else (p, 0, 0)
/-- a book holds what these are -/
def BokD.Is (b : BokD) (p : BkS) : Prop := b.rs = p.rs ∧ b.zs.map (fun z => (z.nm, z.eras)) = p.zs ∧ b.ls = p.ls
/-- a book, a number and an error -/
abbrev bookE (b : BokD) (n e : Int) : Ending := .returned (.tuple #[bookV b, .int .i64 n, .int .i64 e])
/-- the answer of Parse -/
def ParA (s : ByteArray) (w : World) (e : Ending) (w' : World) : Prop := ∃ b : BokD, e = bookE b (parB s).2.1 (parB s).2.2 ∧ b.At w' ∧ b.Is (parB s).1 ∧ Gr w w'
end Go.Proofs.YtmemgpmijphkmaaGreatDoor
