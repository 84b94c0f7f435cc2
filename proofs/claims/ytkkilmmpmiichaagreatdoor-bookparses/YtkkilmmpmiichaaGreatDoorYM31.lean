/- What the reference's RuleParse returns, for every text that is not too long. The closed fact of the laws on rules; a text tells at most one rule. Lines of a book's text, read one after another: what Parse of package book answers. No function of the program in it. -/
import Derived.Test.YtkkilmmpmiichaaGreatDoorYM30
import Derived.Test.YtkkilmmpmiichaaGreatDoorYM29
import Derived.Test.YtkkilmmpmiichaaGreatDoorYM14
namespace Go.Proofs.YtkkilmmpmiichaaGreatDoor
set_option linter.unusedVariables false
set_option linter.unusedSimpArgs false
open Go.RowKit
theorem rruleParse (s : ByteArray) (mx : Int) (w : World) (hs : s.size ≤ 1048576) (hm : w.cell? ⟨0, 0, none⟩ = some (.int .i64 mx)) :
    Calls Tryz.prog 11 #[.string s] w fun e w' => RuleReadA s.toList e ∧ Gr w w' := by
  by_cases h : (bl s).length = 9 ∧ (wd s 0).toList = [114, 117, 108, 101]
  · exact rparse_words s mx w hs hm h.1 h.2
  · refine (rparse_len s mx w hs hm h).mono ?_
    rintro e w' ⟨rfl, hg⟩
    refine ⟨Or.inr ⟨?_, rfl⟩, hg⟩
    rintro ⟨nm, lt, fr, tt, mo, k, d, n, at', by', sv, hc, hl⟩
    obtain ⟨a, b, _⟩ := good_words hc hl
    exact h ⟨a, b⟩
/-- the text of a rule tells the rule -/
theorem ruleL_inj {nm lt nm' lt' : List UInt8} {fr tt mo k d n at' by' sv fr' tt' mo' k' d' n' at2 by2 sv' : Int} (h : ruleC nm lt fr tt mo k d n at' by' sv = 0) (h' : ruleC nm' lt' fr' tt' mo' k' d' n' at2 by2 sv' = 0)
    (e : ruleL nm lt fr tt mo k d n at' by' sv = ruleL nm' lt' fr' tt' mo' k' d' n' at2 by2 sv') :
    nm = nm' ∧ lt = lt' ∧ fr = fr' ∧ tt = tt' ∧ mo = mo' ∧ (k = k' ∧ d = d' ∧ n = n') ∧ at' = at2 ∧ by' = by2 ∧ sv = sv' := by
  obtain ⟨a, b, c, r⟩ := ruleC_zero.1 h
  obtain ⟨a', b', c', r'⟩ := ruleC_zero.1 h'
  have sp := rule_split a b c r
  rw [e, rule_split a' b' c' r'] at sp
  unfold ruleW at sp
  simp only [List.cons.injEq, true_and, and_true] at sp
  obtain ⟨w1, w2, w3, w4, w5, w6, w7, w8⟩ := sp
  obtain ⟨⟨f1, f2⟩, ⟨t1, t2⟩, ft, o1, o2⟩ := b
  obtain ⟨⟨f1', f2'⟩, ⟨t1', t2'⟩, ft', o1', o2'⟩ := b'
  obtain ⟨_, ⟨a1, a2⟩, ⟨b1, b2⟩, s1, s2⟩ := r
  obtain ⟨_, ⟨a1', a2'⟩, ⟨b1', b2'⟩, s1', s2'⟩ := r'
  have x := clock_word a1 a2 b1 b2
  have x' := clock_word a1' a2' b1' b2'
  rw [w6] at x'
  have y1 := x.1.symm.trans x'.1
  have y2 := x.2.symm.trans x'.2
  have eb : by' = by2 := by
    have z1 : (by' = 1) = (by2 = 1) := by simpa using y1
    have z2 : (by' = 2) = (by2 = 2) := by simpa using y2
    have z1' : by' = 1 ↔ by2 = 1 := by rw [z1]
    have z2' : by' = 2 ↔ by2 = 2 := by rw [z2]
    omega
  subst eb
  have ea := spanL_inj (a := at2) (b := at') ⟨a1', a2'⟩ ⟨a1, a2⟩ (List.append_cancel_right w6)
  have es := spanL_inj (a := sv') (b := sv) ⟨by omega, by omega⟩ ⟨by omega, by omega⟩ w7
  have ed := dayL_inj c' c w5
  exact ⟨w1.symm, w8.symm, (dz_inj9 (by omega) (by omega) (by omega) (by omega) w2).symm, (dz_inj9 (by omega) (by omega) (by omega) (by omega) w3).symm, (dz_inj9 (by omega) (by omega) (by omega) (by omega) w4).symm, ⟨ed.1.symm, ed.2.1.symm, ed.2.2.symm⟩, ea.symm, rfl, es.symm⟩
end Go.Proofs.YtkkilmmpmiichaaGreatDoor
namespace Go.Proofs.YtkkilmmpmiichaaGreatDoor
set_option linter.unusedVariables false
set_option linter.unusedSimpArgs false
open Go.RowKit
/-- what reading the text of a rule answers -/
theorem read_of {l nm lt : List UInt8} {fr tt mo k d n at' by' sv : Int} {e : Ending} (hc : ruleC nm lt fr tt mo k d n at' by' sv = 0) (hl : ruleL nm lt fr tt mo k d n at' by' sv = l) (h : RuleReadA l e) : e = ruleInt (S nm) fr tt mo k d n at' by' sv (S lt) 0 := by
  rcases h with ⟨nm', lt', fr', tt', mo', k', d', n', at2, by2, sv', hc', hl', rfl⟩ | ⟨no, rfl⟩
  · obtain ⟨rfl, rfl, rfl, rfl, rfl, ⟨rfl, rfl, rfl⟩, rfl, rfl, rfl⟩ := ruleL_inj hc hc' (hl.trans hl'.symm)
    rfl
  · exact absurd ⟨nm, lt, fr, tt, mo, k, d, n, at', by', sv, hc, hl⟩ no
end Go.Proofs.YtkkilmmpmiichaaGreatDoor
namespace Go.Proofs.YtkkilmmpmiichaaGreatDoor
set_option linter.unusedVariables false
set_option linter.unusedSimpArgs false
open Go.RowKit
/-- a duration read: its value and the error -/
noncomputable def spanV (l : List UInt8) : Int × Int := by
  classical exact if h : ∃ n, IsSpan l n then (h.choose, 0) else (0, 3)
theorem spanV_ans {l : List UInt8} {e : Ending} (h : SpanAns l e) : e = two (spanV l).1 (spanV l).2 := by
  unfold spanV
  split
  · rename_i g; exact h.1 _ g.choose_spec
  · rename_i g; exact h.2 g
/-- a time read: its value and the error -/
noncomputable def stmpV (l : List UInt8) : Int × Int := by
  classical exact if Stamped l then (stampV l, 0) else (0, 3)
theorem stmpV_ans (l : List UInt8) : stampAns l = two (stmpV l).1 (stmpV l).2 := by
  unfold stmpV stampAns
  split <;> rfl
/-- a rule as an answer -/
abbrev ruE (r : RuD) (e : Int) : Ending := ruleInt r.nm r.fr r.tt r.mo r.k r.d r.n r.at' r.by' r.sv r.lt e
/-- the text of a rule -/
def RuD.text (r : RuD) : List UInt8 := ruleL r.nm.toList r.lt.toList r.fr r.tt r.mo r.k r.d r.n r.at' r.by' r.sv
def IsRule (l : List UInt8) (r : RuD) : Prop := r.chk = 0 ∧ r.text = l
/-- a rule read -/
noncomputable def ruleR (l : List UInt8) : Option RuD := by
  classical exact if h : ∃ r, IsRule l r then some h.choose else none
theorem isRule_one {l : List UInt8} {r r' : RuD} (h : IsRule l r) (h' : IsRule l r') : r = r' := by
  obtain ⟨nm, fr, tt, mo, k, d, n, at', by', sv, lt⟩ := r
  obtain ⟨nm2, fr2, tt2, mo2, k2, d2, n2, at2, by2, sv2, lt2⟩ := r'
  obtain ⟨a, b, rfl, rfl, rfl, ⟨rfl, rfl, rfl⟩, rfl, rfl, rfl⟩ := ruleL_inj h.1 h'.1 (h.2.trans h'.2.symm)
  have e1 : nm = nm2 := by rw [S_of nm, S_of nm2]; exact congrArg S a
  have e2 : lt = lt2 := by rw [S_of lt, S_of lt2]; exact congrArg S b
  rw [e1, e2]
theorem ruleR_of {l : List UInt8} {r : RuD} (h : IsRule l r) : ruleR l = some r := by
  unfold ruleR
  rw [dif_pos ⟨r, h⟩]
  exact congrArg some (isRule_one (Exists.choose_spec (p := fun r => IsRule l r) ⟨r, h⟩) h)
theorem ruleR_some {l : List UInt8} {r : RuD} (h : ruleR l = some r) : IsRule l r := by
  unfold ruleR at h
  split at h
  · rename_i g
    injection h with h
    rw [← h]; exact g.choose_spec
  · cases h
theorem ruleR_none {l : List UInt8} (h : ruleR l = none) : ¬ ∃ r, IsRule l r := fun ⟨r, g⟩ => by rw [ruleR_of g] at h; cases h
theorem ruleR_yes {l : List UInt8} {r : RuD} {e : Ending} (h : ruleR l = some r) (he : RuleReadA l e) : e = ruE r 0 := by
  obtain ⟨hc, hl⟩ := ruleR_some h
  obtain ⟨nm, fr, tt, mo, k, d, n, at', by', sv, lt⟩ := r
  have := read_of hc hl he
  rw [← S_of, ← S_of] at this
  exact this
theorem ruleR_no {l : List UInt8} {e : Ending} (h : ruleR l = none) (he : RuleReadA l e) : e = noRule := by
  rcases he with ⟨nm, lt, fr, tt, mo, k, d, n, at', by', sv, hc, hl, _⟩ | ⟨_, he⟩
  · exact absurd ⟨⟨S nm, fr, tt, mo, k, d, n, at', by', sv, S lt⟩, by unfold IsRule RuD.chk RuD.text; simp only [S_toList]; exact ⟨hc, hl⟩⟩ (ruleR_none h)
  · exact he
/-- the first words of lines -/
def wRule : List UInt8 := [114, 117, 108, 101]
def wZone : List UInt8 := [122, 111, 110, 101]
def wEra : List UInt8 := [101, 114, 97]
def wLink : List UInt8 := [108, 105, 110, 107]
/-- an era read, whose line has these words -/
noncomputable def eraR (t : ByteArray) : EraD × Bool :=
  let a := spanV (wd t 1).toList
  let c : Bool := Lib.hasPrefix (wd t 2).toList [45]
  let s := spanV (Lib.trimPrefix (wd t 2).toList [45])
  let u := stmpV (wd t 4).toList
  let five := decide ((bl t).length = 5)
  (⟨a.1, if c then ByteArray.mk #[] else wd t 2, if c then s.1 else 0, wd t 3, if five then u.1 else 0⟩,
    (a.2 == 0) && (if c then s.2 == 0 else isNameB (wd t 2).toList) && (if five then u.2 == 0 else true))
/-- a book under way: what the lines so far ended with: 0 rules, 1 a zone that is not whole, 2 a zone, 3 links -/
structure BkS where
  rs : List RuD
  zs : List (ByteArray × List EraD)
  ls : List LinD
  st : Nat
def BkS.zero : BkS := ⟨[], [], [], 0⟩
/-- one more era in the last zone -/
def addE (zs : List (ByteArray × List EraD)) (e : EraD) : List (ByteArray × List EraD) := match zs.getLast? with
  | none => []
  | some z => zs.dropLast ++ [(z.1, z.2 ++ [e])]
theorem addE_snoc (zs : List (ByteArray × List EraD)) (n : ByteArray) (es : List EraD) (e : EraD) : addE (zs ++ [(n, es)]) e = zs ++ [(n, es ++ [e])] := by
  unfold addE; simp
/-- a line read -/
noncomputable def stepB (p : BkS) (t : ByteArray) : Option BkS :=
  if (wd t 0).toList = wRule then (if p.st = 0 then (ruleR t.toList).map fun r => { p with rs := p.rs ++ [r] } else none)
  else if (wd t 0).toList = wZone then (if (bl t).length = 2 ∧ (p.st = 0 ∨ p.st = 2) then some { p with zs := p.zs ++ [(wd t 1, [])], st := 1 } else none)
  else if (wd t 0).toList = wEra then (if ((bl t).length = 4 ∨ (bl t).length = 5) ∧ p.st = 1 ∧ (eraR t).2 = true then some { p with zs := addE p.zs (eraR t).1, st := if (bl t).length = 4 then 2 else 1 } else none)
  else if (wd t 0).toList = wLink then (if (bl t).length = 3 ∧ p.st ≠ 1 then some { p with ls := p.ls ++ [⟨wd t 1, wd t 2⟩], st := 3 } else none)
  else none
/-- lines read one after another: the number of the first that can't be, or what they give -/
noncomputable def runB : BkS → List ByteArray → Nat → Nat ⊕ BkS
  | p, [], _ => .inr p
  | p, t :: ts, k => match stepB p t with
    | none => .inl (k + 1)
    | some q => runB q ts (k + 1)
theorem runB_bad {p : BkS} {l : List ByteArray} {k j : Nat} {t : ByteArray} (ht : l[j]? = some t) (h : stepB p t = none) : runB p (l.drop j) k = .inl (k + 1) := by
  have hj := (List.getElem?_eq_some_iff.1 ht).1
  have e := (List.getElem?_eq_some_iff.1 ht).2
  rw [List.drop_eq_getElem_cons hj, e, runB, h]
theorem runB_step {p q : BkS} {l : List ByteArray} {k j : Nat} {t : ByteArray} (ht : l[j]? = some t) (h : stepB p t = some q) : runB p (l.drop j) k = runB q (l.drop (j + 1)) (k + 1) := by
  have hj := (List.getElem?_eq_some_iff.1 ht).1
  have e := (List.getElem?_eq_some_iff.1 ht).2
  rw [List.drop_eq_getElem_cons hj, e, runB, h]
theorem runB_end {p : BkS} {l : List ByteArray} {k j : Nat} (h : l.length ≤ j) : runB p (l.drop j) k = .inr p := by
  rw [List.drop_eq_nil_of_le h]; rfl
/-- what is so of a book under way -/
structure BkS.Ok (p : BkS) : Prop where
  st3 : p.st ≤ 3
  st0 : p.st = 0 ↔ (p.zs = [] ∧ p.ls = [])
  st3' : p.st = 3 ↔ p.ls ≠ []
  open' : p.st = 1 → p.zs ≠ []
theorem BkS.Ok.zero : BkS.zero.Ok := ⟨by decide, by simp [BkS.zero], by simp [BkS.zero], by simp [BkS.zero]⟩
/-- a zone without its place -/
def zonP (z : ByteArray × List EraD) : ZonD := ⟨z.1, none, 0, z.2⟩
def BkS.chk (p : BkS) : Int := bokC p.rs (p.zs.map zonP) p.ls
/-- the lines of a text -/
def lns (t : ByteArray) : List ByteArray := Lib.splitB ⟨#[10]⟩ 0 (Lib.countB t ⟨#[10]⟩) t
theorem lns_len (t : ByteArray) : (lns t).length = Lib.countB t ⟨#[10]⟩ + 1 := Lib.splitB_all ⟨#[10]⟩ (by decide) 0 _ t rfl
theorem lns_split (t : ByteArray) : (lns t).map (·.toList) = Lib.split t.toList [10] := by
  unfold lns
  have := Lib.splitB_data ⟨#[10]⟩ 0 (Lib.countB t ⟨#[10]⟩) t
  have e : (fun x : ByteArray => x.toList) = fun x => x.data.toList := by funext x; exact ByteArray.toList_eq x
  rw [e, this, ByteArray.toList_eq]
  rfl
theorem lns_size {s t : ByteArray} (h : t ∈ lns s) : t.size ≤ s.size := by
  have m2 : t.toList ∈ Lib.split s.toList [10] := by rw [← lns_split]; exact List.mem_map_of_mem h
  have := split_size 10 _ s.toList (Nat.le_refl _) _ m2
  rw [toList_size, toList_size] at this
  exact this
/-- what Parse answers: a book, the number of a line, an error -/
noncomputable def parB (s : ByteArray) : BkS × Int × Int :=
  if 60000 < s.size then (BkS.zero, 0, 2) else if s.toList = [] then (BkS.zero, 0, 0) else
  match runB BkS.zero (lns s) 0 with
  | .inl n => (BkS.zero, n, 3)
  | .inr p => if p.st = 1 then (BkS.zero, (lns s).length + 1, 3) else if p.chk ≠ 0 then (BkS.zero, 0, p.chk) else (p, 0, 0)
/-- a book holds what these are -/
def BokD.Is (b : BokD) (p : BkS) : Prop := b.rs = p.rs ∧ b.zs.map (fun z => (z.nm, z.eras)) = p.zs ∧ b.ls = p.ls
/-- a book, a number and an error -/
abbrev bookE (b : BokD) (n e : Int) : Ending := .returned (.tuple #[bookV b, .int .i64 n, .int .i64 e])
/-- the answer of Parse -/
def ParA (s : ByteArray) (w : World) (e : Ending) (w' : World) : Prop := ∃ b : BokD, e = bookE b (parB s).2.1 (parB s).2.2 ∧ b.At w' ∧ b.Is (parB s).1 ∧ Gr w w'
end Go.Proofs.YtkkilmmpmiichaaGreatDoor
