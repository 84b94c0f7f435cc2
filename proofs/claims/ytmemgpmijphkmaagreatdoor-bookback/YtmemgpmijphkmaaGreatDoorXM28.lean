/- What Check of package book answers for a book; the text of a time. No function of the program in it. Lines of a book's text, read one after another: what Parse of package book answers. No function of the program in it. -/
import Derived.Test.YtmemgpmijphkmaaGreatDoorXM23
import Derived.Test.YtmemgpmijphkmaaGreatDoorXM25
import Derived.Test.YtmemgpmijphkmaaGreatDoorXM27
namespace Go.Proofs.YtmemgpmijphkmaaGreatDoor
set_option linter.unusedVariables false
set_option linter.unusedSimpArgs false
open Go.RowKit
def svB (n : Int) : Bool := decide (0 ≤ n) && decide (n ≤ 10800)
theorem svB_no {n : Int} : svB n = false ↔ (n < 0 ∨ 10800 < n) := by unfold svB; simp; omega
theorem svB_yes {n : Int} : svB n = true ↔ ¬ (n < 0 ∨ 10800 < n) := by unfold svB; simp
/-- the error of Abbr -/
def abbrC (f : ByteArray) (sv : Int) (lt : ByteArray) : Int := (abbrR f.toList sv lt.toList).2
def dash : ByteArray := ⟨#[45]⟩
/-- the error of a format with the i-th rule, if it has this name -/
def ruA (rs : List RuD) (e : EraD) (i : Nat) : Int := match rs[i]? with
  | some r => if (r.nm.toList == e.ru.toList) = true then abbrC e.fm r.sv r.lt else 0
  | none => 0
theorem ruA_at {rs : List RuD} {e : EraD} {i : Nat} {r : RuD} (h : rs[i]? = some r) : ruA rs e i = if (r.nm.toList == e.ru.toList) = true then abbrC e.fm r.sv r.lt else 0 := by unfold ruA; rw [h]
def rulC (rs : List RuD) (e : EraD) : Int := if hasR rs e.ru = false then 6 else if fe (ruA rs e) rs.length = 0 then abbrC e.fm 0 dash else fe (ruA rs e) rs.length
def eraA (rs : List RuD) (e : EraD) : Int :=
  if e.off < -64800 ∨ 64800 < e.off ∨ svB e.sv = false then 1 else if e.ru.toList = [] then abbrC e.fm e.sv dash else if e.sv ≠ 0 then 5 else rulC rs e
/-- has it a timestamp? -/
def tmB (t : Int) : Bool := decide (-11676096000 ≤ t) && decide (t ≤ 13569465599)
theorem tmB_yes {t : Int} : tmB t = true ↔ (-11676096000 ≤ t ∧ t ≤ 13569465599) := by unfold tmB; simp
theorem tmB_days {t : Int} : tmB t = true ↔ (-135140 ≤ t / 86400 ∧ t / 86400 ≤ 157053) := by rw [tmB_yes]; omega
/-- of the k-th era: is the one before it not earlier? -/
def befB (es : List EraD) (k : Nat) (u : Int) : Bool := match k with
  | 0 => false
  | j + 1 => match es[j]? with
    | none => false
    | some p => decide (u ≤ p.un)
def untC (es : List EraD) (k : Nat) : Int := match es[k]? with
  | none => 0
  | some e => if k + 1 = es.length then (if e.un = 0 then 0 else 5) else if tmB e.un = false then 1 else if befB es k e.un = true then 5 else 0
theorem untC_at {es : List EraD} {k : Nat} {e : EraD} (h : es[k]? = some e) : untC es k = if k + 1 = es.length then (if e.un = 0 then 0 else 5) else if tmB e.un = false then 1 else if befB es k e.un = true then 5 else 0 := by unfold untC; rw [h]
def eraC (rs : List RuD) (es : List EraD) (k : Nat) : Int := match es[k]? with
  | none => 0
  | some e => if eraA rs e = 0 then untC es k else eraA rs e
theorem eraC_at {rs : List RuD} {es : List EraD} {k : Nat} {e : EraD} (h : es[k]? = some e) : eraC rs es k = if eraA rs e = 0 then untC es k else eraA rs e := by unfold eraC; rw [h]
def zonC (rs : List RuD) (zs : List ZonD) (i : Nat) : Int := match zs[i]? with
  | none => 0
  | some z => if isNameB z.nm.toList = false then 3 else if hasZ (zs.take i) z.nm = true then 7 else if z.eras.length = 0 then 5 else if 700 < z.eras.length then 2 else fe (eraC rs z.eras) z.eras.length
theorem zonC_at {rs : List RuD} {zs : List ZonD} {i : Nat} {z : ZonD} (h : zs[i]? = some z) : zonC rs zs i = if isNameB z.nm.toList = false then 3 else if hasZ (zs.take i) z.nm = true then 7 else if z.eras.length = 0 then 5 else if 700 < z.eras.length then 2 else fe (eraC rs z.eras) z.eras.length := by unfold zonC; rw [h]
def linC (zs : List ZonD) (ls : List LinD) (i : Nat) : Int := match ls[i]? with
  | none => 0
  | some x => if (isNameB x.nm.toList && isNameB x.to'.toList) = false then 3 else if (hasZ zs x.nm || hasL (ls.take i) x.nm) = true then 7 else if (hasZ zs x.to' || hasL ls x.to') = false then 6 else 0
theorem linC_at {zs : List ZonD} {ls : List LinD} {i : Nat} {x : LinD} (h : ls[i]? = some x) : linC zs ls i = if (isNameB x.nm.toList && isNameB x.to'.toList) = false then 3 else if (hasZ zs x.nm || hasL (ls.take i) x.nm) = true then 7 else if (hasZ zs x.to' || hasL ls x.to') = false then 6 else 0 := by unfold linC; rw [h]
def rusC (rs : List RuD) (i : Nat) : Int := match rs[i]? with
  | none => 0
  | some r => r.chk
theorem rusC_at {rs : List RuD} {i : Nat} {r : RuD} (h : rs[i]? = some r) : rusC rs i = r.chk := by unfold rusC; rw [h]
/-- what Check answers -/
def bokC (rs : List RuD) (zs : List ZonD) (ls : List LinD) : Int :=
  if 40 < rs.length ∨ 20 < zs.length ∨ 20 < ls.length then 2
  else if fe (rusC rs) rs.length ≠ 0 then fe (rusC rs) rs.length
  else if fe (zonC rs zs) zs.length ≠ 0 then fe (zonC rs zs) zs.length
  else fe (linC zs ls) ls.length
theorem bokC_big {rs : List RuD} {zs : List ZonD} {ls : List LinD} (h : 40 < rs.length ∨ 20 < zs.length ∨ 20 < ls.length) : bokC rs zs ls = 2 := by unfold bokC; rw [if_pos h]
theorem bokC_rus {rs : List RuD} {zs : List ZonD} {ls : List LinD} (h : ¬ (40 < rs.length ∨ 20 < zs.length ∨ 20 < ls.length)) (g : fe (rusC rs) rs.length ≠ 0) : bokC rs zs ls = fe (rusC rs) rs.length := by unfold bokC; rw [if_neg h, if_pos g]
theorem bokC_zos {rs : List RuD} {zs : List ZonD} {ls : List LinD} (h : ¬ (40 < rs.length ∨ 20 < zs.length ∨ 20 < ls.length)) (g : fe (rusC rs) rs.length = 0) (k : fe (zonC rs zs) zs.length ≠ 0) : bokC rs zs ls = fe (zonC rs zs) zs.length := by unfold bokC; rw [if_neg h, if_neg (by simpa using g), if_pos k]
theorem bokC_lis {rs : List RuD} {zs : List ZonD} {ls : List LinD} (h : ¬ (40 < rs.length ∨ 20 < zs.length ∨ 20 < ls.length)) (g : fe (rusC rs) rs.length = 0) (k : fe (zonC rs zs) zs.length = 0) : bokC rs zs ls = fe (linC zs ls) ls.length := by unfold bokC; rw [if_neg h, if_neg (by simpa using g), if_neg (by simpa using k)]
theorem bokC_ok {rs : List RuD} {zs : List ZonD} {ls : List LinD} : bokC rs zs ls = 0 ↔ ¬ (40 < rs.length ∨ 20 < zs.length ∨ 20 < ls.length) ∧ fe (rusC rs) rs.length = 0 ∧ fe (zonC rs zs) zs.length = 0 ∧ fe (linC zs ls) ls.length = 0 := by
  unfold bokC
  split
  · rename_i h; simp [h]
  · rename_i h
    split
    · rename_i g; simp [g]
    · rename_i g
      split
      · rename_i k; simp [k]
      · rename_i k
        have g' : fe (rusC rs) rs.length = 0 := by simpa using g
        have k' : fe (zonC rs zs) zs.length = 0 := by simpa using k
        simp [h, g', k']
/-- the text of a time -/
theorem has_stamp (t : Int) (h : tmB t = true) : ∃ l : List UInt8, ∃ y m d r : Int, Cal.Valid y m d ∧ 0 ≤ r ∧ r < 86400 ∧ 86400 * Cal.days y m d + r = t ∧ l = stampL y m d r := by
  obtain ⟨h1, h2⟩ := tmB_days.1 h
  obtain ⟨y, m, d, hv, hd⟩ := Cal.has_date h1 h2
  exact ⟨_, y, m, d, t % 86400, hv, by omega, by omega, by omega, rfl⟩
noncomputable def stampT (t : Int) : List UInt8 := if h : tmB t = true then (has_stamp t h).choose else []
theorem stampT_of {t : Int} (h : tmB t = true) : ∃ y m d r : Int, Cal.Valid y m d ∧ 0 ≤ r ∧ r < 86400 ∧ 86400 * Cal.days y m d + r = t ∧ stampT t = stampL y m d r := by
  have := (has_stamp t h).choose_spec
  unfold stampT
  rw [dif_pos h]
  exact this
theorem stampT_no {t : Int} (h : tmB t = false) : stampT t = [] := by unfold stampT; rw [dif_neg (by rw [h]; simp)]
/-- the error of Stamp -/
def tmC (t : Int) : Int := if tmB t = true then 0 else 1
end Go.Proofs.YtmemgpmijphkmaaGreatDoor
namespace Go.Proofs.YtmemgpmijphkmaaGreatDoor
set_option linter.unusedVariables false
set_option linter.unusedSimpArgs false
open Go.RowKit
/-- a duration read: its value and the error -/
noncomputable def spanV (l : List UInt8) : Int × Int := by
  classical exact if h : ∃ n, IsSpan l n then (h.choose, 0) else (0, 3)
theorem spanV_ans {l : List UInt8} {e : Ending} (h : SpanAns l e) : e = two (spanV l).1 (spanV l).2 := by
  unfold spanV
  split
  · rename_i g; exact h.1 _ g.choose_spec
  · rename_i g; exact h.2 g
theorem spanV_cases (l : List UInt8) : ((spanV l).2 = 0 ∧ IsSpan l (spanV l).1) ∨ ((spanV l).2 = 3 ∧ (spanV l).1 = 0 ∧ ¬ ∃ n, IsSpan l n) := by
  unfold spanV
  split
  · rename_i g; exact Or.inl ⟨rfl, g.choose_spec⟩
  · rename_i g; exact Or.inr ⟨rfl, rfl, g⟩
theorem spanV_of {l : List UInt8} {n : Int} (h : IsSpan l n) : spanV l = (n, 0) := by
  rcases spanV_cases l with ⟨a, b⟩ | ⟨_, _, b⟩
  · have : (spanV l).1 = n := spanL_inj b.1 h.1 (b.2.trans h.2.symm)
    rw [← this, ← a]
  · exact absurd ⟨n, h⟩ b
/-- a time read: its value and the error -/
noncomputable def stmpV (l : List UInt8) : Int × Int := by
  classical exact if Stamped l then (stampV l, 0) else (0, 3)
theorem stmpV_ans (l : List UInt8) : stampAns l = two (stmpV l).1 (stmpV l).2 := by
  unfold stmpV stampAns
  split <;> rfl
/-- a rule as an answer -/
abbrev ruE (r : RuD) (e : Int) : Ending := ruleInt r.nm r.fr r.tt r.mo r.k r.d r.n r.at' r.by' r.sv r.lt e
/-- the text of a rule -/
def RuD.text (r : RuD) : List UInt8 := ruleL r.nm.toList r.lt.toList r.fr r.tt r.mo r.k r.d r.n r.at' r.by' r.sv
def IsRule (l : List UInt8) (r : RuD) : Prop := r.chk = 0 ∧ r.text = l
/-- a rule read -/
noncomputable def ruleR (l : List UInt8) : Option RuD := by
  classical exact if h : ∃ r, IsRule l r then some h.choose else none
theorem isRule_one {l : List UInt8} {r r' : RuD} (h : IsRule l r) (h' : IsRule l r') : r = r' := by
  obtain ⟨nm, fr, tt, mo, k, d, n, at', by', sv, lt⟩ := r
  obtain ⟨nm2, fr2, tt2, mo2, k2, d2, n2, at2, by2, sv2, lt2⟩ := r'
  obtain ⟨a, b, rfl, rfl, rfl, ⟨rfl, rfl, rfl⟩, rfl, rfl, rfl⟩ := ruleL_inj h.1 h'.1 (h.2.trans h'.2.symm)
  have e1 : nm = nm2 := by rw [S_of nm, S_of nm2]; exact congrArg S a
  have e2 : lt = lt2 := by rw [S_of lt, S_of lt2]; exact congrArg S b
  rw [e1, e2]
theorem ruleR_of {l : List UInt8} {r : RuD} (h : IsRule l r) : ruleR l = some r := by
  unfold ruleR
  rw [dif_pos ⟨r, h⟩]
  exact congrArg some (isRule_one (Exists.choose_spec (p := fun r => IsRule l r) ⟨r, h⟩) h)
theorem ruleR_some {l : List UInt8} {r : RuD} (h : ruleR l = some r) : IsRule l r := by
  unfold ruleR at h
  split at h
  · rename_i g
    injection h with h
    rw [← h]; exact g.choose_spec
  · cases h
theorem ruleR_none {l : List UInt8} (h : ruleR l = none) : ¬ ∃ r, IsRule l r := fun ⟨r, g⟩ => by rw [ruleR_of g] at h; cases h
theorem ruleR_yes {l : List UInt8} {r : RuD} {e : Ending} (h : ruleR l = some r) (he : RuleReadA l e) : e = ruE r 0 := by
  obtain ⟨hc, hl⟩ := ruleR_some h
  obtain ⟨nm, fr, tt, mo, k, d, n, at', by', sv, lt⟩ := r
  have := read_of hc hl he
  rw [← S_of, ← S_of] at this
  exact this
theorem ruleR_no {l : List UInt8} {e : Ending} (h : ruleR l = none) (he : RuleReadA l e) : e = noRule := by
  rcases he with ⟨nm, lt, fr, tt, mo, k, d, n, at', by', sv, hc, hl, _⟩ | ⟨_, he⟩
  · exact absurd ⟨⟨S nm, fr, tt, mo, k, d, n, at', by', sv, S lt⟩, by unfold IsRule RuD.chk RuD.text; simp only [S_toList]; exact ⟨hc, hl⟩⟩ (ruleR_none h)
  · exact he
/-- the first words of lines -/
def wRule : List UInt8 := [114, 117, 108, 101]
def wZone : List UInt8 := [122, 111, 110, 101]
def wEra : List UInt8 := [101, 114, 97]
def wLink : List UInt8 := [108, 105, 110, 107]
/-- an era read, whose line has these words -/
noncomputable def eraR (t : ByteArray) : EraD × Bool :=
  let a := spanV (wd t 1).toList
  let c : Bool := Lib.hasPrefix (wd t 2).toList [45]
  let s := spanV (Lib.trimPrefix (wd t 2).toList [45])
  let u := stmpV (wd t 4).toList
  let five := decide ((bl t).length = 5)
  (⟨a.1, if c then ByteArray.mk #[] else wd t 2, if c then s.1 else 0, wd t 3, if five then u.1 else 0⟩,
    (a.2 == 0) && (if c then s.2 == 0 else isNameB (wd t 2).toList) && (if five then u.2 == 0 else true))
/-- a book under way: what the lines so far ended with: 0 rules, 1 a zone that is not whole, 2 a zone, 3 links -/
structure BkS where
  rs : List RuD
  zs : List (ByteArray × List EraD)
  ls : List LinD
  st : Nat
def BkS.zero : BkS := ⟨[], [], [], 0⟩
/-- one more era in the last zone -/
def addE (zs : List (ByteArray × List EraD)) (e : EraD) : List (ByteArray × List EraD) := match zs.getLast? with
  | none => []
  | some z => zs.dropLast ++ [(z.1, z.2 ++ [e])]
theorem addE_snoc (zs : List (ByteArray × List EraD)) (n : ByteArray) (es : List EraD) (e : EraD) : addE (zs ++ [(n, es)]) e = zs ++ [(n, es ++ [e])] := by
  unfold addE; simp
/-- a line read -/
noncomputable def stepB (p : BkS) (t : ByteArray) : Option BkS :=
  if (wd t 0).toList = wRule then (if p.st = 0 then (ruleR t.toList).map fun r => { p with rs := p.rs ++ [r] } else none)
  else if (wd t 0).toList = wZone then (if (bl t).length = 2 ∧ (p.st = 0 ∨ p.st = 2) then some { p with zs := p.zs ++ [(wd t 1, [])], st := 1 } else none)
  else if (wd t 0).toList = wEra then (if ((bl t).length = 4 ∨ (bl t).length = 5) ∧ p.st = 1 ∧ (eraR t).2 = true then some { p with zs := addE p.zs (eraR t).1, st := if (bl t).length = 4 then 2 else 1 } else none)
  else if (wd t 0).toList = wLink then (if (bl t).length = 3 ∧ p.st ≠ 1 then some { p with ls := p.ls ++ [⟨wd t 1, wd t 2⟩], st := 3 } else none)
  else none
/-- lines read one after another: the number of the first that can't be, or what they give -/
noncomputable def runB : BkS → List ByteArray → Nat → Nat ⊕ BkS
  | p, [], _ => .inr p
  | p, t :: ts, k => match stepB p t with
    | none => .inl (k + 1)
    | some q => runB q ts (k + 1)
theorem runB_bad {p : BkS} {l : List ByteArray} {k j : Nat} {t : ByteArray} (ht : l[j]? = some t) (h : stepB p t = none) : runB p (l.drop j) k = .inl (k + 1) := by
  have hj := (List.getElem?_eq_some_iff.1 ht).1
  have e := (List.getElem?_eq_some_iff.1 ht).2
  rw [List.drop_eq_getElem_cons hj, e, runB, h]
theorem runB_step {p q : BkS} {l : List ByteArray} {k j : Nat} {t : ByteArray} (ht : l[j]? = some t) (h : stepB p t = some q) : runB p (l.drop j) k = runB q (l.drop (j + 1)) (k + 1) := by
  have hj := (List.getElem?_eq_some_iff.1 ht).1
  have e := (List.getElem?_eq_some_iff.1 ht).2
  rw [List.drop_eq_getElem_cons hj, e, runB, h]
theorem runB_end {p : BkS} {l : List ByteArray} {k j : Nat} (h : l.length ≤ j) : runB p (l.drop j) k = .inr p := by
  rw [List.drop_eq_nil_of_le h]; rfl
/-- what is so of a book under way -/
structure BkS.Ok (p : BkS) : Prop where
  st3 : p.st ≤ 3
  st0 : p.st = 0 ↔ (p.zs = [] ∧ p.ls = [])
  st3' : p.st = 3 ↔ p.ls ≠ []
  open' : p.st = 1 → p.zs ≠ []
theorem BkS.Ok.zero : BkS.zero.Ok := ⟨by decide, by simp [BkS.zero], by simp [BkS.zero], by simp [BkS.zero]⟩
/-- a zone without its place -/
def zonP (z : ByteArray × List EraD) : ZonD := ⟨z.1, none, 0, z.2⟩
def BkS.chk (p : BkS) : Int := bokC p.rs (p.zs.map zonP) p.ls
/-- the lines of a text -/
def lns (t : ByteArray) : List ByteArray := Lib.splitB ⟨#[10]⟩ 0 (Lib.countB t ⟨#[10]⟩) t
theorem lns_len (t : ByteArray) : (lns t).length = Lib.countB t ⟨#[10]⟩ + 1 := Lib.splitB_all ⟨#[10]⟩ (by decide) 0 _ t rfl
theorem lns_split (t : ByteArray) : (lns t).map (·.toList) = Lib.split t.toList [10] := by
  unfold lns
  have := Lib.splitB_data ⟨#[10]⟩ 0 (Lib.countB t ⟨#[10]⟩) t
  have e : (fun x : ByteArray => x.toList) = fun x => x.data.toList := by funext x; exact ByteArray.toList_eq x
  rw [e, this, ByteArray.toList_eq]
  rfl
theorem lns_size {s t : ByteArray} (h : t ∈ lns s) : t.size ≤ s.size := by
  have m2 : t.toList ∈ Lib.split s.toList [10] := by rw [← lns_split]; exact List.mem_map_of_mem h
  have := split_size 10 _ s.toList (Nat.le_refl _) _ m2
  rw [toList_size, toList_size] at this
  exact this
/-- what Parse answers: a book, the number of a line, an error -/
noncomputable def parB (s : ByteArray) : BkS × Int × Int :=
  if 60000 < s.size then (BkS.zero, 0, 2) else if s.toList = [] then (BkS.zero, 0, 0) else
  match runB BkS.zero (lns s) 0 with
  | .inl n => (BkS.zero, n, 3)
  | .inr p => if p.st = 1 then (BkS.zero, (lns s).length + 1, 3) else if p.chk ≠ 0 then (BkS.zero, 0, p.chk) else (p, 0, 0)
/-- a book holds what these are -/
def BokD.Is (b : BokD) (p : BkS) : Prop := b.rs = p.rs ∧ b.zs.map (fun z => (z.nm, z.eras)) = p.zs ∧ b.ls = p.ls
/-- a book, a number and an error -/
abbrev bookE (b : BokD) (n e : Int) : Ending := .returned (.tuple #[bookV b, .int .i64 n, .int .i64 e])
/-- the answer of Parse -/
def ParA (s : ByteArray) (w : World) (e : Ending) (w' : World) : Prop := ∃ b : BokD, e = bookE b (parB s).2.1 (parB s).2.2 ∧ b.At w' ∧ b.Is (parB s).1 ∧ Gr w w'
end Go.Proofs.YtmemgpmijphkmaaGreatDoor
