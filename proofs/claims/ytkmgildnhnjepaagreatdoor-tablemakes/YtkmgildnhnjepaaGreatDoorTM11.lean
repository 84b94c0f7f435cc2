/- What Check of package book answers for a book; the text of a time. No function of the program in it. The transitions of rules, as data. No function of the program in it. -/
import Derived.Test.YtkmgildnhnjepaaGreatDoorTM09
import Derived.Test.YtkmgildnhnjepaaGreatDoorTM10
import Derived.Test.YtkmgildnhnjepaaGreatDoorTM03
import Derived.Test.YtkmgildnhnjepaaGreatDoorTM08
namespace Go.Proofs.YtkmgildnhnjepaaGreatDoor
set_option linter.unusedVariables false
set_option linter.unusedSimpArgs false
open Go.RowKit
def svB (n : Int) : Bool := decide (0 ≤ n) && decide (n ≤ 10800)
theorem svB_no {n : Int} : svB n = false ↔ (n < 0 ∨ 10800 < n) := by unfold svB; simp; omega
theorem svB_yes {n : Int} : svB n = true ↔ ¬ (n < 0 ∨ 10800 < n) := by unfold svB; simp
/-- the error of Abbr -/
def abbrC (f : ByteArray) (sv : Int) (lt : ByteArray) : Int := (abbrR f.toList sv lt.toList).2
def dash : ByteArray := ⟨#[45]⟩
/-- the error of a format with the i-th rule, if it has this name -/
def ruA (rs : List RuD) (e : EraD) (i : Nat) : Int := match rs[i]? with
  | some r => if (r.nm.toList == e.ru.toList) = true then abbrC e.fm r.sv r.lt else 0
  | none => 0
theorem ruA_at {rs : List RuD} {e : EraD} {i : Nat} {r : RuD} (h : rs[i]? = some r) : ruA rs e i = if (r.nm.toList == e.ru.toList) = true then abbrC e.fm r.sv r.lt else 0 := by unfold ruA; rw [h]
def rulC (rs : List RuD) (e : EraD) : Int := if hasR rs e.ru = false then 6 else if fe (ruA rs e) rs.length = 0 then abbrC e.fm 0 dash else fe (ruA rs e) rs.length
def eraA (rs : List RuD) (e : EraD) : Int :=
  if e.off < -64800 ∨ 64800 < e.off ∨ svB e.sv = false then 1 else if e.ru.toList = [] then abbrC e.fm e.sv dash else if e.sv ≠ 0 then 5 else rulC rs e
/-- has it a timestamp? -/
def tmB (t : Int) : Bool := decide (-11676096000 ≤ t) && decide (t ≤ 13569465599)
theorem tmB_yes {t : Int} : tmB t = true ↔ (-11676096000 ≤ t ∧ t ≤ 13569465599) := by unfold tmB; simp
theorem tmB_no {t : Int} : tmB t = false ↔ ¬ (-11676096000 ≤ t ∧ t ≤ 13569465599) := by rw [← tmB_yes]; simp
theorem tmB_days {t : Int} : tmB t = true ↔ (-135140 ≤ t / 86400 ∧ t / 86400 ≤ 157053) := by rw [tmB_yes]; omega
/-- of the k-th era: is the one before it not earlier? -/
def befB (es : List EraD) (k : Nat) (u : Int) : Bool := match k with
  | 0 => false
  | j + 1 => match es[j]? with
    | none => false
    | some p => decide (u ≤ p.un)
def untC (es : List EraD) (k : Nat) : Int := match es[k]? with
  | none => 0
  | some e => if k + 1 = es.length then (if e.un = 0 then 0 else 5) else if tmB e.un = false then 1 else if befB es k e.un = true then 5 else 0
theorem untC_at {es : List EraD} {k : Nat} {e : EraD} (h : es[k]? = some e) : untC es k = if k + 1 = es.length then (if e.un = 0 then 0 else 5) else if tmB e.un = false then 1 else if befB es k e.un = true then 5 else 0 := by unfold untC; rw [h]
def eraC (rs : List RuD) (es : List EraD) (k : Nat) : Int := match es[k]? with
  | none => 0
  | some e => if eraA rs e = 0 then untC es k else eraA rs e
theorem eraC_at {rs : List RuD} {es : List EraD} {k : Nat} {e : EraD} (h : es[k]? = some e) : eraC rs es k = if eraA rs e = 0 then untC es k else eraA rs e := by unfold eraC; rw [h]
def zonC (rs : List RuD) (zs : List ZonD) (i : Nat) : Int := match zs[i]? with
  | none => 0
  | some z => if isNameB z.nm.toList = false then 3 else if hasZ (zs.take i) z.nm = true then 7 else if z.eras.length = 0 then 5 else if 700 < z.eras.length then 2 else fe (eraC rs z.eras) z.eras.length
theorem zonC_at {rs : List RuD} {zs : List ZonD} {i : Nat} {z : ZonD} (h : zs[i]? = some z) : zonC rs zs i = if isNameB z.nm.toList = false then 3 else if hasZ (zs.take i) z.nm = true then 7 else if z.eras.length = 0 then 5 else if 700 < z.eras.length then 2 else fe (eraC rs z.eras) z.eras.length := by unfold zonC; rw [h]
def linC (zs : List ZonD) (ls : List LinD) (i : Nat) : Int := match ls[i]? with
  | none => 0
  | some x => if (isNameB x.nm.toList && isNameB x.to'.toList) = false then 3 else if (hasZ zs x.nm || hasL (ls.take i) x.nm) = true then 7 else if (hasZ zs x.to' || hasL ls x.to') = false then 6 else 0
theorem linC_at {zs : List ZonD} {ls : List LinD} {i : Nat} {x : LinD} (h : ls[i]? = some x) : linC zs ls i = if (isNameB x.nm.toList && isNameB x.to'.toList) = false then 3 else if (hasZ zs x.nm || hasL (ls.take i) x.nm) = true then 7 else if (hasZ zs x.to' || hasL ls x.to') = false then 6 else 0 := by unfold linC; rw [h]
def rusC (rs : List RuD) (i : Nat) : Int := match rs[i]? with
  | none => 0
  | some r => r.chk
theorem rusC_at {rs : List RuD} {i : Nat} {r : RuD} (h : rs[i]? = some r) : rusC rs i = r.chk := by unfold rusC; rw [h]
/-- what Check answers -/
def bokC (rs : List RuD) (zs : List ZonD) (ls : List LinD) : Int :=
  if 40 < rs.length ∨ 20 < zs.length ∨ 20 < ls.length then 2
  else if fe (rusC rs) rs.length ≠ 0 then fe (rusC rs) rs.length
  else if fe (zonC rs zs) zs.length ≠ 0 then fe (zonC rs zs) zs.length
  else fe (linC zs ls) ls.length
theorem bokC_big {rs : List RuD} {zs : List ZonD} {ls : List LinD} (h : 40 < rs.length ∨ 20 < zs.length ∨ 20 < ls.length) : bokC rs zs ls = 2 := by unfold bokC; rw [if_pos h]
theorem bokC_rus {rs : List RuD} {zs : List ZonD} {ls : List LinD} (h : ¬ (40 < rs.length ∨ 20 < zs.length ∨ 20 < ls.length)) (g : fe (rusC rs) rs.length ≠ 0) : bokC rs zs ls = fe (rusC rs) rs.length := by unfold bokC; rw [if_neg h, if_pos g]
theorem bokC_zos {rs : List RuD} {zs : List ZonD} {ls : List LinD} (h : ¬ (40 < rs.length ∨ 20 < zs.length ∨ 20 < ls.length)) (g : fe (rusC rs) rs.length = 0) (k : fe (zonC rs zs) zs.length ≠ 0) : bokC rs zs ls = fe (zonC rs zs) zs.length := by unfold bokC; rw [if_neg h, if_neg (by simpa using g), if_pos k]
theorem bokC_lis {rs : List RuD} {zs : List ZonD} {ls : List LinD} (h : ¬ (40 < rs.length ∨ 20 < zs.length ∨ 20 < ls.length)) (g : fe (rusC rs) rs.length = 0) (k : fe (zonC rs zs) zs.length = 0) : bokC rs zs ls = fe (linC zs ls) ls.length := by unfold bokC; rw [if_neg h, if_neg (by simpa using g), if_neg (by simpa using k)]
theorem bokC_ok {rs : List RuD} {zs : List ZonD} {ls : List LinD} : bokC rs zs ls = 0 ↔ ¬ (40 < rs.length ∨ 20 < zs.length ∨ 20 < ls.length) ∧ fe (rusC rs) rs.length = 0 ∧ fe (zonC rs zs) zs.length = 0 ∧ fe (linC zs ls) ls.length = 0 := by
  unfold bokC
  split
  · rename_i h; simp [h]
  · rename_i h
    split
    · rename_i g; simp [g]
    · rename_i g
      split
      · rename_i k; simp [k]
      · rename_i k
        have g' : fe (rusC rs) rs.length = 0 := by simpa using g
        have k' : fe (zonC rs zs) zs.length = 0 := by simpa using k
        simp [h, g', k']
/-- the text of a time -/
theorem has_stamp (t : Int) (h : tmB t = true) : ∃ l : List UInt8, ∃ y m d r : Int, Cal.Valid y m d ∧ 0 ≤ r ∧ r < 86400 ∧ 86400 * Cal.days y m d + r = t ∧ l = stampL y m d r := by
  obtain ⟨h1, h2⟩ := tmB_days.1 h
  obtain ⟨y, m, d, hv, hd⟩ := Cal.has_date h1 h2
  exact ⟨_, y, m, d, t % 86400, hv, by omega, by omega, by omega, rfl⟩
noncomputable def stampT (t : Int) : List UInt8 := if h : tmB t = true then (has_stamp t h).choose else []
theorem stampT_of {t : Int} (h : tmB t = true) : ∃ y m d r : Int, Cal.Valid y m d ∧ 0 ≤ r ∧ r < 86400 ∧ 86400 * Cal.days y m d + r = t ∧ stampT t = stampL y m d r := by
  have := (has_stamp t h).choose_spec
  unfold stampT
  rw [dif_pos h]
  exact this
theorem stampT_no {t : Int} (h : tmB t = false) : stampT t = [] := by unfold stampT; rw [dif_neg (by rw [h]; simp)]
/-- the error of Stamp -/
def tmC (t : Int) : Int := if tmB t = true then 0 else 1
end Go.Proofs.YtkmgildnhnjepaaGreatDoor
namespace Go.Proofs.YtkmgildnhnjepaaGreatDoor
set_option linter.unusedVariables false
set_option linter.unusedSimpArgs false
open Go.RowKit
/-- the rules of a name -/
def selR (rs : List RuD) (nm : ByteArray) : List RuD := rs.filter fun r => r.nm.toList == nm.toList
/-- how many years rules have -/
def yrs : List RuD → Int
  | [] => 0
  | r :: l => (r.tt - r.fr + 1) + yrs l
theorem yrs_app : ∀ a b : List RuD, yrs (a ++ b) = yrs a + yrs b
  | [], b => by simp [yrs]
  | r :: a, b => by simp only [List.cons_append, yrs, yrs_app a b]; omega
/-- a transition that is not settled yet: its nominal time and its rule -/
structure PenD where
  no : Int
  r : RuD
instance : Inhabited PenD := ⟨⟨0, default⟩⟩
def PenD.cells (p : PenD) : List Value := p.r.cells ++ [.int .i64 p.no]
def PenD.rcells (p : PenD) : List Value := .int .i64 p.no :: p.r.cells
def nomR (r : RuD) (y : Int) : Int := 86400 * dayT y r.mo r.k r.d r.n + r.at'
/-- those of a rule in its first n years -/
def penN (r : RuD) (n : Nat) : List PenD := (List.range n).map fun (i : Nat) => ⟨nomR r (r.fr + i), r⟩
def penR (r : RuD) : List PenD := penN r (r.tt - r.fr + 1).toNat
def pens (l : List RuD) : List PenD := l.flatMap penR
theorem penN_succ (r : RuD) (n : Nat) : penN r (n + 1) = penN r n ++ [⟨nomR r (r.fr + n), r⟩] := by simp [penN, List.range_succ]
theorem penN_len (r : RuD) (n : Nat) : (penN r n).length = n := by simp [penN]
theorem pens_app (a b : List RuD) : pens (a ++ b) = pens a ++ pens b := by simp [pens]
theorem pens_one (r : RuD) : pens [r] = penR r := by simp [pens]
theorem pens_take {l : List RuD} {k : Nat} {r : RuD} (h : l[k]? = some r) : pens (l.take (k + 1)) = pens (l.take k) ++ penR r := by
  have hk : k < l.length := (List.getElem?_eq_some_iff.1 h).1
  have e : l[k] = r := (List.getElem?_eq_some_iff.1 h).2
  rw [List.take_succ_eq_append_getElem hk, e, pens_app, pens_one]
theorem yrs_take {l : List RuD} {k : Nat} {r : RuD} (h : l[k]? = some r) : yrs (l.take (k + 1)) = yrs (l.take k) + (r.tt - r.fr + 1) := by
  have hk : k < l.length := (List.getElem?_eq_some_iff.1 h).1
  have e : l[k] = r := (List.getElem?_eq_some_iff.1 h).2
  rw [List.take_succ_eq_append_getElem hk, e, yrs_app]; simp [yrs]
/-- a rule that may be -/
def RuD.Ok (r : RuD) : Prop := RuleNum r.fr r.tt r.mo ∧ DayOk r.k r.d r.n ∧ RuleRest r.mo r.n r.at' r.by' r.sv
theorem RuD.ok_of {r : RuD} (h : r.chk = 0) : r.Ok := by
  unfold RuD.chk ruleC at h
  split at h
  · split at h
    · rename_i a
      split at h
      · rename_i b
        split at h
        · rename_i c
          exact ⟨a, b, c⟩
        · omega
      · omega
    · omega
  · omega
theorem rules_ok {rs : List RuD} {zs : List ZonD} {ls : List LinD} (h : bokC rs zs ls = 0) : ∀ r ∈ rs, r.chk = 0 := fun r hr => by
  obtain ⟨i, hi⟩ := List.getElem?_of_mem hr
  have := (fe_zero rs.length).1 (bokC_ok.1 h).2.1 i (List.getElem?_eq_some_iff.1 hi).1
  rwa [rusC_at hi] at this
theorem sel_mem {rs : List RuD} {nm : ByteArray} {r : RuD} (h : r ∈ selR rs nm) : r ∈ rs ∧ r.nm.toList = nm.toList := by
  unfold selR at h
  rw [List.mem_filter] at h
  exact ⟨h.1, by simpa using h.2⟩
theorem sel_len (rs : List RuD) (nm : ByteArray) : (selR rs nm).length ≤ rs.length := List.length_filter_le _ _
theorem sel_take {rs : List RuD} {nm : ByteArray} {k : Nat} {r : RuD} (h : rs[k]? = some r) : selR (rs.take (k + 1)) nm = selR (rs.take k) nm ++ (if (r.nm.toList == nm.toList) = true then [r] else []) := by
  have hk : k < rs.length := (List.getElem?_eq_some_iff.1 h).1
  have e : rs[k] = r := (List.getElem?_eq_some_iff.1 h).2
  unfold selR
  rw [List.take_succ_eq_append_getElem hk, List.filter_append, e, List.filter_cons]
  simp
theorem ml_1999 {y m : Int} (h3 : 1 ≤ m) (h4 : m ≤ 12) : Cal.ml 1999 m ≤ Cal.ml y m := by
  have e : Cal.lp 1999 = 0 := by decide
  have := Cal.lp_bd y
  unfold Cal.ml
  rw [e]
  split <;> omega
theorem dayT_bd {r : RuD} (h : r.Ok) {y : Int} (h1 : r.fr ≤ y) (h2 : y ≤ r.tt) : -30000 ≤ dayT y r.mo r.k r.d r.n ∧ dayT y r.mo r.k r.d r.n ≤ 60000 := by
  obtain ⟨⟨a1, a2, a3, a4, a5⟩, ⟨b1, b2, b3, b4, b5⟩, c1, c2, c3, c4⟩ := h
  have y1 := Cal.ys_mono (a := 1900) (b := y) (by omega)
  have y2 := Cal.ys_mono (a := y) (b := 2100) (by omega)
  have e1 : Cal.ys 1900 = -25567 := by decide
  have e2 : Cal.ys 2100 = 47482 := by decide
  have m1 := Cal.cum_bd y (m := r.mo) a4 (by omega)
  have m2 := Cal.ml_bd y (m := r.mo) a4 a5
  have n1 := nd_bd (Cal.days y r.mo 1 + Cal.ml y r.mo - 7) r.d
  have n2 := nd_bd (Cal.days y r.mo 1 + r.n - 1) r.d
  have n3 := nd_bd (Cal.days y r.mo 1 + r.n - 1 - 6) r.d
  have n4 : 0 ≤ r.n ∧ r.n ≤ 31 := by omega
  have dd : Cal.days y r.mo 1 = Cal.ys y + Cal.cum y r.mo := by unfold Cal.days; omega
  unfold dayT
  split
  · omega
  · split
    · omega
    · split <;> omega
/-- the day of a checked rule, in each of its years -/
theorem dayA_rule {r : RuD} (h : r.Ok) {y : Int} (h1 : r.fr ≤ y) (h2 : y ≤ r.tt) : dayA y r.mo r.k r.d r.n = two (dayT y r.mo r.k r.d r.n) 0 := by
  have b := dayT_bd h h1 h2
  obtain ⟨⟨a1, a2, a3, a4, a5⟩, hd, c1, c2, c3, c4⟩ := h
  rw [dayA_ok hd (by omega) (by omega) a4 a5 (by have := ml_1999 (y := y) a4 a5; omega), if_pos (by omega)]
theorem nomR_bd {r : RuD} (h : r.Ok) {y : Int} (h1 : r.fr ≤ y) (h2 : y ≤ r.tt) : -3000000000 ≤ nomR r y ∧ nomR r y ≤ 6000000000 := by
  have b := dayT_bd h h1 h2
  obtain ⟨_, _, c1, c2, c3, c4⟩ := h
  unfold nomR; omega
/-- what is known of a pending transition -/
def PenD.Ok (p : PenD) : Prop := p.r.Ok ∧ p.r.In ∧ -3000000000 ≤ p.no ∧ p.no ≤ 6000000000
theorem penN_ok {r : RuD} (h : r.Ok) (hi : r.In) {n : Nat} (hn : (n : Int) ≤ r.tt - r.fr + 1) : ∀ p ∈ penN r n, p.Ok := fun p hp => by
  unfold penN at hp
  obtain ⟨i, hi2, rfl⟩ := List.mem_map.1 hp
  have := List.mem_range.1 hi2
  have b := nomR_bd h (y := r.fr + i) (by omega) (by omega)
  exact ⟨h, hi, b.1, b.2⟩
theorem penR_ok {r : RuD} (h : r.Ok) (hi : r.In) : ∀ p ∈ penR r, p.Ok := penN_ok h hi (by have := h.1; unfold RuleNum at this; omega)
theorem pens_ok {l : List RuD} (h : ∀ r ∈ l, r.Ok ∧ r.In) : ∀ p ∈ pens l, p.Ok := fun p hp => by
  unfold pens at hp
  obtain ⟨r, hr, hp⟩ := List.mem_flatMap.1 hp
  exact penR_ok (h r hr).1 (h r hr).2 p hp
theorem pens_len {l : List RuD} (h : ∀ r ∈ l, r.Ok) : ((pens l).length : Int) = yrs l := by
  induction l with
  | nil => rfl
  | cons r l ih =>
    have hr := (h r (by simp)).1
    have := ih (fun q hq => h q (by simp [hq]))
    unfold RuleNum at hr
    have e : pens (r :: l) = penR r ++ pens l := by simp [pens]
    have e2 : (penR r).length = (r.tt - r.fr + 1).toNat := penN_len _ _
    rw [e, List.length_append, yrs]
    omega
theorem yrs_nonneg {l : List RuD} (h : ∀ r ∈ l, r.Ok) : 0 ≤ yrs l := by rw [← pens_len h]; omega
theorem yrs_take_le {l : List RuD} (h : ∀ r ∈ l, r.Ok) (k : Nat) : 0 ≤ yrs (l.take k) ∧ yrs (l.take k) ≤ yrs l := by
  have h1 : ∀ r ∈ l.take k, r.Ok := fun r hr => h r (List.mem_of_mem_take hr)
  have h2 : ∀ r ∈ l.drop k, r.Ok := fun r hr => h r (List.mem_of_mem_drop hr)
  have e : yrs l = yrs (l.take k) + yrs (l.drop k) := by rw [← yrs_app, List.take_append_drop]
  have := yrs_nonneg h1; have := yrs_nonneg h2
  omega

/-- a transition -/
structure TurD where
  at' : Int
  sv : Int
  lt : ByteArray
instance : Inhabited TurD := ⟨⟨0, 0, .empty⟩⟩
def TurD.cells (t : TurD) : List Value := [.int .i64 t.at', .int .i64 t.sv, .string t.lt]
def TurD.In (t : TurD) : Prop := t.lt.size ≤ maxLen ∧ (-4000000000 ≤ t.at' ∧ t.at' ≤ 7000000000) ∧ (0 ≤ t.sv ∧ t.sv ≤ 10800)
theorem tu_len (t : TurD) : t.cells.length = 3 := rfl
theorem tu_one (t : TurD) : ∀ u ∈ t.cells, u.oneCell' = true := fun u hu => by simp [TurD.cells] at hu; rcases hu with rfl | rfl | rfl <;> rfl
/-- when it takes place -/
def momR (off sv : Int) (p : PenD) : Int := if p.r.by' = 1 then p.no - off else if p.r.by' = 2 then p.no else p.no - off - sv
def turP (off sv : Int) (p : PenD) : TurD := ⟨momR off sv p, p.r.sv, p.r.lt⟩
def turL (off : Int) : Int → List PenD → List TurD
  | _, [] => []
  | sv, p :: l => turP off sv p :: turL off p.r.sv l
/-- the saving before the i-th -/
def svAt (l : List PenD) : Nat → Int
  | 0 => 0
  | i + 1 => match l[i]? with
    | some p => p.r.sv
    | none => 0
theorem turL_len (off : Int) : ∀ (l : List PenD) (sv : Int), (turL off sv l).length = l.length
  | [], _ => rfl
  | p :: l, sv => by simp [turL, turL_len off l]
theorem turL_at' (off : Int) : ∀ (l : List PenD) (sv : Int) (i : Nat) (p : PenD), l[i]? = some p → (turL off sv l)[i]? = some (turP off (if i = 0 then sv else svAt l i) p)
  | [], _, i, p, h => by simp at h
  | q :: l, sv, 0, p, h => by
    have e : q = p := by simpa using h
    subst e; simp [turL]
  | q :: l, sv, i + 1, p, h => by
    have h' : l[i]? = some p := by simpa using h
    rw [turL, List.getElem?_cons_succ, turL_at' off l q.r.sv i p h']
    congr 2
    cases i with
    | zero => simp [svAt]
    | succ i => simp [svAt]
theorem turL_at {off : Int} {l : List PenD} {i : Nat} {p : PenD} (h : l[i]? = some p) : (turL off 0 l)[i]? = some (turP off (svAt l i) p) := by
  rw [turL_at' off l 0 i p h]
  cases i <;> simp [svAt]
/-- the times grow -/
def riseB : List TurD → Bool
  | x :: y :: l => decide (x.at' < y.at') && riseB (y :: l)
  | _ => true
def Rise (l : List TurD) : Prop := ∀ i x y, l[i]? = some x → l[i + 1]? = some y → x.at' < y.at'
theorem rise_iff : ∀ l : List TurD, riseB l = true ↔ Rise l
  | [] => by simp [riseB, Rise]
  | [x] => by
    simp only [riseB, true_iff]
    intro i a b _ h
    simp at h
  | x :: y :: l => by
    have ih := rise_iff (y :: l)
    simp only [riseB, Bool.and_eq_true, decide_eq_true_iff, ih]
    constructor
    · rintro ⟨h1, h2⟩ i a b ha hb
      cases i with
      | zero =>
        have e1 : x = a := by simpa using ha
        have e2 : y = b := by simpa using hb
        rw [← e1, ← e2]; exact h1
      | succ i => exact h2 i a b (by simpa using ha) (by simpa using hb)
    · intro h
      exact ⟨h 0 x y rfl rfl, fun i a b ha hb => h (i + 1) a b (by simpa using ha) (by simpa using hb)⟩
theorem rise_snoc {l : List TurD} {x y : TurD} (h : Rise l) (hx : l[l.length - 1]? = some x) (hy : x.at' < y.at') : Rise (l ++ [y]) := fun i a b ha hb => by
  have hi := (List.getElem?_eq_some_iff.1 hb).1
  simp at hi
  by_cases c : i + 1 < l.length
  · rw [List.getElem?_append_left (by omega)] at ha hb
    exact h i a b ha hb
  · have e : i = l.length - 1 := by omega
    subst e
    rw [List.getElem?_append_left (by omega), hx] at ha
    rw [List.getElem?_append_right (by omega), show l.length - 1 + 1 - l.length = 0 by omega] at hb
    injection ha with ha
    have hb' : y = b := by simpa using hb
    rw [← ha, ← hb']; exact hy
theorem rise_one (y : TurD) : Rise [y] := fun i a b _ h => by simp at h
theorem rise_not {l : List TurD} {i : Nat} {x y : TurD} (hx : l[i]? = some x) (hy : l[i + 1]? = some y) (h : y.at' ≤ x.at') : riseB l = false := by
  rw [Bool.eq_false_iff]
  intro e
  have := (rise_iff l).1 e i x y hx hy
  omega

/-- the transitions in their order -/
def sorted (rs : List RuD) (nm : ByteArray) : List PenD := stab PenD.no (pens (selR rs nm))
def ofC (rs : List RuD) (zs : List ZonD) (ls : List LinD) (nm : ByteArray) (off : Int) : Int :=
  if bokC rs zs ls ≠ 0 then bokC rs zs ls
  else if off < -64800 ∨ 64800 < off then 1
  else if selR rs nm = [] then 6
  else if 1500 < yrs (selR rs nm) then 2
  else if riseB (turL off 0 (sorted rs nm)) = false then 5 else 0
def ofL (rs : List RuD) (zs : List ZonD) (ls : List LinD) (nm : ByteArray) (off : Int) : List TurD :=
  if ofC rs zs ls nm off = 0 then turL off 0 (sorted rs nm) else []
theorem ofC_zero {rs : List RuD} {zs : List ZonD} {ls : List LinD} {nm : ByteArray} {off : Int} : ofC rs zs ls nm off = 0 ↔ bokC rs zs ls = 0 ∧ (-64800 ≤ off ∧ off ≤ 64800) ∧ selR rs nm ≠ [] ∧ yrs (selR rs nm) ≤ 1500 ∧ riseB (turL off 0 (sorted rs nm)) = true := by
  unfold ofC
  by_cases a : bokC rs zs ls = 0
  · rw [if_neg (by simpa using a)]
    by_cases b : off < -64800 ∨ 64800 < off
    · rw [if_pos b]; constructor
      · intro h; omega
      · intro h; omega
    · rw [if_neg b]
      by_cases c : selR rs nm = []
      · rw [if_pos c]; constructor
        · intro h; omega
        · intro h; exact absurd c h.2.2.1
      · rw [if_neg c]
        by_cases d : 1500 < yrs (selR rs nm)
        · rw [if_pos d]; constructor
          · intro h; omega
          · intro h; omega
        · rw [if_neg d]
          cases e : riseB (turL off 0 (sorted rs nm)) with
          | false => simp
          | true => simp [a, c]; omega
  · rw [if_pos a]; constructor
    · intro h; exact absurd h a
    · intro h; exact absurd h.1 a
theorem sorted_ok {rs : List RuD} {zs : List ZonD} {ls : List LinD} {nm : ByteArray} (h : bokC rs zs ls = 0) (hi : ∀ r ∈ rs, r.In) : ∀ p ∈ sorted rs nm, p.Ok := fun p hp =>
  pens_ok (fun r hr => ⟨RuD.ok_of (rules_ok h r (sel_mem hr).1), hi r (sel_mem hr).1⟩) p (stab_mem.1 hp)
theorem svAt_succ {l : List PenD} {i : Nat} {p : PenD} (h : l[i]? = some p) : svAt l (i + 1) = p.r.sv := by simp [svAt, h]
theorem svAt_bd {l : List PenD} (h : ∀ p ∈ l, p.Ok) (i : Nat) : 0 ≤ svAt l i ∧ svAt l i ≤ 10800 := by
  cases i with
  | zero => simp [svAt]
  | succ i =>
    cases hp : l[i]? with
    | none => simp [svAt, hp]
    | some p =>
      rw [svAt_succ hp]
      have := (h p (List.mem_of_getElem? hp)).1.2.2
      unfold RuleRest at this; omega
theorem turP_in {off sv : Int} {p : PenD} (h : p.Ok) (h1 : -64800 ≤ off) (h2 : off ≤ 64800) (h3 : 0 ≤ sv) (h4 : sv ≤ 10800) : (turP off sv p).In := by
  obtain ⟨a, b, c, d⟩ := h
  have e := a.2.2
  unfold RuleRest at e
  refine ⟨b.2, ?_, ?_⟩
  · unfold turP momR
    simp only
    split
    · omega
    · split <;> omega
  · unfold turP; simp only; omega
end Go.Proofs.YtkmgildnhnjepaaGreatDoor
