/- The local time of a zone at a time, as data. No function of the program in it. The library's stable sort at pending transitions: what is asked of the program, swapRange and rotate. -/
import Derived.Test.YtkmgildnhnjepaaGreatDoorTM11
import Derived.Test.YtkmgildnhnjepaaGreatDoorTM12
import Derived.Shelf.SlSortCmp.KitK
import Derived.Deep.LoopGhost
import Derived.Test.YtkmgildnhnjepaaGreatDoorProg
import Derived.Test.YtkmgildnhnjepaaGreatDoorTM02
namespace Go.Proofs.YtkmgildnhnjepaaGreatDoor
set_option linter.unusedVariables false
set_option linter.unusedSimpArgs false
open Go.RowKit
/-- the place of the era that applies -/
def eraI (es : List EraD) (t : Int) : Nat := es.dropLast.findIdx fun e => decide (t < e.un)
theorem eraI_le (es : List EraD) (t : Int) : eraI es t ≤ es.length - 1 := by
  have := List.findIdx_le_length (xs := es.dropLast) (p := fun e => decide (t < e.un))
  simpa [eraI] using this
theorem eraI_hit {es : List EraD} {t : Int} {k : Nat} {e : EraD} (hk : k + 1 < es.length) (he : es[k]? = some e) (h : t < e.un) (hb : ∀ j x, j < k → es[j]? = some x → ¬ t < x.un) : eraI es t = k := by
  unfold eraI
  have hl : k < es.dropLast.length := by simp; omega
  have hg : ∀ j (hj : j < es.dropLast.length), es[j]? = some es.dropLast[j] := fun j hj => by
    have hj' : j < es.length := by simp at hj; omega
    rw [List.getElem?_eq_getElem hj', List.getElem_dropLast]
  refine (List.findIdx_eq hl).2 ⟨?_, fun j hj => ?_⟩
  · have := hg k hl
    rw [he] at this
    injection this with this
    rw [← this]; exact decide_eq_true h
  · exact decide_eq_false (hb j _ hj (hg j (by omega)))
theorem eraI_end {es : List EraD} {t : Int} (hb : ∀ j x, j + 1 < es.length → es[j]? = some x → ¬ t < x.un) : eraI es t = es.length - 1 := by
  unfold eraI
  have : es.dropLast.findIdx (fun e => decide (t < e.un)) = es.dropLast.length := List.findIdx_eq_length.2 fun x hx => by
    obtain ⟨j, hj, e⟩ := List.getElem_of_mem hx
    have hj' : j + 1 < es.length := by simp at hj; omega
    refine decide_eq_false (hb j x hj' ?_)
    rw [List.getElem_dropLast] at e
    rw [List.getElem?_eq_getElem (by omega), e]
  rw [this]; simp
/-- the era -/
def eraE (es : List EraD) (t : Int) : EraD := es.getD (eraI es t) default
theorem eraE_at {es : List EraD} {t : Int} {k : Nat} {e : EraD} (h : eraI es t = k) (he : es[k]? = some e) : eraE es t = e := by
  unfold eraE
  rw [h, List.getD_eq_getElem?_getD, he]; rfl
theorem eraE_get {es : List EraD} {t : Int} (h : 1 ≤ es.length) : es[eraI es t]? = some (eraE es t) := by
  obtain ⟨e, he⟩ := get_lt (show eraI es t < es.length by have := eraI_le es t; omega)
  rw [eraE_at rfl he]; exact he

/-- how many transitions are not later -/
def lateI (L : List TurD) (t : Int) : Nat := L.countP fun x => decide (x.at' ≤ t)
theorem lateI_le (L : List TurD) (t : Int) : lateI L t ≤ L.length := List.countP_le_length
theorem rise_lt {L : List TurD} (h : Rise L) : ∀ (j i : Nat) (x y : TurD), i < j → L[i]? = some x → L[j]? = some y → x.at' < y.at'
  | 0, i, x, y, hij, hx, hy => by omega
  | j + 1, i, x, y, hij, hx, hy => by
    by_cases c : i = j
    · subst c; exact h i x y hx hy
    · obtain ⟨z, hz⟩ := get_lt (show j < L.length by have := (List.getElem?_eq_some_iff.1 hy).1; omega)
      have h1 := rise_lt h j i x z (by omega) hx hz
      have h2 := h j z y hz hy
      omega
theorem late_spec {t : Int} : ∀ {L : List TurD}, Rise L → ∀ (i : Nat) (x : TurD), L[i]? = some x → (x.at' ≤ t ↔ i < lateI L t)
  | [], _, i, x, hx => by simp at hx
  | y :: L, h, i, x, hx => by
    have hL : Rise L := fun i a b ha hb => h (i + 1) a b (by simpa using ha) (by simpa using hb)
    by_cases c : y.at' ≤ t
    · have e : lateI (y :: L) t = lateI L t + 1 := by unfold lateI; exact List.countP_cons_of_pos (p := fun x : TurD => decide (x.at' ≤ t)) (decide_eq_true c)
      rw [e]
      cases i with
      | zero =>
        have : y = x := by simpa using hx
        rw [← this]
        exact ⟨fun _ => by omega, fun _ => c⟩
      | succ i =>
        have := late_spec (t := t) hL i x (by simpa using hx)
        rw [this]; omega
    · have e : lateI (y :: L) t = 0 := by
        unfold lateI
        rw [List.countP_eq_zero]
        intro a ha
        obtain ⟨j, hj⟩ := List.getElem?_of_mem ha
        have : y.at' ≤ a.at' := by
          cases j with
          | zero =>
            have : y = a := by simpa using hj
            rw [this]; exact Int.le_refl _
          | succ j => exact Int.le_of_lt (rise_lt h (j + 1) 0 y a (by omega) rfl hj)
        simp only [decide_eq_true_eq]; omega
      rw [e]
      have : y.at' ≤ x.at' := by
        cases i with
        | zero =>
          have : y = x := by simpa using hx
          rw [this]; exact Int.le_refl _
        | succ j => exact Int.le_of_lt (rise_lt h (j + 1) 0 y x (by omega) rfl hx)
      omega
/-- what the last of the first m says, or d -/
def lastP (d : Int × ByteArray) (L : List TurD) (m : Nat) : Int × ByteArray := if m = 0 then d else match L[m - 1]? with
  | some x => (x.sv, x.lt)
  | none => d
theorem lastP_at {d : Int × ByteArray} {L : List TurD} {m : Nat} {x : TurD} (h : m ≠ 0) (hx : L[m - 1]? = some x) : lastP d L m = (x.sv, x.lt) := by unfold lastP; rw [if_neg h, hx]
theorem lastP_zero (d : Int × ByteArray) (L : List TurD) : lastP d L 0 = d := by unfold lastP; rw [if_pos rfl]
/-- the last up tto a place, going on by one -/
theorem lastP_yes {d : Int × ByteArray} {L : List TurD} {t : Int} {k : Nat} {x : TurD} (h : Rise L) (hx : L[k]? = some x) (c : x.at' ≤ t) : lastP d L (min (k + 1) (lateI L t)) = (x.sv, x.lt) := by
  have := (late_spec h k x hx).1 c
  rw [show min (k + 1) (lateI L t) = k + 1 by omega]
  exact lastP_at (by omega) hx
theorem lastP_no {d : Int × ByteArray} {L : List TurD} {t : Int} {k : Nat} {x : TurD} (h : Rise L) (hx : L[k]? = some x) (c : ¬ x.at' ≤ t) : lastP d L (min (k + 1) (lateI L t)) = lastP d L (min k (lateI L t)) := by
  have hk : ¬ k < lateI L t := fun q => c ((late_spec h k x hx).2 q)
  rw [show min (k + 1) (lateI L t) = min k (lateI L t) by omega]
/-- the letter before the first transition -/
def fstL (L : List TurD) : ByteArray := match L.find? fun x => x.sv == 0 with
  | some x => x.lt
  | none => dash
theorem fstL_hit {L : List TurD} {k : Nat} {x : TurD} (hx : L[k]? = some x) (h : x.sv = 0) (hb : ∀ j y, j < k → L[j]? = some y → y.sv ≠ 0) : fstL L = x.lt := by
  unfold fstL
  have : L.find? (fun x => x.sv == 0) = some x := by
    rw [List.find?_eq_some_iff_getElem]
    obtain ⟨hk1, hk2⟩ := List.getElem?_eq_some_iff.1 hx
    refine ⟨by simp [h], k, hk1, hk2, fun j hj => ?_⟩
    have hj' : j < L.length := by omega
    have := hb j L[j] hj (List.getElem?_eq_getElem hj')
    simpa using this
  rw [this]
theorem fstL_end {L : List TurD} (hb : ∀ (j : Nat) (y : TurD), L[j]? = some y → y.sv ≠ 0) : fstL L = dash := by
  unfold fstL
  have : L.find? (fun x => x.sv == 0) = none := by
    rw [List.find?_eq_none]
    intro x hx
    obtain ⟨j, hj⟩ := List.getElem?_of_mem hx
    simpa using hb j x hj
  rw [this]
theorem fstL_cons {L : List TurD} {k : Nat} {x : TurD} (hx : L[k]? = some x) : fstL (L.drop k) = if x.sv = 0 then x.lt else fstL (L.drop (k + 1)) := by
  have hk := List.getElem?_eq_some_iff.1 hx
  rw [List.drop_eq_getElem_cons hk.1, hk.2]
  unfold fstL
  rw [List.find?_cons]
  by_cases c : x.sv = 0
  · rw [show (x.sv == 0) = true by simp [c], if_pos c]
  · rw [show (x.sv == 0) = false by simp [c], if_neg c]
theorem fstL_from {L : List TurD} : fstL L = dash ∨ ∃ x ∈ L, x.sv = 0 ∧ fstL L = x.lt := by
  unfold fstL
  cases h : L.find? (fun x => x.sv == 0) with
  | none => exact Or.inl rfl
  | some x =>
    refine Or.inr ⟨x, List.mem_of_find?_eq_some h, ?_, rfl⟩
    have := List.find?_some h
    simpa using this
/-- the saving and the letter that apply -/
def savP (e : EraD) (L : List TurD) (t : Int) : Int × ByteArray := if e.ru.toList = [] then (e.sv, dash) else lastP (0, fstL L) L (lateI L t)

structure TypD where
  off : Int
  sv : Bool
  nm : ByteArray
def typP (e : EraD) (p : Int × ByteArray) : TypD := ⟨e.off + p.1, decide (0 < p.1), S (abbrR e.fm.toList p.1 p.2.toList).1⟩
/-- the type that an era with its transitions has at a time -/
def typE (e : EraD) (L : List TurD) (t : Int) : TypD := typP e (savP e L t)
/-- the error of an era's transitions -/
def eraK (rs : List RuD) (zs : List ZonD) (ls : List LinD) (e : EraD) : Int := if e.ru.toList = [] then 0 else ofC rs zs ls e.ru e.off
def eraT (rs : List RuD) (zs : List ZonD) (ls : List LinD) (e : EraD) : List TurD := if e.ru.toList = [] then [] else ofL rs zs ls e.ru e.off
/-- the eras of a name -/
def erasN (zs : List ZonD) (ls : List LinD) (nm : ByteArray) : List EraD := match zs[endN zs ls nm.toList]? with
  | some z => z.eras
  | none => []
def eraN (zs : List ZonD) (ls : List LinD) (nm : ByteArray) (t : Int) : EraD := eraE (erasN zs ls nm) t
/-- the error of At -/
def atC (rs : List RuD) (zs : List ZonD) (ls : List LinD) (nm : ByteArray) (t : Int) : Int :=
  if resC rs zs ls nm ≠ 0 then resC rs zs ls nm else if tmB t = false then 1 else eraK rs zs ls (eraN zs ls nm t)
def noTyp : TypD := ⟨0, false, .empty⟩
/-- the type that At answers -/
def atT (rs : List RuD) (zs : List ZonD) (ls : List LinD) (nm : ByteArray) (t : Int) : TypD :=
  if atC rs zs ls nm t = 0 then typE (eraN zs ls nm t) (eraT rs zs ls (eraN zs ls nm t)) t else noTyp
/-- what At leaves -/
def AtE (rs : List RuD) (zs : List ZonD) (ls : List LinD) (nm : ByteArray) (t : Int) (w : World) (e : Ending) (w' : World) : Prop :=
  e = .returned (.tuple #[.agg #[.int .i64 (atT rs zs ls nm t).off, .bool (atT rs zs ls nm t).sv, .string (atT rs zs ls nm t).nm], .int .i64 (atC rs zs ls nm t)]) ∧ Gr w w'
theorem atC_res {rs : List RuD} {zs : List ZonD} {ls : List LinD} {nm : ByteArray} {t : Int} (h : resC rs zs ls nm ≠ 0) : atC rs zs ls nm t = resC rs zs ls nm := by unfold atC; rw [if_pos h]
theorem atC_time {rs : List RuD} {zs : List ZonD} {ls : List LinD} {nm : ByteArray} {t : Int} (h : resC rs zs ls nm = 0) (k : tmB t = false) : atC rs zs ls nm t = 1 := by unfold atC; rw [if_neg (by simp [h]), if_pos k]
theorem atC_era {rs : List RuD} {zs : List ZonD} {ls : List LinD} {nm : ByteArray} {t : Int} (h : resC rs zs ls nm = 0) (k : tmB t = true) : atC rs zs ls nm t = eraK rs zs ls (eraN zs ls nm t) := by unfold atC; rw [if_neg (by simp [h]), if_neg (by simp [k])]
theorem atC_zero {rs : List RuD} {zs : List ZonD} {ls : List LinD} {nm : ByteArray} {t : Int} : atC rs zs ls nm t = 0 ↔ resC rs zs ls nm = 0 ∧ tmB t = true ∧ eraK rs zs ls (eraN zs ls nm t) = 0 := by
  unfold atC
  by_cases a : resC rs zs ls nm = 0
  · rw [if_neg (by simp [a])]
    by_cases b : tmB t = false
    · rw [if_pos b, b]; simp
    · rw [if_neg b]
      have : tmB t = true := by simpa using b
      simp [a, this]
  · rw [if_pos a]
    simp [a]
theorem atT_no {rs : List RuD} {zs : List ZonD} {ls : List LinD} {nm : ByteArray} {t : Int} (h : atC rs zs ls nm t ≠ 0) : atT rs zs ls nm t = noTyp := by unfold atT; rw [if_neg h]
theorem atT_yes {rs : List RuD} {zs : List ZonD} {ls : List LinD} {nm : ByteArray} {t : Int} (h : atC rs zs ls nm t = 0) : atT rs zs ls nm t = typE (eraN zs ls nm t) (eraT rs zs ls (eraN zs ls nm t)) t := by unfold atT; rw [if_pos h]
theorem atE_no {rs : List RuD} {zs : List ZonD} {ls : List LinD} {nm : ByteArray} {t : Int} {w w' : World} {c : Int} (h : atC rs zs ls nm t = c) (hc : c ≠ 0) (g : Gr w w') : AtE rs zs ls nm t w (.returned (.tuple #[.agg #[.int .i64 0, .bool false, .string .empty], .int .i64 c])) w' := by
  refine ⟨?_, g⟩
  rw [atT_no (by rw [h]; exact hc), h]; rfl
theorem atE_yes {rs : List RuD} {zs : List ZonD} {ls : List LinD} {nm : ByteArray} {t : Int} {w w' : World} {e : EraD} {L : List TurD} (h : atC rs zs ls nm t = 0) (he : eraN zs ls nm t = e) (hL : eraT rs zs ls e = L) (g : Gr w w') :
    AtE rs zs ls nm t w (.returned (.tuple #[.agg #[.int .i64 (e.off + (savP e L t).1), .bool (decide (0 < (savP e L t).1)), .string (S (abbrR e.fm.toList (savP e L t).1 (savP e L t).2.toList).1)], .int .i64 0])) w' := by
  refine ⟨?_, g⟩
  rw [atT_yes h, he, hL, h]; rfl

theorem good_eras {rs : List RuD} {zs : List ZonD} {ls : List LinD} (h : bokC rs zs ls = 0) {i : Nat} {z : ZonD} (hz : zs[i]? = some z) :
    isNameB z.nm.toList = true ∧ 1 ≤ z.eras.length ∧ z.eras.length ≤ 700 ∧ ∀ k e, z.eras[k]? = some e → eraA rs e = 0 ∧ untC z.eras k = 0 := by
  have h0 := (fe_zero _).1 (bokC_ok.1 h).2.2.1 i (List.getElem?_eq_some_iff.1 hz).1
  rw [zonC_at hz] at h0
  split at h0
  · cases h0
  rename_i q0
  split at h0
  · cases h0
  split at h0
  · cases h0
  rename_i q1
  split at h0
  · cases h0
  rename_i q2
  refine ⟨by simpa using q0, by omega, by omega, fun k e he => ?_⟩
  have h1 := (fe_zero _).1 h0 k (List.getElem?_eq_some_iff.1 he).1
  rw [eraC_at he] at h1
  split at h1
  · rename_i q3; exact ⟨q3, h1⟩
  · rename_i q3; exact absurd h1 q3
theorem erasN_at {zs : List ZonD} {ls : List LinD} {nm : ByteArray} {z : ZonD} (h : zs[endN zs ls nm.toList]? = some z) : erasN zs ls nm = z.eras := by unfold erasN; rw [h]
theorem res_zone_at {rs : List RuD} {zs : List ZonD} {ls : List LinD} {nm : ByteArray} (h : resC rs zs ls nm = 0) : ∃ z, zs[endN zs ls nm.toList]? = some z ∧ erasN zs ls nm = z.eras := by
  obtain ⟨z, hz⟩ := get_lt (resC_zero.1 h).2.2
  exact ⟨z, hz, erasN_at hz⟩
/-- the eras that a name leads tto -/
theorem good_erasN {rs : List RuD} {zs : List ZonD} {ls : List LinD} {nm : ByteArray} (h : resC rs zs ls nm = 0) :
    1 ≤ (erasN zs ls nm).length ∧ (erasN zs ls nm).length ≤ 700 ∧ ∀ k e, (erasN zs ls nm)[k]? = some e → eraA rs e = 0 ∧ untC (erasN zs ls nm) k = 0 := by
  obtain ⟨z, hz, e⟩ := res_zone_at h
  rw [e]
  exact (good_eras (resC_zero.1 h).1 hz).2
theorem eraA_num {rs : List RuD} {e : EraD} (h : eraA rs e = 0) : (-64800 ≤ e.off ∧ e.off ≤ 64800) ∧ 0 ≤ e.sv ∧ e.sv ≤ 10800 := by
  unfold eraA at h
  split at h
  · cases h
  rename_i h1
  have hs : svB e.sv = true := by
    cases q : svB e.sv with
    | true => rfl
    | false => exact absurd (Or.inr (Or.inr q)) h1
  have := svB_yes.1 hs
  omega
theorem good_eraN {rs : List RuD} {zs : List ZonD} {ls : List LinD} {nm : ByteArray} (t : Int) (h : resC rs zs ls nm = 0) : eraA rs (eraN zs ls nm t) = 0 := by
  obtain ⟨a, b, c⟩ := good_erasN h
  exact (c _ _ (eraE_get a)).1
theorem eraA_fix {rs : List RuD} {e : EraD} (h : eraA rs e = 0) (hn : e.ru.toList = []) : abbrC e.fm e.sv dash = 0 := by
  unfold eraA at h
  split at h
  · cases h
  · first | exact h | (rw [if_pos hn] at h; exact h)
theorem eraA_ru {rs : List RuD} {e : EraD} (h : eraA rs e = 0) (hn : e.ru.toList ≠ []) : e.sv = 0 ∧ hasR rs e.ru = true ∧ abbrC e.fm 0 dash = 0 ∧ ∀ r ∈ rs, r.nm.toList = e.ru.toList → abbrC e.fm r.sv r.lt = 0 := by
  unfold eraA at h
  split at h
  · cases h
  · first | rw [if_neg hn] at h | skip
    split at h
    · cases h
    · rename_i q
      unfold rulC at h
      split at h
      · cases h
      · rename_i q2
        split at h
        · rename_i q3
          refine ⟨by simpa using q, by simpa using q2, h, fun r hr er => ?_⟩
          obtain ⟨i, hi⟩ := List.getElem?_of_mem hr
          have := (fe_zero _).1 q3 i (List.getElem?_eq_some_iff.1 hi).1
          rw [ruA_at hi, if_pos (by simp [er])] at this
          exact this
        · rename_i q3; exact absurd h q3
theorem pens_of {l : List RuD} {p : PenD} (h : p ∈ pens l) : p.r ∈ l := by
  unfold pens penR penN at h
  obtain ⟨r, hr, hp⟩ := List.mem_flatMap.1 h
  obtain ⟨i, _, rfl⟩ := List.mem_map.1 hp
  exact hr
/-- each transition comes of a rule -/
theorem ofL_rule {rs : List RuD} {zs : List ZonD} {ls : List LinD} {nm : ByteArray} {off : Int} {x : TurD} (h : x ∈ ofL rs zs ls nm off) : ∃ r ∈ rs, r.nm.toList = nm.toList ∧ r.sv = x.sv ∧ r.lt = x.lt := by
  unfold ofL at h
  split at h
  · obtain ⟨i, hi⟩ := List.getElem?_of_mem h
    have hl := (List.getElem?_eq_some_iff.1 hi).1
    rw [turL_len] at hl
    obtain ⟨p, hp⟩ := get_lt hl
    have e := turL_at (off := off) hp
    rw [hi] at e
    injection e with e
    have m := sel_mem (pens_of (stab_mem.1 (get_mem hp)))
    exact ⟨p.r, m.1, m.2, by rw [e]; rfl, by rw [e]; rfl⟩
  · cases h
theorem ofL_rise {rs : List RuD} {zs : List ZonD} {ls : List LinD} {nm : ByteArray} {off : Int} : Rise (ofL rs zs ls nm off) := by
  unfold ofL
  split
  · rename_i h; exact (rise_iff _).1 (ofC_zero.1 h).2.2.2.2
  · intro i x y hx _; simp at hx
theorem eraT_rise {rs : List RuD} {zs : List ZonD} {ls : List LinD} {e : EraD} : Rise (eraT rs zs ls e) := by
  unfold eraT
  split
  · intro i x y hx _; simp at hx
  · exact ofL_rise
theorem lastP_from {d : Int × ByteArray} {L : List TurD} {m : Nat} : lastP d L m = d ∨ ∃ x ∈ L, lastP d L m = (x.sv, x.lt) := by
  unfold lastP
  split
  · exact Or.inl rfl
  · split
    · rename_i x hx; exact Or.inr ⟨x, get_mem hx, rfl⟩
    · exact Or.inl rfl
/-- where the saving and the letter come from -/
theorem savP_from (rs : List RuD) (zs : List ZonD) (ls : List LinD) (e : EraD) (t : Int) (hn : e.ru.toList ≠ []) :
    savP e (eraT rs zs ls e) t = (0, dash) ∨ ∃ r ∈ rs, r.nm.toList = e.ru.toList ∧ savP e (eraT rs zs ls e) t = (r.sv, r.lt) := by
  unfold savP
  rw [if_neg hn]
  have e0 : eraT rs zs ls e = ofL rs zs ls e.ru e.off := by unfold eraT; rw [if_neg hn]
  rw [e0]
  rcases lastP_from (d := (0, fstL (ofL rs zs ls e.ru e.off))) (L := ofL rs zs ls e.ru e.off) (m := lateI (ofL rs zs ls e.ru e.off) t) with h | ⟨x, hx, h⟩
  · rw [h]
    rcases fstL_from (L := ofL rs zs ls e.ru e.off) with g | ⟨x, hx, hs, g⟩
    · rw [g]; exact Or.inl rfl
    · obtain ⟨r, hr, h1, h2, h3⟩ := ofL_rule hx
      exact Or.inr ⟨r, hr, h1, by rw [g, h2, h3, hs]⟩
  · obtain ⟨r, hr, h1, h2, h3⟩ := ofL_rule hx
    exact Or.inr ⟨r, hr, h1, by rw [h, h2, h3]⟩
theorem savP_fix {e : EraD} {L : List TurD} {t : Int} (hn : e.ru.toList = []) : savP e L t = (e.sv, dash) := by unfold savP; rw [if_pos hn]
/-- the abbreviation exists -/
theorem savP_ok {rs : List RuD} (zs : List ZonD) (ls : List LinD) {e : EraD} (t : Int) (h : eraA rs e = 0) : abbrC e.fm (savP e (eraT rs zs ls e) t).1 (savP e (eraT rs zs ls e) t).2 = 0 := by
  by_cases hn : e.ru.toList = []
  · rw [savP_fix hn]; exact eraA_fix h hn
  · obtain ⟨_, _, h1, h2⟩ := eraA_ru h hn
    rcases savP_from rs zs ls e t hn with g | ⟨r, hr, er, g⟩
    · rw [g]; exact h1
    · rw [g]; exact h2 r hr er
theorem abbrOf_zero {o : Option (List UInt8)} {sv : Int} (h : (abbrOf o sv).2 = 0) : (1 ≤ (abbrOf o sv).1.length ∧ (abbrOf o sv).1.length ≤ 8) ∧ 0 ≤ sv ∧ sv ≤ 10800 := by
  cases o with
  | none => cases h
  | some l =>
    simp only [abbrOf] at h ⊢
    split at h
    · cases h
    · rename_i q
      split at h
      · cases h
      · rename_i q2
        split at h
        · cases h
        · rename_i q3
          rw [if_neg q, if_neg q2, if_neg q3]
          have := List.length_pos_iff.2 q3
          exact ⟨⟨by show 1 ≤ l.length; omega, by show l.length ≤ 8; omega⟩, by omega, by omega⟩
theorem abbrC_zero {f : ByteArray} {sv : Int} {lt : ByteArray} (h : abbrC f sv lt = 0) : (1 ≤ (abbrR f.toList sv lt.toList).1.length ∧ (abbrR f.toList sv lt.toList).1.length ≤ 8) ∧ 0 ≤ sv ∧ sv ≤ 10800 := abbrOf_zero h
end Go.Proofs.YtkmgildnhnjepaaGreatDoor
namespace Go.Proofs.YtkmgildnhnjepaaGreatDoor
set_option linter.unusedVariables false
set_option linter.unusedSimpArgs false
open Go.Shelf Go.RowKit Go.Lib Go.Sort
/-- what the sort's functions lean on -/
structure SrtP (P : Program) (k : Nat) : Prop where
  mixed : P.follows .mixedOrders = true
  f1 : P.funcs[167]? = some Tryz.f167
  f2 : P.funcs[160]? = some Tryz.f160
  f3 : P.funcs[146]? = some Tryz.f146
  f4 : P.funcs[132]? = some Tryz.f132
  f5 : P.funcs[145]? = some Tryz.f145
  t3 : P.underlying 3 = some (TypeDesc.int IntKind.i64)
  a3 : ∀ w, (isAgg 3).run P w = .ok false w
  z3 : ∀ w, (Go.sizeOf 3).run P w = .ok 1 w
  v3 : ∀ w, (zeroValue 3).run P w = .ok (Value.int IntKind.i64 0) w
  t4 : P.underlying 4 = some (TypeDesc.bool)
  a4 : ∀ w, (isAgg 4).run P w = .ok false w
  z4 : ∀ w, (Go.sizeOf 4).run P w = .ok 1 w
  v4 : ∀ w, (zeroValue 4).run P w = .ok (Value.bool false) w
  tU : P.underlying 126 = some (TypeDesc.int IntKind.u64)
  aU : ∀ w, (isAgg 126).run P w = .ok false w
  zU : ∀ w, (Go.sizeOf 126).run P w = .ok 1 w
  vU : ∀ w, (zeroValue 126).run P w = .ok (Value.int IntKind.u64 0) w
  tS : P.underlying 142 = some (TypeDesc.slice 163)
  aS : ∀ w, (isAgg 142).run P w = .ok false w
  zS : ∀ w, (Go.sizeOf 142).run P w = .ok 1 w
  vS : ∀ w, (zeroValue 142).run P w = .ok (Value.slice none 0 0) w
  tF : P.underlying 165 = some (TypeDesc.func #[163, 163] #[3] false)
  aF : ∀ w, (isAgg 165).run P w = .ok false w
  zF : ∀ w, (Go.sizeOf 165).run P w = .ok 1 w
  vF : ∀ w, (zeroValue 165).run P w = .ok (Value.nilFunc) w
  aE : ∀ w, (isAgg 163).run P w = .ok true w
  zE : ∀ w, (Go.sizeOf 163).run P w = .ok k w

set_option maxRecDepth 100000 in
theorem srtP : SrtP Tryz.prog 12 := {
  mixed := by kernel_rfl
  f1 := Tryz.func167
  f2 := Tryz.func160
  f3 := Tryz.func146
  f4 := Tryz.func132
  f5 := Tryz.func145
  t3 := Tryz.underlying3
  a3 := Tryz.isAgg3
  z3 := Tryz.sizeOf3
  v3 := fun w => by kernel_rfl
  t4 := Tryz.underlying4
  a4 := Tryz.isAgg4
  z4 := Tryz.sizeOf4
  v4 := fun w => by kernel_rfl
  tU := Tryz.underlying126
  aU := Tryz.isAgg126
  zU := Tryz.sizeOf126
  vU := fun w => by kernel_rfl
  tS := Tryz.underlying142
  aS := Tryz.isAgg142
  zS := Tryz.sizeOf142
  vS := fun w => by kernel_rfl
  tF := Tryz.underlying165
  aF := Tryz.isAgg165
  zF := Tryz.sizeOf165
  vF := fun w => by kernel_rfl
  aE := Tryz.isAgg163
  zE := Tryz.sizeOf163 }

set_option maxHeartbeats 4000000 in
set_option maxRecDepth 1000000 in
theorem swapRange_any {α : Type} [Inhabited α] {P : Program} {k : Nat} (L : SrtP P k) (enc : α → List Value) (g : Nat) (cb : Array Value) (blk off cap a b n : Nat) (d0 d : Array α) (w0 w : World)
    (R : RowK enc k w0 blk off d0) (hs : d0.size = d.size) (S : SWK enc k w0 blk off d w) (hab : a + n ≤ b) (hb : b + n ≤ d.size) (hsz : d.size ≤ 100000) :
    Calls P 167 #[.slice (some ⟨blk, off, none⟩) d.size cap, .int .i64 a, .int .i64 b, .int .i64 n, .func (.func g) #[] cb] w fun e w' => e = .returned (.tuple #[]) ∧ ∃ d', SWK enc k w0 blk off d' w' ∧ Idx (swI a b n) d d' ∧ PermIn a (b + n) d d' := by
  have mixed := L.mixed; have t3 := L.t3; have a3 := L.a3; have z3 := L.z3; have v3 := L.v3; have t4 := L.t4; have a4 := L.a4; have z4 := L.z4; have v4 := L.v4; have tS := L.tS; have aS := L.aS; have zS := L.zS; have vS := L.vS; have tF := L.tF; have aF := L.aF; have zF := L.zF; have vF := L.vF; have aE := L.aE; have zE := L.zE
  have S0 : Aside (SWK enc k w0 blk off d w) := S
  clear S
  go_enter L.f1, Tryz.ntmps167
  go_wp2
  go_loopg [10] n (fun kx s10 wr => ∃ (i : Nat) (dk : Array α), s10 = .int .i64 i ∧ i ≤ n ∧ n - i ≤ kx ∧ dk.size = d.size ∧ Aside (SWK enc k w0 blk off dk wr) ∧ Aside (Idx (swI a b i) d dk) ∧ Aside (PermIn a (b + n) d dk))
  case atStart => exact ⟨0, d, rfl, Nat.zero_le _, Nat.le_refl _, rfl, S0, Idx.id_ d (fun t => swI_zero), permIn_refl d _ _⟩
  case round =>
    clear S0
    obtain ⟨i, dk, rfl, hi, hkx, hds, S1, I1, P1⟩ := hrel
    by_cases hlt : i < n
    · go_wp2_with fail
      have S2 : Aside (SWK enc k w0 blk off (swp dk (a + i) (b + i)) ((wr.drew.setCells blk (off + (a + i) * k) (enc dk[b + i]!)).setCells blk (off + (b + i) * k) (enc dk[a + i]!))) := S1.out.swapped R (a + i) (b + i) (by omega) (by omega)
      have l44a := S1.out.ld1 R (by omega) P (a + i) (by omega)
      have l44b := S1.out.ld1 R (by omega) P (b + i) (by omega)
      have s44a := S1.out.st1 R (by omega) P (a + i) (by omega) dk[b + i]!
      have s44b := S1.out.st2 R (by omega) P (a + i) (b + i) (by omega) (by omega) dk[b + i]! dk[a + i]!
      have n44a : (enc dk[a + i]!).length = k := R.hk _
      have n44b : (enc dk[b + i]!).length = k := R.hk _
      generalize enc dk[a + i]! = cI44 at S2 l44a s44b n44a
      generalize enc dk[b + i]! = cJ44 at S2 l44b s44a s44b n44b
      clear S1
      go_wp2_with fail
      go_big_region_o
      clear l44a l44b s44a s44b
      generalize (wr.drew.setCells blk (off + (a + i) * k) cJ44).setCells blk (off + (b + i) * k) cI44 = w2 at S2 ⊢
      go_wp2
      go_roundg (n - (i + 1))
      case measure => omega
      case rel => exact ⟨i + 1, swp dk (a + i) (b + i), by go_num, by omega, Nat.le_refl _, by rw [size_swp]; exact hds, S2, I1.out.comp (Idx.swp (by omega) (by omega)) (fun t => swI_step (by omega)), permIn_trans _ _ _ _ _ P1.out (swp_permIn dk a (b + n) (a + i) (b + i) (by omega) (by omega) (by omega) (by omega) (by omega))⟩
    · have e : i = n := by omega
      subst e
      go_wp2
      go_end0
      exact ⟨rfl, dk, S1.out, I1.out, P1.out⟩
end Go.Proofs.YtkmgildnhnjepaaGreatDoor
