/- What a zone's own name and a link's names lead tto. No function of the program in it. The local time of a zone at a time, as data. No function of the program in it. -/
import Derived.Test.YtkmgildnhnjepaaGreatDoorRM10
import Derived.Test.YtkmgildnhnjepaaGreatDoorRM09
namespace Go.Proofs.YtkmgildnhnjepaaGreatDoor
set_option linter.unusedVariables false
set_option linter.unusedSimpArgs false
open Go.RowKit
section
variable {rs : List RuD} {zs : List ZonD} {ls : List LinD}
/-- who is at no zone after as many links as there are comes tto none -/
theorem over (g : GoodB zs ls) {p : Nat} (hp : p < zs.length + ls.length) (h : ¬ ends zs ls ls.length p < zs.length) (n : Nat) : zs.length ≤ ends zs ls n p := by
  have hS : ∀ i, i < ls.length + 1 → zs.length ≤ ends zs ls i p := fun i hi => by
    rcases Nat.lt_or_ge (ends zs ls i p) zs.length with c | c
    · exact absurd (by rw [path_end c (show i ≤ ls.length by omega)]; exact c) h
    · exact c
  by_cases d : ∃ i k, i < k ∧ k < ls.length + 1 ∧ ends zs ls i p = ends zs ls k p
  · obtain ⟨i, k, hik, hk, e⟩ := d
    exact path_loop (j := k) (fun m hm => hS m (by omega)) ⟨i, hik, e⟩ n
  · have := path_few g hp (j := ls.length + 1) hS (fun i k hik hk e => d ⟨i, k, hik, hk, e⟩)
    omega
theorem end_zone (g : GoodB zs ls) {i : Nat} {z : ZonD} (hz : zs[i]? = some z) : endN zs ls z.nm.toList = i := by
  unfold endN
  rw [idx_zone g hz, ends_zone (List.getElem?_eq_some_iff.1 hz).1]
theorem end_link (g : GoodB zs ls) {i : Nat} {x : LinD} (hx : ls[i]? = some x) : (endN zs ls x.nm.toList < zs.length → endN zs ls x.to'.toList = endN zs ls x.nm.toList) ∧ (¬ endN zs ls x.nm.toList < zs.length → ¬ endN zs ls x.to'.toList < zs.length) := by
  have e2 : endN zs ls x.to'.toList = ends zs ls (ls.length + 1) (zs.length + i) := by
    unfold endN
    rw [← nx_link hx]
    rfl
  have hi := (List.getElem?_eq_some_iff.1 hx).1
  have e1 : endN zs ls x.nm.toList = ends zs ls ls.length (zs.length + i) := by unfold endN; rw [idx_link g hx]
  rw [e1, e2]
  constructor
  · intro h; exact path_end h (Nat.le_succ _)
  · intro h
    have := over g (show zs.length + i < zs.length + ls.length by omega) h (ls.length + 1)
    omega
theorem res_zone (h0 : bokC rs zs ls = 0) {i : Nat} {z : ZonD} (hz : zs[i]? = some z) : resC rs zs ls z.nm = 0 :=
  resC_ok h0 (mem_zone hz) (by rw [end_zone (good_of h0) hz]; exact (List.getElem?_eq_some_iff.1 hz).1)
theorem res_link (h0 : bokC rs zs ls = 0) {i : Nat} {x : LinD} (hx : ls[i]? = some x) :
    resC rs zs ls x.to' = resC rs zs ls x.nm ∧ (resC rs zs ls x.nm = 0 → endN zs ls x.to'.toList = endN zs ls x.nm.toList) ∧ (resC rs zs ls x.nm = 0 ∨ resC rs zs ls x.nm = 8) := by
  have g := good_of h0
  have m1 := mem_link (zs := zs) hx
  have m2 := g.to_ x (get_mem hx)
  obtain ⟨a, b⟩ := end_link g hx
  by_cases c : endN zs ls x.nm.toList < zs.length
  · have r1 := resC_ok h0 m1 c
    have r2 := resC_ok h0 m2 (by rw [a c]; exact c)
    exact ⟨r2.trans r1.symm, fun _ => a c, Or.inl r1⟩
  · have r1 := resC_loop h0 m1 c
    have r2 := resC_loop h0 m2 (b c)
    exact ⟨r2.trans r1.symm, fun q => absurd (r1.symm.trans q) (by decide), Or.inr r1⟩
end
end Go.Proofs.YtkmgildnhnjepaaGreatDoor
namespace Go.Proofs.YtkmgildnhnjepaaGreatDoor
set_option linter.unusedVariables false
set_option linter.unusedSimpArgs false
open Go.RowKit
/-- the place of the era that applies -/
def eraI (es : List EraD) (t : Int) : Nat := es.dropLast.findIdx fun e => decide (t < e.un)
theorem eraI_le (es : List EraD) (t : Int) : eraI es t ≤ es.length - 1 := by
  have := List.findIdx_le_length (xs := es.dropLast) (p := fun e => decide (t < e.un))
  simpa [eraI] using this
theorem eraI_hit {es : List EraD} {t : Int} {k : Nat} {e : EraD} (hk : k + 1 < es.length) (he : es[k]? = some e) (h : t < e.un) (hb : ∀ j x, j < k → es[j]? = some x → ¬ t < x.un) : eraI es t = k := by
  unfold eraI
  have hl : k < es.dropLast.length := by simp; omega
  have hg : ∀ j (hj : j < es.dropLast.length), es[j]? = some es.dropLast[j] := fun j hj => by
    have hj' : j < es.length := by simp at hj; omega
    rw [List.getElem?_eq_getElem hj', List.getElem_dropLast]
  refine (List.findIdx_eq hl).2 ⟨?_, fun j hj => ?_⟩
  · have := hg k hl
    rw [he] at this
    injection this with this
    rw [← this]; exact decide_eq_true h
  · exact decide_eq_false (hb j _ hj (hg j (by omega)))
theorem eraI_end {es : List EraD} {t : Int} (hb : ∀ j x, j + 1 < es.length → es[j]? = some x → ¬ t < x.un) : eraI es t = es.length - 1 := by
  unfold eraI
  have : es.dropLast.findIdx (fun e => decide (t < e.un)) = es.dropLast.length := List.findIdx_eq_length.2 fun x hx => by
    obtain ⟨j, hj, e⟩ := List.getElem_of_mem hx
    have hj' : j + 1 < es.length := by simp at hj; omega
    refine decide_eq_false (hb j x hj' ?_)
    rw [List.getElem_dropLast] at e
    rw [List.getElem?_eq_getElem (by omega), e]
  rw [this]; simp
/-- the era -/
def eraE (es : List EraD) (t : Int) : EraD := es.getD (eraI es t) default
theorem eraE_at {es : List EraD} {t : Int} {k : Nat} {e : EraD} (h : eraI es t = k) (he : es[k]? = some e) : eraE es t = e := by
  unfold eraE
  rw [h, List.getD_eq_getElem?_getD, he]; rfl
theorem eraE_get {es : List EraD} {t : Int} (h : 1 ≤ es.length) : es[eraI es t]? = some (eraE es t) := by
  obtain ⟨e, he⟩ := get_lt (show eraI es t < es.length by have := eraI_le es t; omega)
  rw [eraE_at rfl he]; exact he

/-- how many transitions are not later -/
def lateI (L : List TurD) (t : Int) : Nat := L.countP fun x => decide (x.at' ≤ t)
theorem lateI_le (L : List TurD) (t : Int) : lateI L t ≤ L.length := List.countP_le_length
theorem rise_lt {L : List TurD} (h : Rise L) : ∀ (j i : Nat) (x y : TurD), i < j → L[i]? = some x → L[j]? = some y → x.at' < y.at'
  | 0, i, x, y, hij, hx, hy => by omega
  | j + 1, i, x, y, hij, hx, hy => by
    by_cases c : i = j
    · subst c; exact h i x y hx hy
    · obtain ⟨z, hz⟩ := get_lt (show j < L.length by have := (List.getElem?_eq_some_iff.1 hy).1; omega)
      have h1 := rise_lt h j i x z (by omega) hx hz
      have h2 := h j z y hz hy
      omega
theorem late_spec {t : Int} : ∀ {L : List TurD}, Rise L → ∀ (i : Nat) (x : TurD), L[i]? = some x → (x.at' ≤ t ↔ i < lateI L t)
  | [], _, i, x, hx => by simp at hx
  | y :: L, h, i, x, hx => by
    have hL : Rise L := fun i a b ha hb => h (i + 1) a b (by simpa using ha) (by simpa using hb)
    by_cases c : y.at' ≤ t
    · have e : lateI (y :: L) t = lateI L t + 1 := by unfold lateI; exact List.countP_cons_of_pos (p := fun x : TurD => decide (x.at' ≤ t)) (decide_eq_true c)
      rw [e]
      cases i with
      | zero =>
        have : y = x := by simpa using hx
        rw [← this]
        exact ⟨fun _ => by omega, fun _ => c⟩
      | succ i =>
        have := late_spec (t := t) hL i x (by simpa using hx)
        rw [this]; omega
    · have e : lateI (y :: L) t = 0 := by
        unfold lateI
        rw [List.countP_eq_zero]
        intro a ha
        obtain ⟨j, hj⟩ := List.getElem?_of_mem ha
        have : y.at' ≤ a.at' := by
          cases j with
          | zero =>
            have : y = a := by simpa using hj
            rw [this]; exact Int.le_refl _
          | succ j => exact Int.le_of_lt (rise_lt h (j + 1) 0 y a (by omega) rfl hj)
        simp only [decide_eq_true_eq]; omega
      rw [e]
      have : y.at' ≤ x.at' := by
        cases i with
        | zero =>
          have : y = x := by simpa using hx
          rw [this]; exact Int.le_refl _
        | succ j => exact Int.le_of_lt (rise_lt h (j + 1) 0 y x (by omega) rfl hx)
      omega
/-- what the last of the first m says, or d -/
def lastP (d : Int × ByteArray) (L : List TurD) (m : Nat) : Int × ByteArray := if m = 0 then d else match L[m - 1]? with
  | some x => (x.sv, x.lt)
  | none => d
theorem lastP_at {d : Int × ByteArray} {L : List TurD} {m : Nat} {x : TurD} (h : m ≠ 0) (hx : L[m - 1]? = some x) : lastP d L m = (x.sv, x.lt) := by unfold lastP; rw [if_neg h, hx]
theorem lastP_zero (d : Int × ByteArray) (L : List TurD) : lastP d L 0 = d := by unfold lastP; rw [if_pos rfl]
/-- the last up tto a place, going on by one -/
theorem lastP_yes {d : Int × ByteArray} {L : List TurD} {t : Int} {k : Nat} {x : TurD} (h : Rise L) (hx : L[k]? = some x) (c : x.at' ≤ t) : lastP d L (min (k + 1) (lateI L t)) = (x.sv, x.lt) := by
  have := (late_spec h k x hx).1 c
  rw [show min (k + 1) (lateI L t) = k + 1 by omega]
  exact lastP_at (by omega) hx
theorem lastP_no {d : Int × ByteArray} {L : List TurD} {t : Int} {k : Nat} {x : TurD} (h : Rise L) (hx : L[k]? = some x) (c : ¬ x.at' ≤ t) : lastP d L (min (k + 1) (lateI L t)) = lastP d L (min k (lateI L t)) := by
  have hk : ¬ k < lateI L t := fun q => c ((late_spec h k x hx).2 q)
  rw [show min (k + 1) (lateI L t) = min k (lateI L t) by omega]
/-- the letter before the first transition -/
def fstL (L : List TurD) : ByteArray := match L.find? fun x => x.sv == 0 with
  | some x => x.lt
  | none => dash
theorem fstL_hit {L : List TurD} {k : Nat} {x : TurD} (hx : L[k]? = some x) (h : x.sv = 0) (hb : ∀ j y, j < k → L[j]? = some y → y.sv ≠ 0) : fstL L = x.lt := by
  unfold fstL
  have : L.find? (fun x => x.sv == 0) = some x := by
    rw [List.find?_eq_some_iff_getElem]
    obtain ⟨hk1, hk2⟩ := List.getElem?_eq_some_iff.1 hx
    refine ⟨by simp [h], k, hk1, hk2, fun j hj => ?_⟩
    have hj' : j < L.length := by omega
    have := hb j L[j] hj (List.getElem?_eq_getElem hj')
    simpa using this
  rw [this]
theorem fstL_end {L : List TurD} (hb : ∀ (j : Nat) (y : TurD), L[j]? = some y → y.sv ≠ 0) : fstL L = dash := by
  unfold fstL
  have : L.find? (fun x => x.sv == 0) = none := by
    rw [List.find?_eq_none]
    intro x hx
    obtain ⟨j, hj⟩ := List.getElem?_of_mem hx
    simpa using hb j x hj
  rw [this]
theorem fstL_from {L : List TurD} : fstL L = dash ∨ ∃ x ∈ L, x.sv = 0 ∧ fstL L = x.lt := by
  unfold fstL
  cases h : L.find? (fun x => x.sv == 0) with
  | none => exact Or.inl rfl
  | some x =>
    refine Or.inr ⟨x, List.mem_of_find?_eq_some h, ?_, rfl⟩
    have := List.find?_some h
    simpa using this
/-- the saving and the letter that apply -/
def savP (e : EraD) (L : List TurD) (t : Int) : Int × ByteArray := if e.ru.toList = [] then (e.sv, dash) else lastP (0, fstL L) L (lateI L t)

structure TypD where
  off : Int
  sv : Bool
  nm : ByteArray
def typP (e : EraD) (p : Int × ByteArray) : TypD := ⟨e.off + p.1, decide (0 < p.1), S (abbrR e.fm.toList p.1 p.2.toList).1⟩
/-- the type that an era with its transitions has at a time -/
def typE (e : EraD) (L : List TurD) (t : Int) : TypD := typP e (savP e L t)
/-- the error of an era's transitions -/
def eraK (rs : List RuD) (zs : List ZonD) (ls : List LinD) (e : EraD) : Int := if e.ru.toList = [] then 0 else ofC rs zs ls e.ru e.off
def eraT (rs : List RuD) (zs : List ZonD) (ls : List LinD) (e : EraD) : List TurD := if e.ru.toList = [] then [] else ofL rs zs ls e.ru e.off
/-- the eras of a name -/
def erasN (zs : List ZonD) (ls : List LinD) (nm : ByteArray) : List EraD := match zs[endN zs ls nm.toList]? with
  | some z => z.eras
  | none => []
def eraN (zs : List ZonD) (ls : List LinD) (nm : ByteArray) (t : Int) : EraD := eraE (erasN zs ls nm) t
/-- the error of At -/
def atC (rs : List RuD) (zs : List ZonD) (ls : List LinD) (nm : ByteArray) (t : Int) : Int :=
  if resC rs zs ls nm ≠ 0 then resC rs zs ls nm else if tmB t = false then 1 else eraK rs zs ls (eraN zs ls nm t)
def noTyp : TypD := ⟨0, false, .empty⟩
/-- the type that At answers -/
def atT (rs : List RuD) (zs : List ZonD) (ls : List LinD) (nm : ByteArray) (t : Int) : TypD :=
  if atC rs zs ls nm t = 0 then typE (eraN zs ls nm t) (eraT rs zs ls (eraN zs ls nm t)) t else noTyp
/-- what At leaves -/
def AtE (rs : List RuD) (zs : List ZonD) (ls : List LinD) (nm : ByteArray) (t : Int) (w : World) (e : Ending) (w' : World) : Prop :=
  e = .returned (.tuple #[.agg #[.int .i64 (atT rs zs ls nm t).off, .bool (atT rs zs ls nm t).sv, .string (atT rs zs ls nm t).nm], .int .i64 (atC rs zs ls nm t)]) ∧ Gr w w'
theorem atC_res {rs : List RuD} {zs : List ZonD} {ls : List LinD} {nm : ByteArray} {t : Int} (h : resC rs zs ls nm ≠ 0) : atC rs zs ls nm t = resC rs zs ls nm := by unfold atC; rw [if_pos h]
theorem atC_time {rs : List RuD} {zs : List ZonD} {ls : List LinD} {nm : ByteArray} {t : Int} (h : resC rs zs ls nm = 0) (k : tmB t = false) : atC rs zs ls nm t = 1 := by unfold atC; rw [if_neg (by simp [h]), if_pos k]
theorem atC_era {rs : List RuD} {zs : List ZonD} {ls : List LinD} {nm : ByteArray} {t : Int} (h : resC rs zs ls nm = 0) (k : tmB t = true) : atC rs zs ls nm t = eraK rs zs ls (eraN zs ls nm t) := by unfold atC; rw [if_neg (by simp [h]), if_neg (by simp [k])]
theorem atC_zero {rs : List RuD} {zs : List ZonD} {ls : List LinD} {nm : ByteArray} {t : Int} : atC rs zs ls nm t = 0 ↔ resC rs zs ls nm = 0 ∧ tmB t = true ∧ eraK rs zs ls (eraN zs ls nm t) = 0 := by
  unfold atC
  by_cases a : resC rs zs ls nm = 0
  · rw [if_neg (by simp [a])]
    by_cases b : tmB t = false
    · rw [if_pos b, b]; simp
    · rw [if_neg b]
      have : tmB t = true := by simpa using b
      simp [a, this]
  · rw [if_pos a]
    simp [a]
theorem atT_no {rs : List RuD} {zs : List ZonD} {ls : List LinD} {nm : ByteArray} {t : Int} (h : atC rs zs ls nm t ≠ 0) : atT rs zs ls nm t = noTyp := by unfold atT; rw [if_neg h]
theorem atT_yes {rs : List RuD} {zs : List ZonD} {ls : List LinD} {nm : ByteArray} {t : Int} (h : atC rs zs ls nm t = 0) : atT rs zs ls nm t = typE (eraN zs ls nm t) (eraT rs zs ls (eraN zs ls nm t)) t := by unfold atT; rw [if_pos h]
theorem atE_no {rs : List RuD} {zs : List ZonD} {ls : List LinD} {nm : ByteArray} {t : Int} {w w' : World} {c : Int} (h : atC rs zs ls nm t = c) (hc : c ≠ 0) (g : Gr w w') : AtE rs zs ls nm t w (.returned (.tuple #[.agg #[.int .i64 0, .bool false, .string .empty], .int .i64 c])) w' := by
  refine ⟨?_, g⟩
  rw [atT_no (by rw [h]; exact hc), h]; rfl
theorem atE_yes {rs : List RuD} {zs : List ZonD} {ls : List LinD} {nm : ByteArray} {t : Int} {w w' : World} {e : EraD} {L : List TurD} (h : atC rs zs ls nm t = 0) (he : eraN zs ls nm t = e) (hL : eraT rs zs ls e = L) (g : Gr w w') :
    AtE rs zs ls nm t w (.returned (.tuple #[.agg #[.int .i64 (e.off + (savP e L t).1), .bool (decide (0 < (savP e L t).1)), .string (S (abbrR e.fm.toList (savP e L t).1 (savP e L t).2.toList).1)], .int .i64 0])) w' := by
  refine ⟨?_, g⟩
  rw [atT_yes h, he, hL, h]; rfl

theorem good_eras {rs : List RuD} {zs : List ZonD} {ls : List LinD} (h : bokC rs zs ls = 0) {i : Nat} {z : ZonD} (hz : zs[i]? = some z) :
    isNameB z.nm.toList = true ∧ 1 ≤ z.eras.length ∧ z.eras.length ≤ 700 ∧ ∀ k e, z.eras[k]? = some e → eraA rs e = 0 ∧ untC z.eras k = 0 := by
  have h0 := (fe_zero _).1 (bokC_ok.1 h).2.2.1 i (List.getElem?_eq_some_iff.1 hz).1
  rw [zonC_at hz] at h0
  split at h0
  · cases h0
  rename_i q0
  split at h0
  · cases h0
  split at h0
  · cases h0
  rename_i q1
  split at h0
  · cases h0
  rename_i q2
  refine ⟨by simpa using q0, by omega, by omega, fun k e he => ?_⟩
  have h1 := (fe_zero _).1 h0 k (List.getElem?_eq_some_iff.1 he).1
  rw [eraC_at he] at h1
  split at h1
  · rename_i q3; exact ⟨q3, h1⟩
  · rename_i q3; exact absurd h1 q3
theorem erasN_at {zs : List ZonD} {ls : List LinD} {nm : ByteArray} {z : ZonD} (h : zs[endN zs ls nm.toList]? = some z) : erasN zs ls nm = z.eras := by unfold erasN; rw [h]
theorem res_zone_at {rs : List RuD} {zs : List ZonD} {ls : List LinD} {nm : ByteArray} (h : resC rs zs ls nm = 0) : ∃ z, zs[endN zs ls nm.toList]? = some z ∧ erasN zs ls nm = z.eras := by
  obtain ⟨z, hz⟩ := get_lt (resC_zero.1 h).2.2
  exact ⟨z, hz, erasN_at hz⟩
/-- the eras that a name leads tto -/
theorem good_erasN {rs : List RuD} {zs : List ZonD} {ls : List LinD} {nm : ByteArray} (h : resC rs zs ls nm = 0) :
    1 ≤ (erasN zs ls nm).length ∧ (erasN zs ls nm).length ≤ 700 ∧ ∀ k e, (erasN zs ls nm)[k]? = some e → eraA rs e = 0 ∧ untC (erasN zs ls nm) k = 0 := by
  obtain ⟨z, hz, e⟩ := res_zone_at h
  rw [e]
  exact (good_eras (resC_zero.1 h).1 hz).2
theorem eraA_num {rs : List RuD} {e : EraD} (h : eraA rs e = 0) : (-64800 ≤ e.off ∧ e.off ≤ 64800) ∧ 0 ≤ e.sv ∧ e.sv ≤ 10800 := by
  unfold eraA at h
  split at h
  · cases h
  rename_i h1
  have hs : svB e.sv = true := by
    cases q : svB e.sv with
    | true => rfl
    | false => exact absurd (Or.inr (Or.inr q)) h1
  have := svB_yes.1 hs
  omega
theorem good_eraN {rs : List RuD} {zs : List ZonD} {ls : List LinD} {nm : ByteArray} (t : Int) (h : resC rs zs ls nm = 0) : eraA rs (eraN zs ls nm t) = 0 := by
  obtain ⟨a, b, c⟩ := good_erasN h
  exact (c _ _ (eraE_get a)).1
theorem eraA_fix {rs : List RuD} {e : EraD} (h : eraA rs e = 0) (hn : e.ru.toList = []) : abbrC e.fm e.sv dash = 0 := by
  unfold eraA at h
  split at h
  · cases h
  · first | exact h | (rw [if_pos hn] at h; exact h)
theorem eraA_ru {rs : List RuD} {e : EraD} (h : eraA rs e = 0) (hn : e.ru.toList ≠ []) : e.sv = 0 ∧ hasR rs e.ru = true ∧ abbrC e.fm 0 dash = 0 ∧ ∀ r ∈ rs, r.nm.toList = e.ru.toList → abbrC e.fm r.sv r.lt = 0 := by
  unfold eraA at h
  split at h
  · cases h
  · first | rw [if_neg hn] at h | skip
    split at h
    · cases h
    · rename_i q
      unfold rulC at h
      split at h
      · cases h
      · rename_i q2
        split at h
        · rename_i q3
          refine ⟨by simpa using q, by simpa using q2, h, fun r hr er => ?_⟩
          obtain ⟨i, hi⟩ := List.getElem?_of_mem hr
          have := (fe_zero _).1 q3 i (List.getElem?_eq_some_iff.1 hi).1
          rw [ruA_at hi, if_pos (by simp [er])] at this
          exact this
        · rename_i q3; exact absurd h q3
theorem pens_of {l : List RuD} {p : PenD} (h : p ∈ pens l) : p.r ∈ l := by
  unfold pens penR penN at h
  obtain ⟨r, hr, hp⟩ := List.mem_flatMap.1 h
  obtain ⟨i, _, rfl⟩ := List.mem_map.1 hp
  exact hr
/-- each transition comes of a rule -/
theorem ofL_rule {rs : List RuD} {zs : List ZonD} {ls : List LinD} {nm : ByteArray} {off : Int} {x : TurD} (h : x ∈ ofL rs zs ls nm off) : ∃ r ∈ rs, r.nm.toList = nm.toList ∧ r.sv = x.sv ∧ r.lt = x.lt := by
  unfold ofL at h
  split at h
  · obtain ⟨i, hi⟩ := List.getElem?_of_mem h
    have hl := (List.getElem?_eq_some_iff.1 hi).1
    rw [turL_len] at hl
    obtain ⟨p, hp⟩ := get_lt hl
    have e := turL_at (off := off) hp
    rw [hi] at e
    injection e with e
    have m := sel_mem (pens_of (stab_mem.1 (get_mem hp)))
    exact ⟨p.r, m.1, m.2, by rw [e]; rfl, by rw [e]; rfl⟩
  · cases h
theorem ofL_rise {rs : List RuD} {zs : List ZonD} {ls : List LinD} {nm : ByteArray} {off : Int} : Rise (ofL rs zs ls nm off) := by
  unfold ofL
  split
  · rename_i h; exact (rise_iff _).1 (ofC_zero.1 h).2.2.2.2
  · intro i x y hx _; simp at hx
theorem eraT_rise {rs : List RuD} {zs : List ZonD} {ls : List LinD} {e : EraD} : Rise (eraT rs zs ls e) := by
  unfold eraT
  split
  · intro i x y hx _; simp at hx
  · exact ofL_rise
theorem lastP_from {d : Int × ByteArray} {L : List TurD} {m : Nat} : lastP d L m = d ∨ ∃ x ∈ L, lastP d L m = (x.sv, x.lt) := by
  unfold lastP
  split
  · exact Or.inl rfl
  · split
    · rename_i x hx; exact Or.inr ⟨x, get_mem hx, rfl⟩
    · exact Or.inl rfl
/-- where the saving and the letter come from -/
theorem savP_from (rs : List RuD) (zs : List ZonD) (ls : List LinD) (e : EraD) (t : Int) (hn : e.ru.toList ≠ []) :
    savP e (eraT rs zs ls e) t = (0, dash) ∨ ∃ r ∈ rs, r.nm.toList = e.ru.toList ∧ savP e (eraT rs zs ls e) t = (r.sv, r.lt) := by
  unfold savP
  rw [if_neg hn]
  have e0 : eraT rs zs ls e = ofL rs zs ls e.ru e.off := by unfold eraT; rw [if_neg hn]
  rw [e0]
  rcases lastP_from (d := (0, fstL (ofL rs zs ls e.ru e.off))) (L := ofL rs zs ls e.ru e.off) (m := lateI (ofL rs zs ls e.ru e.off) t) with h | ⟨x, hx, h⟩
  · rw [h]
    rcases fstL_from (L := ofL rs zs ls e.ru e.off) with g | ⟨x, hx, hs, g⟩
    · rw [g]; exact Or.inl rfl
    · obtain ⟨r, hr, h1, h2, h3⟩ := ofL_rule hx
      exact Or.inr ⟨r, hr, h1, by rw [g, h2, h3, hs]⟩
  · obtain ⟨r, hr, h1, h2, h3⟩ := ofL_rule hx
    exact Or.inr ⟨r, hr, h1, by rw [h, h2, h3]⟩
theorem savP_fix {e : EraD} {L : List TurD} {t : Int} (hn : e.ru.toList = []) : savP e L t = (e.sv, dash) := by unfold savP; rw [if_pos hn]
/-- the abbreviation exists -/
theorem savP_ok {rs : List RuD} (zs : List ZonD) (ls : List LinD) {e : EraD} (t : Int) (h : eraA rs e = 0) : abbrC e.fm (savP e (eraT rs zs ls e) t).1 (savP e (eraT rs zs ls e) t).2 = 0 := by
  by_cases hn : e.ru.toList = []
  · rw [savP_fix hn]; exact eraA_fix h hn
  · obtain ⟨_, _, h1, h2⟩ := eraA_ru h hn
    rcases savP_from rs zs ls e t hn with g | ⟨r, hr, er, g⟩
    · rw [g]; exact h1
    · rw [g]; exact h2 r hr er
theorem abbrOf_zero {o : Option (List UInt8)} {sv : Int} (h : (abbrOf o sv).2 = 0) : (1 ≤ (abbrOf o sv).1.length ∧ (abbrOf o sv).1.length ≤ 8) ∧ 0 ≤ sv ∧ sv ≤ 10800 := by
  cases o with
  | none => cases h
  | some l =>
    simp only [abbrOf] at h ⊢
    split at h
    · cases h
    · rename_i q
      split at h
      · cases h
      · rename_i q2
        split at h
        · cases h
        · rename_i q3
          rw [if_neg q, if_neg q2, if_neg q3]
          have := List.length_pos_iff.2 q3
          exact ⟨⟨by show 1 ≤ l.length; omega, by show l.length ≤ 8; omega⟩, by omega, by omega⟩
theorem abbrC_zero {f : ByteArray} {sv : Int} {lt : ByteArray} (h : abbrC f sv lt = 0) : (1 ≤ (abbrR f.toList sv lt.toList).1.length ∧ (abbrR f.toList sv lt.toList).1.length ≤ 8) ∧ 0 ≤ sv ∧ sv ≤ 10800 := abbrOf_zero h
end Go.Proofs.YtkmgildnhnjepaaGreatDoor
