/- Local times of links, just ahead of the end of an era and at it, of an era alone, of an era of given rules. No function of the program in it. -/
import Derived.Test.YtbagdlafpahgdaaGreatDoorRM17
import Derived.Test.YtbagdlafpahgdaaGreatDoorRM43
import Derived.Test.YtbagdlafpahgdaaGreatDoorRM45
namespace Go.Proofs.YtbagdlafpahgdaaGreatDoor
set_option linter.unusedVariables false
set_option linter.unusedSimpArgs false
open Go.RowKit
theorem at_same {rs : List RuD} {zs : List ZonD} {ls : List LinD} {a b : ByteArray} {t : Int} (h1 : resC rs zs ls a = resC rs zs ls b) (h2 : resC rs zs ls b = 0 → endN zs ls a.toList = endN zs ls b.toList) :
    atC rs zs ls a t = atC rs zs ls b t ∧ atT rs zs ls a t = atT rs zs ls b t := by
  by_cases c : resC rs zs ls b = 0
  · have e : eraN zs ls a t = eraN zs ls b t := by unfold eraN erasN; rw [h2 c]
    have hc : atC rs zs ls a t = atC rs zs ls b t := by unfold atC; rw [h1, e]
    refine ⟨hc, ?_⟩
    unfold atT
    rw [hc, e]
  · have hb := atC_res (t := t) c
    have ha := atC_res (t := t) (show resC rs zs ls a ≠ 0 by rw [h1]; exact c)
    rw [atT_no (t := t) (by rw [ha, h1]; exact c), atT_no (t := t) (by rw [hb]; exact c), ha, hb, h1]
    exact ⟨rfl, rfl⟩
/-- a link has the local time of its target -/
theorem at_link {rs : List RuD} {zs : List ZonD} {ls : List LinD} {i : Nat} {x : LinD} (hx : ls[i]? = some x) (t : Int) :
    atC rs zs ls x.to' t = atC rs zs ls x.nm t ∧ atT rs zs ls x.to' t = atT rs zs ls x.nm t := by
  by_cases h0 : bokC rs zs ls = 0
  · obtain ⟨a, b, _⟩ := res_link h0 hx
    exact at_same a b
  · exact at_same (by rw [resC_bad h0, resC_bad h0]) (fun h => absurd (by rw [resC_bad h0] at h; exact h) h0)

theorem un_step {es : List EraD} (h : ∀ k e, es[k]? = some e → untC es k = 0) {k : Nat} {e : EraD} (hk : k + 1 < es.length) (he : es[k]? = some e) : tmB e.un = true ∧ ∀ j p, k = j + 1 → es[j]? = some p → p.un < e.un := by
  have h0 := h k e he
  rw [untC_at he, if_neg (by omega)] at h0
  split at h0
  · cases h0
  rename_i q
  split at h0
  · cases h0
  rename_i q2
  refine ⟨by simpa using q, fun j p hj hp => ?_⟩
  subst hj
  unfold befB at q2
  simp only [hp] at q2
  simpa using q2
theorem un_lt {es : List EraD} (h : ∀ k e, es[k]? = some e → untC es k = 0) : ∀ (k j : Nat) (p e : EraD), j < k → k + 1 < es.length → es[j]? = some p → es[k]? = some e → p.un < e.un
  | 0, j, p, e, hj, _, _, _ => by omega
  | k + 1, j, p, e, hj, hk, hp, he => by
    by_cases c : j = k
    · subst c; exact (un_step h hk he).2 j p rfl hp
    · obtain ⟨m, hm⟩ := get_lt (show k < es.length by omega)
      have h1 := un_lt h k j p m (by omega) (by omega) hp hm
      have h2 := (un_step h hk he).2 k m rfl hm
      omega
/-- just ahead of its end an era applies -/
theorem eraE_before {es : List EraD} (h : ∀ k e, es[k]? = some e → untC es k = 0) {k : Nat} {e : EraD} (hk : k + 1 < es.length) (he : es[k]? = some e) : eraE es (e.un - 1) = e :=
  eraE_at (eraI_hit hk he (by omega) fun j x hj hx => by have := un_lt h k j x e hj hk hx he; omega) he
/-- at its end the next one does -/
theorem eraE_after {es : List EraD} (h : ∀ k e, es[k]? = some e → untC es k = 0) {k : Nat} {e e2 : EraD} (hk : k + 1 < es.length) (he : es[k]? = some e) (he2 : es[k + 1]? = some e2) : eraE es e.un = e2 := by
  have hb : ∀ j x, j < k + 1 → es[j]? = some x → ¬ e.un < x.un := fun j x hj hx => by
    by_cases c : j = k
    · subst c; rw [he] at hx; injection hx with hx; rw [hx]; omega
    · have := un_lt h k j x e (by omega) hk hx he; omega
  by_cases c : k + 2 < es.length
  · exact eraE_at (eraI_hit (by omega) he2 (un_lt h (k + 1) k e e2 (by omega) (by omega) he he2) hb) he2
  · exact eraE_at ((eraI_end fun j x hj hx => hb j x (by omega) hx).trans (by omega)) he2

/-- the error of an era at a time, and its type -/
def ateC (rs : List RuD) (zs : List ZonD) (ls : List LinD) (e : EraD) (t : Int) : Int := if tmB t = false then 1 else eraK rs zs ls e
def ateT (rs : List RuD) (zs : List ZonD) (ls : List LinD) (e : EraD) (t : Int) : TypD := if ateC rs zs ls e t = 0 then typE e (eraT rs zs ls e) t else noTyp
theorem at_ate {rs : List RuD} {zs : List ZonD} {ls : List LinD} {nm : ByteArray} {t : Int} {e : EraD} (h : resC rs zs ls nm = 0) (he : eraN zs ls nm t = e) : atC rs zs ls nm t = ateC rs zs ls e t ∧ atT rs zs ls nm t = ateT rs zs ls e t := by
  have hc : atC rs zs ls nm t = ateC rs zs ls e t := by unfold atC ateC; rw [if_neg (by simp [h]), he]
  refine ⟨hc, ?_⟩
  unfold atT ateT
  rw [hc, he]
theorem ofC_book {rs : List RuD} {zs zs' : List ZonD} {ls ls' : List LinD} {nm : ByteArray} {off : Int} (h : bokC rs zs ls = 0) (h' : bokC rs zs' ls' = 0) : ofC rs zs' ls' nm off = ofC rs zs ls nm off ∧ ofL rs zs' ls' nm off = ofL rs zs ls nm off := by
  have e : ofC rs zs' ls' nm off = ofC rs zs ls nm off := by unfold ofC; rw [h, h']
  refine ⟨e, ?_⟩
  unfold ofL; rw [e]
theorem era_book {rs : List RuD} {zs zs' : List ZonD} {ls ls' : List LinD} (e : EraD) (h : bokC rs zs ls = 0) (h' : bokC rs zs' ls' = 0) : eraK rs zs' ls' e = eraK rs zs ls e ∧ eraT rs zs' ls' e = eraT rs zs ls e := by
  unfold eraK eraT
  rw [(ofC_book h h').1, (ofC_book h h').2]
  exact ⟨rfl, rfl⟩
theorem ate_book {rs : List RuD} {zs zs' : List ZonD} {ls ls' : List LinD} (e : EraD) (t : Int) (h : bokC rs zs ls = 0) (h' : bokC rs zs' ls' = 0) : ateC rs zs' ls' e t = ateC rs zs ls e t ∧ ateT rs zs' ls' e t = ateT rs zs ls e t := by
  have hc : ateC rs zs' ls' e t = ateC rs zs ls e t := by unfold ateC; rw [(era_book e h h').1]
  refine ⟨hc, ?_⟩
  unfold ateT; rw [hc, (era_book e h h').2]
/-- a book of these rules and of one zone with one era -/
theorem bok_alone {rs : List RuD} {zs : List ZonD} {ls : List LinD} (h0 : bokC rs zs ls = 0) {z : ZonD} {e : EraD} (hn : isNameB z.nm.toList = true) (hz : z.eras = [e]) (hu : e.un = 0) (ha : eraA rs e = 0) : bokC rs [z] [] = 0 := by
  obtain ⟨a, b, _, _⟩ := bokC_ok.1 h0
  refine bokC_ok.2 ⟨by simp only [List.length_singleton, List.length_nil]; omega, b, ?_, rfl⟩
  have e1 : fe (eraC rs [e]) 1 = 0 := by
    simp only [fe, if_true]
    rw [eraC_at (k := 0) (e := e) rfl, if_pos ha, untC_at (k := 0) (e := e) rfl]
    simp [hu]
  have e2 : zonC rs [z] 0 = 0 := by
    rw [zonC_at (i := 0) (z := z) rfl, if_neg (by simp [hn]), if_neg (by simp [hasZ]), hz]
    simp only [List.length_singleton]
    rw [if_neg (by omega), if_neg (by omega)]
    exact e1
  simp only [List.length_singleton, fe, if_true]
  exact e2
theorem eraE_one (e : EraD) (t : Int) : eraE [e] t = e := by
  have := eraI_le [e] t
  exact eraE_at (k := 0) (by simpa using this) rfl
theorem at_alone {rs : List RuD} {zs : List ZonD} {ls : List LinD} (h0 : bokC rs zs ls = 0) {z : ZonD} {e : EraD} (hn : isNameB z.nm.toList = true) (hz : z.eras = [e]) (hu : e.un = 0) (ha : eraA rs e = 0) (t : Int) :
    atC rs [z] [] z.nm t = ateC rs zs ls e t ∧ atT rs [z] [] z.nm t = ateT rs zs ls e t := by
  have hb := bok_alone h0 hn hz hu ha
  have hr := res_zone hb (i := 0) (z := z) rfl
  have hen : eraN [z] [] z.nm t = e := by
    unfold eraN
    rw [erasN_at (z := z) (by rw [end_zone (good_of hb) (i := 0) (z := z) rfl]; rfl), hz]
    exact eraE_one e t
  have h1 := at_ate (t := t) hr hen
  have h2 := ate_book e t h0 hb
  exact ⟨h1.1.trans h2.1, h1.2.trans h2.2⟩
/-- an era without its end -/
def EraD.open_ (e : EraD) : EraD := ⟨e.off, e.ru, e.sv, e.fm, 0⟩
theorem ate_open {rs : List RuD} {zs : List ZonD} {ls : List LinD} (e : EraD) (t : Int) : ateC rs zs ls e.open_ t = ateC rs zs ls e t ∧ ateT rs zs ls e.open_ t = ateT rs zs ls e t := ⟨rfl, rfl⟩
theorem eraA_open {rs : List RuD} (e : EraD) : eraA rs e.open_ = eraA rs e := rfl
/-- StateUntil, as data: ahead of the end -/
theorem until_before {rs : List RuD} {zs : List ZonD} {ls : List LinD} {nm : ByteArray} (h : resC rs zs ls nm = 0) {k : Nat} {e : EraD} (hk : k + 1 < (erasN zs ls nm).length) (he : (erasN zs ls nm)[k]? = some e) {z : ZonD} (hn : isNameB z.nm.toList = true) (hz : z.eras = [e.open_]) :
    atC rs [z] [] z.nm (e.un - 1) = atC rs zs ls nm (e.un - 1) ∧ atT rs [z] [] z.nm (e.un - 1) = atT rs zs ls nm (e.un - 1) := by
  obtain ⟨_, _, c⟩ := good_erasN h
  have h1 := at_alone (resC_zero.1 h).1 hn hz rfl ((eraA_open e).trans (c k e he).1) (e.un - 1)
  have h2 := at_ate (t := e.un - 1) h (show eraN zs ls nm (e.un - 1) = e from eraE_before (fun k e he => (c k e he).2) hk he)
  exact ⟨(h1.1.trans (ate_open e _).1).trans h2.1.symm, (h1.2.trans (ate_open e _).2).trans h2.2.symm⟩
/-- and at it -/
theorem until_after {rs : List RuD} {zs : List ZonD} {ls : List LinD} {nm : ByteArray} (h : resC rs zs ls nm = 0) {k : Nat} {e e2 : EraD} (hk : k + 1 < (erasN zs ls nm).length) (he : (erasN zs ls nm)[k]? = some e) (he2 : (erasN zs ls nm)[k + 1]? = some e2) {z : ZonD} (hn : isNameB z.nm.toList = true) (hz : z.eras = [e2.open_]) :
    atC rs [z] [] z.nm e.un = atC rs zs ls nm e.un ∧ atT rs [z] [] z.nm e.un = atT rs zs ls nm e.un := by
  obtain ⟨_, _, c⟩ := good_erasN h
  have h1 := at_alone (resC_zero.1 h).1 hn hz rfl ((eraA_open e2).trans (c _ e2 he2).1) e.un
  have h2 := at_ate (t := e.un) h (show eraN zs ls nm e.un = e2 from eraE_after (fun k e he => (c k e he).2) hk he he2)
  exact ⟨(h1.1.trans (ate_open e2 _).1).trans h2.1.symm, (h1.2.trans (ate_open e2 _).2).trans h2.2.symm⟩

def fmXY : ByteArray := S [88, 47, 89]
theorem abbr_XY {sv : Int} {lt : List UInt8} (hl : isAbbrB lt = true) (h1 : 0 ≤ sv) (h2 : sv ≤ 10800) : abbrR fmXY.toList sv lt = (if sv = 0 then [88] else [89], 0) := by
  have e : fmtOut fmXY.toList sv lt = some (if sv = 0 then [88] else [89]) := by
    unfold fmXY
    rw [S_toList, show ([88, 47, 89] : List UInt8) = [88] ++ 47 :: [89] from rfl, fmt_two (by decide) hl (by decide), if_pos (by decide)]
  unfold abbrR
  rw [e, abbrOf_ok (by omega) (by split <;> decide) (by split <;> decide)]
theorem chk_letter {r : RuD} (h : r.chk = 0) : isAbbrB r.lt.toList = true := by
  rcases (chk_syn h).2 with q | q
  · rw [q]; decide
  · exact q
theorem dash_list : dash.toList = [45] := by unfold dash; rw [lit_S, S_toList]
theorem name_ne {l : List UInt8} (h : isNameB l = true) : l ≠ [] := fun q => by rw [q] at h; revert h; decide
def rulE (off : Int) (nm : ByteArray) : EraD := ⟨off, nm, 0, fmXY, 0⟩
/-- the type of an era of given rules -/
theorem at_rules {rs : List RuD} {zs : List ZonD} {ls : List LinD} {nm : ByteArray} {off : Int} (h : ofC rs zs ls nm off = 0) {z : ZonD} (hn : isNameB z.nm.toList = true) (hz : z.eras = [rulE off nm]) {t : Int} (ht : tmB t = true) :
    atC rs [z] [] z.nm t = 0 ∧ ∃ sv : Int, sv = (lastP (0, dash) (ofL rs zs ls nm off) (lateI (ofL rs zs ls nm off) t)).1 ∧ atT rs [z] [] z.nm t = ⟨off + sv, decide (0 < sv), S (if sv = 0 then [88] else [89])⟩ ∧ 0 ≤ sv ∧ sv ≤ 10800 := by
  obtain ⟨h0, ho, hs, _, _⟩ := ofC_zero.1 h
  obtain ⟨r0, hr0⟩ := List.exists_mem_of_ne_nil _ hs
  have m0 := sel_mem hr0
  have ck : ∀ r ∈ rs, r.chk = 0 := rules_ok h0
  have hnm : nm.toList ≠ [] := by rw [← m0.2]; exact name_ne (chk_syn (ck r0 m0.1)).1
  have sb : ∀ r ∈ rs, 0 ≤ r.sv ∧ r.sv ≤ 10800 := fun r hr => by have := (RuD.ok_of (ck r hr)).2.2; unfold RuleRest at this; omega
  have hd : abbrC fmXY 0 dash = 0 := by unfold abbrC; rw [abbr_XY (by rw [dash_list]; decide) (by omega) (by omega)]
  have ha : eraA rs (rulE off nm) = 0 := eraA_of (show -64800 ≤ off ∧ off ≤ 64800 from ho) rfl hnm (List.any_eq_true.2 ⟨r0, m0.1, by simp [rulE, m0.2]⟩) hd fun r hr er => by
    show abbrC fmXY r.sv r.lt = 0
    unfold abbrC; rw [abbr_XY (chk_letter (ck r hr)) (sb r hr).1 (sb r hr).2]
  have h1 := at_alone h0 hn hz rfl ha t
  have hk : eraK rs zs ls (rulE off nm) = 0 := by unfold eraK; rw [if_neg (show (rulE off nm).ru.toList ≠ [] from hnm)]; exact h
  have hc : ateC rs zs ls (rulE off nm) t = 0 := by unfold ateC; rw [if_neg (by simp [ht]), hk]
  have eT : eraT rs zs ls (rulE off nm) = ofL rs zs ls nm off := by unfold eraT; rw [if_neg (show (rulE off nm).ru.toList ≠ [] from hnm)]; rfl
  refine ⟨h1.1.trans hc, (savP (rulE off nm) (ofL rs zs ls nm off) t).1, ?_, ?_, ?_⟩
  · unfold savP
    rw [if_neg (show (rulE off nm).ru.toList ≠ [] from hnm)]
    unfold lastP
    split
    · rfl
    · split <;> rfl
  · rw [h1.2]
    unfold ateT
    rw [if_pos hc, eT]
    have sf := savP_from rs zs ls (rulE off nm) t hnm
    rw [eT] at sf
    unfold typE typP
    have hl : isAbbrB (savP (rulE off nm) (ofL rs zs ls nm off) t).2.toList = true ∧ 0 ≤ (savP (rulE off nm) (ofL rs zs ls nm off) t).1 ∧ (savP (rulE off nm) (ofL rs zs ls nm off) t).1 ≤ 10800 := by
      rcases sf with g | ⟨r, hr, _, g⟩
      · rw [g]; exact ⟨by rw [dash_list]; decide, by decide, by decide⟩
      · rw [g]; exact ⟨chk_letter (ck r hr), (sb r hr).1, (sb r hr).2⟩
    have := abbr_XY hl.1 hl.2.1 hl.2.2
    rw [show (rulE off nm).fm.toList = fmXY.toList from rfl, this]; rfl
  · have sf := savP_from rs zs ls (rulE off nm) t hnm
    rw [eT] at sf
    rcases sf with g | ⟨r, hr, _, g⟩
    · rw [g]; exact ⟨by decide, by decide⟩
    · rw [g]; exact sb r hr

theorem eraT_len {rs : List RuD} {zs : List ZonD} {ls : List LinD} {e : EraD} : (eraT rs zs ls e).length ≤ 100000 := by
  unfold eraT
  split
  · simp
  · exact ofL_len
theorem savP_size {rs : List RuD} {zs : List ZonD} {ls : List LinD} (h : ∀ r ∈ rs, r.In) (e : EraD) (t : Int) : (savP e (eraT rs zs ls e) t).2.size ≤ maxLen := by
  by_cases hn : e.ru.toList = []
  · rw [savP_fix hn]; exact (show dash.size ≤ maxLen by unfold maxLen; decide)
  · rcases savP_from rs zs ls e t hn with g | ⟨r, hr, _, g⟩
    · rw [g]; exact (show dash.size ≤ maxLen by unfold maxLen; decide)
    · rw [g]; exact (h r hr).2
end Go.Proofs.YtbagdlafpahgdaaGreatDoor
