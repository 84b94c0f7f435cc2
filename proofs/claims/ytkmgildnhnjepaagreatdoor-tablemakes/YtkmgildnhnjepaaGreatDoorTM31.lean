/- What the project's Of of package turns returns, for every book, name and offset. The transitions of a book, asked for in other ways; the reference's Rest again. Local times of links, just ahead of the end of an era and at it, of an era alone, of an era of given rules. No function of the program in it. -/
import Derived.Test.YtkmgildnhnjepaaGreatDoorTM28
import Derived.Test.YtkmgildnhnjepaaGreatDoorTM30
import Derived.Test.YtkmgildnhnjepaaGreatDoorTM06
import Derived.Test.YtkmgildnhnjepaaGreatDoorTM13
import Derived.Test.YtkmgildnhnjepaaGreatDoorTM17
namespace Go.Proofs.YtkmgildnhnjepaaGreatDoor
set_option linter.unusedVariables false
set_option linter.unusedSimpArgs false
open Go.RowKit
theorem syn_small {nm lt : List UInt8} (h : RuleSyn nm lt) : lt.length ≤ 8 ∧ nm.length ≤ 20 := by
  obtain ⟨h1, h2⟩ := h
  refine ⟨?_, ?_⟩
  · rcases h2 with rfl | h2
    · simp
    · unfold isAbbrB at h2
      simp only [Bool.and_eq_true, decide_eq_true_iff] at h2
      exact h2.1.2
  · unfold isNameB at h1
    simp only [Bool.and_eq_true, decide_eq_true_iff] at h1
    exact h1.1.1.1.2
theorem chk_syn {r : RuD} (h : r.chk = 0) : RuleSyn r.nm.toList r.lt.toList := by
  unfold RuD.chk ruleC at h
  split at h
  · rename_i a; exact a
  · omega
theorem chk_small {r : RuD} (h : r.chk = 0) : r.lt.size ≤ 1048576 := by
  have := (syn_small (chk_syn h)).1
  rw [len_toList] at this
  omega
theorem pens_rule {l : List RuD} {p : PenD} (h : p ∈ pens l) : p.r ∈ l := by
  unfold pens penR penN at h
  obtain ⟨r, hr, hp⟩ := List.mem_flatMap.1 h
  obtain ⟨i, _, rfl⟩ := List.mem_map.1 hp
  exact hr
theorem sorted_rule {rs : List RuD} {nm : ByteArray} {p : PenD} (h : p ∈ sorted rs nm) : p.r ∈ rs := (sel_mem (pens_rule (stab_mem.1 h))).1
theorem sorted_len {rs : List RuD} {nm : ByteArray} : (sorted rs nm).length = (pens (selR rs nm)).length := stab_len _
/-- what Of leaves -/
def OfE (rs : List RuD) (zs : List ZonD) (ls : List LinD) (nm : ByteArray) (off : Int) (w : World) (e : Ending) (w' : World) : Prop :=
  ∃ A c, e = .returned (.tuple #[.slice A (ofL rs zs ls nm off).length c, .int .i64 (ofC rs zs ls nm off)]) ∧ TursAt w' A c (ofL rs zs ls nm off) ∧ Gr w w'
theorem ofE_no {rs : List RuD} {zs : List ZonD} {ls : List LinD} {nm : ByteArray} {off : Int} {w w' : World} {C : Int} (h : ofC rs zs ls nm off = C) (hc : C ≠ 0) (g : Gr w w') : OfE rs zs ls nm off w (.returned (.tuple #[.slice none 0 0, .int .i64 C])) w' := by
  have e : ofL rs zs ls nm off = [] := by unfold ofL; rw [h, if_neg hc]
  refine ⟨none, 0, by rw [h, e]; rfl, ?_, g⟩
  rw [e]
  exact ⟨⟨Nat.le_refl _, by unfold maxLen; exact Nat.zero_le _⟩, Row.nil _ _ _ _⟩

/-- and where: in a block of its own -/
def OfF (rs : List RuD) (zs : List ZonD) (ls : List LinD) (nm : ByteArray) (off : Int) (w : World) (e : Ending) (w' : World) : Prop :=
  ∃ A c, e = .returned (.tuple #[.slice A (ofL rs zs ls nm off).length c, .int .i64 (ofC rs zs ls nm off)]) ∧ TursAt w' A c (ofL rs zs ls nm off) ∧ Gr w w' ∧ ∀ a, A = some a → w.heap.size ≤ a.block
theorem ofF_no {rs : List RuD} {zs : List ZonD} {ls : List LinD} {nm : ByteArray} {off : Int} {w w' : World} {C : Int} (h : ofC rs zs ls nm off = C) (hc : C ≠ 0) (g : Gr w w') : OfF rs zs ls nm off w (.returned (.tuple #[.slice none 0 0, .int .i64 C])) w' := by
  have e : ofL rs zs ls nm off = [] := by unfold ofL; rw [h, if_neg hc]
  refine ⟨none, 0, by rw [h, e]; rfl, ?_, g, fun a q => by cases q⟩
  rw [e]
  exact ⟨⟨Nat.le_refl _, by unfold maxLen; exact Nat.zero_le _⟩, Row.nil _ _ _ _⟩

set_option maxRecDepth 100000 in
set_option maxHeartbeats 8000000 in
theorem tOfF (b : BokD) (nm : ByteArray) (off : Int) (w : World) (hb : b.At w) (ht : BkTab w) :
    Calls Tryz.prog 51 #[bookV b, .string nm, .int .i64 off] w (OfF b.rs b.zs b.ls nm off w) := by
  have KB := Lib.hid (fun W (g : Gr w W) => pbookCheck b W (hb.gr g) (g.bk ht))
  have HB := Lib.hid hb
  have HT := Lib.hid ht
  obtain ⟨Ar, cr, rs, Az, cz, zs, Al, cl, ls⟩ := b
  have HRS : Hid (RusAt w Ar cr rs) := hb.1
  simp only at KB
  show Calls _ _ _ _ (OfF rs zs ls nm off w)
  have B0 := Lib.hid (box_one w (.cells #[.slice Ar rs.length cr, .slice Az zs.length cz, .slice Al ls.length cl] 26))
  clear hb ht
  go_enter Tryz.func51, Tryz.ntmps51
  go_wp2_with fail
  generalize w.alloc (.cells #[.slice Ar rs.length cr, .slice Az zs.length cz, .slice Al ls.length cl] 26) = w1 at B0 ⊢
  generalize w.heap.size = q at B0 ⊢
  have x0 : w1.cell? ⟨q, 0, none⟩ = some (.slice Ar rs.length cr) := bcell_row B0.out.2 rfl
  have x1 : w1.cell? ⟨q, 1, none⟩ = some (.slice Az zs.length cz) := bcell_row B0.out.2 rfl
  have x2 : w1.cell? ⟨q, 2, none⟩ = some (.slice Al ls.length cl) := bcell_row B0.out.2 rfl
  go_wp2_with fail
  clear x0 x1 x2
  refine (KB.out w1 B0.out.1).mono ?_
  rintro e w2 ⟨rfl, g2⟩
  have G2 := Lib.hid (B0.out.1.trans g2)
  have HQ2 := Lib.hid (bheap_gr g2 B0.out.2)
  clear g2 B0 KB
  by_cases h0 : bokC rs zs ls = 0
  case neg =>
    have F := Lib.hid (fun w' g => ofF_no (w := w) (w' := w') (off := off) (nm := nm) (rs := rs) (zs := zs) (ls := ls) (C := bokC rs zs ls) (by unfold ofC; rw [if_pos h0]) h0 g)
    generalize bokC rs zs ls = C at h0 F ⊢
    have t0 : (C != 0) = true := by rw [bne_iff_ne]; exact h0
    clear h0
    go_wp2_with fail
    go_ret2
    exact F.out w2 G2.out
  case pos =>
    have L40 : Hid (rs.length ≤ 40) := by have := (bokC_ok.1 h0).1; unfold Hid; omega
    have OKS : Hid (∀ r ∈ selR rs nm, r.Ok) := fun r hr => RuD.ok_of (rules_ok h0 r (sel_mem hr).1)
    have SML : Hid (∀ p ∈ sorted rs nm, p.r.lt.size ≤ 1048576) := fun p hp => chk_small (rules_ok h0 _ (sorted_rule hp))
    have SOK : Hid (∀ p ∈ sorted rs nm, p.Ok) := sorted_ok h0 HRS.out.2.2
    have H0 := Lib.hid h0
    rw [h0]
    clear h0
    by_cases ho : off < -64800 ∨ 64800 < off
    · have F := Lib.hid (fun w' g => ofF_no (w := w) (w' := w') (off := off) (nm := nm) (rs := rs) (zs := zs) (ls := ls) (C := 1) (by unfold ofC; rw [if_neg (by simp [H0.out]), if_pos ho]) (by decide) g)
      by_cases c1 : off < -64800
      · go_wp2_with fail
        go_ret2
        exact F.out w2 G2.out
      · have c2 : 64800 < off := by omega
        go_wp2_with fail
        go_ret2
        exact F.out w2 G2.out
    · have c1 : ¬ off < -64800 := by omega
      have c2 : ¬ 64800 < off := by omega
      have HO := Lib.hid ho
      have KN := Lib.hid (fun W (g : Gr w W) => tnamed Ar cr rs nm W (HRS.out.gr g) L40.out)
      clear ho
      have x0 : w2.cell? ⟨q, 0, none⟩ = some (.slice Ar rs.length cr) := bcell_row HQ2.out rfl
      go_wp2_with fail
      clear x0
      refine (KN.out w2 G2.out).mono ?_
      rintro e w3 ⟨v, rfl, ow, g3⟩
      have G3 := Lib.hid (G2.out.trans g3)
      obtain ⟨A, c, rfl, hc1, hc2, _⟩ := ow.form
      have RR := Lib.hid (ow.row ru_len)
      clear ow g3 KN HQ2 G2
      have SL : Hid ((selR rs nm).length ≤ 40) := by have := sel_len rs nm; have := L40.out; unfold Hid; omega
      by_cases s0 : selR rs nm = []
      · have F := Lib.hid (fun w' g => ofF_no (w := w) (w' := w') (off := off) (nm := nm) (rs := rs) (zs := zs) (ls := ls) (C := 6) (by unfold ofC; rw [if_neg (by simp [H0.out]), if_neg HO.out, if_pos s0]) (by decide) g)
        have z0 : (selR rs nm).length = 0 := by rw [s0]; rfl
        rw [z0]
        clear s0 z0
        go_wp2_with fail
        go_ret2
        exact F.out w3 G3.out
      · have SP : Hid (0 < (selR rs nm).length) := List.length_pos_iff.2 s0
        have S0 := Lib.hid s0
        have z0 : (((selR rs nm).length : Int) == 0) = false := by rw [beq_eq_false_iff_ne]; have := SP.out; omega
        have KY := Lib.hid (fun W (g : Gr w3 W) => tcount A c (selR rs nm) W (RR.out.gr g) SL.out OKS.out)
        clear s0
        go_wp2_with fail
        clear z0
        refine (KY.out w3 (Gr.refl _)).mono ?_
        rintro e w4 ⟨rfl, g4⟩
        have G4 := Lib.hid (G3.out.trans g4)
        by_cases hy : 1500 < yrs (selR rs nm)
        · have F := Lib.hid (fun w' g => ofF_no (w := w) (w' := w') (off := off) (nm := nm) (rs := rs) (zs := zs) (ls := ls) (C := 2) (by unfold ofC; rw [if_neg (by simp [H0.out]), if_neg HO.out, if_neg S0.out, if_pos hy]) (by decide) g)
          generalize yrs (selR rs nm) = Y at hy ⊢
          go_wp2_with fail
          go_ret2
          exact F.out w4 G4.out
        · have KI := Lib.hid (tinOrder A c (selR rs nm) w4 (RR.out.gr g4) SL.out SP.out OKS.out (by omega) (G4.out.len HT.out.1))
          have HY := Lib.hid hy
          have YB := yrs_nonneg OKS.out
          generalize hYY : yrs (selR rs nm) = Y at hy YB ⊢
          have HYY := Lib.hid hYY
          clear hYY g4 KY
          go_wp2_with fail
          refine KI.out.mono ?_
          rintro e w5 ⟨A5, c5, rfl, hrow, l1, l2, g5⟩
          have G5 := Lib.hid (G4.out.trans g5)
          have K6 := tsettle A5 c5 (sorted rs nm) off w5 hrow (by rw [sorted_len]; have := pens_len OKS.out; have := HY.out; omega) SOK.out SML.out (by omega) (by omega)
          rw [sorted_len] at K6
          have HK6 := Lib.hid K6
          clear K6 g5 KI hrow l1 l2
          go_wp2_with fail
          refine HK6.out.mono ?_
          rintro e w6 (⟨hrise, A6, c6, rfl, ta, g6, fr6⟩ | ⟨hrise, rfl, g6⟩)
          · have E0 : Hid (ofC rs zs ls nm off = 0) := ofC_zero.2 ⟨H0.out, by omega, S0.out, by have := HY.out; omega, hrise⟩
            have E1 : Hid (ofL rs zs ls nm off = turL off 0 (sorted rs nm)) := by unfold Hid ofL; rw [if_pos E0.out]
            have E2 : Hid ((turL off 0 (sorted rs nm)).length = (sorted rs nm).length) := turL_len off _ 0
            have TA := Lib.hid ta
            have G6 := Lib.hid (G5.out.trans g6)
            have FR : Hid (∀ a, A6 = some a → w.heap.size ≤ a.block) := fun a e => Nat.le_trans (Below.size G5.out) (fr6 a e)
            clear ta g6 hrise fr6
            go_wp2_with fail
            go_ret2
            refine ⟨A6, c6, ?_, ?_, G6.out, FR.out⟩
            · rw [E0.out, E1.out, E2.out]; rfl
            · rw [E1.out]; exact TA.out
          · have F := ofF_no (w := w) (w' := w6) (off := off) (nm := nm) (rs := rs) (zs := zs) (ls := ls) (C := 5) (by unfold ofC; rw [if_neg (by simp [H0.out]), if_neg HO.out, if_neg S0.out, if_neg (show ¬ 1500 < yrs (selR rs nm) by have := HY.out; omega), if_pos hrise]) (by decide) (G5.out.trans g6)
            have HF := Lib.hid F
            clear F g6 hrise
            go_wp2_with fail
            go_ret2
            exact HF.out

theorem tOf (b : BokD) (nm : ByteArray) (off : Int) (w : World) (hb : b.At w) (ht : BkTab w) :
    Calls Tryz.prog 51 #[bookV b, .string nm, .int .i64 off] w (OfE b.rs b.zs b.ls nm off w) :=
  (tOfF b nm off w hb ht).mono fun e w' ⟨A, c, h1, h2, h3, _⟩ => ⟨A, c, h1, h2, h3⟩
end Go.Proofs.YtkmgildnhnjepaaGreatDoor
namespace Go.Proofs.YtkmgildnhnjepaaGreatDoor
set_option linter.unusedVariables false
set_option linter.unusedSimpArgs false
open Go.RowKit
theorem ofL_len {rs : List RuD} {zs : List ZonD} {ls : List LinD} {nm : ByteArray} {off : Int} : (ofL rs zs ls nm off).length ≤ 100000 := by
  unfold ofL
  split
  · rename_i h
    obtain ⟨h1, h2, h3, h4, h5⟩ := ofC_zero.1 h
    have p := pens_len (l := selR rs nm) (fun r hr => RuD.ok_of (rules_ok h1 r (sel_mem hr).1))
    rw [turL_len, sorted_len]
    omega
  · simp

theorem ofL_in {rs : List RuD} {zs : List ZonD} {ls : List LinD} {nm : ByteArray} {off : Int} (hi : ∀ r ∈ rs, r.In) : ∀ t ∈ ofL rs zs ls nm off, t.In := fun t ht => by
  unfold ofL at ht
  split at ht
  · rename_i h
    obtain ⟨h1, h2, h3, h4, h5⟩ := ofC_zero.1 h
    have so := sorted_ok (nm := nm) h1 hi
    obtain ⟨i, hi2⟩ := List.getElem?_of_mem ht
    have hl := (List.getElem?_eq_some_iff.1 hi2).1
    rw [turL_len] at hl
    obtain ⟨p, hp⟩ := get_lt hl
    have e := turL_at (off := off) hp
    rw [hi2] at e
    injection e with e
    have b := svAt_bd so i
    rw [e]
    exact turP_in (so p (get_mem hp)) h2.1 h2.2 b.1 b.2
  · cases ht
end Go.Proofs.YtkmgildnhnjepaaGreatDoor
namespace Go.Proofs.YtkmgildnhnjepaaGreatDoor
set_option linter.unusedVariables false
set_option linter.unusedSimpArgs false
open Go.RowKit
theorem un_step {es : List EraD} (h : ∀ k e, es[k]? = some e → untC es k = 0) {k : Nat} {e : EraD} (hk : k + 1 < es.length) (he : es[k]? = some e) : tmB e.un = true ∧ ∀ j p, k = j + 1 → es[j]? = some p → p.un < e.un := by
  have h0 := h k e he
  rw [untC_at he, if_neg (by omega)] at h0
  split at h0
  · cases h0
  rename_i q
  split at h0
  · cases h0
  rename_i q2
  refine ⟨by simpa using q, fun j p hj hp => ?_⟩
  subst hj
  unfold befB at q2
  simp only [hp] at q2
  simpa using q2
theorem un_lt {es : List EraD} (h : ∀ k e, es[k]? = some e → untC es k = 0) : ∀ (k j : Nat) (p e : EraD), j < k → k + 1 < es.length → es[j]? = some p → es[k]? = some e → p.un < e.un
  | 0, j, p, e, hj, _, _, _ => by omega
  | k + 1, j, p, e, hj, hk, hp, he => by
    by_cases c : j = k
    · subst c; exact (un_step h hk he).2 j p rfl hp
    · obtain ⟨m, hm⟩ := get_lt (show k < es.length by omega)
      have h1 := un_lt h k j p m (by omega) (by omega) hp hm
      have h2 := (un_step h hk he).2 k m rfl hm
      omega
/-- the error of an era at a time, and its type -/
def ateC (rs : List RuD) (zs : List ZonD) (ls : List LinD) (e : EraD) (t : Int) : Int := if tmB t = false then 1 else eraK rs zs ls e
def ateT (rs : List RuD) (zs : List ZonD) (ls : List LinD) (e : EraD) (t : Int) : TypD := if ateC rs zs ls e t = 0 then typE e (eraT rs zs ls e) t else noTyp
theorem at_ate {rs : List RuD} {zs : List ZonD} {ls : List LinD} {nm : ByteArray} {t : Int} {e : EraD} (h : resC rs zs ls nm = 0) (he : eraN zs ls nm t = e) : atC rs zs ls nm t = ateC rs zs ls e t ∧ atT rs zs ls nm t = ateT rs zs ls e t := by
  have hc : atC rs zs ls nm t = ateC rs zs ls e t := by unfold atC ateC; rw [if_neg (by simp [h]), he]
  refine ⟨hc, ?_⟩
  unfold atT ateT
  rw [hc, he]
theorem ofC_book {rs : List RuD} {zs zs' : List ZonD} {ls ls' : List LinD} {nm : ByteArray} {off : Int} (h : bokC rs zs ls = 0) (h' : bokC rs zs' ls' = 0) : ofC rs zs' ls' nm off = ofC rs zs ls nm off ∧ ofL rs zs' ls' nm off = ofL rs zs ls nm off := by
  have e : ofC rs zs' ls' nm off = ofC rs zs ls nm off := by unfold ofC; rw [h, h']
  refine ⟨e, ?_⟩
  unfold ofL; rw [e]
theorem era_book {rs : List RuD} {zs zs' : List ZonD} {ls ls' : List LinD} (e : EraD) (h : bokC rs zs ls = 0) (h' : bokC rs zs' ls' = 0) : eraK rs zs' ls' e = eraK rs zs ls e ∧ eraT rs zs' ls' e = eraT rs zs ls e := by
  unfold eraK eraT
  rw [(ofC_book h h').1, (ofC_book h h').2]
  exact ⟨rfl, rfl⟩
theorem ate_book {rs : List RuD} {zs zs' : List ZonD} {ls ls' : List LinD} (e : EraD) (t : Int) (h : bokC rs zs ls = 0) (h' : bokC rs zs' ls' = 0) : ateC rs zs' ls' e t = ateC rs zs ls e t ∧ ateT rs zs' ls' e t = ateT rs zs ls e t := by
  have hc : ateC rs zs' ls' e t = ateC rs zs ls e t := by unfold ateC; rw [(era_book e h h').1]
  refine ⟨hc, ?_⟩
  unfold ateT; rw [hc, (era_book e h h').2]
/-- a book of these rules and of one zone with one era -/
theorem bok_alone {rs : List RuD} {zs : List ZonD} {ls : List LinD} (h0 : bokC rs zs ls = 0) {z : ZonD} {e : EraD} (hn : isNameB z.nm.toList = true) (hz : z.eras = [e]) (hu : e.un = 0) (ha : eraA rs e = 0) : bokC rs [z] [] = 0 := by
  obtain ⟨a, b, _, _⟩ := bokC_ok.1 h0
  refine bokC_ok.2 ⟨by simp only [List.length_singleton, List.length_nil]; omega, b, ?_, rfl⟩
  have e1 : fe (eraC rs [e]) 1 = 0 := by
    simp only [fe, if_true]
    rw [eraC_at (k := 0) (e := e) rfl, if_pos ha, untC_at (k := 0) (e := e) rfl]
    simp [hu]
  have e2 : zonC rs [z] 0 = 0 := by
    rw [zonC_at (i := 0) (z := z) rfl, if_neg (by simp [hn]), if_neg (by simp [hasZ]), hz]
    simp only [List.length_singleton]
    rw [if_neg (by omega), if_neg (by omega)]
    exact e1
  simp only [List.length_singleton, fe, if_true]
  exact e2
theorem eraE_one (e : EraD) (t : Int) : eraE [e] t = e := by
  have := eraI_le [e] t
  exact eraE_at (k := 0) (by simpa using this) rfl
theorem at_alone {rs : List RuD} {zs : List ZonD} {ls : List LinD} (h0 : bokC rs zs ls = 0) {z : ZonD} {e : EraD} (hn : isNameB z.nm.toList = true) (hz : z.eras = [e]) (hu : e.un = 0) (ha : eraA rs e = 0) (t : Int) :
    atC rs [z] [] z.nm t = ateC rs zs ls e t ∧ atT rs [z] [] z.nm t = ateT rs zs ls e t := by
  have hb := bok_alone h0 hn hz hu ha
  have hr := res_zone hb (i := 0) (z := z) rfl
  have hen : eraN [z] [] z.nm t = e := by
    unfold eraN
    rw [erasN_at (z := z) (by rw [end_zone (good_of hb) (i := 0) (z := z) rfl]; rfl), hz]
    exact eraE_one e t
  have h1 := at_ate (t := t) hr hen
  have h2 := ate_book e t h0 hb
  exact ⟨h1.1.trans h2.1, h1.2.trans h2.2⟩
/-- an era without its end -/
def EraD.open_ (e : EraD) : EraD := ⟨e.off, e.ru, e.sv, e.fm, 0⟩
theorem ate_open {rs : List RuD} {zs : List ZonD} {ls : List LinD} (e : EraD) (t : Int) : ateC rs zs ls e.open_ t = ateC rs zs ls e t ∧ ateT rs zs ls e.open_ t = ateT rs zs ls e t := ⟨rfl, rfl⟩
theorem eraA_open {rs : List RuD} (e : EraD) : eraA rs e.open_ = eraA rs e := rfl
theorem eraT_len {rs : List RuD} {zs : List ZonD} {ls : List LinD} {e : EraD} : (eraT rs zs ls e).length ≤ 100000 := by
  unfold eraT
  split
  · simp
  · exact ofL_len
theorem savP_size {rs : List RuD} {zs : List ZonD} {ls : List LinD} (h : ∀ r ∈ rs, r.In) (e : EraD) (t : Int) : (savP e (eraT rs zs ls e) t).2.size ≤ maxLen := by
  by_cases hn : e.ru.toList = []
  · rw [savP_fix hn]; exact (show dash.size ≤ maxLen by unfold maxLen; decide)
  · rcases savP_from rs zs ls e t hn with g | ⟨r, hr, _, g⟩
    · rw [g]; exact (show dash.size ≤ maxLen by unfold maxLen; decide)
    · rw [g]; exact (h r hr).2
end Go.Proofs.YtkmgildnhnjepaaGreatDoor
