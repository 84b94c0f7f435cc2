/- What the project's Span and Stamp return, for every input. What the project's checkUntil, checkRules and checkEra of package book return. What the project's checkRules and checkEra of package book return. Rows of a call's own that are appended tto; the reference's rulesOf. -/
import Derived.Test.YtkmgildnhnjepaaGreatDoorTM23
import Derived.Test.YtkmgildnhnjepaaGreatDoorTM06
import Derived.Deep.LoopGhost
import Derived.Test.YtkmgildnhnjepaaGreatDoorTM24
import Derived.Test.YtkmgildnhnjepaaGreatDoorTM16
import Derived.Deep.AppendLies
import Derived.OwnWalk
import Derived.Laws.OwnMore
import Derived.Test.YtkmgildnhnjepaaGreatDoorTM25
namespace Go.Proofs.YtkmgildnhnjepaaGreatDoor
set_option linter.unusedVariables false
set_option linter.unusedSimpArgs false
open Go.RowKit
set_option maxHeartbeats 1000000 in
theorem stamp_yes (t y m d r : Int) (w : World) (hl : HasLen w) (hp : HasPow w) (hv : Cal.Valid y m d) (h1 : 0 ≤ r) (h2 : r < 86400) (ht : 86400 * Cal.days y m d + r = t) :
    Calls Tryz.prog 41 #[.int .i64 t] w fun e w' => e = strInt (S (stampL y m d r)) 0 ∧ Gr w w' := by
  have hb := Cal.days_bd hv
  have hr : t % 86400 = r := by omega
  have hd : t / 86400 = Cal.days y m d := by omega
  have c1 := splitDay_any t w (by omega) (by omega)
  rw [hr, hd] at c1
  have v1 := hv.1
  have v2 := hv.2.1
  have v3 := hv.2.2.1
  have v4 := hv.2.2.2.1
  have v5 := hv.2.2.2.2.1
  have v6 : d ≤ 31 := by have := (Cal.ml_bd y v3 v4).2; have := hv.2.2.2.2.2; omega
  have q : Hid (r % 3600 / 60 = r / 60 % 60) := by unfold Hid; omega
  have hy := dz_d4 (n := y) (by omega) (by omega)
  have HY := Lib.hid hy
  have hyl : (dz y).length = 4 := by rw [hy]; rfl
  clear hr ht hd hb hy
  go_enter Tryz.func41, Tryz.ntmps41
  go_wp2_with fail
  refine c1.mono ?_
  rintro e w1 ⟨rfl, hg1⟩
  clear c1
  go_wp2_with fail
  refine (date_yes (Cal.days y m d) y m d w1 (hg1.len hl) hv rfl).mono ?_
  rintro e w2 ⟨rfl, rfl⟩
  go_wp2_with fail
  refine (itoa_any y w1 (by omega) (by omega) (hg1.pow hp)).mono ?_
  rintro e w3 ⟨rfl, hg3⟩
  go_wp2_with fail
  refine (twoDigits_any m w3 (by omega) (by omega)).mono ?_
  rintro e w4 ⟨rfl, hg4⟩
  go_wp2_with fail
  refine (twoDigits_any d w4 (by omega) (by omega)).mono ?_
  rintro e w5 ⟨rfl, hg5⟩
  go_wp2_with fail
  refine (twoDigits_any (r / 3600) w5 (by omega) (by omega)).mono ?_
  rintro e w6 ⟨rfl, hg6⟩
  go_wp2_with fail
  refine (twoDigits_any (r % 3600 / 60) w6 (by omega) (by omega)).mono ?_
  rintro e w7 ⟨rfl, hg7⟩
  go_wp2_with fail
  refine (twoDigits_any (r % 60) w7 (by omega) (by omega)).mono ?_
  rintro e w8 ⟨rfl, hg8⟩
  go_wp2_with fail
  go_ret2
  exact ⟨strInt_eq (by rw [HY.out, q.out]; unfold stampL; simp) rfl, (((((hg1.trans hg3).trans hg4).trans hg5).trans hg6).trans hg7).trans hg8⟩

set_option maxHeartbeats 400000 in
theorem stamp_no (t : Int) (w : World) (t1 : -9223372036854775808 ≤ t) (t2 : t ≤ 9223372036854775807) (h : ¬ (-135140 ≤ t / 86400 ∧ t / 86400 ≤ 157053)) :
    Calls Tryz.prog 41 #[.int .i64 t] w fun e w' => e = strInt (S []) 1 ∧ Gr w w' := by
  have c1 := splitDay_any t w t1 t2
  have c2 := fun w => date_no (t / 86400) w h
  have C2 := Lib.hid c2
  clear h c2
  generalize t / 86400 = q at c1 C2
  generalize t % 86400 = r at c1
  go_enter Tryz.func41, Tryz.ntmps41
  go_wp2_with fail
  refine c1.mono ?_
  rintro e w1 ⟨rfl, hg1⟩
  clear c1
  go_wp2_with fail
  refine (C2.out w1).mono ?_
  rintro e w2 ⟨rfl, hg2⟩
  go_wp2_with fail
  go_ret2
  exact ⟨rfl, by first | exact hg1.trans hg2 | (subst hg2; exact hg1)⟩
end Go.Proofs.YtkmgildnhnjepaaGreatDoor
namespace Go.Proofs.YtkmgildnhnjepaaGreatDoor
set_option linter.unusedVariables false
set_option linter.unusedSimpArgs false
open Go.RowKit
/-- what the walks read besides a book: the lengths of months, powers of ten, a length of the machine -/
def BkTab (w : World) : Prop := HasLen w ∧ HasPow w ∧ HasMax w
theorem Gr.bk {w w' : World} (g : Gr w w') (h : BkTab w) : BkTab w' := ⟨g.len h.1, g.pow h.2.1, g.max h.2.2⟩

theorem pstamp (t : Int) (w : World) (h : BkTab w) (t1 : -9223372036854775808 ≤ t) (t2 : t ≤ 9223372036854775807) :
    Calls Tryz.prog 41 #[.int .i64 t] w fun e w' => e = strInt (S (stampT t)) (tmC t) ∧ Gr w w' := by
  unfold tmC
  cases hb : tmB t with
  | true =>
    obtain ⟨y, m, d, r, hv, h1, h2, e, el⟩ := stampT_of hb
    rw [el]
    exact stamp_yes t y m d r w h.1 h.2.1 hv h1 h2 e
  | false =>
    rw [stampT_no hb]
    exact stamp_no t w t1 t2 (fun g => by rw [tmB_days.2 g] at hb; cases hb)

set_option maxHeartbeats 4000000 in
theorem pcheckUntil (A : Option Addr) (n c : Nat) (es : List EraD) (k : Nat) (w : World) (hn : es.length = n) (hl : n ≤ maxLen) (h : Row w 5 EraD.cells A es) (hi : ∀ e ∈ es, e.In) (hk : k < n) (ht : BkTab w) :
    Calls Tryz.prog 106 #[.slice A n c, .int .i64 k] w fun e w' => e = .returned (.int .i64 (untC es k)) ∧ Gr w w' := by
  unfold maxLen at hl
  obtain ⟨x, hx⟩ := get_lt (show k < es.length by omega)
  have U := Lib.hid (untC_at hx)
  have hI := hi x (get_mem hx)
  have KS := Lib.hid (fun w h => pstamp x.un w h hI.2.2.1 hI.2.2.2)
  have HT := Lib.hid ht
  have HB : Hid (0 < k → ∃ p, es[k - 1]? = some p ∧ befB es k x.un = decide (x.un ≤ p.un)) := fun h0 => by
    obtain ⟨j, rfl⟩ : ∃ j, k = j + 1 := ⟨k - 1, by omega⟩
    obtain ⟨p, hp⟩ := get_lt (show j < es.length by omega)
    exact ⟨p, hp, by simp only [befB, hp]⟩
  have HZ : Hid (k = 0 → befB es k x.un = false) := fun h0 => by subst h0; rfl
  have HR := Lib.hid h
  obtain ⟨off', ru, sv, fm, un⟩ := x
  obtain ⟨b, off, rfl, c0, c1, c2, c3, c4⟩ := h.five hx rfl (Gr.refl w)
  simp only at U KS HB HZ
  clear hx hi hI ht h
  have k0 : (0 : Int) ≤ (k : Int) := by omega
  have kn : (k : Int) < (n : Int) := by omega
  have HN := Lib.hid hn
  clear hn
  generalize untC es k = R at U ⊢
  by_cases hlast : k + 1 = n
  · have t1 : ((k : Int) == (n : Int) - 1) = true := beqT (by omega)
    by_cases hu : un = 0
    · have E : Hid (R = 0) := by unfold Hid; rw [U.out, if_pos (by rw [HN.out]; exact hlast), if_pos hu]
      have t2 := bneF hu
      clear U hlast hu
      go_enter Tryz.func106, Tryz.ntmps106
      go_wp2_with fail
      go_ret
      exact ⟨ret_int E.out.symm, Gr.refl _⟩
    · have E : Hid (R = 5) := by unfold Hid; rw [U.out, if_pos (by rw [HN.out]; exact hlast), if_neg hu]
      have t2 := bneT hu
      clear U hlast hu
      go_enter Tryz.func106, Tryz.ntmps106
      go_wp2_with fail
      go_ret
      exact ⟨ret_int E.out.symm, Gr.refl _⟩
  have t1 : ((k : Int) == (n : Int) - 1) = false := beqF (by omega)
  have U2 : Hid (R = if tmB un = false then 1 else if befB es k un = true then 5 else 0) := by unfold Hid; rw [U.out, if_neg (by rw [HN.out]; exact hlast)]
  clear U hlast
  unfold tmC at KS
  cases hb : tmB un with
  | false =>
    have E : Hid (R = 1) := by unfold Hid; rw [U2.out, if_pos hb]
    rw [hb] at KS
    clear U2 hb
    go_enter Tryz.func106, Tryz.ntmps106
    go_wp2_with fail
    refine (KS.out w HT.out).mono ?_
    rintro e w1 ⟨rfl, g1⟩
    go_wp2
    go_ret
    exact ⟨ret_int E.out.symm, g1⟩
  | true =>
  have U3 : Hid (R = if befB es k un = true then 5 else 0) := by unfold Hid; rw [U2.out, if_neg (by rw [hb]; simp)]
  rw [hb] at KS
  clear U2 hb
  by_cases h0 : 0 < k
  · have g0 : (0 : Int) < (k : Int) := by omega
    have g0' : decide ((0 : Int) < (k : Int)) = true := decide_eq_true g0
    obtain ⟨⟨poff, pru, psv, pfm, pun⟩, hp, eb⟩ := HB.out h0
    have eb' : befB es k un = decide (un ≤ pun) := eb
    have gw : ∀ W, Gr w W → W.cell? ⟨b, off + (k - 1) * 5 + 4, none⟩ = some (.int .i64 pun) := fun W g => by
      obtain ⟨b', off', e, d0, d1, d2, d3, d4⟩ := HR.out.five hp rfl g
      injection e with e; injection e with e1 e2; subst e1; subst e2
      exact d4
    have GW := Lib.hid gw
    have E : Hid (R = if decide (un ≤ pun) = true then 5 else 0) := by unfold Hid; rw [U3.out, eb']
    clear U3 hp eb eb' HB HZ HR gw
    have i1 : (0 : Int) ≤ (k : Int) - 1 := by omega
    have i2 : (k : Int) - 1 < (n : Int) := by omega
    have i3 : ((k : Int) - 1).toNat = k - 1 := by omega
    go_enter Tryz.func106, Tryz.ntmps106
    go_wp2_with fail
    refine (KS.out w HT.out).mono ?_
    rintro e w1 ⟨rfl, g1⟩
    have d4 := GW.out w1 g1
    obtain ⟨q, eq⟩ : ∃ q, decide (un ≤ pun) = q := ⟨_, rfl⟩
    rw [eq] at E
    cases q
    all_goals
      go_wp2
      go_ret
      exact ⟨ret_int E.out.symm, g1⟩
  · have g0 : ¬ (0 : Int) < (k : Int) := by omega
    have g0' : decide ((0 : Int) < (k : Int)) = false := decide_eq_false g0
    have E : Hid (R = 0) := by unfold Hid; rw [U3.out, HZ.out (by omega)]; rfl
    clear U3 HB HZ HR
    go_enter Tryz.func106, Tryz.ntmps106
    go_wp2_with fail
    refine (KS.out w HT.out).mono ?_
    rintro e w1 ⟨rfl, g1⟩
    go_wp2
    go_ret
    exact ⟨ret_int E.out.symm, g1⟩
end Go.Proofs.YtkmgildnhnjepaaGreatDoor
namespace Go.Proofs.YtkmgildnhnjepaaGreatDoor
set_option linter.unusedVariables false
set_option linter.unusedSimpArgs false
open Go.RowKit
/-- an era as a value -/
abbrev eraV (e : EraD) : Value := .agg #[.int .i64 e.off, .string e.ru, .int .i64 e.sv, .string e.fm, .int .i64 e.un]
theorem abbrAt (f : ByteArray) (sv : Int) (lt : ByteArray) (w : World) (hm : HasMax w) (hlt : lt.size ≤ maxLen) :
    Calls Tryz.prog 72 #[.string f, .int .i64 sv, .string lt] w fun e w' => e = strInt (S (abbrR f.toList sv lt.toList).1) (abbrC f sv lt) ∧ Gr w w' := pabbrFmt f sv lt w hm hlt
theorem abbrDash (f : ByteArray) (sv : Int) (w : World) (hm : HasMax w) :
    Calls Tryz.prog 72 #[.string f, .int .i64 sv, .string ⟨#[45]⟩] w fun e w' => e = strInt (S (abbrR f.toList sv dash.toList).1) (abbrC f sv dash) ∧ Gr w w' := pabbrFmt f sv dash w hm (by decide)

set_option maxHeartbeats 8000000 in
theorem pcheckRules (b : BokD) (e : EraD) (w : World) (hb : RusAt w b.Ar b.cr b.rs) (ht : BkTab w) :
    Calls Tryz.prog 127 #[bookV b, eraV e] w fun e' w' => e' = .returned (.int .i64 (rulC b.rs e)) ∧ Gr w w' := by
  obtain ⟨Ar, cr, rs, Az, cz, zs, Al, cl, ls⟩ := b
  obtain ⟨eo, ru, sv, fm, un⟩ := e
  have HR : Hid (Row w 11 RuD.cells Ar rs) := hb.2.1
  have HI : Hid (∀ r ∈ rs, r.In) := hb.2.2
  have hl : rs.length ≤ maxLen := Nat.le_trans hb.1.1 hb.1.2
  have KA := Lib.hid (fun sv lt w hm hlt => abbrAt fm sv lt w hm hlt)
  have KD := Lib.hid (fun w hm => abbrDash fm 0 w hm)
  have KC := Lib.hid (fun B w h hc => con_r1 Ar rs.length cr rs ru B w rfl hl h hc)
  have HT := Lib.hid ht
  have S6 : Hid (hasR rs ru = false → rulC rs ⟨eo, ru, sv, fm, un⟩ = 6) := fun h => by unfold rulC; rw [if_pos h]
  have SH : Hid (hasR rs ru = true → ∀ k, k < rs.length → fe (ruA rs ⟨eo, ru, sv, fm, un⟩) k = 0 → ruA rs ⟨eo, ru, sv, fm, un⟩ k ≠ 0 → rulC rs ⟨eo, ru, sv, fm, un⟩ = ruA rs ⟨eo, ru, sv, fm, un⟩ k) := fun h k hk h0 h1 => by
    have := fe_hit h0 h1 rs.length hk
    unfold rulC; rw [if_neg (by rw [h]; simp), this, if_neg h1]
  have SE : Hid (hasR rs ru = true → fe (ruA rs ⟨eo, ru, sv, fm, un⟩) rs.length = 0 → rulC rs ⟨eo, ru, sv, fm, un⟩ = abbrC fm 0 dash) := fun h h0 => by unfold rulC; rw [if_neg (by rw [h]; simp), if_pos h0]
  have RA : Hid (∀ k r, rs[k]? = some r → ruA rs ⟨eo, ru, sv, fm, un⟩ k = if (r.nm.toList == ru.toList) = true then abbrC fm r.sv r.lt else 0) := fun k r h => ruA_at h
  have F0 : Hid (fe (ruA rs ⟨eo, ru, sv, fm, un⟩) 0 = 0) := rfl
  have FS : Hid (∀ k, fe (ruA rs ⟨eo, ru, sv, fm, un⟩) k = 0 → ruA rs ⟨eo, ru, sv, fm, un⟩ k = 0 → fe (ruA rs ⟨eo, ru, sv, fm, un⟩) (k + 1) = 0) := fun k a b => fe_step a b
  show Calls _ _ _ _ fun e' w' => e' = .returned (.int .i64 (rulC rs ⟨eo, ru, sv, fm, un⟩)) ∧ Gr w w'
  generalize rulC rs ⟨eo, ru, sv, fm, un⟩ = C at S6 SH SE ⊢
  generalize ruA rs ⟨eo, ru, sv, fm, un⟩ = fa at SH SE RA F0 FS
  unfold maxLen at hl
  clear hb ht
  have B0 := Lib.hid (box_two w (.cells #[.slice Ar rs.length cr, .slice Az zs.length cz, .slice Al ls.length cl] 134) (.cells #[.int .i64 eo, .string ru, .int .i64 sv, .string fm, .int .i64 un] 59))
  go_enter Tryz.func127, Tryz.ntmps127
  go_wp2_with fail
  generalize (w.alloc (.cells #[.slice Ar rs.length cr, .slice Az zs.length cz, .slice Al ls.length cl] 134)).alloc (.cells #[.int .i64 eo, .string ru, .int .i64 sv, .string fm, .int .i64 un] 59) = w0 at B0 ⊢
  generalize w.heap.size = q at B0 ⊢
  have z0 := Lib.hid B0.out.1
  have HB1 := Lib.hid B0.out.2.1
  have HB2 := Lib.hid B0.out.2.2
  clear B0
  refine (KC.out (q + 1) w0 (HR.out.gr z0.out) (bcell_row HB2.out rfl)).mono ?_
  rintro e w1 ⟨rfl, g1⟩
  have G1 := Lib.hid (z0.out.trans g1)
  have HC1 := Lib.hid (bheap_gr g1 HB1.out)
  have HC2 := Lib.hid (bheap_gr g1 HB2.out)
  clear z0 HB1 HB2 g1 KC
  generalize hasR rs ru = h6 at S6 SH SE
  cases h6 with
  | false =>
    have E := Lib.hid (S6.out rfl)
    clear S6 SH SE
    go_wp2_with fail
    go_ret
    exact ⟨ret_int E.out.symm, G1.out⟩
  | true =>
  have SH2 := Lib.hid (SH.out rfl)
  have SE2 := Lib.hid (SE.out rfl)
  clear S6 SH SE
  have y0 : w1.cell? ⟨q, 0, none⟩ = some (.slice Ar rs.length cr) := bcell_row HC1.out rfl
  go_wp2_with fail
  clear y0
  go_loopw [23] (fun i W => ∃ k : Nat, k ≤ rs.length ∧ i = .int .i64 k ∧ Hid (fe fa k = 0) ∧ Hid (Gr w1 W)) (fun i W => rs.length - (intOf i).toNat)
  case atStart => exact ⟨0, Nat.zero_le _, rfl, F0, Gr.refl _⟩
  case round =>
    obtain ⟨k, hk, rfl, hf, hg⟩ := hrel
    by_cases hlt : k < rs.length
    · obtain ⟨⟨znm, fr, tt, mo, zk, d, n, at', by', zsv, lt⟩, hz⟩ := get_lt hlt
      have RK := Lib.hid (RA.out k _ hz)
      have FK := Lib.hid (FS.out k hf.out)
      have HK := Lib.hid (SH2.out k hlt hf.out)
      have hin := HI.out _ (get_mem hz)
      have KK := Lib.hid (fun W h => clo_r1 ⟨znm, fr, tt, mo, zk, d, n, at', by', zsv, lt⟩ ru (q + 1) W h)
      have KF := Lib.hid (fun w hm => KA.out zsv lt w hm hin.2)
      have d1 : wr.cell? ⟨q + 1, 1, none⟩ = some (.string ru) := hg.out.holds (bcell_row HC2.out rfl)
      have D1 := Lib.hid d1
      have D3 : Hid (wr.cell? ⟨q + 1, 3, none⟩ = some (.string fm)) := hg.out.holds (bcell_row HC2.out rfl)
      obtain ⟨b, off, rfl, c0, c1, c2, c3, c4, c5, c6, c7, c8, c9, c10⟩ := HR.out.eleven hz rfl (G1.out.trans hg.out)
      have HNB := Lib.hid (box_one wr (.cells #[.string znm, .int .i64 fr, .int .i64 tt, .int .i64 mo, .int .i64 zk, .int .i64 d, .int .i64 n, .int .i64 at', .int .i64 by', .int .i64 zsv, .string lt] 118))
      clear hz hin RA FS SH2 d1 KA HR HI
      simp only at RK KK
      obtain ⟨p, ep⟩ : ∃ p, (znm.toList == ru.toList) = p := ⟨_, rfl⟩
      rw [ep] at RK KK
      clear ep
      go_wp2_with fail
      generalize wr.alloc (.cells #[.string znm, .int .i64 fr, .int .i64 tt, .int .i64 mo, .int .i64 zk, .int .i64 d, .int .i64 n, .int .i64 at', .int .i64 by', .int .i64 zsv, .string lt] 118) = w2 at HNB ⊢
      generalize wr.heap.size = q2 at HNB ⊢
      refine (KK.out w2 (HNB.out.1.holds D1.out)).mono ?_
      rintro e w3 ⟨rfl, g3⟩
      have G3 := Lib.hid (HNB.out.1.trans g3)
      have HN3 := Lib.hid (bheap_gr g3 HNB.out.2)
      clear KK g3 HNB c0 c1 c2 c3 c4 c5 c6 c7 c8 c9 c10
      cases p with
      | false =>
        have Z : Hid (fa k = 0) := by unfold Hid; rw [RK.out]; rfl
        clear RK HK
        go_wp2_with fail
        go_roundw
        case rel => exact ⟨k + 1, by omega, by go_num, FK.out Z.out, hg.out.trans G3.out⟩
        case measure => simp [intOf]; omega
      | true =>
        have Z : Hid (fa k = abbrC fm zsv lt) := by unfold Hid; rw [RK.out]; rfl
        clear RK
        have y3 : w3.cell? ⟨q + 1, 3, none⟩ = some (.string fm) := G3.out.holds D3.out
        have y9 : w3.cell? ⟨q2, 9, none⟩ = some (.int .i64 zsv) := bcell_row HN3.out rfl
        have y10 : w3.cell? ⟨q2, 10, none⟩ = some (.string lt) := bcell_row HN3.out rfl
        go_wp2_with fail
        clear y3 y9 y10
        refine (KF.out w3 (((G1.out.trans hg.out).trans G3.out).max HT.out.2.2)).mono ?_
        rintro e w4 ⟨rfl, g4⟩
        clear KF
        generalize abbrC fm zsv lt = cc at Z ⊢
        by_cases hc : cc = 0
        · have t0 := bneF hc
          have Z2 : Hid (fa k = 0) := by unfold Hid; rw [Z.out]; exact hc
          clear Z HK hc
          go_wp2_with fail
          go_roundw
          case rel => exact ⟨k + 1, by omega, by go_num, FK.out Z2.out, (hg.out.trans G3.out).trans g4⟩
          case measure => simp [intOf]; omega
        · have t0 := bneT hc
          have E : Hid (C = cc) := by unfold Hid; rw [HK.out (by rw [Z.out]; exact hc), Z.out]
          clear Z HK hc
          go_wp2_with fail
          go_ret
          exact ⟨ret_int E.out.symm, ((G1.out.trans hg.out).trans G3.out).trans g4⟩
    · have e : k = rs.length := by omega
      have E : Hid (C = abbrC fm 0 dash) := SE2.out (by have := hf.out; rw [e] at this; exact this)
      clear e hf
      have d3 : wr.cell? ⟨q + 1, 3, none⟩ = some (.string fm) := hg.out.holds (bcell_row HC2.out rfl)
      go_wp2_with fail
      refine (KD.out wr ((G1.out.trans hg.out).max HT.out.2.2)).mono ?_
      rintro e w4 ⟨rfl, g4⟩
      go_wp2_with fail
      go_ret
      exact ⟨ret_int E.out.symm, (G1.out.trans hg.out).trans g4⟩
end Go.Proofs.YtkmgildnhnjepaaGreatDoor
namespace Go.Proofs.YtkmgildnhnjepaaGreatDoor
set_option linter.unusedVariables false
set_option linter.unusedSimpArgs false
open Go.RowKit
theorem infoRule : (Tryz.prog.info? 118).map (fun i => (i.zero, i.size, i.bytes)) = some (some (.agg #[.string .empty, .int .i64 0, .int .i64 0, .int .i64 0, .int .i64 0, .int .i64 0, .int .i64 0, .int .i64 0, .int .i64 0, .int .i64 0, .string .empty]), 11, 104) := by kernel_rfl

/-- the rules of a name -/
def rusOf (rs : List RuD) (nm : ByteArray) : List RuD := rs.filter fun r => r.nm.toList == nm.toList
theorem rusOf_take {rs : List RuD} {nm : ByteArray} {k : Nat} {r : RuD} (h : rs[k]? = some r) : rusOf (rs.take (k + 1)) nm = rusOf (rs.take k) nm ++ (if (r.nm.toList == nm.toList) = true then [r] else []) := by
  have hk : k < rs.length := (List.getElem?_eq_some_iff.1 h).1
  have e : rs[k] = r := (List.getElem?_eq_some_iff.1 h).2
  unfold rusOf
  rw [List.take_succ_eq_append_getElem hk, List.filter_append, e, List.filter_cons]
  simp
theorem rusOf_len (rs : List RuD) (nm : ByteArray) : (rusOf rs nm).length ≤ rs.length := List.length_filter_le _ _
/-- what rulesOf leaves -/
def RusE (rs : List RuD) (nm : ByteArray) (w : World) (e : Ending) (w' : World) : Prop := ∃ v, e = .returned v ∧ Own w' w.heap.size 118 11 RuD.cells v (rusOf rs nm) ∧ Gr w w'

set_option maxRecDepth 100000 in
set_option maxHeartbeats 8000000 in
theorem rrulesOf (b : BokD) (nm : ByteArray) (w : World) (hb : RusAt w b.Ar b.cr b.rs) (h40 : b.rs.length ≤ 40) :
    Calls Tryz.prog 59 #[bookV b, .string nm] w (RusE b.rs nm w) := by
  obtain ⟨Ar, cr, rs, Az, cz, zs, Al, cl, ls⟩ := b
  have HR : Hid (Row w 11 RuD.cells Ar rs) := hb.2.1
  simp only at h40
  obtain ⟨i0, hi, hz0, hz1, hz2⟩ := info_parts infoRule
  have B0 := Lib.hid (box_one w (.cells #[.slice Ar rs.length cr, .slice Az zs.length cz, .slice Al ls.length cl] 26))
  have I1 := Lib.hid hi
  have I2 := Lib.hid hz0
  have I3 := Lib.hid hz1
  have I4 := Lib.hid hz2
  clear hb hi hz0 hz1 hz2
  show Calls _ _ _ _ (RusE rs nm w)
  go_enter Tryz.func59, Tryz.ntmps59
  go_wp2_with fail
  generalize w.alloc (.cells #[.slice Ar rs.length cr, .slice Az zs.length cz, .slice Al ls.length cl] 26) = w1 at B0 ⊢
  have G1 := Lib.hid B0.out.1
  clear B0
  go_loopw [5, 11] (fun v i W => ∃ k : Nat, k ≤ rs.length ∧ i = .int .i64 k ∧ Hid (Own W w.heap.size 118 11 RuD.cells v (rusOf (rs.take k) nm)) ∧ Hid (Gr w W)) (fun v i W => rs.length - (intOf i).toNat)
  case atStart => exact ⟨0, Nat.zero_le _, rfl, Own.nil_ _ _ _ _ _, G1⟩
  case round =>
    obtain ⟨k, hk, rfl, ho, hg⟩ := hrel
    by_cases hlt : k < rs.length
    · obtain ⟨⟨znm, fr, tt, mo, zk, d, n, at', by', sv, lt⟩, hx⟩ := get_lt hlt
      have RT := Lib.hid (rusOf_take (nm := nm) hx)
      obtain ⟨b, off, rfl, c0, c1, c2, c3, c4, c5, c6, c7, c8, c9, c10⟩ := HR.out.eleven hx rfl hg.out
      clear hx
      obtain ⟨p, ep⟩ : ∃ p, (znm.toList == nm.toList) = p := ⟨_, rfl⟩
      simp only [ep] at RT
      cases p with
      | false =>
        go_wp2_with fail
        go_roundw
        case rel => exact ⟨k + 1, by omega, by go_num, by unfold Hid; rw [RT.out]; simpa using ho.out.gr (Gr.alloc _ _), hg.out.alloc' _⟩
        case measure => simp [intOf]; omega
      | true =>
        have OW : Hid (Own ((wr.alloc (.cells #[.string znm, .int .i64 fr, .int .i64 tt, .int .i64 mo, .int .i64 zk, .int .i64 d, .int .i64 n, .int .i64 at', .int .i64 by', .int .i64 sv, .string lt] 118)).alloc (.cells #[.string znm, .int .i64 fr, .int .i64 tt, .int .i64 mo, .int .i64 zk, .int .i64 d, .int .i64 n, .int .i64 at', .int .i64 by', .int .i64 sv, .string lt] 118)) w.heap.size 118 11 RuD.cells u5 (rusOf (rs.take k) nm)) := ho.out.gr ((Gr.alloc _ _).alloc' _)
        have NB : Hid (((wr.alloc (.cells #[.string znm, .int .i64 fr, .int .i64 tt, .int .i64 mo, .int .i64 zk, .int .i64 d, .int .i64 n, .int .i64 at', .int .i64 by', .int .i64 sv, .string lt] 118)).alloc (.cells #[.string znm, .int .i64 fr, .int .i64 tt, .int .i64 mo, .int .i64 zk, .int .i64 d, .int .i64 n, .int .i64 at', .int .i64 by', .int .i64 sv, .string lt] 118)).heap[wr.heap.size + 1]? = some (.cells #[.string znm, .int .i64 fr, .int .i64 tt, .int .i64 mo, .int .i64 zk, .int .i64 d, .int .i64 n, .int .i64 at', .int .i64 by', .int .i64 sv, .string lt] 118)) := (box_two wr (.cells #[.string znm, .int .i64 fr, .int .i64 tt, .int .i64 mo, .int .i64 zk, .int .i64 d, .int .i64 n, .int .i64 at', .int .i64 by', .int .i64 sv, .string lt] 118) (.cells #[.string znm, .int .i64 fr, .int .i64 tt, .int .i64 mo, .int .i64 zk, .int .i64 d, .int .i64 n, .int .i64 at', .int .i64 by', .int .i64 sv, .string lt] 118)).2.2
        have GB : Hid (Below w.heap.size w ((wr.alloc (.cells #[.string znm, .int .i64 fr, .int .i64 tt, .int .i64 mo, .int .i64 zk, .int .i64 d, .int .i64 n, .int .i64 at', .int .i64 by', .int .i64 sv, .string lt] 118)).alloc (.cells #[.string znm, .int .i64 fr, .int .i64 tt, .int .i64 mo, .int .i64 zk, .int .i64 d, .int .i64 n, .int .i64 at', .int .i64 by', .int .i64 sv, .string lt] 118))) := hg.out.trans ((Gr.alloc _ _).alloc' _)
        have LN : Hid ((rusOf (rs.take k) nm).length ≤ 40) := by have := rusOf_len (rs.take k) nm; rw [List.length_take] at this; unfold Hid; omega
        have RT2 : Hid (rusOf (rs.take (k + 1)) nm = rusOf (rs.take k) nm ++ [⟨znm, fr, tt, mo, zk, d, n, at', by', sv, lt⟩]) := by unfold Hid; rw [RT.out]; simp
        clear RT ho
        generalize rusOf (rs.take k) nm = L at OW LN RT2
        go_wp2_with (at_builtin; refine wpList_append_lies _ (by rfl) _ _ 22 (by rfl) w.heap.size 118 i0 (.agg #[.string .empty, .int .i64 0, .int .i64 0, .int .i64 0, .int .i64 0, .int .i64 0, .int .i64 0, .int .i64 0, .int .i64 0, .int .i64 0, .string .empty]) 11 104 Tryz.underlying22 I1.out I2.out I3.out I4.out (by rfl) (by omega) u5 L.length (L.flatMap RuD.cells) (by rfl) OW.out ⟨wr.heap.size + 1, 0, none⟩ 1 1 [.string znm, .int .i64 fr, .int .i64 tt, .int .i64 mo, .int .i64 zk, .int .i64 d, .int .i64 n, .int .i64 at', .int .i64 by', .int .i64 sv, .string lt] (by rfl) (by rfl) (World.news_of_block NB.out) (ru_one ⟨znm, fr, tt, mo, zk, d, n, at', by', sv, lt⟩) (by omega) (by have := LN.out; unfold maxLen; omega) (by have := LN.out; omega) (Below.size GB.out) (wr.heap.size + 2) (by simp) ?_; intro g cap w3 hown hgrow hat hlt3)
        go_roundw
        case rel => exact ⟨k + 1, by omega, by go_num, own_more RT2.out hown, grown_gr GB.out hgrow (own_base OW.out)⟩
        case measure => simp [intOf]; omega
    · have e : k = rs.length := by omega
      have HO : Hid (Own wr w.heap.size 118 11 RuD.cells u5 (rusOf rs nm)) := by have := ho.out; rw [e, List.take_length] at this; exact this
      clear e ho
      go_wp2_with fail
      go_ret
      exact ⟨_, rfl, HO.out, hg.out⟩
end Go.Proofs.YtkmgildnhnjepaaGreatDoor
