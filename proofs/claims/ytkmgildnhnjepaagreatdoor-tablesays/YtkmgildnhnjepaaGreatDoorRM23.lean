/- What the project's checkUntil, checkRules and checkEra of package book return. What the project's checkRules and checkEra of package book return. Rows of a call's own that are appended tto; the reference's rulesOf. What the project's named, countYears and moment of package turns return. -/
import Derived.Deep.LoopGhost
import Derived.Test.YtkmgildnhnjepaaGreatDoorRM22
import Derived.Test.YtkmgildnhnjepaaGreatDoorRM16
import Derived.Deep.AppendLies
import Derived.OwnWalk
import Derived.Laws.OwnMore
import Derived.Test.YtkmgildnhnjepaaGreatDoorRM09
namespace Go.Proofs.YtkmgildnhnjepaaGreatDoor
set_option linter.unusedVariables false
set_option linter.unusedSimpArgs false
open Go.RowKit
/-- what the walks read besides a book: the lengths of months, powers of ten, a length of the machine -/
def BkTab (w : World) : Prop := HasLen w ∧ HasPow w ∧ HasMax w
theorem Gr.bk {w w' : World} (g : Gr w w') (h : BkTab w) : BkTab w' := ⟨g.len h.1, g.pow h.2.1, g.max h.2.2⟩

theorem pstamp (t : Int) (w : World) (h : BkTab w) (t1 : -9223372036854775808 ≤ t) (t2 : t ≤ 9223372036854775807) :
    Calls Tryz.prog 41 #[.int .i64 t] w fun e w' => e = strInt (S (stampT t)) (tmC t) ∧ Gr w w' := by
  unfold tmC
  cases hb : tmB t with
  | true =>
    obtain ⟨y, m, d, r, hv, h1, h2, e, el⟩ := stampT_of hb
    rw [el]
    exact stamp_yes t y m d r w h.1 h.2.1 hv h1 h2 e
  | false =>
    rw [stampT_no hb]
    exact stamp_no t w t1 t2 (fun g => by rw [tmB_days.2 g] at hb; cases hb)

set_option maxHeartbeats 4000000 in
theorem pcheckUntil (A : Option Addr) (n c : Nat) (es : List EraD) (k : Nat) (w : World) (hn : es.length = n) (hl : n ≤ maxLen) (h : Row w 5 EraD.cells A es) (hi : ∀ e ∈ es, e.In) (hk : k < n) (ht : BkTab w) :
    Calls Tryz.prog 106 #[.slice A n c, .int .i64 k] w fun e w' => e = .returned (.int .i64 (untC es k)) ∧ Gr w w' := by
  unfold maxLen at hl
  obtain ⟨x, hx⟩ := get_lt (show k < es.length by omega)
  have U := Lib.hid (untC_at hx)
  have hI := hi x (get_mem hx)
  have KS := Lib.hid (fun w h => pstamp x.un w h hI.2.2.1 hI.2.2.2)
  have HT := Lib.hid ht
  have HB : Hid (0 < k → ∃ p, es[k - 1]? = some p ∧ befB es k x.un = decide (x.un ≤ p.un)) := fun h0 => by
    obtain ⟨j, rfl⟩ : ∃ j, k = j + 1 := ⟨k - 1, by omega⟩
    obtain ⟨p, hp⟩ := get_lt (show j < es.length by omega)
    exact ⟨p, hp, by simp only [befB, hp]⟩
  have HZ : Hid (k = 0 → befB es k x.un = false) := fun h0 => by subst h0; rfl
  have HR := Lib.hid h
  obtain ⟨off', ru, sv, fm, un⟩ := x
  obtain ⟨b, off, rfl, c0, c1, c2, c3, c4⟩ := h.five hx rfl (Gr.refl w)
  simp only at U KS HB HZ
  clear hx hi hI ht h
  have k0 : (0 : Int) ≤ (k : Int) := by omega
  have kn : (k : Int) < (n : Int) := by omega
  have HN := Lib.hid hn
  clear hn
  generalize untC es k = R at U ⊢
  by_cases hlast : k + 1 = n
  · have t1 : ((k : Int) == (n : Int) - 1) = true := beqT (by omega)
    by_cases hu : un = 0
    · have E : Hid (R = 0) := by unfold Hid; rw [U.out, if_pos (by rw [HN.out]; exact hlast), if_pos hu]
      have t2 := bneF hu
      clear U hlast hu
      go_enter Tryz.func106, Tryz.ntmps106
      go_wp2_with fail
      go_ret
      exact ⟨ret_int E.out.symm, Gr.refl _⟩
    · have E : Hid (R = 5) := by unfold Hid; rw [U.out, if_pos (by rw [HN.out]; exact hlast), if_neg hu]
      have t2 := bneT hu
      clear U hlast hu
      go_enter Tryz.func106, Tryz.ntmps106
      go_wp2_with fail
      go_ret
      exact ⟨ret_int E.out.symm, Gr.refl _⟩
  have t1 : ((k : Int) == (n : Int) - 1) = false := beqF (by omega)
  have U2 : Hid (R = if tmB un = false then 1 else if befB es k un = true then 5 else 0) := by unfold Hid; rw [U.out, if_neg (by rw [HN.out]; exact hlast)]
  clear U hlast
  unfold tmC at KS
  cases hb : tmB un with
  | false =>
    have E : Hid (R = 1) := by unfold Hid; rw [U2.out, if_pos hb]
    rw [hb] at KS
    clear U2 hb
    go_enter Tryz.func106, Tryz.ntmps106
    go_wp2_with fail
    refine (KS.out w HT.out).mono ?_
    rintro e w1 ⟨rfl, g1⟩
    go_wp2
    go_ret
    exact ⟨ret_int E.out.symm, g1⟩
  | true =>
  have U3 : Hid (R = if befB es k un = true then 5 else 0) := by unfold Hid; rw [U2.out, if_neg (by rw [hb]; simp)]
  rw [hb] at KS
  clear U2 hb
  by_cases h0 : 0 < k
  · have g0 : (0 : Int) < (k : Int) := by omega
    have g0' : decide ((0 : Int) < (k : Int)) = true := decide_eq_true g0
    obtain ⟨⟨poff, pru, psv, pfm, pun⟩, hp, eb⟩ := HB.out h0
    have eb' : befB es k un = decide (un ≤ pun) := eb
    have gw : ∀ W, Gr w W → W.cell? ⟨b, off + (k - 1) * 5 + 4, none⟩ = some (.int .i64 pun) := fun W g => by
      obtain ⟨b', off', e, d0, d1, d2, d3, d4⟩ := HR.out.five hp rfl g
      injection e with e; injection e with e1 e2; subst e1; subst e2
      exact d4
    have GW := Lib.hid gw
    have E : Hid (R = if decide (un ≤ pun) = true then 5 else 0) := by unfold Hid; rw [U3.out, eb']
    clear U3 hp eb eb' HB HZ HR gw
    have i1 : (0 : Int) ≤ (k : Int) - 1 := by omega
    have i2 : (k : Int) - 1 < (n : Int) := by omega
    have i3 : ((k : Int) - 1).toNat = k - 1 := by omega
    go_enter Tryz.func106, Tryz.ntmps106
    go_wp2_with fail
    refine (KS.out w HT.out).mono ?_
    rintro e w1 ⟨rfl, g1⟩
    have d4 := GW.out w1 g1
    obtain ⟨q, eq⟩ : ∃ q, decide (un ≤ pun) = q := ⟨_, rfl⟩
    rw [eq] at E
    cases q
    all_goals
      go_wp2
      go_ret
      exact ⟨ret_int E.out.symm, g1⟩
  · have g0 : ¬ (0 : Int) < (k : Int) := by omega
    have g0' : decide ((0 : Int) < (k : Int)) = false := decide_eq_false g0
    have E : Hid (R = 0) := by unfold Hid; rw [U3.out, HZ.out (by omega)]; rfl
    clear U3 HB HZ HR
    go_enter Tryz.func106, Tryz.ntmps106
    go_wp2_with fail
    refine (KS.out w HT.out).mono ?_
    rintro e w1 ⟨rfl, g1⟩
    go_wp2
    go_ret
    exact ⟨ret_int E.out.symm, g1⟩
end Go.Proofs.YtkmgildnhnjepaaGreatDoor
namespace Go.Proofs.YtkmgildnhnjepaaGreatDoor
set_option linter.unusedVariables false
set_option linter.unusedSimpArgs false
open Go.RowKit
/-- an era as a value -/
abbrev eraV (e : EraD) : Value := .agg #[.int .i64 e.off, .string e.ru, .int .i64 e.sv, .string e.fm, .int .i64 e.un]
theorem abbrAt (f : ByteArray) (sv : Int) (lt : ByteArray) (w : World) (hm : HasMax w) (hlt : lt.size ≤ maxLen) :
    Calls Tryz.prog 72 #[.string f, .int .i64 sv, .string lt] w fun e w' => e = strInt (S (abbrR f.toList sv lt.toList).1) (abbrC f sv lt) ∧ Gr w w' := pabbrFmt f sv lt w hm hlt
theorem abbrDash (f : ByteArray) (sv : Int) (w : World) (hm : HasMax w) :
    Calls Tryz.prog 72 #[.string f, .int .i64 sv, .string ⟨#[45]⟩] w fun e w' => e = strInt (S (abbrR f.toList sv dash.toList).1) (abbrC f sv dash) ∧ Gr w w' := pabbrFmt f sv dash w hm (by decide)

set_option maxHeartbeats 8000000 in
theorem pcheckRules (b : BokD) (e : EraD) (w : World) (hb : RusAt w b.Ar b.cr b.rs) (ht : BkTab w) :
    Calls Tryz.prog 127 #[bookV b, eraV e] w fun e' w' => e' = .returned (.int .i64 (rulC b.rs e)) ∧ Gr w w' := by
  obtain ⟨Ar, cr, rs, Az, cz, zs, Al, cl, ls⟩ := b
  obtain ⟨eo, ru, sv, fm, un⟩ := e
  have HR : Hid (Row w 11 RuD.cells Ar rs) := hb.2.1
  have HI : Hid (∀ r ∈ rs, r.In) := hb.2.2
  have hl : rs.length ≤ maxLen := Nat.le_trans hb.1.1 hb.1.2
  have KA := Lib.hid (fun sv lt w hm hlt => abbrAt fm sv lt w hm hlt)
  have KD := Lib.hid (fun w hm => abbrDash fm 0 w hm)
  have KC := Lib.hid (fun B w h hc => con_r1 Ar rs.length cr rs ru B w rfl hl h hc)
  have HT := Lib.hid ht
  have S6 : Hid (hasR rs ru = false → rulC rs ⟨eo, ru, sv, fm, un⟩ = 6) := fun h => by unfold rulC; rw [if_pos h]
  have SH : Hid (hasR rs ru = true → ∀ k, k < rs.length → fe (ruA rs ⟨eo, ru, sv, fm, un⟩) k = 0 → ruA rs ⟨eo, ru, sv, fm, un⟩ k ≠ 0 → rulC rs ⟨eo, ru, sv, fm, un⟩ = ruA rs ⟨eo, ru, sv, fm, un⟩ k) := fun h k hk h0 h1 => by
    have := fe_hit h0 h1 rs.length hk
    unfold rulC; rw [if_neg (by rw [h]; simp), this, if_neg h1]
  have SE : Hid (hasR rs ru = true → fe (ruA rs ⟨eo, ru, sv, fm, un⟩) rs.length = 0 → rulC rs ⟨eo, ru, sv, fm, un⟩ = abbrC fm 0 dash) := fun h h0 => by unfold rulC; rw [if_neg (by rw [h]; simp), if_pos h0]
  have RA : Hid (∀ k r, rs[k]? = some r → ruA rs ⟨eo, ru, sv, fm, un⟩ k = if (r.nm.toList == ru.toList) = true then abbrC fm r.sv r.lt else 0) := fun k r h => ruA_at h
  have F0 : Hid (fe (ruA rs ⟨eo, ru, sv, fm, un⟩) 0 = 0) := rfl
  have FS : Hid (∀ k, fe (ruA rs ⟨eo, ru, sv, fm, un⟩) k = 0 → ruA rs ⟨eo, ru, sv, fm, un⟩ k = 0 → fe (ruA rs ⟨eo, ru, sv, fm, un⟩) (k + 1) = 0) := fun k a b => fe_step a b
  show Calls _ _ _ _ fun e' w' => e' = .returned (.int .i64 (rulC rs ⟨eo, ru, sv, fm, un⟩)) ∧ Gr w w'
  generalize rulC rs ⟨eo, ru, sv, fm, un⟩ = C at S6 SH SE ⊢
  generalize ruA rs ⟨eo, ru, sv, fm, un⟩ = fa at SH SE RA F0 FS
  unfold maxLen at hl
  clear hb ht
  have B0 := Lib.hid (box_two w (.cells #[.slice Ar rs.length cr, .slice Az zs.length cz, .slice Al ls.length cl] 134) (.cells #[.int .i64 eo, .string ru, .int .i64 sv, .string fm, .int .i64 un] 59))
  go_enter Tryz.func127, Tryz.ntmps127
  go_wp2_with fail
  generalize (w.alloc (.cells #[.slice Ar rs.length cr, .slice Az zs.length cz, .slice Al ls.length cl] 134)).alloc (.cells #[.int .i64 eo, .string ru, .int .i64 sv, .string fm, .int .i64 un] 59) = w0 at B0 ⊢
  generalize w.heap.size = q at B0 ⊢
  have z0 := Lib.hid B0.out.1
  have HB1 := Lib.hid B0.out.2.1
  have HB2 := Lib.hid B0.out.2.2
  clear B0
  refine (KC.out (q + 1) w0 (HR.out.gr z0.out) (bcell_row HB2.out rfl)).mono ?_
  rintro e w1 ⟨rfl, g1⟩
  have G1 := Lib.hid (z0.out.trans g1)
  have HC1 := Lib.hid (bheap_gr g1 HB1.out)
  have HC2 := Lib.hid (bheap_gr g1 HB2.out)
  clear z0 HB1 HB2 g1 KC
  generalize hasR rs ru = h6 at S6 SH SE
  cases h6 with
  | false =>
    have E := Lib.hid (S6.out rfl)
    clear S6 SH SE
    go_wp2_with fail
    go_ret
    exact ⟨ret_int E.out.symm, G1.out⟩
  | true =>
  have SH2 := Lib.hid (SH.out rfl)
  have SE2 := Lib.hid (SE.out rfl)
  clear S6 SH SE
  have y0 : w1.cell? ⟨q, 0, none⟩ = some (.slice Ar rs.length cr) := bcell_row HC1.out rfl
  go_wp2_with fail
  clear y0
  go_loopw [23] (fun i W => ∃ k : Nat, k ≤ rs.length ∧ i = .int .i64 k ∧ Hid (fe fa k = 0) ∧ Hid (Gr w1 W)) (fun i W => rs.length - (intOf i).toNat)
  case atStart => exact ⟨0, Nat.zero_le _, rfl, F0, Gr.refl _⟩
  case round =>
    obtain ⟨k, hk, rfl, hf, hg⟩ := hrel
    by_cases hlt : k < rs.length
    · obtain ⟨⟨znm, fr, tt, mo, zk, d, n, at', by', zsv, lt⟩, hz⟩ := get_lt hlt
      have RK := Lib.hid (RA.out k _ hz)
      have FK := Lib.hid (FS.out k hf.out)
      have HK := Lib.hid (SH2.out k hlt hf.out)
      have hin := HI.out _ (get_mem hz)
      have KK := Lib.hid (fun W h => clo_r1 ⟨znm, fr, tt, mo, zk, d, n, at', by', zsv, lt⟩ ru (q + 1) W h)
      have KF := Lib.hid (fun w hm => KA.out zsv lt w hm hin.2)
      have d1 : wr.cell? ⟨q + 1, 1, none⟩ = some (.string ru) := hg.out.holds (bcell_row HC2.out rfl)
      have D1 := Lib.hid d1
      have D3 : Hid (wr.cell? ⟨q + 1, 3, none⟩ = some (.string fm)) := hg.out.holds (bcell_row HC2.out rfl)
      obtain ⟨b, off, rfl, c0, c1, c2, c3, c4, c5, c6, c7, c8, c9, c10⟩ := HR.out.eleven hz rfl (G1.out.trans hg.out)
      have HNB := Lib.hid (box_one wr (.cells #[.string znm, .int .i64 fr, .int .i64 tt, .int .i64 mo, .int .i64 zk, .int .i64 d, .int .i64 n, .int .i64 at', .int .i64 by', .int .i64 zsv, .string lt] 118))
      clear hz hin RA FS SH2 d1 KA HR HI
      simp only at RK KK
      obtain ⟨p, ep⟩ : ∃ p, (znm.toList == ru.toList) = p := ⟨_, rfl⟩
      rw [ep] at RK KK
      clear ep
      go_wp2_with fail
      generalize wr.alloc (.cells #[.string znm, .int .i64 fr, .int .i64 tt, .int .i64 mo, .int .i64 zk, .int .i64 d, .int .i64 n, .int .i64 at', .int .i64 by', .int .i64 zsv, .string lt] 118) = w2 at HNB ⊢
      generalize wr.heap.size = q2 at HNB ⊢
      refine (KK.out w2 (HNB.out.1.holds D1.out)).mono ?_
      rintro e w3 ⟨rfl, g3⟩
      have G3 := Lib.hid (HNB.out.1.trans g3)
      have HN3 := Lib.hid (bheap_gr g3 HNB.out.2)
      clear KK g3 HNB c0 c1 c2 c3 c4 c5 c6 c7 c8 c9 c10
      cases p with
      | false =>
        have Z : Hid (fa k = 0) := by unfold Hid; rw [RK.out]; rfl
        clear RK HK
        go_wp2_with fail
        go_roundw
        case rel => exact ⟨k + 1, by omega, by go_num, FK.out Z.out, hg.out.trans G3.out⟩
        case measure => simp [intOf]; omega
      | true =>
        have Z : Hid (fa k = abbrC fm zsv lt) := by unfold Hid; rw [RK.out]; rfl
        clear RK
        have y3 : w3.cell? ⟨q + 1, 3, none⟩ = some (.string fm) := G3.out.holds D3.out
        have y9 : w3.cell? ⟨q2, 9, none⟩ = some (.int .i64 zsv) := bcell_row HN3.out rfl
        have y10 : w3.cell? ⟨q2, 10, none⟩ = some (.string lt) := bcell_row HN3.out rfl
        go_wp2_with fail
        clear y3 y9 y10
        refine (KF.out w3 (((G1.out.trans hg.out).trans G3.out).max HT.out.2.2)).mono ?_
        rintro e w4 ⟨rfl, g4⟩
        clear KF
        generalize abbrC fm zsv lt = cc at Z ⊢
        by_cases hc : cc = 0
        · have t0 := bneF hc
          have Z2 : Hid (fa k = 0) := by unfold Hid; rw [Z.out]; exact hc
          clear Z HK hc
          go_wp2_with fail
          go_roundw
          case rel => exact ⟨k + 1, by omega, by go_num, FK.out Z2.out, (hg.out.trans G3.out).trans g4⟩
          case measure => simp [intOf]; omega
        · have t0 := bneT hc
          have E : Hid (C = cc) := by unfold Hid; rw [HK.out (by rw [Z.out]; exact hc), Z.out]
          clear Z HK hc
          go_wp2_with fail
          go_ret
          exact ⟨ret_int E.out.symm, ((G1.out.trans hg.out).trans G3.out).trans g4⟩
    · have e : k = rs.length := by omega
      have E : Hid (C = abbrC fm 0 dash) := SE2.out (by have := hf.out; rw [e] at this; exact this)
      clear e hf
      have d3 : wr.cell? ⟨q + 1, 3, none⟩ = some (.string fm) := hg.out.holds (bcell_row HC2.out rfl)
      go_wp2_with fail
      refine (KD.out wr ((G1.out.trans hg.out).max HT.out.2.2)).mono ?_
      rintro e w4 ⟨rfl, g4⟩
      go_wp2_with fail
      go_ret
      exact ⟨ret_int E.out.symm, (G1.out.trans hg.out).trans g4⟩
end Go.Proofs.YtkmgildnhnjepaaGreatDoor
namespace Go.Proofs.YtkmgildnhnjepaaGreatDoor
set_option linter.unusedVariables false
set_option linter.unusedSimpArgs false
open Go.RowKit
theorem infoRule : (Tryz.prog.info? 118).map (fun i => (i.zero, i.size, i.bytes)) = some (some (.agg #[.string .empty, .int .i64 0, .int .i64 0, .int .i64 0, .int .i64 0, .int .i64 0, .int .i64 0, .int .i64 0, .int .i64 0, .int .i64 0, .string .empty]), 11, 104) := by kernel_rfl

end Go.Proofs.YtkmgildnhnjepaaGreatDoor
namespace Go.Proofs.YtkmgildnhnjepaaGreatDoor
set_option linter.unusedVariables false
set_option linter.unusedSimpArgs false
open Go.RowKit
set_option maxRecDepth 100000 in
set_option maxHeartbeats 8000000 in
theorem tnamed (Ar : Option Addr) (cr : Nat) (rs : List RuD) (nm : ByteArray) (w : World) (hb : RusAt w Ar cr rs) (h40 : rs.length ≤ 40) :
    Calls Tryz.prog 77 #[.slice Ar rs.length cr, .string nm] w fun e w' => ∃ v, e = .returned v ∧ Own w' w.heap.size 118 11 RuD.cells v (selR rs nm) ∧ Gr w w' := by
  have HR : Hid (Row w 11 RuD.cells Ar rs) := hb.2.1
  obtain ⟨i0, hi, hz0, hz1, hz2⟩ := info_parts infoRule
  have I1 := Lib.hid hi
  have I2 := Lib.hid hz0
  have I3 := Lib.hid hz1
  have I4 := Lib.hid hz2
  have G1 := Lib.hid (Gr.refl w)
  clear hb hi hz0 hz1 hz2
  go_enter Tryz.func77, Tryz.ntmps77
  go_wp2_with fail
  go_loopw [5, 10] (fun v i W => ∃ k : Nat, k ≤ rs.length ∧ i = .int .i64 k ∧ Hid (Own W w.heap.size 118 11 RuD.cells v (selR (rs.take k) nm)) ∧ Hid (Gr w W)) (fun v i W => rs.length - (intOf i).toNat)
  case atStart => exact ⟨0, Nat.zero_le _, rfl, Own.nil_ _ _ _ _ _, G1⟩
  case round =>
    obtain ⟨k, hk, rfl, ho, hg⟩ := hrel
    by_cases hlt : k < rs.length
    · obtain ⟨⟨znm, fr, tt, mo, zk, d, n, at', by', sv, lt⟩, hx⟩ := get_lt hlt
      have RT := Lib.hid (sel_take (nm := nm) hx)
      obtain ⟨b, off, rfl, c0, c1, c2, c3, c4, c5, c6, c7, c8, c9, c10⟩ := HR.out.eleven hx rfl hg.out
      clear hx
      obtain ⟨p, ep⟩ : ∃ p, (znm.toList == nm.toList) = p := ⟨_, rfl⟩
      simp only [ep] at RT
      cases p with
      | false =>
        go_wp2_with fail
        go_roundw
        case rel => exact ⟨k + 1, by omega, by go_num, by unfold Hid; rw [RT.out]; simpa using ho.out.gr (Gr.alloc _ _), hg.out.alloc' _⟩
        case measure => simp [intOf]; omega
      | true =>
        have OW : Hid (Own ((wr.alloc (.cells #[.string znm, .int .i64 fr, .int .i64 tt, .int .i64 mo, .int .i64 zk, .int .i64 d, .int .i64 n, .int .i64 at', .int .i64 by', .int .i64 sv, .string lt] 118)).alloc (.cells #[.string znm, .int .i64 fr, .int .i64 tt, .int .i64 mo, .int .i64 zk, .int .i64 d, .int .i64 n, .int .i64 at', .int .i64 by', .int .i64 sv, .string lt] 118)) w.heap.size 118 11 RuD.cells u5 (selR (rs.take k) nm)) := ho.out.gr ((Gr.alloc _ _).alloc' _)
        have NB : Hid (((wr.alloc (.cells #[.string znm, .int .i64 fr, .int .i64 tt, .int .i64 mo, .int .i64 zk, .int .i64 d, .int .i64 n, .int .i64 at', .int .i64 by', .int .i64 sv, .string lt] 118)).alloc (.cells #[.string znm, .int .i64 fr, .int .i64 tt, .int .i64 mo, .int .i64 zk, .int .i64 d, .int .i64 n, .int .i64 at', .int .i64 by', .int .i64 sv, .string lt] 118)).heap[wr.heap.size + 1]? = some (.cells #[.string znm, .int .i64 fr, .int .i64 tt, .int .i64 mo, .int .i64 zk, .int .i64 d, .int .i64 n, .int .i64 at', .int .i64 by', .int .i64 sv, .string lt] 118)) := (box_two wr (.cells #[.string znm, .int .i64 fr, .int .i64 tt, .int .i64 mo, .int .i64 zk, .int .i64 d, .int .i64 n, .int .i64 at', .int .i64 by', .int .i64 sv, .string lt] 118) (.cells #[.string znm, .int .i64 fr, .int .i64 tt, .int .i64 mo, .int .i64 zk, .int .i64 d, .int .i64 n, .int .i64 at', .int .i64 by', .int .i64 sv, .string lt] 118)).2.2
        have GB : Hid (Below w.heap.size w ((wr.alloc (.cells #[.string znm, .int .i64 fr, .int .i64 tt, .int .i64 mo, .int .i64 zk, .int .i64 d, .int .i64 n, .int .i64 at', .int .i64 by', .int .i64 sv, .string lt] 118)).alloc (.cells #[.string znm, .int .i64 fr, .int .i64 tt, .int .i64 mo, .int .i64 zk, .int .i64 d, .int .i64 n, .int .i64 at', .int .i64 by', .int .i64 sv, .string lt] 118))) := hg.out.trans ((Gr.alloc _ _).alloc' _)
        have LN : Hid ((selR (rs.take k) nm).length ≤ 40) := by have := sel_len (rs.take k) nm; rw [List.length_take] at this; unfold Hid; omega
        have RT2 : Hid (selR (rs.take (k + 1)) nm = selR (rs.take k) nm ++ [⟨znm, fr, tt, mo, zk, d, n, at', by', sv, lt⟩]) := by unfold Hid; rw [RT.out]; simp
        clear RT ho
        generalize selR (rs.take k) nm = L at OW LN RT2
        go_wp2_with (at_builtin; refine wpList_append_lies _ (by rfl) _ _ 22 (by rfl) w.heap.size 118 i0 (.agg #[.string .empty, .int .i64 0, .int .i64 0, .int .i64 0, .int .i64 0, .int .i64 0, .int .i64 0, .int .i64 0, .int .i64 0, .int .i64 0, .string .empty]) 11 104 Tryz.underlying22 I1.out I2.out I3.out I4.out (by rfl) (by omega) u5 L.length (L.flatMap RuD.cells) (by rfl) OW.out ⟨wr.heap.size + 1, 0, none⟩ 1 1 [.string znm, .int .i64 fr, .int .i64 tt, .int .i64 mo, .int .i64 zk, .int .i64 d, .int .i64 n, .int .i64 at', .int .i64 by', .int .i64 sv, .string lt] (by rfl) (by rfl) (World.news_of_block NB.out) (ru_one ⟨znm, fr, tt, mo, zk, d, n, at', by', sv, lt⟩) (by omega) (by have := LN.out; unfold maxLen; omega) (by have := LN.out; omega) (Below.size GB.out) (wr.heap.size + 2) (by simp) ?_; intro g cap w3 hown hgrow hat hlt3)
        go_roundw
        case rel => exact ⟨k + 1, by omega, by go_num, own_more RT2.out hown, grown_gr GB.out hgrow (own_base OW.out)⟩
        case measure => simp [intOf]; omega
    · have e : k = rs.length := by omega
      have HO : Hid (Own wr w.heap.size 118 11 RuD.cells u5 (selR rs nm)) := by have := ho.out; rw [e, List.take_length] at this; exact this
      clear e ho
      go_wp2_with fail
      go_ret
      exact ⟨_, rfl, HO.out, hg.out⟩

set_option maxRecDepth 100000 in
set_option maxHeartbeats 8000000 in
theorem tcount (A : Option Addr) (c : Nat) (l : List RuD) (w : World) (hr : Row w 11 RuD.cells A l) (hl : l.length ≤ 40) (ho : ∀ r ∈ l, r.Ok) :
    Calls Tryz.prog 78 #[.slice A l.length c] w fun e w' => e = .returned (.int .i64 (yrs l)) ∧ Gr w w' := by
  have HR := Lib.hid hr
  have HO := Lib.hid ho
  have G1 := Lib.hid (Gr.refl w)
  clear hr ho
  go_enter Tryz.func78, Tryz.ntmps78
  go_wp2_with fail
  go_loopw [3, 8] (fun v i W => ∃ (k : Nat) (y : Int), k ≤ l.length ∧ i = .int .i64 k ∧ v = .int .i64 y ∧ 0 ≤ y ∧ y ≤ 201 * k ∧ Hid (y = yrs (l.take k)) ∧ Hid (Gr w W)) (fun v i W => l.length - (intOf i).toNat)
  case atStart => exact ⟨0, 0, Nat.zero_le _, rfl, rfl, by omega, by omega, rfl, G1⟩
  case round =>
    obtain ⟨k, y, hk, rfl, rfl, hy0, hy1, HY, hg⟩ := hrel
    by_cases hlt : k < l.length
    · obtain ⟨⟨znm, fr, tt, mo, zk, d, n, at', by', sv, lt⟩, hx⟩ := get_lt hlt
      have RT := Lib.hid (yrs_take hx)
      have ok : RuleNum fr tt mo := (HO.out _ (get_mem hx)).1
      obtain ⟨o1, o2, o3, _⟩ := ok
      obtain ⟨b, off, rfl, c0, c1, c2, c3, c4, c5, c6, c7, c8, c9, c10⟩ := HR.out.eleven hx rfl hg.out
      clear hx
      go_wp2_with fail
      go_roundw
      case rel => exact ⟨k + 1, y + (tt - fr + 1), by omega, by go_num, rfl, by omega, by omega, by unfold Hid; rw [RT.out, ← HY.out], hg.out.alloc' _⟩
      case measure => simp [intOf]; omega
    · have e : k = l.length := by omega
      have HE : Hid (y = yrs l) := by have := HY.out; rw [e, List.take_length] at this; exact this
      clear e HY
      go_wp2_with fail
      go_ret
      exact ⟨by rw [← HE.out]; rfl, hg.out⟩

set_option maxRecDepth 100000 in
set_option maxHeartbeats 8000000 in
theorem tmoment (p : PenD) (off sv : Int) (w : World) (hp : p.Ok) (h1 : -64800 ≤ off) (h2 : off ≤ 64800) (h3 : 0 ≤ sv) (h4 : sv ≤ 10800) :
    Calls Tryz.prog 111 #[.agg p.cells.toArray, .int .i64 off, .int .i64 sv] w fun e w' => e = .returned (.int .i64 (momR off sv p)) ∧ Gr w w' := by
  obtain ⟨no, ⟨znm, fr, tt, mo, zk, d, n, at', by', psv, lt⟩⟩ := p
  obtain ⟨⟨_, _, _, _, hb0, _⟩, _, hn1, hn2⟩ := hp
  simp only at hb0 hn1 hn2
  simp only [PenD.cells, RuD.cells, List.cons_append, List.nil_append, momR]
  by_cases c1 : by' = 1
  · subst c1
    go_enter Tryz.func111, Tryz.ntmps111
    go_wp2_with fail
    go_ret
    exact ⟨rfl, Gr.alloc _ _⟩
  · by_cases c2 : by' = 2
    · subst c2
      go_enter Tryz.func111, Tryz.ntmps111
      go_wp2_with fail
      go_ret
      exact ⟨rfl, Gr.alloc _ _⟩
    · rw [if_neg c1, if_neg c2]
      have e1 : (by' == 1) = false := by rw [beq_eq_false_iff_ne]; exact c1
      have e2 : (by' == 2) = false := by rw [beq_eq_false_iff_ne]; exact c2
      go_enter Tryz.func111, Tryz.ntmps111
      go_wp2_with fail
      go_ret
      exact ⟨rfl, Gr.alloc _ _⟩
end Go.Proofs.YtkmgildnhnjepaaGreatDoor
