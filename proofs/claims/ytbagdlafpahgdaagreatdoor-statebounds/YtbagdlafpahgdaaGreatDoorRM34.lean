/- What the project's Span and Stamp return, for every input. What the project's checkUntil, checkRules and checkEra of package book return. -/
import Derived.Test.YtbagdlafpahgdaaGreatDoorRM32
import Derived.Test.YtbagdlafpahgdaaGreatDoorRM06
import Derived.Deep.LoopGhost
import Derived.Test.YtbagdlafpahgdaaGreatDoorRM33
import Derived.Test.YtbagdlafpahgdaaGreatDoorRM18
namespace Go.Proofs.YtbagdlafpahgdaaGreatDoor
set_option linter.unusedVariables false
set_option linter.unusedSimpArgs false
open Go.RowKit
set_option maxHeartbeats 1000000 in
theorem stamp_yes (t y m d r : Int) (w : World) (hl : HasLen w) (hp : HasPow w) (hv : Cal.Valid y m d) (h1 : 0 ≤ r) (h2 : r < 86400) (ht : 86400 * Cal.days y m d + r = t) :
    Calls Tryz.prog 16 #[.int .i64 t] w fun e w' => e = strInt (S (stampL y m d r)) 0 ∧ Gr w w' := by
  have hb := Cal.days_bd hv
  have hr : t % 86400 = r := by omega
  have hd : t / 86400 = Cal.days y m d := by omega
  have c1 := splitDay_any t w (by omega) (by omega)
  rw [hr, hd] at c1
  have v1 := hv.1
  have v2 := hv.2.1
  have v3 := hv.2.2.1
  have v4 := hv.2.2.2.1
  have v5 := hv.2.2.2.2.1
  have v6 : d ≤ 31 := by have := (Cal.ml_bd y v3 v4).2; have := hv.2.2.2.2.2; omega
  have q : Hid (r % 3600 / 60 = r / 60 % 60) := by unfold Hid; omega
  have hy := dz_d4 (n := y) (by omega) (by omega)
  have HY := Lib.hid hy
  have hyl : (dz y).length = 4 := by rw [hy]; rfl
  clear hr ht hd hb hy
  go_enter Tryz.func16, Tryz.ntmps16
  go_wp2_with fail
  refine c1.mono ?_
  rintro e w1 ⟨rfl, hg1⟩
  clear c1
  go_wp2_with fail
  refine (date_yes (Cal.days y m d) y m d w1 (hg1.len hl) hv rfl).mono ?_
  rintro e w2 ⟨rfl, rfl⟩
  go_wp2_with fail
  refine (itoa_any y w1 (by omega) (by omega) (hg1.pow hp)).mono ?_
  rintro e w3 ⟨rfl, hg3⟩
  go_wp2_with fail
  refine (twoDigits_any m w3 (by omega) (by omega)).mono ?_
  rintro e w4 ⟨rfl, hg4⟩
  go_wp2_with fail
  refine (twoDigits_any d w4 (by omega) (by omega)).mono ?_
  rintro e w5 ⟨rfl, hg5⟩
  go_wp2_with fail
  refine (twoDigits_any (r / 3600) w5 (by omega) (by omega)).mono ?_
  rintro e w6 ⟨rfl, hg6⟩
  go_wp2_with fail
  refine (twoDigits_any (r % 3600 / 60) w6 (by omega) (by omega)).mono ?_
  rintro e w7 ⟨rfl, hg7⟩
  go_wp2_with fail
  refine (twoDigits_any (r % 60) w7 (by omega) (by omega)).mono ?_
  rintro e w8 ⟨rfl, hg8⟩
  go_wp2_with fail
  go_ret2
  exact ⟨strInt_eq (by rw [HY.out, q.out]; unfold stampL; simp) rfl, (((((hg1.trans hg3).trans hg4).trans hg5).trans hg6).trans hg7).trans hg8⟩

set_option maxHeartbeats 400000 in
theorem stamp_no (t : Int) (w : World) (t1 : -9223372036854775808 ≤ t) (t2 : t ≤ 9223372036854775807) (h : ¬ (-135140 ≤ t / 86400 ∧ t / 86400 ≤ 157053)) :
    Calls Tryz.prog 16 #[.int .i64 t] w fun e w' => e = strInt (S []) 1 ∧ Gr w w' := by
  have c1 := splitDay_any t w t1 t2
  have c2 := fun w => date_no (t / 86400) w h
  have C2 := Lib.hid c2
  clear h c2
  generalize t / 86400 = q at c1 C2
  generalize t % 86400 = r at c1
  go_enter Tryz.func16, Tryz.ntmps16
  go_wp2_with fail
  refine c1.mono ?_
  rintro e w1 ⟨rfl, hg1⟩
  clear c1
  go_wp2_with fail
  refine (C2.out w1).mono ?_
  rintro e w2 ⟨rfl, hg2⟩
  go_wp2_with fail
  go_ret2
  exact ⟨rfl, by first | exact hg1.trans hg2 | (subst hg2; exact hg1)⟩
end Go.Proofs.YtbagdlafpahgdaaGreatDoor
namespace Go.Proofs.YtbagdlafpahgdaaGreatDoor
set_option linter.unusedVariables false
set_option linter.unusedSimpArgs false
open Go.RowKit
/-- what the walks read besides a book: the lengths of months, powers of ten, a length of the machine -/
def BkTab (w : World) : Prop := HasLen w ∧ HasPow w ∧ HasMax w
theorem Gr.bk {w w' : World} (g : Gr w w') (h : BkTab w) : BkTab w' := ⟨g.len h.1, g.pow h.2.1, g.max h.2.2⟩

theorem pstamp (t : Int) (w : World) (h : BkTab w) (t1 : -9223372036854775808 ≤ t) (t2 : t ≤ 9223372036854775807) :
    Calls Tryz.prog 16 #[.int .i64 t] w fun e w' => e = strInt (S (stampT t)) (tmC t) ∧ Gr w w' := by
  unfold tmC
  cases hb : tmB t with
  | true =>
    obtain ⟨y, m, d, r, hv, h1, h2, e, el⟩ := stampT_of hb
    rw [el]
    exact stamp_yes t y m d r w h.1 h.2.1 hv h1 h2 e
  | false =>
    rw [stampT_no hb]
    exact stamp_no t w t1 t2 (fun g => by rw [tmB_days.2 g] at hb; cases hb)

set_option maxHeartbeats 4000000 in
theorem pcheckUntil (A : Option Addr) (n c : Nat) (es : List EraD) (k : Nat) (w : World) (hn : es.length = n) (hl : n ≤ maxLen) (h : Row w 5 EraD.cells A es) (hi : ∀ e ∈ es, e.In) (hk : k < n) (ht : BkTab w) :
    Calls Tryz.prog 88 #[.slice A n c, .int .i64 k] w fun e w' => e = .returned (.int .i64 (untC es k)) ∧ Gr w w' := by
  unfold maxLen at hl
  obtain ⟨x, hx⟩ := get_lt (show k < es.length by omega)
  have U := Lib.hid (untC_at hx)
  have hI := hi x (get_mem hx)
  have KS := Lib.hid (fun w h => pstamp x.un w h hI.2.2.1 hI.2.2.2)
  have HT := Lib.hid ht
  have HB : Hid (0 < k → ∃ p, es[k - 1]? = some p ∧ befB es k x.un = decide (x.un ≤ p.un)) := fun h0 => by
    obtain ⟨j, rfl⟩ : ∃ j, k = j + 1 := ⟨k - 1, by omega⟩
    obtain ⟨p, hp⟩ := get_lt (show j < es.length by omega)
    exact ⟨p, hp, by simp only [befB, hp]⟩
  have HZ : Hid (k = 0 → befB es k x.un = false) := fun h0 => by subst h0; rfl
  have HR := Lib.hid h
  obtain ⟨off', ru, sv, fm, un⟩ := x
  obtain ⟨b, off, rfl, c0, c1, c2, c3, c4⟩ := h.five hx rfl (Gr.refl w)
  simp only at U KS HB HZ
  clear hx hi hI ht h
  have k0 : (0 : Int) ≤ (k : Int) := by omega
  have kn : (k : Int) < (n : Int) := by omega
  have HN := Lib.hid hn
  clear hn
  generalize untC es k = R at U ⊢
  by_cases hlast : k + 1 = n
  · have t1 : ((k : Int) == (n : Int) - 1) = true := beqT (by omega)
    by_cases hu : un = 0
    · have E : Hid (R = 0) := by unfold Hid; rw [U.out, if_pos (by rw [HN.out]; exact hlast), if_pos hu]
      have t2 := bneF hu
      clear U hlast hu
      go_enter Tryz.func88, Tryz.ntmps88
      go_wp2_with fail
      go_ret
      exact ⟨ret_int E.out.symm, Gr.refl _⟩
    · have E : Hid (R = 5) := by unfold Hid; rw [U.out, if_pos (by rw [HN.out]; exact hlast), if_neg hu]
      have t2 := bneT hu
      clear U hlast hu
      go_enter Tryz.func88, Tryz.ntmps88
      go_wp2_with fail
      go_ret
      exact ⟨ret_int E.out.symm, Gr.refl _⟩
  have t1 : ((k : Int) == (n : Int) - 1) = false := beqF (by omega)
  have U2 : Hid (R = if tmB un = false then 1 else if befB es k un = true then 5 else 0) := by unfold Hid; rw [U.out, if_neg (by rw [HN.out]; exact hlast)]
  clear U hlast
  unfold tmC at KS
  cases hb : tmB un with
  | false =>
    have E : Hid (R = 1) := by unfold Hid; rw [U2.out, if_pos hb]
    rw [hb] at KS
    clear U2 hb
    go_enter Tryz.func88, Tryz.ntmps88
    go_wp2_with fail
    refine (KS.out w HT.out).mono ?_
    rintro e w1 ⟨rfl, g1⟩
    go_wp2
    go_ret
    exact ⟨ret_int E.out.symm, g1⟩
  | true =>
  have U3 : Hid (R = if befB es k un = true then 5 else 0) := by unfold Hid; rw [U2.out, if_neg (by rw [hb]; simp)]
  rw [hb] at KS
  clear U2 hb
  by_cases h0 : 0 < k
  · have g0 : (0 : Int) < (k : Int) := by omega
    have g0' : decide ((0 : Int) < (k : Int)) = true := decide_eq_true g0
    obtain ⟨⟨poff, pru, psv, pfm, pun⟩, hp, eb⟩ := HB.out h0
    have eb' : befB es k un = decide (un ≤ pun) := eb
    have gw : ∀ W, Gr w W → W.cell? ⟨b, off + (k - 1) * 5 + 4, none⟩ = some (.int .i64 pun) := fun W g => by
      obtain ⟨b', off', e, d0, d1, d2, d3, d4⟩ := HR.out.five hp rfl g
      injection e with e; injection e with e1 e2; subst e1; subst e2
      exact d4
    have GW := Lib.hid gw
    have E : Hid (R = if decide (un ≤ pun) = true then 5 else 0) := by unfold Hid; rw [U3.out, eb']
    clear U3 hp eb eb' HB HZ HR gw
    have i1 : (0 : Int) ≤ (k : Int) - 1 := by omega
    have i2 : (k : Int) - 1 < (n : Int) := by omega
    have i3 : ((k : Int) - 1).toNat = k - 1 := by omega
    go_enter Tryz.func88, Tryz.ntmps88
    go_wp2_with fail
    refine (KS.out w HT.out).mono ?_
    rintro e w1 ⟨rfl, g1⟩
    have d4 := GW.out w1 g1
    obtain ⟨q, eq⟩ : ∃ q, decide (un ≤ pun) = q := ⟨_, rfl⟩
    rw [eq] at E
    cases q
    all_goals
      go_wp2
      go_ret
      exact ⟨ret_int E.out.symm, g1⟩
  · have g0 : ¬ (0 : Int) < (k : Int) := by omega
    have g0' : decide ((0 : Int) < (k : Int)) = false := decide_eq_false g0
    have E : Hid (R = 0) := by unfold Hid; rw [U3.out, HZ.out (by omega)]; rfl
    clear U3 HB HZ HR
    go_enter Tryz.func88, Tryz.ntmps88
    go_wp2_with fail
    refine (KS.out w HT.out).mono ?_
    rintro e w1 ⟨rfl, g1⟩
    go_wp2
    go_ret
    exact ⟨ret_int E.out.symm, g1⟩
end Go.Proofs.YtbagdlafpahgdaaGreatDoor
