/- What the reference's eraCheck returns. What the reference's eraCheck returns. -/
import Derived.Deep.QuietTactic
import Derived.BigQuiet
import Derived.Test.YtkmgildnhnjepaaGreatDoorTM26
import Derived.Test.YtkmgildnhnjepaaGreatDoorTM29
import Derived.Test.YtkmgildnhnjepaaGreatDoorTM07
namespace Go.Proofs.YtkmgildnhnjepaaGreatDoor
set_option linter.unusedVariables false
set_option linter.unusedSimpArgs false
open Go.RowKit
/-- the first error of the things of a list -/
def fxL {α : Type} (h : α → Int) (l : List α) (i : Nat) : Int := match l[i]? with
  | some x => h x
  | none => 0
theorem fxL_at {α : Type} {h : α → Int} {l : List α} {i : Nat} {x : α} (hx : l[i]? = some x) : fxL h l i = h x := by unfold fxL; rw [hx]
def feL {α : Type} (h : α → Int) (l : List α) : Int := fe (fxL h l) l.length
theorem feL_snoc {α : Type} (h : α → Int) (l : List α) (x : α) : feL h (l ++ [x]) = if feL h l = 0 then h x else feL h l := by
  have e : fe (fxL h (l ++ [x])) l.length = feL h l := fe_congr _ (fun i hi => by unfold fxL; rw [List.getElem?_append_left hi])
  unfold feL at e ⊢
  rw [List.length_append, List.length_singleton]
  show (if fe (fxL h (l ++ [x])) l.length = 0 then _ else _) = _
  rw [e]
  split
  · unfold fxL; simp
  · rfl
theorem feL_filter {α : Type} (h : α → Int) (p : α → Bool) (l : List α) : ∀ k, k ≤ l.length → feL (fun x => if p x = true then h x else 0) (l.take k) = feL h ((l.take k).filter p)
  | 0, _ => by simp [feL, fe]
  | k + 1, hk => by
    have ih := feL_filter h p l k (by omega)
    rw [List.take_succ_eq_append_getElem (by omega), feL_snoc, ih, List.filter_append]
    cases hp : p l[k] with
    | true =>
      rw [show [l[k]].filter p = [l[k]] by simp [hp], feL_snoc]
      simp [hp]
    | false =>
      rw [show [l[k]].filter p = [] by simp [hp], List.append_nil]
      simp
      intro e; exact e.symm
def dashR : RuD := ⟨.empty, 0, 0, 0, 0, 0, 0, 0, 0, 0, dash⟩
theorem hasR_iff (rs : List RuD) (nm : ByteArray) : hasR rs nm = false ↔ rusOf rs nm = [] := by
  unfold hasR rusOf
  rw [List.filter_eq_nil_iff, List.any_eq_false]
theorem rulC_nil {rs : List RuD} {e : EraD} (h : rusOf rs e.ru = []) : rulC rs e = 6 := by unfold rulC; rw [if_pos ((hasR_iff _ _).2 h)]
theorem rulC_list {rs : List RuD} {e : EraD} (h : rusOf rs e.ru ≠ []) : rulC rs e = feL (fun r => abbrC e.fm r.sv r.lt) (rusOf rs e.ru ++ [dashR]) := by
  have h1 := feL_filter (fun r : RuD => abbrC e.fm r.sv r.lt) (fun r => r.nm.toList == e.ru.toList) rs rs.length (Nat.le_refl _)
  rw [List.take_length] at h1
  unfold rulC
  rw [if_neg (fun g => h ((hasR_iff _ _).1 g)), feL_snoc]
  have h2 : fe (ruA rs e) rs.length = feL (fun r : RuD => abbrC e.fm r.sv r.lt) (rusOf rs e.ru) := by
    refine Eq.trans ?_ h1
    unfold feL
    exact fe_congr _ (fun i _ => by unfold ruA fxL; cases rs[i]? <;> rfl)
  rw [h2]
  rfl
theorem feL_hit {α : Type} {h : α → Int} {l : List α} {k : Nat} {x : α} (hx : l[k]? = some x) (h0 : fe (fxL h l) k = 0) (h1 : h x ≠ 0) : feL h l = h x := by
  have hk : k < l.length := (List.getElem?_eq_some_iff.1 hx).1
  have := fe_hit (f := fxL h l) h0 (by rw [fxL_at hx]; exact h1) l.length hk
  rw [fxL_at hx] at this
  exact this

set_option maxHeartbeats 1000000 in
theorem risTime (t : Int) (w : World) (t1 : -1099511627776 ≤ t) (t2 : t ≤ 1099511627776) :
    Calls Tryz.prog 24 #[.int .i64 t] w fun e w' => e = .returned (.bool (tmB t)) ∧ w = w' := by
  have K1 := fun w => yearDay_any 1600 w (by omega) (by omega)
  have K2 := fun w => yearDay_any 2400 w (by omega) (by omega)
  rw [Cal.ys_1600] at K1
  rw [Cal.ys_2400] at K2
  have KA := Lib.hid K1
  have KB := Lib.hid K2
  have T : Hid (tmB t = (decide (-11676096000 ≤ t) && decide (t < 13569465600))) := by
    unfold Hid tmB
    rw [Bool.eq_iff_iff]; simp; omega
  clear K1 K2
  generalize tmB t = R at T ⊢
  obtain ⟨p, ep⟩ : ∃ p, decide (-11676096000 ≤ t) = p := ⟨_, rfl⟩
  obtain ⟨q, eq⟩ : ∃ q, decide (t < 13569465600) = q := ⟨_, rfl⟩
  rw [ep, eq] at T
  cases p with
  | false =>
    go_enter Tryz.func24, Tryz.ntmps24
    go_wp2_with fail
    refine (KA.out w).mono ?_
    rintro e w1 ⟨rfl, rfl⟩
    go_wp2_with fail
    go_ret
    exact ⟨ret_bool T.out.symm, rfl⟩
  | true =>
    go_enter Tryz.func24, Tryz.ntmps24
    go_wp2_with fail
    refine (KA.out w).mono ?_
    rintro e w1 ⟨rfl, rfl⟩
    go_wp2_with fail
    refine (KB.out w).mono ?_
    rintro e w1 ⟨rfl, rfl⟩
    cases q
    all_goals
      go_wp2
      go_ret
      exact ⟨ret_bool T.out.symm, rfl⟩

end Go.Proofs.YtkmgildnhnjepaaGreatDoor
namespace Go.Proofs.YtkmgildnhnjepaaGreatDoor
set_option linter.unusedVariables false
set_option linter.unusedSimpArgs false
open Go.RowKit
set_option maxRecDepth 100000 in
set_option maxHeartbeats 16000000 in
theorem reraCheck (b : BokD) (A : Option Addr) (n c : Nat) (es : List EraD) (k : Nat) (w : World) (hb : RusAt w b.Ar b.cr b.rs) (h40 : b.rs.length ≤ 40) (hn : es.length = n) (hl : n ≤ maxLen) (h : Row w 5 EraD.cells A es) (hk : k < n) (hm : HasMax w) :
    Calls Tryz.prog 83 #[bookV b, .slice A n c, .int .i64 k] w fun e w' => e = .returned (.int .i64 (eraC b.rs es k)) ∧ Gr w w' := by
  obtain ⟨x, hx⟩ := get_lt (show k < es.length by omega)
  have EC := Lib.hid (eraC_at (rs := b.rs) hx)
  have KO := Lib.hid (fun nm w hb => rrulesOf b nm w hb h40)
  have hin : ∀ r ∈ b.rs, r.In := hb.2.2
  obtain ⟨Ar, cr, rs, Az, cz, zs, Al, cl, ls⟩ := b
  have HIN : Hid (∀ r ∈ rs, r.In) := hin
  have HRU : Hid (RusAt w Ar cr rs) := hb
  have HM := Lib.hid hm
  have HX := Lib.hid hx
  have HB : Hid (0 < k → ∃ p, es[k - 1]? = some p ∧ befB es k x.un = decide (x.un ≤ p.un)) := fun h0 => by
    obtain ⟨j, rfl⟩ : ∃ j, k = j + 1 := ⟨k - 1, by omega⟩
    obtain ⟨p, hp⟩ := get_lt (show j < es.length by omega)
    exact ⟨p, hp, by simp only [befB, hp]⟩
  have HZ : Hid (k = 0 → befB es k x.un = false) := fun h0 => by subst h0; rfl
  have HR := Lib.hid h
  obtain ⟨eo, ru, sv, fm, un⟩ := x
  have KA := Lib.hid (fun sv lt w hm hlt => rabbrAt fm sv lt w hm hlt)
  have KD := Lib.hid (fun w hm => rabbrDash fm sv w hm)
  have EA : Hid (eraA rs ⟨eo, ru, sv, fm, un⟩ = if eo < -64800 ∨ 64800 < eo ∨ svB sv = false then 1 else if ru.toList = [] then abbrC fm sv dash else if sv ≠ 0 then 5 else rulC rs ⟨eo, ru, sv, fm, un⟩) := rfl
  have RC : Hid (rusOf rs ru = [] → rulC rs ⟨eo, ru, sv, fm, un⟩ = 6) := fun h => rulC_nil h
  have RL : Hid (rusOf rs ru ≠ [] → rulC rs ⟨eo, ru, sv, fm, un⟩ = feL (fun r => abbrC fm r.sv r.lt) (rusOf rs ru ++ [dashR])) := fun h => rulC_list h
  have EC2 : Hid (eraC rs es k = if eraA rs ⟨eo, ru, sv, fm, un⟩ = 0 then untC es k else eraA rs ⟨eo, ru, sv, fm, un⟩) := EC.out
  simp only at HB HZ KO
  show Calls _ _ _ _ fun e w' => e = .returned (.int .i64 (eraC rs es k)) ∧ Gr w w'
  obtain ⟨R, hR⟩ : ∃ R, eraC rs es k = R := ⟨_, rfl⟩
  rw [hR]
  have ER : Hid (R = if eraA rs ⟨eo, ru, sv, fm, un⟩ = 0 then untC es k else eraA rs ⟨eo, ru, sv, fm, un⟩) := by unfold Hid; rw [← hR]; exact EC2.out
  generalize eraA rs ⟨eo, ru, sv, fm, un⟩ = ea at EA ER
  generalize rulC rs ⟨eo, ru, sv, fm, un⟩ = rc at EA RC RL
  have HL40 : rs.length ≤ 40 := h40
  clear EC EC2 hR hb h40 hx hm hin
  have B0 := Lib.hid (box_two w (.cells #[.slice Ar rs.length cr, .slice Az zs.length cz, .slice Al ls.length cl] 26) (.cells #[.int .i64 eo, .string ru, .int .i64 sv, .string fm, .int .i64 un] 59))
  obtain ⟨ab, ao, eA, c0, c1, c2, c3, c4⟩ := h.five HX.out rfl (Gr.alloc w (.cells #[.slice Ar rs.length cr, .slice Az zs.length cz, .slice Al ls.length cl] 26))
  subst eA
  unfold maxLen at hl
  clear h
  have kn : (k : Int) < (n : Int) := by omega
  have k0 : (0 : Int) ≤ (k : Int) := by omega
  go_enter Tryz.func83, Tryz.ntmps83
  go_wp2_with fail
  generalize (w.alloc (.cells #[.slice Ar rs.length cr, .slice Az zs.length cz, .slice Al ls.length cl] 26)).alloc (.cells #[.int .i64 eo, .string ru, .int .i64 sv, .string fm, .int .i64 un] 59) = w0 at B0 ⊢
  clear c0 c1 c2 c3 c4 kn k0
  generalize w.heap.size = q at B0 ⊢
  have G0 := Lib.hid B0.out.1
  have HB1 := Lib.hid B0.out.2.1
  have HB2 := Lib.hid B0.out.2.2
  clear B0
  have OUT : Hid (eo < -64800 ∨ 64800 < eo ∨ svB sv = false → R = 1) := fun h => by
    have : ea = 1 := by rw [EA.out, if_pos h]
    rw [ER.out, this]; rfl
  by_cases q1 : -64800 ≤ eo ∧ eo ≤ 64800
  case neg =>
    have E := Lib.hid (OUT.out (by omega))
    clear OUT EA ER
    refine (routside_out q1 _).mono ?_
    rintro e wz ⟨rfl, rfl⟩
    clear q1
    go_wp2_with fail
    go_ret
    exact ⟨ret_int E.out.symm, G0.out⟩
  refine (routside_in q1 _).mono ?_
  rintro e wz ⟨rfl, rfl⟩
  have y2 : w0.cell? ⟨q + 1, 2, none⟩ = some (.int .i64 sv) := bcell_row HB2.out rfl
  go_wp2_with fail
  by_cases q2 : 0 ≤ sv ∧ sv ≤ 10800
  case neg =>
    have E := Lib.hid (OUT.out (Or.inr (Or.inr (svB_no.2 (by omega)))))
    clear OUT EA ER
    refine (routside_out q2 _).mono ?_
    rintro e wz ⟨rfl, rfl⟩
    clear q1 q2
    go_wp2_with fail
    go_ret
    exact ⟨ret_int E.out.symm, G0.out⟩
  have EA2 : Hid (ea = if ru.toList = [] then abbrC fm sv dash else if sv ≠ 0 then 5 else rc) := by
    unfold Hid
    rw [EA.out, if_neg (fun h => by
      rcases h with h | h | h
      · omega
      · omega
      · have := svB_no.1 h; omega)]
  refine (routside_in q2 _).mono ?_
  rintro e wz ⟨rfl, rfl⟩
  clear OUT EA q1 q2
  have y1 : w0.cell? ⟨q + 1, 1, none⟩ = some (.string ru) := bcell_row HB2.out rfl
  by_cases hru : ru.toList = []
  · have EA3 : Hid (ea = abbrC fm sv dash) := by unfold Hid; rw [EA2.out, if_pos hru]
    obtain rfl := str_nil hru
    have y3 : w0.cell? ⟨q + 1, 3, none⟩ = some (.string fm) := bcell_row HB2.out rfl
    clear EA2 hru RC RL KO KA
    obtain ⟨t0, et0⟩ : ∃ t, (sv != 0) = t := ⟨_, rfl⟩
    cases t0
    all_goals
      go_wp2_with fail
      refine (KD.out w0 (G0.out.max HM.out)).mono ?_
      rintro e w1 ⟨rfl, g1⟩
      have G1 := Lib.hid (G0.out.trans g1)
      have D1 := Lib.hid (bheap_gr g1 HB2.out)
      clear et0
      have EA4 := EA3
      generalize abbrC fm sv dash = cc at EA4 ⊢
      by_cases hc : cc = 0
      case neg =>
        have E : Hid (R = cc) := by unfold Hid; rw [ER.out, EA4.out, if_neg hc]
        have tc := bneT hc
        clear ER EA4 EA3 hc y1 y2 y3
        go_wp2_with fail
        go_ret
        exact ⟨ret_int E.out.symm, G1.out⟩
      have RU : Hid (R = untC es k) := by unfold Hid; rw [ER.out, EA4.out, if_pos hc]
      have tc := bneF hc
      clear ER EA4 EA3 hc y1 y2 y3 G0 HB1 HB2 g1 KD
      have U := Lib.hid (RU.out.trans (untC_at HX.out))
      have HN := Lib.hid hn
      have kn : (k : Int) < (n : Int) := by omega
      have k0 : (0 : Int) ≤ (k : Int) := by omega
      have v4 : w1.cell? ⟨q + 1, 4, none⟩ = some (.int .i64 un) := bcell_row D1.out rfl
      by_cases hlast : k + 1 = n
      · have t1 : ((k : Int) == (n : Int) - 1) = true := beqT (by omega)
        by_cases hu : un = 0
        · have E : Hid (R = 0) := by unfold Hid; rw [U.out, if_pos (by rw [HN.out]; exact hlast), if_pos hu]
          have t2 := bneF hu
          clear U hlast hu hn
          go_wp2_with fail
          go_ret
          exact ⟨ret_int E.out.symm, G1.out⟩
        · have E : Hid (R = 5) := by unfold Hid; rw [U.out, if_pos (by rw [HN.out]; exact hlast), if_neg hu]
          have t2 := bneT hu
          clear U hlast hu hn
          go_wp2_with fail
          go_ret
          exact ⟨ret_int E.out.symm, G1.out⟩
      have t1 : ((k : Int) == (n : Int) - 1) = false := beqF (by omega)
      have U2 : Hid (R = if tmB un = false then 1 else if befB es k un = true then 5 else 0) := by unfold Hid; rw [U.out, if_neg (by rw [HN.out]; exact hlast)]
      clear U hlast hn
      go_wp2_with fail
      by_cases hub : -1099511627776 ≤ un ∧ un ≤ 1099511627776
      case neg =>
        have E : Hid (R = 1) := by unfold Hid; rw [U2.out, if_pos (tmB_no.2 (by omega))]
        clear U2
        refine (routside_out hub _).mono ?_
        rintro e wz ⟨rfl, rfl⟩
        clear hub
        go_wp2_with fail
        go_ret
        exact ⟨ret_int E.out.symm, G1.out⟩
      have KI := Lib.hid (fun w => risTime un w hub.1 hub.2)
      refine (routside_in hub _).mono ?_
      rintro e wz ⟨rfl, rfl⟩
      clear hub
      go_wp2_with fail
      generalize tmB un = bt at KI U2
      refine (KI.out _).mono ?_
      rintro e wz ⟨rfl, rfl⟩
      cases bt with
      | false =>
        have E : Hid (R = 1) := by unfold Hid; rw [U2.out, if_pos rfl]
        clear U2
        go_wp2_with fail
        go_ret
        exact ⟨ret_int E.out.symm, G1.out⟩
      | true =>
      have U3 : Hid (R = if befB es k un = true then 5 else 0) := by unfold Hid; rw [U2.out, if_neg (by simp)]
      clear U2 KI
      by_cases h0 : 0 < k
      · have g0 : (0 : Int) < (k : Int) := by omega
        have g0' : decide ((0 : Int) < (k : Int)) = true := decide_eq_true g0
        obtain ⟨⟨poff, pru, psv, pfm, pun⟩, hp, eb⟩ := HB.out h0
        have eb' : befB es k un = decide (un ≤ pun) := eb
        obtain ⟨pb, po, ePA, d0, d1, d2, d3, d4⟩ := HR.out.five hp rfl G1.out
        injection ePA with ePA; injection ePA with e1 e2; subst e1; subst e2
        have E : Hid (R = if decide (un ≤ pun) = true then 5 else 0) := by unfold Hid; rw [U3.out, eb']
        clear U3 hp eb eb' HB HZ d0 d1 d2 d3
        have i1 : (0 : Int) ≤ (k : Int) - 1 := by omega
        have i2 : (k : Int) - 1 < (n : Int) := by omega
        have i3 : ((k : Int) - 1).toNat = k - 1 := by omega
        obtain ⟨p, ep⟩ : ∃ p, decide (un ≤ pun) = p := ⟨_, rfl⟩
        rw [ep] at E
        go_wp2_with fail
        go_quiet (fail)
        cases p
        all_goals
          go_wp2
          go_ret
          exact ⟨ret_int E.out.symm, G1.out.drewN _⟩
      · have g0 : ¬ (0 : Int) < (k : Int) := by omega
        have g0' : decide ((0 : Int) < (k : Int)) = false := decide_eq_false g0
        have E : Hid (R = 0) := by unfold Hid; rw [U3.out, HZ.out (by omega)]; rfl
        clear U3 HB HZ
        go_wp2_with fail
        go_quiet (fail)
        go_wp2
        go_ret
        exact ⟨ret_int E.out.symm, G1.out.drewN _⟩
  obtain ⟨n1, n2, n3⟩ := str_nonnil hru
  have n4 : ru.toList.isEmpty = false := by cases hq : ru.toList with | nil => exact absurd hq hru | cons a b => rfl
  have n5 : (!ru.toList.isEmpty) = true := by rw [n4]; rfl
  by_cases h0 : sv = 0
  case neg =>
    have E : Hid (R = 5) := by
      have : ea = 5 := by rw [EA2.out, if_neg hru, if_pos h0]
      unfold Hid; rw [ER.out, this]; rfl
    have t0 := bneT h0
    clear EA2 ER h0
    go_wp2_with fail
    go_ret
    exact ⟨ret_int E.out.symm, G0.out⟩
  have ER2 : Hid (R = if rc = 0 then untC es k else rc) := by
    have : ea = rc := by rw [EA2.out, if_neg hru, if_neg (by simp [h0])]
    unfold Hid; rw [ER.out, this]
  have t0 := bneF h0
  have z0 : w0.cell? ⟨q, 0, none⟩ = some (.slice Ar rs.length cr) := bcell_row HB1.out rfl
  have z1 : w0.cell? ⟨q, 1, none⟩ = some (.slice Az zs.length cz) := bcell_row HB1.out rfl
  have z2 : w0.cell? ⟨q, 2, none⟩ = some (.slice Al ls.length cl) := bcell_row HB1.out rfl
  clear EA2 ER h0 hru
  go_wp2_with fail
  clear z0 z1 z2 y1 y2 n1 n2 n3 n4 n5 t0
  refine (KO.out ru w0 (HRU.out.gr G0.out)).mono ?_
  rintro e w1 ⟨v, rfl, ho, g1⟩
  have G1 := Lib.hid (G0.out.trans g1)
  have D1 := Lib.hid (bheap_gr g1 HB2.out)
  have HG := Lib.hid g1
  have HO := Lib.hid ho
  obtain ⟨vA, vc, rfl, hvl, hvc, _⟩ := ho.form
  have LN : Hid ((rusOf rs ru).length ≤ 40) := Nat.le_trans (rusOf_len rs ru) HL40
  have MIN : Hid (∀ r ∈ rusOf rs ru, r.In) := fun r hr => HIN.out r (List.mem_filter.1 hr).1
  have HG0 := Lib.hid G0.out
  clear ho g1 KO HB1 G0
  generalize rusOf rs ru = M at RC RL HO LN MIN hvl
  by_cases hM : M.length = 0
  · have E : Hid (R = 6) := by
      have : rc = 6 := RC.out (List.length_eq_zero_iff.1 hM)
      unfold Hid; rw [ER2.out, this]; rfl
    have tm : ((M.length : Int) == 0) = true := beqT (by omega)
    clear ER2 RC RL hM
    go_wp2_with fail
    go_ret
    exact ⟨ret_int E.out.symm, G1.out⟩
  have tm : ((M.length : Int) == 0) = false := beqF (by omega)
  have RL2 := Lib.hid (RL.out (fun e => hM (by rw [e]; rfl)))
  obtain ⟨i0, hi, hz0, hz1, hz2⟩ := info_parts infoRule
  have I1 := Lib.hid hi
  have I2 := Lib.hid hz0
  have I3 := Lib.hid hz1
  have I4 := Lib.hid hz2
  have OW : Hid (Own (w1.alloc (.cells #[.string ⟨#[]⟩, .int .i64 0, .int .i64 0, .int .i64 0, .int .i64 0, .int .i64 0, .int .i64 0, .int .i64 0, .int .i64 0, .int .i64 0, .string ⟨#[45]⟩] 118)) w0.heap.size 118 11 RuD.cells (.slice vA M.length vc) M) := HO.out.gr (Gr.alloc _ _)
  have NB : Hid ((w1.alloc (.cells #[.string ⟨#[]⟩, .int .i64 0, .int .i64 0, .int .i64 0, .int .i64 0, .int .i64 0, .int .i64 0, .int .i64 0, .int .i64 0, .int .i64 0, .string ⟨#[45]⟩] 118)).heap[w1.heap.size]? = some (.cells #[.string ⟨#[]⟩, .int .i64 0, .int .i64 0, .int .i64 0, .int .i64 0, .int .i64 0, .int .i64 0, .int .i64 0, .int .i64 0, .int .i64 0, .string ⟨#[45]⟩] 118)) := bheap_new _ _
  have GB : Hid (Gr w0 (w1.alloc (.cells #[.string ⟨#[]⟩, .int .i64 0, .int .i64 0, .int .i64 0, .int .i64 0, .int .i64 0, .int .i64 0, .int .i64 0, .int .i64 0, .int .i64 0, .string ⟨#[45]⟩] 118))) := HG.out.alloc' _
  have mle := LN.out
  clear hi hz0 hz1 hz2 RC RL hM
  go_wp2_with (at_builtin; refine wpList_append_lies _ (by rfl) _ _ 22 (by rfl) w0.heap.size 118 i0 (.agg #[.string .empty, .int .i64 0, .int .i64 0, .int .i64 0, .int .i64 0, .int .i64 0, .int .i64 0, .int .i64 0, .int .i64 0, .int .i64 0, .string .empty]) 11 104 Tryz.underlying22 I1.out I2.out I3.out I4.out (by rfl) (by omega) (.slice vA M.length vc) M.length (M.flatMap RuD.cells) (by rfl) OW.out ⟨w1.heap.size, 0, none⟩ 1 1 [.string ⟨#[]⟩, .int .i64 0, .int .i64 0, .int .i64 0, .int .i64 0, .int .i64 0, .int .i64 0, .int .i64 0, .int .i64 0, .int .i64 0, .string ⟨#[45]⟩] (by rfl) (by rfl) (World.news_of_block NB.out) (ru_one dashR) (by omega) (by unfold maxLen; omega) (by omega) (Below.size GB.out) (w1.heap.size + 1) (by simp) ?_; intro g cap w2 hown hgrow hat hlt3)
  have OW2 : Hid (Own w2 w0.heap.size 118 11 RuD.cells (.slice (some ⟨g, 0, none⟩) (M.length + 1) cap) (M ++ [dashR])) := own_more rfl hown
  have G2 : Hid (Gr w0 w2) := grown_gr GB.out hgrow (own_base OW.out)
  have D2 := Lib.hid (bheap_gr G2.out HB2.out)
  have G3 := Lib.hid (HG0.out.trans G2.out)
  have ROW : Hid (Row w2 11 RuD.cells (some ⟨g, 0, none⟩) (M ++ [dashR])) := OW2.out.row ru_len
  have LL : Hid ((M ++ [dashR]).length = M.length + 1) := by simp [Hid]
  have LIN : Hid (∀ r ∈ M ++ [dashR], r.In) := fun r hr => by
    rcases List.mem_append.1 hr with h | h
    · exact MIN.out r h
    · rw [List.mem_singleton.1 h]; exact ⟨by decide, by decide⟩
  clear OW2 G2 OW GB hown hgrow hat hlt3 NB HO HG I1 I2 I3 I4 D1 G1 MIN HG0 HB2 tm
  generalize (some (Addr.mk g 0 none) : Option Addr) = GA at ROW ⊢
  have F0 : Hid (fe (fxL (fun r : RuD => abbrC fm r.sv r.lt) (M ++ [dashR])) 0 = 0) := rfl
  have FS : Hid (∀ j r, (M ++ [dashR])[j]? = some r → fe (fxL (fun r : RuD => abbrC fm r.sv r.lt) (M ++ [dashR])) j = 0 → abbrC fm r.sv r.lt = 0 → fe (fxL (fun r : RuD => abbrC fm r.sv r.lt) (M ++ [dashR])) (j + 1) = 0) := fun j r hr h0 h1 => fe_step h0 (by rw [fxL_at hr]; exact h1)
  have FH : Hid (∀ j r, (M ++ [dashR])[j]? = some r → fe (fxL (fun r : RuD => abbrC fm r.sv r.lt) (M ++ [dashR])) j = 0 → abbrC fm r.sv r.lt ≠ 0 → R = abbrC fm r.sv r.lt) := fun j r hr h0 h1 => by
    have e := RL2.out.trans (feL_hit (h := fun r : RuD => abbrC fm r.sv r.lt) hr h0 h1)
    rw [ER2.out, e, if_neg h1]
  have FE : Hid (fe (fxL (fun r : RuD => abbrC fm r.sv r.lt) (M ++ [dashR])) (M.length + 1) = 0 → R = untC es k) := fun h0 => by
    have e : rc = 0 := by rw [RL2.out]; unfold feL; rw [LL.out]; exact h0
    rw [ER2.out, if_pos e]
  clear ER2 RL2
  generalize fe (fxL (fun r : RuD => abbrC fm r.sv r.lt) (M ++ [dashR])) = ff at F0 FS FH FE
  generalize M ++ [dashR] = L at ROW LL LIN FS FH
  rw [show ((M.length : Int) + 1) = ((M.length + 1 : Nat) : Int) by omega]
  have nn41 : M.length + 1 ≤ 41 := by omega
  generalize M.length + 1 = NN at LL FE nn41 ⊢
  go_loopw [61] (fun i W => ∃ j : Nat, j ≤ NN ∧ i = .int .i64 j ∧ Hid (ff j = 0) ∧ Hid (Gr w2 W)) (fun i W => NN - (intOf i).toNat)
  case atStart => exact ⟨0, Nat.zero_le _, rfl, F0, Gr.refl _⟩
  case round =>
    obtain ⟨j, hj, rfl, hf, hg⟩ := hrel
    have GR := Lib.hid (G3.out.trans hg.out)
    have D3 := Lib.hid (bheap_gr hg.out D2.out)
    by_cases hlt : j < NN
    · obtain ⟨r, hr⟩ := get_lt (show j < L.length by rw [LL.out]; exact hlt)
      have hin := LIN.out r (get_mem hr)
      have FK := Lib.hid (FS.out j r hr hf.out)
      have HK := Lib.hid (FH.out j r hr hf.out)
      have KF := Lib.hid (fun w hm => KA.out r.sv r.lt w hm hin.2)
      obtain ⟨rnm, fr, tt, mo, rk, rd, rn, at', by', rsv, lt⟩ := r
      obtain ⟨rb, ro, rfl, c0, c1, c2, c3, c4, c5, c6, c7, c8, c9, c10⟩ := ROW.out.eleven hr rfl hg.out
      have HNB := Lib.hid (box_one wr (.cells #[.string rnm, .int .i64 fr, .int .i64 tt, .int .i64 mo, .int .i64 rk, .int .i64 rd, .int .i64 rn, .int .i64 at', .int .i64 by', .int .i64 rsv, .string lt] 118))
      have y3 : wr.cell? ⟨q + 1, 3, none⟩ = some (.string fm) := bcell_row D3.out rfl
      have qq : q + 1 < wr.heap.size := World.block_lt_of_cell? wr ⟨q + 1, 3, none⟩ y3
      have qn : ¬ q + 1 = wr.heap.size := by omega
      simp only at FK HK KF
      clear hr hin FS FH LIN KA KD FE
      go_wp2_with fail
      clear c0 c1 c2 c3 c4 c5 c6 c7 c8 c9 c10 y3 qq qn
      generalize wr.alloc (.cells #[.string rnm, .int .i64 fr, .int .i64 tt, .int .i64 mo, .int .i64 rk, .int .i64 rd, .int .i64 rn, .int .i64 at', .int .i64 by', .int .i64 rsv, .string lt] 118) = w3 at HNB ⊢
      refine (KF.out w3 ((GR.out.trans HNB.out.1).max HM.out)).mono ?_
      rintro e w4 ⟨rfl, g4⟩
      clear KF
      generalize abbrC fm rsv lt = cc at FK HK ⊢
      by_cases hc : cc = 0
      · have t0 := bneF hc
        have FK2 := Lib.hid (FK.out hc)
        clear HK hc FK
        go_wp2_with fail
        go_roundw
        case rel => exact ⟨j + 1, by omega, by go_num, FK2, (hg.out.trans HNB.out.1).trans g4⟩
        case measure => simp [intOf]; omega
      · have t0 := bneT hc
        have E := Lib.hid (HK.out hc)
        clear HK hc FK
        go_wp2_with fail
        go_ret
        exact ⟨ret_int E.out.symm, (GR.out.trans HNB.out.1).trans g4⟩
    · have e : j = NN := by omega
      have RU : Hid (R = untC es k) := FE.out (by rw [← e]; exact hf.out)
      clear e hf FE FS FH LIN KA KD F0
      have U := Lib.hid (RU.out.trans (untC_at HX.out))
      have HN := Lib.hid hn
      have kn : (k : Int) < (n : Int) := by omega
      have k0 : (0 : Int) ≤ (k : Int) := by omega
      have v4 : wr.cell? ⟨q + 1, 4, none⟩ = some (.int .i64 un) := bcell_row D3.out rfl
      by_cases hlast : k + 1 = n
      · have t1 : ((k : Int) == (n : Int) - 1) = true := beqT (by omega)
        by_cases hu : un = 0
        · have E : Hid (R = 0) := by unfold Hid; rw [U.out, if_pos (by rw [HN.out]; exact hlast), if_pos hu]
          have t2 := bneF hu
          clear U hlast hu hn
          go_wp2_with fail
          go_ret
          exact ⟨ret_int E.out.symm, GR.out⟩
        · have E : Hid (R = 5) := by unfold Hid; rw [U.out, if_pos (by rw [HN.out]; exact hlast), if_neg hu]
          have t2 := bneT hu
          clear U hlast hu hn
          go_wp2_with fail
          go_ret
          exact ⟨ret_int E.out.symm, GR.out⟩
      have t1 : ((k : Int) == (n : Int) - 1) = false := beqF (by omega)
      have U2 : Hid (R = if tmB un = false then 1 else if befB es k un = true then 5 else 0) := by unfold Hid; rw [U.out, if_neg (by rw [HN.out]; exact hlast)]
      clear U hlast hn
      go_wp2_with fail
      by_cases hub : -1099511627776 ≤ un ∧ un ≤ 1099511627776
      case neg =>
        have E : Hid (R = 1) := by unfold Hid; rw [U2.out, if_pos (tmB_no.2 (by omega))]
        clear U2
        refine (routside_out hub _).mono ?_
        rintro e wz ⟨rfl, rfl⟩
        clear hub
        go_wp2_with fail
        go_ret
        exact ⟨ret_int E.out.symm, GR.out⟩
      have KI := Lib.hid (fun w => risTime un w hub.1 hub.2)
      refine (routside_in hub _).mono ?_
      rintro e wz ⟨rfl, rfl⟩
      clear hub
      go_wp2_with fail
      generalize tmB un = bt at KI U2
      refine (KI.out _).mono ?_
      rintro e wz ⟨rfl, rfl⟩
      cases bt with
      | false =>
        have E : Hid (R = 1) := by unfold Hid; rw [U2.out, if_pos rfl]
        clear U2
        go_wp2_with fail
        go_ret
        exact ⟨ret_int E.out.symm, GR.out⟩
      | true =>
      have U3 : Hid (R = if befB es k un = true then 5 else 0) := by unfold Hid; rw [U2.out, if_neg (by simp)]
      clear U2 KI
      by_cases h0 : 0 < k
      · have g0 : (0 : Int) < (k : Int) := by omega
        have g0' : decide ((0 : Int) < (k : Int)) = true := decide_eq_true g0
        obtain ⟨⟨poff, pru, psv, pfm, pun⟩, hp, eb⟩ := HB.out h0
        have eb' : befB es k un = decide (un ≤ pun) := eb
        obtain ⟨pb, po, ePA, d0, d1, d2, d3, d4⟩ := HR.out.five hp rfl GR.out
        injection ePA with ePA; injection ePA with e1 e2; subst e1; subst e2
        have E : Hid (R = if decide (un ≤ pun) = true then 5 else 0) := by unfold Hid; rw [U3.out, eb']
        clear U3 hp eb eb' HB HZ d0 d1 d2 d3
        have i1 : (0 : Int) ≤ (k : Int) - 1 := by omega
        have i2 : (k : Int) - 1 < (n : Int) := by omega
        have i3 : ((k : Int) - 1).toNat = k - 1 := by omega
        obtain ⟨p, ep⟩ : ∃ p, decide (un ≤ pun) = p := ⟨_, rfl⟩
        rw [ep] at E
        go_wp2_with fail
        go_quiet (fail)
        cases p
        all_goals
          go_wp2
          go_ret
          exact ⟨ret_int E.out.symm, GR.out.drewN _⟩
      · have g0 : ¬ (0 : Int) < (k : Int) := by omega
        have g0' : decide ((0 : Int) < (k : Int)) = false := decide_eq_false g0
        have E : Hid (R = 0) := by unfold Hid; rw [U3.out, HZ.out (by omega)]; rfl
        clear U3 HB HZ
        go_wp2_with fail
        go_quiet (fail)
        go_wp2
        go_ret
        exact ⟨ret_int E.out.symm, GR.out.drewN _⟩
end Go.Proofs.YtkmgildnhnjepaaGreatDoor
