/- The reference's TableCheck and TableOf. -/
import Derived.BigQuiet
import Derived.Deep.QuietTactic
import Derived.Test.YtkmgildnhnjepaaPM07
import Derived.Test.YtkmgildnhnjepaaPM08
import Derived.Test.YtkmgildnhnjepaaPM03
import Derived.Test.YtkmgildnhnjepaaPM02
namespace Go.Proofs.Ytkmgildnhnjepaa
set_option linter.unusedVariables false
set_option linter.unusedSimpArgs false
open Go.RowKit
set_option maxRecDepth 100000 in
set_option maxHeartbeats 8000000 in
theorem rtabCheck (A : Option Addr) (c : Nat) (ty : List TypD) (f : Int) (B : Option Addr) (d : Nat) (ch : List ChaD) (w : World) (hr : Row w 3 TypD.cells A ty) (hi : ∀ x ∈ ty, x.In) (hr2 : Row w 2 ChaD.cells B ch) :
    Calls Try.prog 6 #[.agg #[.slice A ty.length c, .int .i64 f, .slice B ch.length d]] w fun e w' => e = .returned (.int .i64 (tabC ty f ch)) ∧ Gr w w' := by
  have HR := Lib.hid hr
  have HI := Lib.hid hi
  have HB := Lib.hid hr2
  have KA := Lib.hid (fun s w h => isAbbr_any s w h)
  have TC : Hid (tabC ty f ch = if 250 < ty.length ∨ 1000 < ch.length then 2 else if ty.length = 0 then 5 else if fe (tyC ty) ty.length ≠ 0 then fe (tyC ty) ty.length else if f < 0 ∨ (ty.length : Int) - 1 < f then 1 else fe (chC ty.length ch) ch.length) := rfl
  generalize tabC ty f ch = R at TC ⊢
  obtain ⟨m, hmm⟩ : ∃ m, ch.length = m := ⟨_, rfl⟩
  obtain ⟨n, hnn⟩ : ∃ n, ty.length = n := ⟨_, rfl⟩
  have HL := Lib.hid hnn
  have HM := Lib.hid hmm
  rw [hnn, hmm] at TC ⊢
  have B0 := Lib.hid (box_one w (.cells #[.slice A n c, .int .i64 f, .slice B m d] 25))
  clear hr hi hr2 hmm hnn
  have G2 := Lib.hid B0.out.1
  by_cases h1 : 250 < n
  · have E : Hid (R = 2) := by unfold Hid; rw [TC.out, if_pos (Or.inl h1)]
    have t1 : decide ((250 : Int) < (n : Int)) = true := ltT (by omega)
    have t1' : (250 : Int) < (n : Int) := by omega
    clear TC h1
    go_enter Try.func6, Try.ntmps6
    go_wp2_with fail
    go_ret
    exact ⟨ret_int E.out.symm, G2.out⟩
  have t1 : decide ((250 : Int) < (n : Int)) = false := ltF (by omega)
  have t1' : ¬ ((250 : Int) < (n : Int)) := by omega
  by_cases h2 : 1000 < m
  · have E : Hid (R = 2) := by unfold Hid; rw [TC.out, if_pos (Or.inr h2)]
    have t2 : decide ((1000 : Int) < (m : Int)) = true := ltT (by omega)
    have t2' : (1000 : Int) < (m : Int) := by omega
    clear TC h1 h2
    go_enter Try.func6, Try.ntmps6
    go_wp2_with fail
    go_ret
    exact ⟨ret_int E.out.symm, G2.out⟩
  have t2 : decide ((1000 : Int) < (m : Int)) = false := ltF (by omega)
  have t2' : ¬ ((1000 : Int) < (m : Int)) := by omega
  have TC1 : Hid (R = if n = 0 then 5 else if fe (tyC ty) n ≠ 0 then fe (tyC ty) n else if f < 0 ∨ (n : Int) - 1 < f then 1 else fe (chC n ch) m) := by unfold Hid; rw [TC.out, if_neg (by omega)]
  have HN : Hid (n ≤ 250 ∧ m ≤ 1000) := by unfold Hid; omega
  clear TC h1 h2
  by_cases hz : n = 0
  · have E : Hid (R = 5) := by unfold Hid; rw [TC1.out, if_pos hz]
    have t0 : ((n : Int) == 0) = true := beqT (by omega)
    clear TC1 hz
    go_enter Try.func6, Try.ntmps6
    go_wp2_with fail
    go_ret
    exact ⟨ret_int E.out.symm, G2.out⟩
  have t0 : ((n : Int) == 0) = false := beqF (by omega)
  have TC2 : Hid (R = if fe (tyC ty) n ≠ 0 then fe (tyC ty) n else if f < 0 ∨ (n : Int) - 1 < f then 1 else fe (chC n ch) m) := by unfold Hid; rw [TC1.out, if_neg hz]
  have N0 : Hid (0 < n) := Nat.pos_of_ne_zero hz
  clear TC1 hz
  go_enter Try.func6, Try.ntmps6
  go_wp2_with fail
  generalize w.alloc (.cells #[.slice A n c, .int .i64 f, .slice B m d] 25) = w1 at B0 G2 ⊢
  generalize w.heap.size = q at B0 ⊢
  have HQ2 := Lib.hid B0.out.2
  clear t0 t1 t2 t1' t2' B0
  have n9 : n ≤ 250 := HN.out.1
  go_loopw [25] (fun i W => ∃ k : Nat, k ≤ n ∧ i = .int .i64 k ∧ Hid (fe (tyC ty) k = 0) ∧ Hid (Gr w1 W)) (fun i W => n - (intOf i).toNat)
  case atStart => exact ⟨0, Nat.zero_le _, rfl, rfl, Gr.refl _⟩
  case round =>
    obtain ⟨k, hk, rfl, hf, hg⟩ := hrel
    by_cases hlt : k < n
    · obtain ⟨⟨o, s, y⟩, hx⟩ := get_lt (show k < ty.length by rw [HL.out]; exact hlt)
      obtain ⟨b, off, rfl, c0, c1, c2⟩ := HR.out.three hx rfl (G2.out.trans hg.out)
      have YI := Lib.hid (HI.out _ (get_mem hx)).1
      have CE : Hid (tyC ty k = if o < -75600 ∨ 75600 < o then 1 else if isAbbrB y.toList = false then 3 else 0) := tyC_at hx
      have HIT : Hid (∀ e, tyC ty k = e → e ≠ 0 → R = e) := fun e h1 h2 => by
        have := fe_hit hf.out (by rw [h1]; exact h2) n hlt
        rw [TC2.out, if_pos (by rw [this, h1]; exact h2), this, h1]
      have NB := Lib.hid (box_one wr (.cells #[.int .i64 o, .bool s, .string y] 30))
      have GW := Lib.hid (G2.out.trans (hg.out.trans NB.out.1))
      have GW1 := Lib.hid (hg.out.trans NB.out.1)
      clear hx
      simp only at YI
      go_wp2_with fail
      generalize wr.alloc (.cells #[.int .i64 o, .bool s, .string y] 30) = w3 at NB GW GW1 ⊢
      generalize wr.heap.size = qc at NB ⊢
      have z0 : w3.cell? ⟨qc, 0, none⟩ = some (.int .i64 o) := bcell_row NB.out.2 rfl
      have z1 : w3.cell? ⟨qc, 1, none⟩ = some (.bool s) := bcell_row NB.out.2 rfl
      have z2 : w3.cell? ⟨qc, 2, none⟩ = some (.string y) := bcell_row NB.out.2 rfl
      go_wp2_with fail
      by_cases b1 : -75600 ≤ o ∧ o ≤ 75600
      case neg =>
        have E := Lib.hid (HIT.out 1 (by rw [CE.out, if_pos (by omega)]) (by decide))
        refine (routside_out b1 _).mono ?_
        rintro e wx ⟨rfl, rfl⟩
        clear b1 CE HIT
        go_wp2_with fail
        go_ret
        exact ⟨ret_int E.out.symm, GW.out⟩
      have CE2 : Hid (tyC ty k = if isAbbrB y.toList = false then 3 else 0) := by unfold Hid; rw [CE.out, if_neg (by omega)]
      refine (routside_in b1 _).mono ?_
      rintro e wx ⟨rfl, rfl⟩
      clear b1 CE
      go_wp2_with fail
      refine (KA.out y w3 YI.out).mono ?_
      rintro e w4 ⟨rfl, g4⟩
      have GX := Lib.hid (GW.out.trans g4)
      have GX1 := Lib.hid (GW1.out.trans g4)
      clear g4 z0 z1 z2 NB
      cases ia : isAbbrB y.toList with
      | false =>
        have E := Lib.hid (HIT.out 3 (by rw [CE2.out, if_pos ia]) (by decide))
        clear CE2 HIT ia
        go_wp2_with fail
        go_ret
        exact ⟨ret_int E.out.symm, GX.out⟩
      | true =>
        have E := Lib.hid (fe_step hf.out (by rw [CE2.out, if_neg (by rw [ia]; decide)]))
        clear CE2 HIT ia
        go_wp2_with fail
        go_roundw
        case rel => exact ⟨k + 1, by omega, by go_num, E.out, GX1.out⟩
        case measure => simp [intOf]; omega
    · obtain rfl : k = n := by omega
      have TC3 : Hid (R = if f < 0 ∨ (k : Int) - 1 < f then 1 else fe (chC k ch) m) := by unfold Hid; rw [TC2.out, if_neg (by rw [hf.out]; simp)]
      have HQ3 := Lib.hid (bheap_gr hg.out HQ2.out)
      have G3 := Lib.hid (G2.out.trans hg.out)
      have i4 : IntKind.i64.wrap ((k : Int) - 1) = (k : Int) - 1 := IntWalk.i64_in _ (by omega)
      clear TC2 hf hg hlt
      have x0 : wr.cell? ⟨q, 0, none⟩ = some (.slice A k c) := bcell_row HQ3.out rfl
      have x1 : wr.cell? ⟨q, 1, none⟩ = some (.int .i64 f) := bcell_row HQ3.out rfl
      have x2 : wr.cell? ⟨q, 2, none⟩ = some (.slice B m d) := bcell_row HQ3.out rfl
      go_wp2_with fail
      by_cases hx : 0 ≤ f ∧ f ≤ (k : Int) - 1
      case neg =>
        have E : Hid (R = 1) := by unfold Hid; rw [TC3.out, if_pos (by omega)]
        refine (routside_out hx _).mono ?_
        rintro e wx ⟨rfl, rfl⟩
        clear TC3 hx
        go_wp2_with fail
        go_ret
        exact ⟨ret_int E.out.symm, G3.out⟩
      have TC4 : Hid (R = fe (chC k ch) m) := by unfold Hid; rw [TC3.out, if_neg (by omega)]
      refine (routside_in hx _).mono ?_
      rintro e wx ⟨rfl, rfl⟩
      clear TC3 hx
      go_wp2_with fail
      clear x0 x1 x2
      have m9 : m ≤ 1000 := HN.out.2
      generalize wr = w4 at HQ3 G3 ⊢
      go_loopw [48] (fun i W => ∃ j : Nat, j ≤ m ∧ i = .int .i64 j ∧ Hid (fe (chC k ch) j = 0) ∧ Hid (Gr w4 W)) (fun i W => m - (intOf i).toNat)
      case atStart => exact ⟨0, Nat.zero_le _, rfl, rfl, Gr.refl _⟩
      case round =>
        obtain ⟨j, hj, rfl, hf, hg⟩ := hrel
        by_cases hlt : j < m
        · obtain ⟨⟨ca, ct⟩, hx⟩ := get_lt (show j < ch.length by rw [HM.out]; exact hlt)
          obtain ⟨b, off, rfl, c0, c1⟩ := HB.out.two hx rfl (G3.out.trans hg.out)
          have CE := Lib.hid (chC_at (n := k) hx)
          have HIT : Hid (∀ e, chC k ch j = e → e ≠ 0 → R = e) := fun e h1 h2 => by rw [TC4.out, ← h1]; exact fe_hit hf.out (by rw [h1]; exact h2) m hlt
          have NB := Lib.hid (box_one wr (.cells #[.int .i64 ca, .int .i64 ct] 39))
          have HQ := Lib.hid (bheap_gr (hg.out.trans NB.out.1) HQ3.out)
          have GW := Lib.hid ((G3.out.trans hg.out).trans NB.out.1)
          have GW1 := Lib.hid (hg.out.trans NB.out.1)
          have HPRE : Hid (0 < j → ∃ p, ch[j - 1]? = some p ∧ preB ch j ca = decide (ca ≤ p.at')) := fun h0 => by
            obtain ⟨i, rfl⟩ : ∃ i, j = i + 1 := ⟨j - 1, by omega⟩
            obtain ⟨p, hp⟩ := get_lt (show i < ch.length by rw [HM.out]; omega)
            exact ⟨p, hp, preB_succ ca hp⟩
          have HPZ : Hid (j = 0 → preB ch j ca = false) := fun h0 => by subst h0; exact preB_zero _ _
          clear hx
          simp only at CE
          go_wp2_with fail
          clear c0 c1
          generalize wr.alloc (.cells #[.int .i64 ca, .int .i64 ct] 39) = w3 at NB HQ GW GW1 ⊢
          generalize wr.heap.size = qc at NB ⊢
          have z0 : w3.cell? ⟨qc, 0, none⟩ = some (.int .i64 ca) := bcell_row NB.out.2 rfl
          have z1 : w3.cell? ⟨qc, 1, none⟩ = some (.int .i64 ct) := bcell_row NB.out.2 rfl
          go_wp2_with fail
          by_cases b1 : -1099511627776 ≤ ca ∧ ca ≤ 1099511627776
          case neg =>
            have E := Lib.hid (HIT.out 1 (by rw [CE.out, if_pos (by omega)]) (by decide))
            refine (routside_out b1 _).mono ?_
            rintro e wx ⟨rfl, rfl⟩
            clear b1 CE HIT HPRE HPZ
            go_wp2_with fail
            go_ret
            exact ⟨ret_int E.out.symm, GW.out⟩
          refine (routside_in b1 _).mono ?_
          rintro e wx ⟨rfl, rfl⟩
          go_wp2_with fail
          by_cases b2 : 0 ≤ ct ∧ ct ≤ (k : Int) - 1
          case neg =>
            have E := Lib.hid (HIT.out 1 (by rw [CE.out, if_pos (by omega)]) (by decide))
            refine (routside_out b2 _).mono ?_
            rintro e wx ⟨rfl, rfl⟩
            clear b1 b2 CE HIT HPRE HPZ
            go_wp2_with fail
            go_ret
            exact ⟨ret_int E.out.symm, GW.out⟩
          have CE2 : Hid (chC k ch j = if preB ch j ca = true then 5 else 0) := by unfold Hid; rw [CE.out, if_neg (by omega)]
          refine (routside_in b2 _).mono ?_
          rintro e wx ⟨rfl, rfl⟩
          clear b1 b2 CE z0 z1
          go_wp2_with fail
          have z0 : w3.cell? ⟨qc, 0, none⟩ = some (.int .i64 ca) := bcell_row NB.out.2 rfl
          have z1 : w3.cell? ⟨qc, 1, none⟩ = some (.int .i64 ct) := bcell_row NB.out.2 rfl
          have x0 : w3.cell? ⟨q, 0, none⟩ = some (.slice A k c) := bcell_row HQ.out rfl
          have x1 : w3.cell? ⟨q, 1, none⟩ = some (.int .i64 f) := bcell_row HQ.out rfl
          have x2 : w3.cell? ⟨q, 2, none⟩ = some (.slice (some ⟨b, off, none⟩) m d) := bcell_row HQ.out rfl
          by_cases h0 : 0 < j
          · have g0 : decide ((0 : Int) < (j : Int)) = true := decide_eq_true (by omega)
            have g1 : (j : Int) > 0 := by omega
            have g2 : decide ((j : Int) > 0) = true := decide_eq_true (by omega)
            obtain ⟨⟨pa, pt⟩, hp, eb⟩ := HPRE.out h0
            have i1 : (0 : Int) ≤ (j : Int) - 1 := by omega
            have i2 : (j : Int) - 1 < (m : Int) := by omega
            have i3 : ((j : Int) - 1).toNat = j - 1 := by omega
            have i5 : IntKind.i64.wrap ((j : Int) - 1) = (j : Int) - 1 := IntWalk.i64_in _ (by omega)
            have pc : w3.cell? ⟨b, off + (j - 1) * 2, none⟩ = some (.int .i64 pa) := by
              obtain ⟨b', off', e, d0, d1⟩ := HB.out.two hp rfl GW.out
              injection e with e; injection e with e1 e2; subst e1; subst e2
              exact d0
            have eb2 : preB ch j ca = decide (ca ≤ pa) := eb
            rw [eb2] at CE2
            clear hp eb eb2 HPRE HPZ
            obtain ⟨dd, hdd⟩ : ∃ dd, decide (ca ≤ pa) = dd := ⟨_, rfl⟩
            rw [hdd] at CE2
            cases dd with
            | true =>
              have E := Lib.hid (HIT.out 5 (by rw [CE2.out]; rfl) (by decide))
              clear CE2 HIT
              go_quiet (fail)
              go_wp2_with fail
              go_ret
              exact ⟨ret_int E.out.symm, GW.out.drewN _⟩
            | false =>
              have E := Lib.hid (fe_step hf.out (by rw [CE2.out]; rfl))
              clear CE2 HIT
              go_quiet (fail)
              go_wp2_with fail
              go_roundw
              case rel => exact ⟨j + 1, by omega, by go_num, E.out, GW1.out.drewN _⟩
              case measure => simp [intOf]; omega
          · have g0 : decide ((0 : Int) < (j : Int)) = false := decide_eq_false (by omega)
            have g2 : decide ((j : Int) > 0) = false := decide_eq_false (by omega)
            have g1 : ¬ (j : Int) > 0 := by omega
            have E := Lib.hid (fe_step hf.out (by rw [CE2.out, HPZ.out (by omega)]; rfl))
            clear CE2 HIT HPRE HPZ
            go_quiet (fail)
            go_wp2_with fail
            go_roundw
            case rel => exact ⟨j + 1, by omega, by go_num, E.out, GW1.out.drewN _⟩
            case measure => simp [intOf]; omega
        · obtain rfl : j = m := by omega
          go_wp2_with fail
          go_ret
          exact ⟨ret_int (TC4.out.trans hf.out).symm, G3.out.trans hg.out⟩

set_option maxRecDepth 100000 in
set_option maxHeartbeats 8000000 in
theorem rtabOf (A : Option Addr) (c : Nat) (ty : List TypD) (f : Int) (B : Option Addr) (d : Nat) (ch : List ChaD) (t : Int) (w : World) (ok : tabC ty f ch = 0) (hr : Row w 3 TypD.cells A ty) (hr2 : Row w 2 ChaD.cells B ch) :
    Calls Try.prog 8 #[.agg #[.slice A ty.length c, .int .i64 f, .slice B ch.length d], .int .i64 t] w fun e w' => e = .returned (.agg #[.int .i64 (tabO ty f ch t).off, .bool (tabO ty f ch t).sv, .string (tabO ty f ch t).nm]) ∧ Gr w w' := by
  have T2 := tabO_get ok t
  obtain ⟨⟨o, s, y⟩, hx⟩ : ∃ x, tabO ty f ch t = x := ⟨_, rfl⟩
  rw [hx] at T2 ⊢
  simp only
  have TO := Lib.hid T2
  have HR := Lib.hid hr
  have HB := Lib.hid hr2
  have m9 := (tabC_ok.1 ok).1.2
  have NT : Hid (ch.take ch.length = ch) := List.take_length
  obtain ⟨m, hmm⟩ : ∃ m, ch.length = m := ⟨_, rfl⟩
  obtain ⟨n, hnn⟩ : ∃ n, ty.length = n := ⟨_, rfl⟩
  have HM := Lib.hid hmm
  rw [hnn] at TO ⊢
  rw [hmm] at m9 NT ⊢
  have B0 := Lib.hid (box_two w (.cells #[.slice A n c, .int .i64 f, .slice B m d] 25) (.cells #[.int .i64 0, .bool false, .string ⟨#[]⟩] 30))
  clear hr hr2 hmm hnn hx T2 ok
  go_enter Try.func8, Try.ntmps8
  go_wp2_with fail
  generalize (w.alloc (.cells #[.slice A n c, .int .i64 f, .slice B m d] 25)).alloc (.cells #[.int .i64 0, .bool false, .string ⟨#[]⟩] 30) = w1 at B0 ⊢
  obtain ⟨q, hq⟩ : ∃ q, w.heap.size = q := ⟨_, rfl⟩
  have NQ : Hid (w.heap.size ≤ q + 1) := by unfold Hid; omega
  rw [hq] at B0 ⊢
  clear hq
  have x0 : w1.cell? ⟨q, 0, none⟩ = some (.slice A n c) := bcell_row B0.out.2.1 rfl
  have x1 : w1.cell? ⟨q, 1, none⟩ = some (.int .i64 f) := bcell_row B0.out.2.1 rfl
  have x2 : w1.cell? ⟨q, 2, none⟩ = some (.slice B m d) := bcell_row B0.out.2.1 rfl
  go_wp2_with fail
  clear x0 x1 x2
  go_loopw [5, 13] (fun v i W => ∃ k : Nat, k ≤ m ∧ i = .int .i64 k ∧ v = .int .i64 (numZ f (ch.take k) t) ∧ Hid (Gr w1 W)) (fun v i W => m - (intOf i).toNat)
  case atStart => exact ⟨0, Nat.zero_le _, rfl, rfl, Gr.refl _⟩
  case round =>
    obtain ⟨k, hk, rfl, rfl, hg⟩ := hrel
    by_cases hlt : k < m
    · obtain ⟨⟨ca, ct⟩, hx⟩ := get_lt (show k < ch.length by rw [HM.out]; exact hlt)
      obtain ⟨b, off, rfl, c0, c1⟩ := HB.out.two hx rfl (B0.out.1.trans hg.out)
      have GW1 := Lib.hid (hg.out.trans (Gr.alloc wr (.cells #[.int .i64 ca, .int .i64 ct] 39)))
      have NS := Lib.hid (numZ_take (fst := f) (t := t) hx)
      clear hx
      by_cases e : ca ≤ t
      · have t1 : decide (ca ≤ t) = true := decide_eq_true e
        have N1 : Hid (numZ f (ch.take (k + 1)) t = ct) := by unfold Hid; rw [NS.out, if_pos e]
        clear e NS
        go_wp2_with fail
        go_roundw
        case rel => exact ⟨k + 1, by omega, by go_num, by rw [N1.out], GW1.out⟩
        case measure => simp [intOf]; omega
      · have t1 : decide (ca ≤ t) = false := decide_eq_false e
        have N1 : Hid (numZ f (ch.take (k + 1)) t = numZ f (ch.take k) t) := by unfold Hid; rw [NS.out, if_neg e]
        clear e NS
        go_wp2_with fail
        go_roundw
        case rel => exact ⟨k + 1, by omega, by go_num, by rw [N1.out], GW1.out⟩
        case measure => simp [intOf]; omega
    · obtain rfl : k = m := by omega
      rw [NT.out]
      have T2 := TO.out
      generalize numZ f ch t = N at T2 ⊢
      obtain ⟨j, rfl⟩ : ∃ j : Nat, N = (j : Int) := ⟨N.toNat, by omega⟩
      obtain ⟨⟨i1, i2⟩, hx⟩ := T2
      rw [Int.toNat_natCast] at hx
      obtain ⟨b, off, rfl, c0, c1, c2⟩ := HR.out.three hx rfl (B0.out.1.trans hg.out)
      have HT := Lib.hid (bheap_gr hg.out B0.out.2.1)
      have HZ := Lib.hid (bheap_gr hg.out B0.out.2.2)
      have GF := Lib.hid (B0.out.1.trans hg.out)
      clear hx
      have x0 : wr.cell? ⟨q, 0, none⟩ = some (.slice (some ⟨b, off, none⟩) n c) := bcell_row HT.out rfl
      have x1 : wr.cell? ⟨q, 1, none⟩ = some (.int .i64 f) := bcell_row HT.out rfl
      have x2 : wr.cell? ⟨q, 2, none⟩ = some (.slice B k d) := bcell_row HT.out rfl
      have r0 : wr.cell? ⟨q + 1, 0, none⟩ = some (.int .i64 0) := bcell_row HZ.out rfl
      have r1 : wr.cell? ⟨q + 1, 1, none⟩ = some (.bool false) := bcell_row HZ.out rfl
      have r2 : wr.cell? ⟨q + 1, 2, none⟩ = some (.string ⟨#[]⟩) := bcell_row HZ.out rfl
      have rf0 : wr.frozen? ⟨q + 1, 0, none⟩ = false := unfrozen HZ.out
      have rf1 : wr.frozen? ⟨q + 1, 1, none⟩ = false := unfrozen HZ.out
      have rf2 : wr.frozen? ⟨q + 1, 2, none⟩ = false := unfrozen HZ.out
      have s0 : (((wr.setCell ⟨q + 1, 0, none⟩ (.int .i64 o)).setCell ⟨q + 1, 1, none⟩ (.bool s)).setCell ⟨q + 1, 2, none⟩ (.string y)).cell? ⟨q + 1, 0, none⟩ = some (.int .i64 o) := bcell_row (st3 HZ.out (.int .i64 o) (.bool s) (.string y)) rfl
      have s1 : (((wr.setCell ⟨q + 1, 0, none⟩ (.int .i64 o)).setCell ⟨q + 1, 1, none⟩ (.bool s)).setCell ⟨q + 1, 2, none⟩ (.string y)).cell? ⟨q + 1, 1, none⟩ = some (.bool s) := bcell_row (st3 HZ.out (.int .i64 o) (.bool s) (.string y)) rfl
      have s2 : (((wr.setCell ⟨q + 1, 0, none⟩ (.int .i64 o)).setCell ⟨q + 1, 1, none⟩ (.bool s)).setCell ⟨q + 1, 2, none⟩ (.string y)).cell? ⟨q + 1, 2, none⟩ = some (.string y) := bcell_row (st3 HZ.out (.int .i64 o) (.bool s) (.string y)) rfl
      go_wp2_with fail
      exact bodyPost_ret (v := .agg #[.int .i64 o, .bool s, .string y]) (by simp [results, Try.results8, go_sem, s0, s1, s2]) rfl ⟨rfl, (st3_below GF.out NQ.out (.int .i64 o) (.bool s) (.string y))⟩
end Go.Proofs.Ytkmgildnhnjepaa
