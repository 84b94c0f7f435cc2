/- The project's checkChanges and Check of package table. A table under way in memory: its record, the last type, the rows of types and of changes. No function of the program in it. -/
import Derived.BigQuiet
import Derived.Deep.QuietTactic
import Derived.Test.YtkmgildnhnjepaaGreatDoorTM32
import Derived.Test.YtkmgildnhnjepaaGreatDoorTM38
import Derived.Test.YtkmgildnhnjepaaGreatDoorTM28
import Derived.Test.YtkmgildnhnjepaaGreatDoorTM05
import Derived.Test.YtkmgildnhnjepaaGreatDoorTM18
namespace Go.Proofs.YtkmgildnhnjepaaGreatDoor
set_option linter.unusedVariables false
set_option linter.unusedSimpArgs false
open Go.RowKit
theorem idx_in {k : Int} {n : Nat} (h : ¬ (k < 0 ∨ (n : Int) - 1 < k)) : (decide (0 ≤ k) && decide (k < (n : Int))) = true := by simp; omega
theorem idx_out {k : Int} {n : Nat} (h : k < 0 ∨ (n : Int) - 1 < k) : (decide (0 ≤ k) && decide (k < (n : Int))) = false := by simp; omega
theorem preB_zero (l : List ChaD) (t : Int) : preB l 0 t = false := rfl
theorem preB_succ {l : List ChaD} {j : Nat} {p : ChaD} (t : Int) (h : l[j]? = some p) : preB l (j + 1) t = decide (t ≤ p.at') := by unfold preB; simp only [h]

set_option maxRecDepth 100000 in
set_option maxHeartbeats 8000000 in
theorem pcheckCh (A : Option Addr) (n c : Nat) (f : Int) (B : Option Addr) (d : Nat) (ch : List ChaD) (w : World) (hr : Row w 2 ChaD.cells B ch) (hm : ch.length ≤ 1000) :
    Calls Tryz.prog 34 #[.agg #[.slice A n c, .int .i64 f, .slice B ch.length d]] w fun e w' => e = .returned (.int .i64 (fe (chC n ch) ch.length)) ∧ Gr w w' := by
  have HR := Lib.hid hr
  have KI := Lib.hid (fun k w => pisIndex k A n c w)
  obtain ⟨m, hmm⟩ : ∃ m, ch.length = m := ⟨_, rfl⟩
  have HL := Lib.hid hmm
  rw [hmm] at hm ⊢
  have B0 := Lib.hid (box_one w (.cells #[.slice A n c, .int .i64 f, .slice B m d] 32))
  clear hr hmm
  go_enter Tryz.func34, Tryz.ntmps34
  go_wp2_with fail
  generalize w.alloc (.cells #[.slice A n c, .int .i64 f, .slice B m d] 32) = w1 at B0 ⊢
  generalize w.heap.size = q at B0 ⊢
  have x0 : w1.cell? ⟨q, 0, none⟩ = some (.slice A n c) := bcell_row B0.out.2 rfl
  have x1 : w1.cell? ⟨q, 1, none⟩ = some (.int .i64 f) := bcell_row B0.out.2 rfl
  have x2 : w1.cell? ⟨q, 2, none⟩ = some (.slice B m d) := bcell_row B0.out.2 rfl
  go_wp2_with fail
  clear x0 x1 x2
  go_loopw [8] (fun i W => ∃ k : Nat, k ≤ m ∧ i = .int .i64 k ∧ Hid (fe (chC n ch) k = 0) ∧ Hid (Gr w1 W)) (fun i W => m - (intOf i).toNat)
  case atStart => exact ⟨0, Nat.zero_le _, rfl, rfl, Gr.refl _⟩
  case round =>
    obtain ⟨k, hk, rfl, hf, hg⟩ := hrel
    by_cases hlt : k < m
    · obtain ⟨⟨ca, ct⟩, hx⟩ := get_lt (show k < ch.length by rw [HL.out]; exact hlt)
      obtain ⟨b, off, rfl, c0, c1⟩ := HR.out.two hx rfl (B0.out.1.trans hg.out)
      have CE := Lib.hid (chC_at (n := n) hx)
      have HIT : Hid (∀ e, chC n ch k = e → e ≠ 0 → fe (chC n ch) m = e) := fun e h1 h2 => by rw [← h1]; exact fe_hit hf.out (by rw [h1]; exact h2) m hlt
      have NB := Lib.hid (box_one wr (.cells #[.int .i64 ca, .int .i64 ct] 44))
      have HQ := Lib.hid (bheap_gr (hg.out.trans NB.out.1) B0.out.2)
      have GW := Lib.hid ((B0.out.1.trans hg.out).trans NB.out.1)
      have GW1 := Lib.hid (hg.out.trans NB.out.1)
      have HPRE : Hid (0 < k → ∃ p, ch[k - 1]? = some p ∧ preB ch k ca = decide (ca ≤ p.at')) := fun h0 => by
        obtain ⟨j, rfl⟩ : ∃ j, k = j + 1 := ⟨k - 1, by omega⟩
        obtain ⟨p, hp⟩ := get_lt (show j < ch.length by rw [HL.out]; omega)
        exact ⟨p, hp, preB_succ ca hp⟩
      have HPZ : Hid (k = 0 → preB ch k ca = false) := fun h0 => by subst h0; exact preB_zero _ _
      clear hx
      simp only at CE
      by_cases b1 : ca < -1099511627776
      · have E := Lib.hid (HIT.out 1 (by rw [CE.out, if_pos (Or.inl (Or.inl b1))]) (by decide))
        have t1 : decide (ca < -1099511627776) = true := ltT b1
        clear b1 CE HIT HPRE HPZ
        go_wp2_with fail
        generalize wr.alloc (.cells #[.int .i64 ca, .int .i64 ct] 44) = w2 at NB HQ GW GW1 ⊢
        generalize wr.heap.size = qc at NB ⊢
        have z0 : w2.cell? ⟨qc, 0, none⟩ = some (.int .i64 ca) := bcell_row NB.out.2 rfl
        have z1 : w2.cell? ⟨qc, 1, none⟩ = some (.int .i64 ct) := bcell_row NB.out.2 rfl
        go_wp2_with fail
        go_ret
        exact ⟨ret_int E.out.symm, GW.out⟩
      · have t1 : decide (ca < -1099511627776) = false := ltF b1
        by_cases b2 : 1099511627776 < ca
        · have E := Lib.hid (HIT.out 1 (by rw [CE.out, if_pos (Or.inl (Or.inr b2))]) (by decide))
          have t2 : decide (1099511627776 < ca) = true := ltT b2
          clear b1 b2 CE HIT HPRE HPZ
          go_wp2_with fail
          generalize wr.alloc (.cells #[.int .i64 ca, .int .i64 ct] 44) = w2 at NB HQ GW GW1 ⊢
          generalize wr.heap.size = qc at NB ⊢
          have z0 : w2.cell? ⟨qc, 0, none⟩ = some (.int .i64 ca) := bcell_row NB.out.2 rfl
          have z1 : w2.cell? ⟨qc, 1, none⟩ = some (.int .i64 ct) := bcell_row NB.out.2 rfl
          go_wp2_with fail
          go_ret
          exact ⟨ret_int E.out.symm, GW.out⟩
        · have t2 : decide (1099511627776 < ca) = false := ltF b2
          by_cases b3 : ct < 0 ∨ (n : Int) - 1 < ct
          · have E := Lib.hid (HIT.out 1 (by rw [CE.out, if_pos (Or.inr b3)]) (by decide))
            have IX := Lib.hid (idx_out b3)
            clear b1 b2 b3 CE HIT HPRE HPZ
            have x0 : (wr.alloc (.cells #[.int .i64 ca, .int .i64 ct] 44)).cell? ⟨q, 0, none⟩ = some (.slice A n c) := bcell_row HQ.out rfl
            have x1 : (wr.alloc (.cells #[.int .i64 ca, .int .i64 ct] 44)).cell? ⟨q, 1, none⟩ = some (.int .i64 f) := bcell_row HQ.out rfl
            have x2 : (wr.alloc (.cells #[.int .i64 ca, .int .i64 ct] 44)).cell? ⟨q, 2, none⟩ = some (.slice (some ⟨b, off, none⟩) m d) := bcell_row HQ.out rfl
            go_wp2_with ((with_reducible refine (KI.out _ _).mono ?_); rintro e w2 ⟨rfl, rfl⟩; rw [IX.out])
            go_ret
            exact ⟨ret_int E.out.symm, GW.out⟩
          · have IX := Lib.hid (idx_in b3)
            have CE2 : Hid (chC n ch k = if preB ch k ca = true then 5 else 0) := by unfold Hid; rw [CE.out, if_neg (by omega)]
            clear b1 b2 b3 CE
            have x0 : (wr.alloc (.cells #[.int .i64 ca, .int .i64 ct] 44)).cell? ⟨q, 0, none⟩ = some (.slice A n c) := bcell_row HQ.out rfl
            have x1 : (wr.alloc (.cells #[.int .i64 ca, .int .i64 ct] 44)).cell? ⟨q, 1, none⟩ = some (.int .i64 f) := bcell_row HQ.out rfl
            have x2 : (wr.alloc (.cells #[.int .i64 ca, .int .i64 ct] 44)).cell? ⟨q, 2, none⟩ = some (.slice (some ⟨b, off, none⟩) m d) := bcell_row HQ.out rfl
            go_wp2_with ((with_reducible refine (KI.out _ _).mono ?_); rintro e w2 ⟨rfl, rfl⟩; rw [IX.out])
            clear x0 x1 x2
            generalize wr.alloc (.cells #[.int .i64 ca, .int .i64 ct] 44) = w2 at NB HQ GW GW1 ⊢
            generalize wr.heap.size = qc at NB ⊢
            have z0 : w2.cell? ⟨qc, 0, none⟩ = some (.int .i64 ca) := bcell_row NB.out.2 rfl
            have z1 : w2.cell? ⟨qc, 1, none⟩ = some (.int .i64 ct) := bcell_row NB.out.2 rfl
            have x0 : w2.cell? ⟨q, 0, none⟩ = some (.slice A n c) := bcell_row HQ.out rfl
            have x1 : w2.cell? ⟨q, 1, none⟩ = some (.int .i64 f) := bcell_row HQ.out rfl
            have x2 : w2.cell? ⟨q, 2, none⟩ = some (.slice (some ⟨b, off, none⟩) m d) := bcell_row HQ.out rfl
            by_cases h0 : 0 < k
            · have g0 : decide ((0 : Int) < (k : Int)) = true := decide_eq_true (by omega)
              have g1 : (k : Int) > 0 := by omega
              have g2 : decide ((k : Int) > 0) = true := decide_eq_true (by omega)
              obtain ⟨⟨pa, pt⟩, hp, eb⟩ := HPRE.out h0
              have i1 : (0 : Int) ≤ (k : Int) - 1 := by omega
              have i2 : (k : Int) - 1 < (m : Int) := by omega
              have i3 : ((k : Int) - 1).toNat = k - 1 := by omega
              have i4 : IntKind.i64.wrap ((k : Int) - 1) = (k : Int) - 1 := IntWalk.i64_in _ (by omega)
              have pc : w2.cell? ⟨b, off + (k - 1) * 2, none⟩ = some (.int .i64 pa) := by
                obtain ⟨b', off', e, d0, d1⟩ := HR.out.two hp rfl GW.out
                injection e with e; injection e with e1 e2; subst e1; subst e2
                exact d0
              have eb2 : preB ch k ca = decide (ca ≤ pa) := eb
              rw [eb2] at CE2
              clear hp eb eb2 HPRE HPZ
              obtain ⟨dd, hdd⟩ : ∃ dd, decide (ca ≤ pa) = dd := ⟨_, rfl⟩
              rw [hdd] at CE2
              cases dd with
              | true =>
                have E := Lib.hid (HIT.out 5 (by rw [CE2.out]; rfl) (by decide))
                clear CE2 HIT
                go_quiet (fail)
                go_wp2_with fail
                go_ret
                exact ⟨ret_int E.out.symm, GW.out.drewN _⟩
              | false =>
                have E := Lib.hid (fe_step hf.out (by rw [CE2.out]; rfl))
                clear CE2 HIT
                go_quiet (fail)
                go_wp2_with fail
                go_roundw
                case rel => exact ⟨k + 1, by omega, by go_num, E.out, GW1.out.drewN _⟩
                case measure => simp [intOf]; omega
            · have g0 : decide ((0 : Int) < (k : Int)) = false := decide_eq_false (by omega)
              have g2 : decide ((k : Int) > 0) = false := decide_eq_false (by omega)
              have g1 : ¬ (k : Int) > 0 := by omega
              have E := Lib.hid (fe_step hf.out (by rw [CE2.out, HPZ.out (by omega)]; rfl))
              clear CE2 HIT HPRE HPZ
              go_quiet (fail)
              go_wp2_with fail
              go_roundw
              case rel => exact ⟨k + 1, by omega, by go_num, E.out, GW1.out.drewN _⟩
              case measure => simp [intOf]; omega
    · obtain rfl : k = m := by omega
      go_wp2_with fail
      go_ret
      exact ⟨ret_int hf.out.symm, B0.out.1.trans hg.out⟩

set_option maxRecDepth 100000 in
set_option maxHeartbeats 8000000 in
theorem ptabCheck (A : Option Addr) (c : Nat) (ty : List TypD) (f : Int) (B : Option Addr) (d : Nat) (ch : List ChaD) (w : World) (hr : Row w 3 TypD.cells A ty) (hi : ∀ x ∈ ty, x.In) (hr2 : Row w 2 ChaD.cells B ch) :
    Calls Tryz.prog 12 #[.agg #[.slice A ty.length c, .int .i64 f, .slice B ch.length d]] w fun e w' => e = .returned (.int .i64 (tabC ty f ch)) ∧ Gr w w' := by
  have HR := Lib.hid hr
  have HI := Lib.hid hi
  have KL := Lib.hid (fun W => pisLarge A B ty.length ch.length c d f W)
  have KC := Lib.hid (fun W (g : Gr w W) h => pcheckCh A ty.length c f B d ch W (hr2.gr g) h)
  have KA := Lib.hid (fun s w h => pabbr_any s w h)
  have TC : Hid (tabC ty f ch = if 250 < ty.length ∨ 1000 < ch.length then 2 else if ty.length = 0 then 5 else if fe (tyC ty) ty.length ≠ 0 then fe (tyC ty) ty.length else if f < 0 ∨ (ty.length : Int) - 1 < f then 1 else fe (chC ty.length ch) ch.length) := rfl
  generalize tabC ty f ch = R at TC ⊢
  obtain ⟨m, hmm⟩ : ∃ m, ch.length = m := ⟨_, rfl⟩
  obtain ⟨n, hnn⟩ : ∃ n, ty.length = n := ⟨_, rfl⟩
  have HL := Lib.hid hnn
  rw [hnn, hmm] at KL KC TC ⊢
  have KX := Lib.hid (fun k w => pisIndex k A n c w)
  have LG : Hid (lgB n m = (decide (250 < n) || decide (1000 < m))) := rfl
  have B0 := Lib.hid (box_one w (.cells #[.slice A n c, .int .i64 f, .slice B m d] 32))
  clear hr hi hr2 hmm hnn
  go_enter Tryz.func12, Tryz.ntmps12
  go_wp2_with fail
  generalize w.alloc (.cells #[.slice A n c, .int .i64 f, .slice B m d] 32) = w1 at B0 ⊢
  generalize w.heap.size = q at B0 ⊢
  have x0 : w1.cell? ⟨q, 0, none⟩ = some (.slice A n c) := bcell_row B0.out.2 rfl
  have x1 : w1.cell? ⟨q, 1, none⟩ = some (.int .i64 f) := bcell_row B0.out.2 rfl
  have x2 : w1.cell? ⟨q, 2, none⟩ = some (.slice B m d) := bcell_row B0.out.2 rfl
  go_wp2_with fail
  clear x0 x1 x2
  refine (KL.out w1).mono ?_
  rintro e w2 ⟨rfl, g2⟩
  have G2 := Lib.hid (B0.out.1.trans g2)
  have HQ2 := Lib.hid (bheap_gr g2 B0.out.2)
  clear g2 B0 KL
  by_cases h0 : 250 < n ∨ 1000 < m
  · have E : Hid (R = 2) := by unfold Hid; rw [TC.out, if_pos h0]
    have e1 : lgB n m = true := by rw [LG.out]; simp; omega
    rw [e1]
    clear TC LG e1 h0
    go_wp2_with fail
    go_ret
    exact ⟨ret_int E.out.symm, G2.out⟩
  have e1 : lgB n m = false := lgB_no.2 (by omega)
  have TC1 : Hid (R = if n = 0 then 5 else if fe (tyC ty) n ≠ 0 then fe (tyC ty) n else if f < 0 ∨ (n : Int) - 1 < f then 1 else fe (chC n ch) m) := by unfold Hid; rw [TC.out, if_neg h0]
  have HN : Hid (n ≤ 250 ∧ m ≤ 1000) := by unfold Hid; omega
  rw [e1]
  clear TC LG e1 h0
  have x0 : w2.cell? ⟨q, 0, none⟩ = some (.slice A n c) := bcell_row HQ2.out rfl
  have x1 : w2.cell? ⟨q, 1, none⟩ = some (.int .i64 f) := bcell_row HQ2.out rfl
  have x2 : w2.cell? ⟨q, 2, none⟩ = some (.slice B m d) := bcell_row HQ2.out rfl
  by_cases hz : n = 0
  · have E : Hid (R = 5) := by unfold Hid; rw [TC1.out, if_pos hz]
    have t0 : ((n : Int) == 0) = true := beqT (by omega)
    clear TC1 hz
    go_wp2_with fail
    go_ret
    exact ⟨ret_int E.out.symm, G2.out⟩
  have t0 : ((n : Int) == 0) = false := beqF (by omega)
  have TC2 : Hid (R = if fe (tyC ty) n ≠ 0 then fe (tyC ty) n else if f < 0 ∨ (n : Int) - 1 < f then 1 else fe (chC n ch) m) := by unfold Hid; rw [TC1.out, if_neg hz]
  clear TC1 hz
  go_wp2_with fail
  clear x0 x1 x2 t0
  have n9 : n ≤ 250 := HN.out.1
  go_loopw [14] (fun i W => ∃ k : Nat, k ≤ n ∧ i = .int .i64 k ∧ Hid (fe (tyC ty) k = 0) ∧ Hid (Gr w2 W)) (fun i W => n - (intOf i).toNat)
  case atStart => exact ⟨0, Nat.zero_le _, rfl, rfl, Gr.refl _⟩
  case round =>
    obtain ⟨k, hk, rfl, hf, hg⟩ := hrel
    by_cases hlt : k < n
    · obtain ⟨⟨o, s, y⟩, hx⟩ := get_lt (show k < ty.length by rw [HL.out]; exact hlt)
      obtain ⟨b, off, rfl, c0, c1, c2⟩ := HR.out.three hx rfl (G2.out.trans hg.out)
      have YI := Lib.hid (HI.out _ (get_mem hx)).1
      have CE : Hid (tyC ty k = if o < -75600 ∨ 75600 < o then 1 else if isAbbrB y.toList = false then 3 else 0) := tyC_at hx
      have HIT : Hid (∀ e, tyC ty k = e → e ≠ 0 → R = e) := fun e h1 h2 => by
        have := fe_hit hf.out (by rw [h1]; exact h2) n hlt
        rw [TC2.out, if_pos (by rw [this, h1]; exact h2), this, h1]
      have NB := Lib.hid (box_one wr (.cells #[.int .i64 o, .bool s, .string y] 46))
      have GW := Lib.hid (G2.out.trans (hg.out.trans NB.out.1))
      have GW1 := Lib.hid (hg.out.trans NB.out.1)
      clear hx
      simp only at YI
      by_cases b1 : o < -75600
      · have E := Lib.hid (HIT.out 1 (by rw [CE.out, if_pos (Or.inl b1)]) (by decide))
        have t1 : decide (o < -75600) = true := ltT b1
        clear b1 CE HIT
        go_wp2_with fail
        generalize wr.alloc (.cells #[.int .i64 o, .bool s, .string y] 46) = w3 at NB GW GW1 ⊢
        generalize wr.heap.size = qc at NB ⊢
        have z0 : w3.cell? ⟨qc, 0, none⟩ = some (.int .i64 o) := bcell_row NB.out.2 rfl
        have z1 : w3.cell? ⟨qc, 1, none⟩ = some (.bool s) := bcell_row NB.out.2 rfl
        have z2 : w3.cell? ⟨qc, 2, none⟩ = some (.string y) := bcell_row NB.out.2 rfl
        go_wp2_with fail
        go_ret
        exact ⟨ret_int E.out.symm, GW.out⟩
      · have t1 : decide (o < -75600) = false := ltF b1
        by_cases b2 : 75600 < o
        · have E := Lib.hid (HIT.out 1 (by rw [CE.out, if_pos (Or.inr b2)]) (by decide))
          have t2 : decide (75600 < o) = true := ltT b2
          clear b1 b2 CE HIT
          go_wp2_with fail
          generalize wr.alloc (.cells #[.int .i64 o, .bool s, .string y] 46) = w3 at NB GW GW1 ⊢
          generalize wr.heap.size = qc at NB ⊢
          have z0 : w3.cell? ⟨qc, 0, none⟩ = some (.int .i64 o) := bcell_row NB.out.2 rfl
          have z1 : w3.cell? ⟨qc, 1, none⟩ = some (.bool s) := bcell_row NB.out.2 rfl
          have z2 : w3.cell? ⟨qc, 2, none⟩ = some (.string y) := bcell_row NB.out.2 rfl
          go_wp2_with fail
          go_ret
          exact ⟨ret_int E.out.symm, GW.out⟩
        · have t2 : decide (75600 < o) = false := ltF b2
          have CE2 : Hid (tyC ty k = if isAbbrB y.toList = false then 3 else 0) := by unfold Hid; rw [CE.out, if_neg (by omega)]
          clear b1 b2 CE
          go_wp2_with fail
          generalize wr.alloc (.cells #[.int .i64 o, .bool s, .string y] 46) = w3 at NB GW GW1 ⊢
          generalize wr.heap.size = qc at NB ⊢
          have z0 : w3.cell? ⟨qc, 0, none⟩ = some (.int .i64 o) := bcell_row NB.out.2 rfl
          have z1 : w3.cell? ⟨qc, 1, none⟩ = some (.bool s) := bcell_row NB.out.2 rfl
          have z2 : w3.cell? ⟨qc, 2, none⟩ = some (.string y) := bcell_row NB.out.2 rfl
          go_wp2_with fail
          refine (KA.out y w3 YI.out).mono ?_
          rintro e w3 ⟨rfl, rfl⟩
          cases ia : isAbbrB y.toList with
          | false =>
            have E := Lib.hid (HIT.out 3 (by rw [CE2.out, if_pos ia]) (by decide))
            clear CE2 HIT ia
            go_wp2_with fail
            go_ret
            exact ⟨ret_int E.out.symm, GW.out⟩
          | true =>
            have E := Lib.hid (fe_step hf.out (by rw [CE2.out, if_neg (by rw [ia]; decide)]))
            clear CE2 HIT ia
            go_wp2_with fail
            go_roundw
            case rel => exact ⟨k + 1, by omega, by go_num, E.out, GW1.out⟩
            case measure => simp [intOf]; omega
    · obtain rfl : k = n := by omega
      have TC3 : Hid (R = if f < 0 ∨ (k : Int) - 1 < f then 1 else fe (chC k ch) m) := by unfold Hid; rw [TC2.out, if_neg (by rw [hf.out]; simp)]
      have HQ3 := Lib.hid (bheap_gr hg.out HQ2.out)
      have G3 := Lib.hid (G2.out.trans hg.out)
      clear TC2 hf hg hlt
      have x0 : wr.cell? ⟨q, 0, none⟩ = some (.slice A k c) := bcell_row HQ3.out rfl
      have x1 : wr.cell? ⟨q, 1, none⟩ = some (.int .i64 f) := bcell_row HQ3.out rfl
      have x2 : wr.cell? ⟨q, 2, none⟩ = some (.slice B m d) := bcell_row HQ3.out rfl
      by_cases hx : f < 0 ∨ (k : Int) - 1 < f
      · have E : Hid (R = 1) := by unfold Hid; rw [TC3.out, if_pos hx]
        have IX := Lib.hid (idx_out hx)
        clear TC3 hx
        go_wp2_with ((with_reducible refine (KX.out _ _).mono ?_); rintro e wr ⟨rfl, rfl⟩; rw [IX.out])
        go_ret
        exact ⟨ret_int E.out.symm, G3.out⟩
      · have E : Hid (R = fe (chC k ch) m) := by unfold Hid; rw [TC3.out, if_neg hx]
        have IX := Lib.hid (idx_in hx)
        clear TC3 hx
        go_wp2_with ((with_reducible refine (KX.out _ _).mono ?_); rintro e wr ⟨rfl, rfl⟩; rw [IX.out])
        refine (KC.out wr G3.out (by have := HN.out; have := HL.out; omega)).mono ?_
        rintro e w5 ⟨rfl, g5⟩
        go_wp2_with fail
        go_ret
        exact ⟨ret_int E.out.symm, G3.out.trans g5⟩
end Go.Proofs.YtkmgildnhnjepaaGreatDoor
namespace Go.Proofs.YtkmgildnhnjepaaGreatDoor
set_option linter.unusedVariables false
set_option linter.unusedSimpArgs false
open Go.RowKit
section
variable {α β : Type} {w w' : World} {base base' k k' : Nat} {e e' : TypeId} {enc : α → List Value} {enc' : β → List Value} {v v' : Value} {l : List α} {l' : List β}
/-- rows of different types lie apart -/
theorem rows_ne (h : Own w base e k enc v l) (h' : Own w base' e' k' enc' v' l') (hne : e ≠ e') : v.ownBlock = none ∨ v.ownBlock ≠ v'.ownBlock := by
  rcases h.2 with ⟨rfl, _⟩ | ⟨g, cap, cur, rfl, _, hh, _⟩
  · exact Or.inl rfl
  · right
    rcases h'.2 with ⟨rfl, _⟩ | ⟨g', cap', cur', rfl, _, hh', _⟩
    · simp [Value.ownBlock]
    · simp only [Value.ownBlock]
      intro q
      injection q with q
      subst q
      rw [hh] at hh'
      injection hh' with hh'
      injection hh' with _ ht
      exact hne ht
/-- a store elsewhere -/
theorem row_far (h : Own w base e k enc v l) {q : Addr} (u : Value) (hq : v.ownBlock ≠ some q.block) : Own (w.setCell q u) base e k enc v l := by
  refine ⟨h.1, ?_⟩
  rcases h.2 with hn | ⟨g, cap, cur, rfl, hbb, hg, rest⟩
  · exact Or.inl hn
  · refine Or.inr ⟨g, cap, cur, rfl, hbb, ?_, rest⟩
    rw [Below.heap_setCell w q u _ (fun e => hq (by rw [← e]; rfl))]
    exact hg
theorem row_apart {q : Nat} {T : TypeId} {cs : Array Value} {m : Nat × Nat} (h : Own w base e k enc v l) (hq : w.heap[q]? = some (.cells cs T m)) (hT : T ≠ e) : v.ownBlock ≠ some q := by
  rcases h.2 with ⟨rfl, _⟩ | ⟨g, cap, cur, rfl, _, hg, _⟩
  · simp [Value.ownBlock]
  · intro e1
    have e2 : g = q := by simpa [Value.ownBlock] using e1
    subst e2
    rw [hq] at hg
    injection hg with hg
    injection hg with _ hg _
    exact hT hg
end
/-- a block that is not the row's own is left alone where the row grows -/
theorem blk_far {w w' : World} {row : Option Nat} {q : Nat} {o : Obj} (g : w.grownBy w' row) (h : w.heap[q]? = some o) (hr : row ≠ some q) : w'.heap[q]? = some o := by
  rw [g.block q (Array.getElem?_eq_some_iff.1 h).1 (fun e => hr e.symm)]; exact h
/-- a store into another block -/
theorem blk_set2 {w : World} {q : Nat} {o : Obj} {p : Addr} {u : Value} (h : w.heap[q]? = some o) (hr : q ≠ p.block) : (w.setCell p u).heap[q]? = some o := by
  rw [Below.heap_setCell w p u q hr]; exact h

/-- a table under way -/
structure BAt (tT tC tB : TypeId) (w W : World) (qt ql : Nat) (s : BlS TypD) (vt vc : Value) : Prop where
  gr : Gr w W
  tb : W.heap[qt]? = some (.cells #[vt, .int .i64 0, vc] tB (0, 0))
  lb : W.heap[ql]? = some (.cells #[.int .i64 s.la.off, .bool s.la.sv, .string s.la.nm] tT (0, 0))
  ot : Own W w.heap.size tT 3 TypD.cells vt s.ty
  oc : Own W w.heap.size tC 2 ChaD.cells vc s.chs
  nl : vt.ownBlock ≠ some ql
  lt : w.heap.size ≤ qt
  ll : w.heap.size ≤ ql
  ne : qt ≠ ql
section
variable {tT tC tB : TypeId} {w W W1 W2 : World} {qt ql : Nat} {s : BlS TypD} {vt vc : Value}
theorem BAt.grow (h : BAt tT tC tB w W qt ql s vt vc) (g : Gr W W1) : BAt tT tC tB w W1 qt ql s vt vc :=
  ⟨h.gr.trans g, bheap_gr g h.tb, bheap_gr g h.lb, h.ot.gr g, h.oc.gr g, h.nl, h.lt, h.ll, h.ne⟩
/-- a type more -/
theorem BAt.addT (h : BAt tT tC tB w W qt ql s vt vc) {x : TypD} {v2 : Value} (hown : Own W2 w.heap.size tT 3 TypD.cells v2 (s.ty ++ [x])) (hg : W.grownBy W2 vt.ownBlock) (hn : v2.ownBlock ≠ some ql) (h1 : tT ≠ tC) (h2 : tB ≠ tT) (h3 : tB ≠ tC) :
    BAt tT tC tB w (W2.setCell ⟨qt, 0, none⟩ v2) qt ql ⟨s.ty ++ [x], s.ch, s.la⟩ v2 vc := by
  have tb2 := blk_far hg h.tb (row_apart h.ot h.tb h2)
  have lb2 := blk_far hg h.lb h.nl
  have oc2 : Own W2 w.heap.size tC 2 ChaD.cells vc s.chs := World.ownsRow.kept h.oc hg (rows_ne h.oc h.ot (fun e => h1 e.symm))
  exact ⟨Below.setCell (grown_gr h.gr hg (own_base h.ot)) h.lt _, heap_setCell_same W2 qt 0 #[vt, .int .i64 0, vc] tB v2 tb2, blk_set2 lb2 (fun e => h.ne e.symm), row_far hown _ (row_apart hown tb2 h2), row_far oc2 _ (row_apart oc2 tb2 h3), hn, h.lt, h.ll, h.ne⟩
/-- a change more -/
theorem BAt.addC (h : BAt tT tC tB w W qt ql s vt vc) {t : Int} {k : Nat} {v2 : Value} (hown : Own W2 w.heap.size tC 2 ChaD.cells v2 (s.chs ++ [⟨t, k⟩])) (hg : W.grownBy W2 vc.ownBlock) (h1 : tT ≠ tC) (h2 : tB ≠ tT) (h3 : tB ≠ tC) :
    BAt tT tC tB w (W2.setCell ⟨qt, 2, none⟩ v2) qt ql ⟨s.ty, s.ch ++ [(t, k)], s.la⟩ vt v2 := by
  have tb2 := blk_far hg h.tb (row_apart h.oc h.tb h3)
  have lb2 := blk_far hg h.lb (row_apart h.oc h.lb h1)
  have ot2 : Own W2 w.heap.size tT 3 TypD.cells vt s.ty := World.ownsRow.kept h.ot hg (rows_ne h.ot h.oc h1)
  have e : BlS.chs ⟨s.ty, s.ch ++ [(t, k)], s.la⟩ = s.chs ++ [⟨t, k⟩] := by unfold BlS.chs; simp
  exact ⟨Below.setCell (grown_gr h.gr hg (own_base h.oc)) h.lt _, heap_setCell_same W2 qt 2 #[vt, .int .i64 0, vc] tB v2 tb2, blk_set2 lb2 (fun e => h.ne e.symm), row_far ot2 _ (row_apart ot2 tb2 h2), by rw [e]; exact row_far hown _ (row_apart hown tb2 h3), h.nl, h.lt, h.ll, h.ne⟩
/-- the last type -/
theorem BAt.last (h : BAt tT tC tB w W qt ql s vt vc) (x : TypD) (h1 : tT ≠ tC) :
    BAt tT tC tB w (((W.setCell ⟨ql, 0, none⟩ (.int .i64 x.off)).setCell ⟨ql, 1, none⟩ (.bool x.sv)).setCell ⟨ql, 2, none⟩ (.string x.nm)) qt ql ⟨s.ty, s.ch, x⟩ vt vc := by
  have nc := row_apart h.oc h.lb h1
  exact ⟨st3_below h.gr h.ll _ _ _, blk_set2 (blk_set2 (blk_set2 h.tb h.ne) h.ne) h.ne, st3 h.lb _ _ _, row_far (row_far (row_far h.ot _ h.nl) _ h.nl) _ h.nl, row_far (row_far (row_far h.oc _ nc) _ nc) _ nc, h.nl, h.lt, h.ll, h.ne⟩
end
end Go.Proofs.YtkmgildnhnjepaaGreatDoor
