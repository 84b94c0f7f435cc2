/- The reference's Resolve for every book. What the reference's StateAt returns, for every book, name and time. The closure of the reference's TableMake: the local time of the eras at a time. Slices of numbers that a law makes; the reference's Has at numbers. The transitions of the eras under way in memory; how many times the reference's TableMake looks at. -/
import Derived.Test.YtkmgildnhnjepaaGreatDoorTM20
import Derived.Test.YtkmgildnhnjepaaGreatDoorTM49
import Derived.Test.YtkmgildnhnjepaaGreatDoorTM46
import Derived.Test.YtkmgildnhnjepaaGreatDoorTM31
import Derived.Test.YtkmgildnhnjepaaGreatDoorTM19
import Derived.Test.YtkmgildnhnjepaaGreatDoorTM47
import Derived.Test.YtkmgildnhnjepaaGreatDoorTM32
import Derived.Test.YtkmgildnhnjepaaGreatDoorTM45
import Derived.Test.YtkmgildnhnjepaaGreatDoorTM42
namespace Go.Proofs.YtkmgildnhnjepaaGreatDoor
set_option linter.unusedVariables false
set_option linter.unusedSimpArgs false
open Go.RowKit
theorem rresolve (b : BokD) (nm : ByteArray) (w : World) (hb : b.At w) (hm : HasMax w) :
    Calls Tryz.prog 23 #[bookV b, .string nm] w (ResE b.rs b.zs b.ls nm w) := rresolve0 b nm w hb (fun W g => rbookCheck b W (hb.gr g) (g.max hm))

end Go.Proofs.YtkmgildnhnjepaaGreatDoor
namespace Go.Proofs.YtkmgildnhnjepaaGreatDoor
set_option linter.unusedVariables false
set_option linter.unusedSimpArgs false
open Go.RowKit
set_option maxHeartbeats 1000000 in
theorem risTime_any (t : Int) (w : World) : Calls Tryz.prog 24 #[.int .i64 t] w fun e w' => e = .returned (.bool (tmB t)) ∧ w = w' := by
  have K1 := fun w => yearDay_any 1600 w (by omega) (by omega)
  have K2 := fun w => yearDay_any 2400 w (by omega) (by omega)
  rw [Cal.ys_1600] at K1
  rw [Cal.ys_2400] at K2
  have KA := Lib.hid K1
  have KB := Lib.hid K2
  have T : Hid (tmB t = (decide (-11676096000 ≤ t) && decide (t < 13569465600))) := by
    unfold Hid tmB
    rw [Bool.eq_iff_iff]; simp; omega
  clear K1 K2
  generalize tmB t = R at T ⊢
  obtain ⟨p, ep⟩ : ∃ p, decide (-11676096000 ≤ t) = p := ⟨_, rfl⟩
  obtain ⟨q, eq⟩ : ∃ q, decide (t < 13569465600) = q := ⟨_, rfl⟩
  rw [ep, eq] at T
  cases p with
  | false =>
    go_enter Tryz.func24, Tryz.ntmps24
    go_wp2_with fail
    refine (KA.out w).mono ?_
    rintro e w1 ⟨rfl, rfl⟩
    go_wp2_with fail
    go_ret
    exact ⟨ret_bool T.out.symm, rfl⟩
  | true =>
    go_enter Tryz.func24, Tryz.ntmps24
    go_wp2_with fail
    refine (KA.out w).mono ?_
    rintro e w1 ⟨rfl, rfl⟩
    go_wp2_with fail
    refine (KB.out w).mono ?_
    rintro e w1 ⟨rfl, rfl⟩
    cases q
    all_goals
      go_wp2
      go_ret
      exact ⟨ret_bool T.out.symm, rfl⟩

end Go.Proofs.YtkmgildnhnjepaaGreatDoor
namespace Go.Proofs.YtkmgildnhnjepaaGreatDoor
set_option linter.unusedVariables false
set_option linter.unusedSimpArgs false
open Go.RowKit
/-- the transitions of each era lie behind one another, each in a slice of its own -/
def TrsAt (rs : List RuD) (zs : List ZonD) (ls : List LinD) (W : World) (TA : Option Addr) (es : List EraD) : Prop :=
  ∀ (k : Nat) (e : EraD), es[k]? = some e → ∃ tb tt A c, TA = some ⟨tb, tt, none⟩ ∧ W.cell? ⟨tb, tt + k, none⟩ = some (.slice A (eraT rs zs ls e).length c) ∧ Row W 3 TurD.cells A (eraT rs zs ls e)
theorem TrsAt.gr {rs : List RuD} {zs : List ZonD} {ls : List LinD} {W W' : World} {TA : Option Addr} {es : List EraD} (h : TrsAt rs zs ls W TA es) (g : Gr W W') : TrsAt rs zs ls W' TA es := fun k e he => by
  obtain ⟨tb, tt, A, c, h1, h2, h3⟩ := h k e he
  exact ⟨tb, tt, A, c, h1, g.holds h2, h3.gr g⟩

set_option maxRecDepth 100000 in
set_option maxHeartbeats 16000000 in
theorem clo_any (rs : List RuD) (zs : List ZonD) (ls : List LinD) (t : Int) (znm : ByteArray) (zA : Option Addr) (zc : Nat) (es : List EraD) (TA : Option Addr) (tc qz q2 : Nat) (W : World) (hz : W.heap[qz]? = some (.cells #[.string znm, .slice zA es.length zc] 57 (0, 0))) (ht : W.cell? ⟨q2, 0, none⟩ = some (.slice TA es.length tc))
    (hr : Row W 5 EraD.cells zA es) (l1 : 1 ≤ es.length) (l2 : es.length ≤ 700) (lc : es.length ≤ zc) (hT : TrsAt rs zs ls W TA es) (hE : ∀ (k : Nat) (e : EraD), es[k]? = some e → eraA rs e = 0) (hI : ∀ r ∈ rs, r.In) (hm : HasMax W) :
    Calls Tryz.prog 26 #[.int .i64 t, .pointer (some ⟨qz, 0, none⟩), .pointer (some ⟨q2, 0, none⟩)] W fun e w' => e = .returned (.agg #[.int .i64 (locT rs zs ls es t).off, .bool (locT rs zs ls es t).sv, .string (locT rs zs ls es t).nm]) ∧ Gr W w' := by
  have mixed : Tryz.prog.follows .mixedOrders = true := by kernel_rfl
  have HM := Lib.hid hm
  have hx := eraE_get (t := t) l1
  obtain ⟨⟨eo, ru, sv, fm, un⟩, hxe⟩ : ∃ x, eraE es t = x := ⟨_, rfl⟩
  rw [hxe] at hx
  have EA := hE _ _ hx
  have NU0 := eraA_num EA
  have NU : Hid (-64800 ≤ eo ∧ eo ≤ 64800) := NU0.1
  have SZ : Hid (ru.toList ≠ [] → sv = 0) := fun h => (eraA_ru EA h).1
  have SO := abbrC_zero (savP_ok zs ls t EA)
  have SB : Hid (0 ≤ (savP ⟨eo, ru, sv, fm, un⟩ (eraT rs zs ls ⟨eo, ru, sv, fm, un⟩) t).1 ∧ (savP ⟨eo, ru, sv, fm, un⟩ (eraT rs zs ls ⟨eo, ru, sv, fm, un⟩) t).1 ≤ 10800 ∧ (savP ⟨eo, ru, sv, fm, un⟩ (eraT rs zs ls ⟨eo, ru, sv, fm, un⟩) t).2.size ≤ maxLen) := ⟨SO.2.1, SO.2.2, savP_size hI _ t⟩
  have RI : Hid (Rise (eraT rs zs ls ⟨eo, ru, sv, fm, un⟩)) := eraT_rise
  have LT : Hid ((eraT rs zs ls ⟨eo, ru, sv, fm, un⟩).length ≤ 100000) := eraT_len
  have ER : Hid (locT rs zs ls es t = ⟨eo + (savP ⟨eo, ru, sv, fm, un⟩ (eraT rs zs ls ⟨eo, ru, sv, fm, un⟩) t).1, decide (0 < (savP ⟨eo, ru, sv, fm, un⟩ (eraT rs zs ls ⟨eo, ru, sv, fm, un⟩) t).1), S (abbrR fm.toList (savP ⟨eo, ru, sv, fm, un⟩ (eraT rs zs ls ⟨eo, ru, sv, fm, un⟩) t).1 (savP ⟨eo, ru, sv, fm, un⟩ (eraT rs zs ls ⟨eo, ru, sv, fm, un⟩) t).2.toList).1⟩) := by unfold Hid locT; rw [hxe]; rfl
  have lx := (List.getElem?_eq_some_iff.1 hx).1
  obtain ⟨tb, tt, At, ct, rfl, ht3, htr⟩ := hT _ _ hx
  have B0 := Lib.hid (box_one W (.cells #[.int .i64 0, .bool false, .string ⟨#[]⟩] 46))
  obtain ⟨bz, oz, rfl, c0, c1, c2, c3, c4⟩ := Row.five hr hx rfl (Gr.refl W)
  have KE := Lib.hid (fun W' (g : Gr W W') => reraAt znm (some ⟨bz, oz, none⟩) zc es t W' (hr.gr g) l1 l2 lc)
  have i0 : (0 : Int) ≤ (eraI es t : Int) := by omega
  have i1 : (eraI es t : Int) < (es.length : Int) := by omega
  have HZ := Lib.hid hz
  have HT := Lib.hid ht
  have HT3 := Lib.hid ht3
  have TR := Lib.hid htr
  have C0 := Lib.hid (And.intro c0 (And.intro c1 (And.intro c2 (And.intro c3 c4))))
  clear hz ht hr hT hE hI hm hx hxe EA NU0 SO ht3 htr c0 c1 c2 c3 c4 lx
  go_enter Tryz.func26, Tryz.ntmps26
  have z0 : (W.alloc (.cells #[.int .i64 0, .bool false, .string ⟨#[]⟩] 46)).cell? ⟨qz, 0, none⟩ = some (.string znm) := bcell_row (bheap_gr B0.out.1 HZ.out) rfl
  have z1 : (W.alloc (.cells #[.int .i64 0, .bool false, .string ⟨#[]⟩] 46)).cell? ⟨qz, 1, none⟩ = some (.slice (some ⟨bz, oz, none⟩) es.length zc) := bcell_row (bheap_gr B0.out.1 HZ.out) rfl
  go_wp2_with fail
  clear z0 z1
  generalize W.alloc (.cells #[.int .i64 0, .bool false, .string ⟨#[]⟩] 46) = w1 at B0 ⊢
  obtain ⟨q, hq⟩ : ∃ q, W.heap.size = q := ⟨_, rfl⟩
  have NQ : Hid (W.heap.size ≤ q) := Nat.le_of_eq hq
  rw [hq] at B0 ⊢
  clear hq
  refine (KE.out w1 B0.out.1).mono ?_
  rintro e w2 ⟨rfl, g2⟩
  have G2 := Lib.hid (B0.out.1.trans g2)
  have HQ2 := Lib.hid (bheap_gr g2 B0.out.2)
  have YA := Lib.hid (bcell_row (i := 1) (v := .slice (some ⟨bz, oz, none⟩) es.length zc) (bheap_gr G2.out HZ.out) rfl)
  have Y2 := Lib.hid (G2.out.holds HT.out)
  have Y3 := Lib.hid (G2.out.holds HT3.out)
  have TR2 := Lib.hid (TR.out.gr G2.out)
  have CC := Lib.hid (And.intro (G2.out.holds C0.out.1) (And.intro (G2.out.holds C0.out.2.1) (And.intro (G2.out.holds C0.out.2.2.1) (And.intro (G2.out.holds C0.out.2.2.2.1) (G2.out.holds C0.out.2.2.2.2)))))
  have C := CC
  clear g2 B0 KE HZ HT HT3 TR C0 CC
  go_wp2_with fail
  refine wp_region_noPanic ?_
  refine till_start 11 (fun wx => wx.cell? ⟨qz, 1, none⟩ = some (.slice (some ⟨bz, oz, none⟩) es.length zc) ∧ wx.cell? ⟨q2, 0, none⟩ = some (.slice (some ⟨tb, tt, none⟩) es.length tc) ∧ wx.cell? ⟨tb, tt + eraI es t, none⟩ = some (.slice At (eraT rs zs ls ⟨eo, ru, sv, fm, un⟩).length ct) ∧ wx.cell? ⟨bz, oz + eraI es t * 5, none⟩ = some (.int .i64 eo) ∧ wx.cell? ⟨bz, oz + eraI es t * 5 + 1, none⟩ = some (.string ru) ∧ wx.cell? ⟨bz, oz + eraI es t * 5 + 2, none⟩ = some (.int .i64 sv) ∧ wx.cell? ⟨bz, oz + eraI es t * 5 + 3, none⟩ = some (.string fm) ∧ wx.cell? ⟨bz, oz + eraI es t * 5 + 4, none⟩ = some (.int .i64 un)) (by kernel_rfl) ⟨YA.out, Y2.out, Y3.out, C.out.1, C.out.2.1, C.out.2.2.1, C.out.2.2.2.1, C.out.2.2.2.2⟩ (fun hHeld => ?_)
  (try dsimp only at hHeld)
  have G3 := Lib.hid (G2.out.trans (Gr.drew w2))
  have HQ3 := Lib.hid (bheap_gr (Gr.drew w2) HQ2.out)
  have TR3 := Lib.hid (TR2.out.gr (Gr.drew w2))
  generalize w2.drew = w3 at hHeld G3 HQ3 TR3 ⊢
  clear G2 HQ2 TR2 YA Y2 Y3 C
  refine till_take (i := 0) (oi := { dst := some 9, op := _, type := _, pos := _, after := _, guard := _ }) (v := ?v1) rfl (by kernel_rfl) (by kernel_rfl) (by kernel_rfl) (by kernel_rfl) (fun _ _ _ h => h) (Or.inl ⟨by rfl, ?hy1⟩) (by assumption) ?rest1
  case hy1 => (intro w hSw; go_simp <;> (with_reducible rfl))
  (try simp only [Act.put, List.setIfInBounds_toArray, List.set_cons_zero, List.set_cons_succ])
  refine till_take (i := 1) (oi := { dst := some 10, op := _, type := _, pos := _, after := _, guard := _ }) (v := ?v2) rfl (by kernel_rfl) (by kernel_rfl) (by kernel_rfl) (by kernel_rfl) (fun _ _ _ h => h) (Or.inl ⟨by rfl, ?hy2⟩) (by assumption) ?rest2
  case hy2 => (intro w hSw; have a1 := hSw.1; go_simp <;> (with_reducible rfl))
  (try simp only [Act.put, List.setIfInBounds_toArray, List.set_cons_zero, List.set_cons_succ])
  refine till_take (i := 2) (oi := { dst := some 11, op := _, type := _, pos := _, after := _, guard := _ }) (v := ?v3) rfl (by kernel_rfl) (by kernel_rfl) (by kernel_rfl) (by kernel_rfl) (fun _ _ _ h => h) (Or.inl ⟨by rfl, ?hy3⟩) (by assumption) ?rest3
  case hy3 => (intro w hSw; go_simp <;> (with_reducible rfl))
  (try simp only [Act.put, List.setIfInBounds_toArray, List.set_cons_zero, List.set_cons_succ])
  refine till_take (i := 3) (oi := { dst := some 12, op := _, type := _, pos := _, after := _, guard := _ }) (v := ?v4) rfl (by kernel_rfl) (by kernel_rfl) (by kernel_rfl) (by kernel_rfl) (fun _ _ _ h => h) (Or.inl ⟨by rfl, ?hy4⟩) (by assumption) ?rest4
  case hy4 => (intro w hSw; go_simp <;> (with_reducible rfl))
  (try simp only [Act.put, List.setIfInBounds_toArray, List.set_cons_zero, List.set_cons_succ])
  refine till_take (i := 4) (oi := { dst := some 13, op := _, type := _, pos := _, after := _, guard := _ }) (v := ?v5) rfl (by kernel_rfl) (by kernel_rfl) (by kernel_rfl) (by kernel_rfl) (fun _ _ _ h => h) (Or.inl ⟨by rfl, ?hy5⟩) (by assumption) ?rest5
  case hy5 => (intro w hSw; have c0 := hSw.2.2.2.1; have c1 := hSw.2.2.2.2.1; have c2 := hSw.2.2.2.2.2.1; have c3 := hSw.2.2.2.2.2.2.1; have c4 := hSw.2.2.2.2.2.2.2; go_simp <;> (with_reducible rfl))
  (try simp only [Act.put, List.setIfInBounds_toArray, List.set_cons_zero, List.set_cons_succ])
  refine till_take (i := 5) (oi := { dst := some 14, op := _, type := _, pos := _, after := _, guard := _ }) (v := ?v6) rfl (by kernel_rfl) (by kernel_rfl) (by kernel_rfl) (by kernel_rfl) (fun _ _ _ h => h) (Or.inl ⟨by rfl, ?hy6⟩) (by assumption) ?rest6
  case hy6 => (intro w hSw; have a2 := hSw.2.1; go_simp <;> (with_reducible rfl))
  (try simp only [Act.put, List.setIfInBounds_toArray, List.set_cons_zero, List.set_cons_succ])
  refine till_take (i := 6) (oi := { dst := some 15, op := _, type := _, pos := _, after := _, guard := _ }) (v := ?v7) rfl (by kernel_rfl) (by kernel_rfl) (by kernel_rfl) (by kernel_rfl) (fun _ _ _ h => h) (Or.inl ⟨by rfl, ?hy7⟩) (by assumption) ?rest7
  case hy7 => (intro w hSw; go_simp <;> (with_reducible rfl))
  (try simp only [Act.put, List.setIfInBounds_toArray, List.set_cons_zero, List.set_cons_succ])
  refine till_take (i := 7) (oi := { dst := some 16, op := _, type := _, pos := _, after := _, guard := _ }) (v := ?v8) rfl (by kernel_rfl) (by kernel_rfl) (by kernel_rfl) (by kernel_rfl) (fun _ _ _ h => h) (Or.inl ⟨by rfl, ?hy8⟩) (by assumption) ?rest8
  case hy8 => (intro w hSw; go_simp <;> (with_reducible rfl))
  (try simp only [Act.put, List.setIfInBounds_toArray, List.set_cons_zero, List.set_cons_succ])
  refine till_take (i := 8) (oi := { dst := some 17, op := _, type := _, pos := _, after := _, guard := _ }) (v := ?v9) rfl (by kernel_rfl) (by kernel_rfl) (by kernel_rfl) (by kernel_rfl) (fun _ _ _ h => h) (Or.inl ⟨by rfl, ?hy9⟩) (by assumption) ?rest9
  case hy9 => (intro w hSw; have a3 := hSw.2.2.1; go_simp <;> (with_reducible rfl))
  (try simp only [Act.put, List.setIfInBounds_toArray, List.set_cons_zero, List.set_cons_succ])
  refine till_take (i := 9) (oi := { dst := some 18, op := _, type := _, pos := _, after := _, guard := _ }) (v := ?v10) rfl (by kernel_rfl) (by kernel_rfl) (by kernel_rfl) (by kernel_rfl) (fun _ _ _ h => h) (Or.inl ⟨by rfl, ?hy10⟩) (by assumption) ?rest10
  case hy10 => (intro w hSw; go_simp <;> (with_reducible rfl))
  (try simp only [Act.put, List.setIfInBounds_toArray, List.set_cons_zero, List.set_cons_succ])
  refine till_one (i := 10) (by kernel_rfl) rfl (fun K hK => ?_)
  go_simp
  (with_reducible refine (rtypeOf ⟨eo, ru, sv, fm, un⟩ At ct (eraT rs zs ls ⟨eo, ru, sv, fm, un⟩) t w3 TR3.out LT.out RI.out (G3.out.max HM.out) SZ.out NU.out.1 NU.out.2 SB.out.1 SB.out.2.1 SB.out.2.2).mono ?_)
  rintro e w4 ⟨rfl, g4⟩
  (go_wp2_with fail)
  refine hK.out _ _ (Or.inr ⟨g4.holds hHeld.1, g4.holds hHeld.2.1, g4.holds hHeld.2.2.1, g4.holds hHeld.2.2.2.1, g4.holds hHeld.2.2.2.2.1, g4.holds hHeld.2.2.2.2.2.1, g4.holds hHeld.2.2.2.2.2.2.1, g4.holds hHeld.2.2.2.2.2.2.2⟩) ?_
  clear hK K
  (try simp only [Act.put, List.setIfInBounds_toArray, List.set_cons_zero, List.set_cons_succ])
  have G4 := Lib.hid (G3.out.trans g4)
  have HQ4 := Lib.hid (bheap_gr g4 HQ3.out)
  clear hHeld g4 G3 HQ3 TR3
  refine till_one (i := 11) (by kernel_rfl) rfl (fun K hK => ?_)
  have y0 : w4.cell? ⟨q, 0, none⟩ = some (.int .i64 0) := bcell_row HQ4.out rfl
  have y1 : w4.cell? ⟨q, 1, none⟩ = some (.bool false) := bcell_row HQ4.out rfl
  have y2 : w4.cell? ⟨q, 2, none⟩ = some (.string ⟨#[]⟩) := bcell_row HQ4.out rfl
  have f0 : w4.frozen? ⟨q, 0, none⟩ = false := unfrozen HQ4.out
  have f1 : w4.frozen? ⟨q, 1, none⟩ = false := unfrozen HQ4.out
  have f2 : w4.frozen? ⟨q, 2, none⟩ = false := unfrozen HQ4.out
  have s0 : (((w4.setCell ⟨q, 0, none⟩ (.int .i64 (eo + (savP ⟨eo, ru, sv, fm, un⟩ (eraT rs zs ls ⟨eo, ru, sv, fm, un⟩) t).1))).setCell ⟨q, 1, none⟩ (.bool (decide (0 < (savP ⟨eo, ru, sv, fm, un⟩ (eraT rs zs ls ⟨eo, ru, sv, fm, un⟩) t).1)))).setCell ⟨q, 2, none⟩ (.string (S (abbrR fm.toList (savP ⟨eo, ru, sv, fm, un⟩ (eraT rs zs ls ⟨eo, ru, sv, fm, un⟩) t).1 (savP ⟨eo, ru, sv, fm, un⟩ (eraT rs zs ls ⟨eo, ru, sv, fm, un⟩) t).2.toList).1))).cell? ⟨q, 0, none⟩ = some (.int .i64 (eo + (savP ⟨eo, ru, sv, fm, un⟩ (eraT rs zs ls ⟨eo, ru, sv, fm, un⟩) t).1)) := bcell_row (st3 HQ4.out (.int .i64 (eo + (savP ⟨eo, ru, sv, fm, un⟩ (eraT rs zs ls ⟨eo, ru, sv, fm, un⟩) t).1)) (.bool (decide (0 < (savP ⟨eo, ru, sv, fm, un⟩ (eraT rs zs ls ⟨eo, ru, sv, fm, un⟩) t).1))) (.string (S (abbrR fm.toList (savP ⟨eo, ru, sv, fm, un⟩ (eraT rs zs ls ⟨eo, ru, sv, fm, un⟩) t).1 (savP ⟨eo, ru, sv, fm, un⟩ (eraT rs zs ls ⟨eo, ru, sv, fm, un⟩) t).2.toList).1))) rfl
  have s1 : (((w4.setCell ⟨q, 0, none⟩ (.int .i64 (eo + (savP ⟨eo, ru, sv, fm, un⟩ (eraT rs zs ls ⟨eo, ru, sv, fm, un⟩) t).1))).setCell ⟨q, 1, none⟩ (.bool (decide (0 < (savP ⟨eo, ru, sv, fm, un⟩ (eraT rs zs ls ⟨eo, ru, sv, fm, un⟩) t).1)))).setCell ⟨q, 2, none⟩ (.string (S (abbrR fm.toList (savP ⟨eo, ru, sv, fm, un⟩ (eraT rs zs ls ⟨eo, ru, sv, fm, un⟩) t).1 (savP ⟨eo, ru, sv, fm, un⟩ (eraT rs zs ls ⟨eo, ru, sv, fm, un⟩) t).2.toList).1))).cell? ⟨q, 1, none⟩ = some (.bool (decide (0 < (savP ⟨eo, ru, sv, fm, un⟩ (eraT rs zs ls ⟨eo, ru, sv, fm, un⟩) t).1))) := bcell_row (st3 HQ4.out (.int .i64 (eo + (savP ⟨eo, ru, sv, fm, un⟩ (eraT rs zs ls ⟨eo, ru, sv, fm, un⟩) t).1)) (.bool (decide (0 < (savP ⟨eo, ru, sv, fm, un⟩ (eraT rs zs ls ⟨eo, ru, sv, fm, un⟩) t).1))) (.string (S (abbrR fm.toList (savP ⟨eo, ru, sv, fm, un⟩ (eraT rs zs ls ⟨eo, ru, sv, fm, un⟩) t).1 (savP ⟨eo, ru, sv, fm, un⟩ (eraT rs zs ls ⟨eo, ru, sv, fm, un⟩) t).2.toList).1))) rfl
  have s2 : (((w4.setCell ⟨q, 0, none⟩ (.int .i64 (eo + (savP ⟨eo, ru, sv, fm, un⟩ (eraT rs zs ls ⟨eo, ru, sv, fm, un⟩) t).1))).setCell ⟨q, 1, none⟩ (.bool (decide (0 < (savP ⟨eo, ru, sv, fm, un⟩ (eraT rs zs ls ⟨eo, ru, sv, fm, un⟩) t).1)))).setCell ⟨q, 2, none⟩ (.string (S (abbrR fm.toList (savP ⟨eo, ru, sv, fm, un⟩ (eraT rs zs ls ⟨eo, ru, sv, fm, un⟩) t).1 (savP ⟨eo, ru, sv, fm, un⟩ (eraT rs zs ls ⟨eo, ru, sv, fm, un⟩) t).2.toList).1))).cell? ⟨q, 2, none⟩ = some (.string (S (abbrR fm.toList (savP ⟨eo, ru, sv, fm, un⟩ (eraT rs zs ls ⟨eo, ru, sv, fm, un⟩) t).1 (savP ⟨eo, ru, sv, fm, un⟩ (eraT rs zs ls ⟨eo, ru, sv, fm, un⟩) t).2.toList).1)) := bcell_row (st3 HQ4.out (.int .i64 (eo + (savP ⟨eo, ru, sv, fm, un⟩ (eraT rs zs ls ⟨eo, ru, sv, fm, un⟩) t).1)) (.bool (decide (0 < (savP ⟨eo, ru, sv, fm, un⟩ (eraT rs zs ls ⟨eo, ru, sv, fm, un⟩) t).1))) (.string (S (abbrR fm.toList (savP ⟨eo, ru, sv, fm, un⟩ (eraT rs zs ls ⟨eo, ru, sv, fm, un⟩) t).1 (savP ⟨eo, ru, sv, fm, un⟩ (eraT rs zs ls ⟨eo, ru, sv, fm, un⟩) t).2.toList).1))) rfl
  go_simp
  refine hK.out _ _ (Or.inl (by kernel_rfl)) ?_
  clear hK K
  (try simp only [Act.put, List.setIfInBounds_toArray, List.set_cons_zero, List.set_cons_succ])
  refine till_done (by kernel_rfl) ?_ _
  refine NoPanic.normal ?_
  go_wp2_with fail
  exact bodyPost_ret (v := .agg #[.int .i64 (eo + (savP ⟨eo, ru, sv, fm, un⟩ (eraT rs zs ls ⟨eo, ru, sv, fm, un⟩) t).1), .bool (decide (0 < (savP ⟨eo, ru, sv, fm, un⟩ (eraT rs zs ls ⟨eo, ru, sv, fm, un⟩) t).1)), .string (S (abbrR fm.toList (savP ⟨eo, ru, sv, fm, un⟩ (eraT rs zs ls ⟨eo, ru, sv, fm, un⟩) t).1 (savP ⟨eo, ru, sv, fm, un⟩ (eraT rs zs ls ⟨eo, ru, sv, fm, un⟩) t).2.toList).1)]) (by simp [results, Tryz.results26, go_sem, s0, s1, s2]) rfl ⟨by rw [ER.out], (st3_below G4.out NQ.out (.int .i64 (eo + (savP ⟨eo, ru, sv, fm, un⟩ (eraT rs zs ls ⟨eo, ru, sv, fm, un⟩) t).1)) (.bool (decide (0 < (savP ⟨eo, ru, sv, fm, un⟩ (eraT rs zs ls ⟨eo, ru, sv, fm, un⟩) t).1))) (.string (S (abbrR fm.toList (savP ⟨eo, ru, sv, fm, un⟩ (eraT rs zs ls ⟨eo, ru, sv, fm, un⟩) t).1 (savP ⟨eo, ru, sv, fm, un⟩ (eraT rs zs ls ⟨eo, ru, sv, fm, un⟩) t).2.toList).1)))⟩
end Go.Proofs.YtkmgildnhnjepaaGreatDoor
namespace Go.Proofs.YtkmgildnhnjepaaGreatDoor
set_option linter.unusedVariables false
set_option linter.unusedSimpArgs false
open Go.RowKit
theorem in_one (x : Int) : ∀ u ∈ inC x, u.oneCell' = true := fun u hu => by simp [inC] at hu; subst hu; rfl
theorem infoI : (Tryz.prog.info? 3).map (fun i => (i.zero, i.size, i.bytes)) = some (some (.int .i64 0), 1, 8) := by kernel_rfl

end Go.Proofs.YtkmgildnhnjepaaGreatDoor
namespace Go.Proofs.YtkmgildnhnjepaaGreatDoor
set_option linter.unusedVariables false
set_option linter.unusedSimpArgs false
open Go.RowKit
section
variable {rs : List RuD} {zs : List ZonD} {ls : List LinD}
theorem ofL_few {nm : ByteArray} {off : Int} : (ofL rs zs ls nm off).length ≤ 1500 := by
  unfold ofL
  split
  · rename_i h
    obtain ⟨h1, h2, h3, h4, h5⟩ := ofC_zero.1 h
    have p := pens_len (l := selR rs nm) (fun r hr => RuD.ok_of (rules_ok h1 r (sel_mem hr).1))
    rw [turL_len, sorted_len]
    omega
  · simp
theorem eraT_few {e : EraD} : (eraT rs zs ls e).length ≤ 1500 := by
  unfold eraT
  split
  · simp
  · exact ofL_few
theorem cand1_len (L : List TurD) (a b : Int) : (cand1 L a b).length ≤ L.length + 1 := by
  unfold cand1
  split
  · simp
  · have := List.length_filter_le (fun u : TurD => decide (a < u.at' ∧ u.at' ≤ b)) L
    simp only [List.length_cons, List.length_map]
    omega
theorem candK_at {es : List EraD} {F T : Int} {k : Nat} {e : EraD} (h : es[k]? = some e) : candK rs zs ls es F T k = cand1 (eraT rs zs ls e) (frK es F k) (toK es T k) := by unfold candK; simp only [h]
theorem candN_len {es : List EraD} {F T : Int} : ∀ n, (candN rs zs ls es F T n).length ≤ n * 1501
  | 0 => by simp [candN]
  | n + 1 => by
    have ih := candN_len (es := es) (F := F) (T := T) n
    have h : (candK rs zs ls es F T n).length ≤ 1501 := by
      cases he : es[n]? with
      | none => unfold candK; simp only [he]; simp
      | some e =>
        rw [candK_at he]
        have := cand1_len (eraT rs zs ls e) (frK es F n) (toK es T n)
        have := eraT_few (rs := rs) (zs := zs) (ls := ls) (e := e)
        omega
    rw [candN_succ, List.length_append]
    omega
/-- the times of an era that are listed behind the first j of its transitions -/
def candT (L : List TurD) (a b : Int) (j : Nat) : List Int := a :: (((L.take j).filter fun u => decide (a < u.at' ∧ u.at' ≤ b)).map TurD.at')
theorem candT_zero (L : List TurD) (a b : Int) : candT L a b 0 = [a] := by simp [candT]
theorem candT_all {L : List TurD} {a b : Int} (h : ¬ b < a) : candT L a b L.length = cand1 L a b := by unfold candT cand1; rw [List.take_length, if_neg h]
theorem candT_succ {L : List TurD} {a b : Int} {j : Nat} {u : TurD} (h : L[j]? = some u) : candT L a b (j + 1) = if a < u.at' ∧ u.at' ≤ b then candT L a b j ++ [u.at'] else candT L a b j := by
  have hj : j < L.length := (List.getElem?_eq_some_iff.1 h).1
  have e : L[j] = u := (List.getElem?_eq_some_iff.1 h).2
  unfold candT
  rw [List.take_succ_eq_append_getElem hj, e, List.filter_append]
  by_cases q : a < u.at' ∧ u.at' ≤ b
  · rw [if_pos q]; simp [q]
  · rw [if_neg q]; simp [q]
theorem candT_len (L : List TurD) (a b : Int) (j : Nat) : (candT L a b j).length ≤ L.length + 1 := by
  have := List.length_filter_le (fun u : TurD => decide (a < u.at' ∧ u.at' ≤ b)) (L.take j)
  unfold candT
  simp only [List.length_cons, List.length_map]
  rw [List.length_take] at this
  omega

/-- the transitions of the first k eras lie in a row of slices -/
def TrsM (rs : List RuD) (zs : List ZonD) (ls : List LinD) (E : TypeId) (es : List EraD) (qt : Nat) (W : World) (k : Nat) : Prop :=
  ∃ cs : Array Value, W.heap[qt]? = some (.cells cs E (0, 0)) ∧ cs.size = es.length ∧ (∀ (i : Nat) (x : Value), cs[i]? = some x → ∃ a n c, x = .slice a n c) ∧ (∀ i : Nat, k ≤ i → i < es.length → cs[i]? = some (.slice none 0 0)) ∧ ∀ (i : Nat) (e : EraD), i < k → es[i]? = some e → ∃ A c, cs[i]? = some (.slice A (eraT rs zs ls e).length c) ∧ Row W 3 TurD.cells A (eraT rs zs ls e)
theorem row_tset {W : World} {A : Option Addr} {l : List TurD} {qt i : Nat} {cs : Array Value} {E : TypeId} {v : Value} (hr : Row W 3 TurD.cells A l) (hq : W.heap[qt]? = some (.cells cs E (0, 0))) (hs : ∀ (i : Nat) (x : Value), cs[i]? = some x → ∃ a n c, x = .slice a n c) : Row (W.setCell ⟨qt, i, none⟩ v) 3 TurD.cells A l := fun j x hx => by
  obtain ⟨b, off, rfl, hb, hc⟩ := hr j x hx
  have hne : b ≠ qt := by
    rintro rfl
    have h0 := hc 0 (.int .i64 x.at') rfl
    simp only [World.cell?, hq] at h0
    obtain ⟨a, n, c, e⟩ := hs _ _ (by simpa using h0)
    cases e
  exact ⟨b, off, rfl, set_lt2 hb, fun m u hu => (World.cell?_of_block (w := W) (a := ⟨b, off + j * 3 + m, none⟩) (Below.heap_setCell _ _ _ _ hne)).trans (hc m u hu)⟩
variable {E : TypeId} {es : List EraD} {qt k : Nat} {W W' : World}
theorem TrsM.new (h : W.heap[qt]? = some (.cells (madeCells #[.slice none 0 0] es.length) E (0, 0))) : TrsM rs zs ls E es qt W 0 := by
  have g : ∀ i : Nat, i < es.length → (madeCells #[.slice none 0 0] es.length)[i]? = some (.slice none 0 0) := fun i hi => by simp [madeCells, hi, Nat.mod_one]
  refine ⟨_, h, size_madeCells _ _, fun i x hx => ?_, fun i _ hi => g i hi, fun i e hi => by omega⟩
  have hi : i < es.length := by have := (Array.getElem?_eq_some_iff.1 hx).1; rwa [size_madeCells] at this
  rw [g i hi] at hx
  exact ⟨none, 0, 0, (Option.some.inj hx).symm⟩
theorem TrsM.gr (h : TrsM rs zs ls E es qt W k) (g : Gr W W') : TrsM rs zs ls E es qt W' k := by
  obtain ⟨cs, h1, h2, h3, h4, h5⟩ := h
  exact ⟨cs, bheap_gr g h1, h2, h3, h4, fun i e hi he => by obtain ⟨A, c, a, b⟩ := h5 i e hi he; exact ⟨A, c, a, b.gr g⟩⟩
theorem TrsM.lies (h : TrsM rs zs ls E es qt W k) : ∃ cs : Array Value, W.heap[qt]? = some (.cells cs E (0, 0)) := by obtain ⟨cs, h1, _⟩ := h; exact ⟨cs, h1⟩
theorem TrsM.cell (h : TrsM rs zs ls E es qt W k) (hk : k < es.length) : W.cell? ⟨qt, k, none⟩ = some (.slice none 0 0) := by
  obtain ⟨cs, h1, _, _, h4, _⟩ := h
  exact bcell_row h1 (h4 k (Nat.le_refl _) hk)
theorem TrsM.free (h : TrsM rs zs ls E es qt W k) (i : Nat) : W.frozen? ⟨qt, i, none⟩ = false := by
  obtain ⟨cs, h1, _⟩ := h
  exact unfrozen h1
theorem TrsM.skip (h : TrsM rs zs ls E es qt W k) {e : EraD} (he : es[k]? = some e) (ht : eraT rs zs ls e = []) : TrsM rs zs ls E es qt W (k + 1) := by
  obtain ⟨cs, h1, h2, h3, h4, h5⟩ := h
  refine ⟨cs, h1, h2, h3, fun i a b => h4 i (by omega) b, fun i e' hi he' => ?_⟩
  by_cases c : i = k
  · subst c
    obtain rfl := Option.some.inj (he.symm.trans he')
    rw [ht]
    exact ⟨none, 0, h4 i (Nat.le_refl _) (List.getElem?_eq_some_iff.1 he).1, Row.nil _ _ _ _⟩
  · exact h5 i e' (by omega) he'
theorem TrsM.set (h : TrsM rs zs ls E es qt W k) {e : EraD} (he : es[k]? = some e) {A : Option Addr} {n c : Nat} (hn : n = (eraT rs zs ls e).length) (hr : Row W 3 TurD.cells A (eraT rs zs ls e)) : TrsM rs zs ls E es qt (W.setCell ⟨qt, k, none⟩ (.slice A n c)) (k + 1) := by
  subst hn
  obtain ⟨cs, h1, h2, h3, h4, h5⟩ := h
  have hk : k < cs.size := by rw [h2]; exact (List.getElem?_eq_some_iff.1 he).1
  refine ⟨cs.setIfInBounds k (.slice A (eraT rs zs ls e).length c), heap_setCell_same W qt k cs E _ h1, by simp [h2], fun i x hx => ?_, fun i a b => ?_, fun i e' hi he' => ?_⟩
  · by_cases q : k = i
    · subst q
      rw [Array.getElem?_setIfInBounds_self_of_lt hk] at hx
      exact ⟨_, _, _, (Option.some.inj hx).symm⟩
    · rw [Array.getElem?_setIfInBounds_ne q] at hx
      exact h3 i x hx
  · rw [Array.getElem?_setIfInBounds_ne (by omega)]
    exact h4 i (by omega) b
  · by_cases q : k = i
    · subst q
      obtain rfl := Option.some.inj (he.symm.trans he')
      exact ⟨A, c, Array.getElem?_setIfInBounds_self_of_lt hk, row_tset hr h1 h3⟩
    · obtain ⟨A', c', a, b⟩ := h5 i e' (by omega) he'
      exact ⟨A', c', by rw [Array.getElem?_setIfInBounds_ne q]; exact a, row_tset b h1 h3⟩
theorem TrsM.done (h : TrsM rs zs ls E es qt W es.length) : TrsAt rs zs ls W (some ⟨qt, 0, none⟩) es := fun k e he => by
  obtain ⟨cs, h1, _, _, _, h5⟩ := h
  obtain ⟨A, c, a, b⟩ := h5 k e (List.getElem?_eq_some_iff.1 he).1 he
  exact ⟨qt, 0, A, c, rfl, by rw [Nat.zero_add]; exact bcell_row h1 a, b⟩
end
theorem infoTurs : (Tryz.prog.info? 71).map (fun i => (i.zero, i.size, i.bytes)) = some (some (.slice none 0 0), 1, 24) := by kernel_rfl

theorem bsn_int1 (w : World) (a : Int) : (Instr.buildSlice 42 1 #[(0, Value.int .i64 a)]).run Tryz.prog w = .ok (.slice (some ⟨w.heap.size, 0, none⟩) 1 1) (w.alloc (.cells #[.int .i64 a] 3)) := by kernel_rfl

end Go.Proofs.YtkmgildnhnjepaaGreatDoor
