/- What the project's addLine of package book does. -/
import Derived.Test.YtkkilmmpmiichaaGreatDoorYM43
namespace Go.Proofs.YtkkilmmpmiichaaGreatDoor
set_option linter.unusedVariables false
set_option linter.unusedSimpArgs false
open Go.RowKit
theorem AddA.bool {base pb n : Nat} {w w' : World} {o : Option BkS} {e : Ending} (h : AddA base pb n w o e w') : ∃ b, e = .returned (.bool b) := by
  cases o with
  | none => exact ⟨_, h.1⟩
  | some q => exact ⟨_, h.1⟩
theorem AddA.pre {base pb n : Nat} {w0 w w' : World} {o : Option BkS} {e : Ending} (h : AddA base pb n w o e w') (g : Gr w0 w) (hb : base ≤ w0.heap.size) : AddA base pb n w0 o e w' := by
  cases o with
  | none => exact ⟨h.1, ((Tch.refl base pb w0).gr g hb).trans h.2⟩
  | some q => exact ⟨h.1, h.2.1, ((Tch.refl base pb w0).gr g hb).trans h.2.2⟩
theorem PSt.gr {w w' : World} {base pb n : Nat} {p : BkS} (h : PSt w base pb n p) (g : Gr w w') : PSt w' base pb n p := by
  obtain ⟨v0, v1, v2, zs, h⟩ := h
  exact ⟨v0, v1, v2, zs, h.gr g⟩
theorem PSt.le {w : World} {base pb n : Nat} {p : BkS} (h : PSt w base pb n p) : base ≤ w.heap.size := by
  obtain ⟨v0, v1, v2, zs, h⟩ := h
  exact h.le
theorem BkS.Ok.step {p q : BkS} {t : ByteArray} (h : p.Ok) (hs : stepB p t = some q) : q.Ok := by
  unfold stepB at hs
  split at hs
  · split at hs
    · rename_i h0
      cases hr : ruleR t.toList with
      | none => rw [hr] at hs; cases hs
      | some r =>
        rw [hr] at hs
        injection hs with hs
        subst hs
        exact ⟨h.st3, h.st0, h.st3', h.open'⟩
    · cases hs
  split at hs
  · split at hs
    · rename_i hc
      injection hs with hs
      subst hs
      refine ⟨(show (1 : Nat) ≤ 3 by omega), ⟨(fun e => absurd (show (1 : Nat) = 0 from e) (by omega)), (fun e => absurd e.1 (by simp))⟩, ⟨(fun e => absurd (show (1 : Nat) = 3 from e) (by omega)), fun e => ?_⟩, (fun _ => by simp)⟩
      have : p.st = 3 := h.st3'.2 e
      omega
    · cases hs
  split at hs
  · split at hs
    · rename_i hc
      injection hs with hs
      subst hs
      have hz := h.open' hc.2.1
      have hne : addE p.zs (eraR t).1 ≠ [] := by
        rcases List.eq_nil_or_concat p.zs with e | ⟨zi, ⟨a, b⟩, e⟩
        · exact absurd e hz
        · rw [e, List.concat_eq_append, addE_snoc]; simp
      refine ⟨by show (if (bl t).length = 4 then 2 else 1) ≤ 3; split <;> omega, ⟨fun e => ?_, fun e => absurd e.1 hne⟩, ⟨fun e => ?_, fun e => ?_⟩, fun _ => hne⟩
      · have e' : (if (bl t).length = 4 then 2 else 1) = 0 := e
        split at e' <;> omega
      · have e' : (if (bl t).length = 4 then 2 else 1) = 3 := e
        split at e' <;> omega
      · have : p.st = 3 := h.st3'.2 e
        omega
    · cases hs
  split at hs
  · split at hs
    · injection hs with hs
      subst hs
      exact ⟨(show (3 : Nat) ≤ 3 by omega), ⟨(fun e => absurd (show (3 : Nat) = 0 from e) (by omega)), (fun e => absurd e.2 (by simp))⟩, ⟨(fun _ => by simp), (fun _ => rfl)⟩, (fun e => absurd (show (3 : Nat) = 1 from e) (by omega))⟩
    · cases hs
  · cases hs
theorem step_rule {p : BkS} {t : ByteArray} (h : (wd t 0).toList = wRule) : stepB p t = if p.st = 0 then (ruleR t.toList).map fun r => { p with rs := p.rs ++ [r] } else none := by unfold stepB; rw [if_pos h]
theorem step_zone {p : BkS} {t : ByteArray} (h : (wd t 0).toList = wZone) : stepB p t = if (bl t).length = 2 ∧ (p.st = 0 ∨ p.st = 2) then some { p with zs := p.zs ++ [(wd t 1, [])], st := 1 } else none := by unfold stepB; rw [if_neg (by rw [h]; decide), if_pos h]
theorem step_era {p : BkS} {t : ByteArray} (h : (wd t 0).toList = wEra) : stepB p t = if ((bl t).length = 4 ∨ (bl t).length = 5) ∧ p.st = 1 ∧ (eraR t).2 = true then some { p with zs := addE p.zs (eraR t).1, st := if (bl t).length = 4 then 2 else 1 } else none := by unfold stepB; rw [if_neg (by rw [h]; decide), if_neg (by rw [h]; decide), if_pos h]
theorem step_link {p : BkS} {t : ByteArray} (h : (wd t 0).toList = wLink) : stepB p t = if (bl t).length = 3 ∧ p.st ≠ 1 then some { p with ls := p.ls ++ [⟨wd t 1, wd t 2⟩], st := 3 } else none := by unfold stepB; rw [if_neg (by rw [h]; decide), if_neg (by rw [h]; decide), if_neg (by rw [h]; decide), if_pos h]
theorem step_none {p : BkS} {t : ByteArray} (h1 : ¬ (wd t 0).toList = wRule) (h2 : ¬ (wd t 0).toList = wZone) (h3 : ¬ (wd t 0).toList = wEra) (h4 : ¬ (wd t 0).toList = wLink) : stepB p t = none := by unfold stepB; rw [if_neg h1, if_neg h2, if_neg h3, if_neg h4]

set_option maxRecDepth 100000 in
set_option maxHeartbeats 8000000 in
theorem paddEra (t : ByteArray) (p : BkS) (base pb n gw L c : Nat) (w0 w : World) (hs : t.size ≤ 60000) (hp : PSt w0 base pb n p) (hn : n ≤ 100000) (g0 : Gr w0 w) (hw : Wds t w0 w gw L c) (hok : p.Ok) (hl : HasLen w) :
    Calls Tryz.prog 30 #[.pointer (some ⟨pb, 0, none⟩), .slice (some ⟨gw, 0, none⟩) L c] w (AddA base pb (n + 1) w0 (if ((bl t).length = 4 ∨ (bl t).length = 5) ∧ p.st = 1 ∧ (eraR t).2 = true then some { p with zs := addE p.zs (eraR t).1, st := if (bl t).length = 4 then 2 else 1 } else none)) := by
  have i4 := hw.is (k := 4) (by omega)
  have i5 := hw.is (k := 5) (by omega)
  by_cases hst : p.st = 1
  · by_cases h4 : (bl t).length = 4
    · have := paddEra4 t p base pb n gw L c w0 w (i4.2 h4) hs hp hn g0 hw h4 hst (hok.open' hst) hl
      have e : (if ((bl t).length = 4 ∨ (bl t).length = 5) ∧ p.st = 1 ∧ (eraR t).2 = true then some ({ p with zs := addE p.zs (eraR t).1, st := if (bl t).length = 4 then 2 else 1 } : BkS) else none) = if (eraR t).2 = true then some { p with zs := addE p.zs (eraR t).1, st := 2 } else none := by simp [h4, hst]
      rw [e]; exact this
    by_cases h5 : (bl t).length = 5
    · have := paddEra5 t p base pb n gw L c w0 w (i5.2 h5) hs hp hn g0 hw h5 hst (hok.open' hst) hl
      have e : (if ((bl t).length = 4 ∨ (bl t).length = 5) ∧ p.st = 1 ∧ (eraR t).2 = true then some ({ p with zs := addE p.zs (eraR t).1, st := if (bl t).length = 4 then 2 else 1 } : BkS) else none) = if (eraR t).2 = true then some { p with zs := addE p.zs (eraR t).1, st := 1 } else none := by simp [h5, hst]
      rw [e]; exact this
    · rw [if_neg (fun h => h.1.elim h4 h5)]
      have t4 : ((L : Int) == 4) = false := beqF (fun e => h4 (i4.1 (by omega)))
      have t5 : ((L : Int) != 5) = true := bneT (fun e => h5 (i5.1 (by omega)))
      have G := Lib.hid g0
      have LE := Lib.hid hp.le
      have h6 := hw.six
      clear hst h4 h5 i4 i5 hw hp hs hn g0 hok hl
      go_enter Tryz.func30, Tryz.ntmps30
      go_wp2_with fail
      go_ret
      exact ⟨rfl, (Tch.refl base pb w0).gr G.out LE.out⟩
  · rw [if_neg (fun h => hst h.2.1)]
    obtain ⟨v0, v1, v2, zs, hp⟩ := hp
    have y3 : w.cell? ⟨pb, 3, none⟩ = some (.int .i64 (p.st : Int)) := bcell_row (bheap_gr g0 hp.blk) rfl
    have t1 : ((p.st : Int) != 1) = true := bneT (by omega)
    have G := Lib.hid g0
    have LE := Lib.hid hp.le
    have h6 := hw.six
    obtain ⟨q4, e4⟩ : ∃ q, ((L : Int) == 4) = q := ⟨_, rfl⟩
    obtain ⟨q5, e5⟩ : ∃ q, ((L : Int) != 5) = q := ⟨_, rfl⟩
    clear hst i4 i5 hw hp hs hn g0 hok hl
    generalize (p.st : Int) = s at y3 t1
    cases q4 <;> cases q5
    all_goals
      go_enter Tryz.func30, Tryz.ntmps30
      go_wp2_with fail
      go_ret
      exact ⟨rfl, (Tch.refl base pb w0).gr G.out LE.out⟩

theorem word_no {x : ByteArray} {l : List UInt8} (h : ¬ x.toList = l) : (¬ x = S l) ∧ (x.toList == l) = false := ⟨fun e => h (by rw [e, S_toList]), by simpa using h⟩

set_option maxRecDepth 100000 in
set_option maxHeartbeats 8000000 in
theorem paddLine (t : ByteArray) (p : BkS) (base pb n : Nat) (w : World) (hs : t.size ≤ 60000) (hp : PSt w base pb n p) (hn : n ≤ 100000) (hok : p.Ok) (ht : RpTab w) :
    Calls Tryz.prog 9 #[.pointer (some ⟨pb, 0, none⟩), .string t] w (AddA base pb (n + 1) w (stepB p t)) := by
  obtain ⟨mx, hmx⟩ := ht.1.2.2.2
  have KS := Lib.hid (split6 t mx w (by omega) hmx)
  have LE := Lib.hid hp.le
  have KR := Lib.hid (fun W (g : Gr w W) => paddRule t p base pb n W hs (hp.gr g) hn (g.rpT ht))
  have KZ := Lib.hid (fun gw L c W (g : Gr w W) hw => paddZone t p base pb n gw L c w W hs hp hn g hw)
  have KE := Lib.hid (fun gw L c W (g : Gr w W) hw => paddEra t p base pb n gw L c w W hs hp hn g hw hok (g.len ht.2.1))
  have KL := Lib.hid (fun gw L c W (g : Gr w W) hw => paddLink t p base pb n gw L c w W hs hp hn g hw)
  have SR := Lib.hid (step_rule (p := p) (t := t))
  have SZ := Lib.hid (step_zone (p := p) (t := t))
  have SE := Lib.hid (step_era (p := p) (t := t))
  have SL := Lib.hid (step_link (p := p) (t := t))
  have SN := Lib.hid (step_none (p := p) (t := t))
  clear hmx hp hs hn hok ht
  go_enter Tryz.func9, Tryz.ntmps9
  go_wp2_with fail
  refine KS.out.mono ?_
  rintro e w1 ⟨gw, L, c, rfl, hnew, hcap, hpos, hsix, g1, hfew, hmany, hcell⟩
  have HW : Hid (Wds t w w1 gw L c) := ⟨hnew, hcap, hpos, hsix, hfew, hmany, hcell⟩
  have c0 := hcell 0 (by omega) (Or.inr rfl)
  have G1 := Lib.hid g1
  have p0 : (0 : Int) < (L : Int) := by omega
  clear hnew hfew hmany hcell g1 KS
  generalize wd t 0 = x at c0 SR SZ SE SL SN
  by_cases hR : x.toList = wRule
  · have E := Lib.hid (SR.out hR)
    obtain rfl : x = ⟨#[114, 117, 108, 101]⟩ := by rw [S_of x, hR]; rfl
    clear hR SR SZ SE SL SN KZ KE KL HW
    go_wp2_with fail
    refine (KR.out w1 G1.out).mono ?_
    rintro e w2 h
    rw [← E.out] at h
    obtain ⟨b, rfl⟩ := h.bool
    go_wp2_with fail
    go_ret
    exact h.pre G1.out LE.out
  obtain ⟨r1, r2⟩ := word_no hR
  have r1' : ¬ x = ⟨#[114, 117, 108, 101]⟩ := r1
  have r2' : (x.toList == [114, 117, 108, 101]) = false := r2
  by_cases hZ : x.toList = wZone
  · have E := Lib.hid (SZ.out hZ)
    obtain rfl : x = ⟨#[122, 111, 110, 101]⟩ := by rw [S_of x, hZ]; rfl
    clear hR hZ SR SZ SE SL SN KR KE KL r1 r2 r1' r2'
    go_wp2_with fail
    refine (KZ.out gw L c w1 G1.out HW.out).mono ?_
    rintro e w2 h
    rw [← E.out] at h
    obtain ⟨b, rfl⟩ := h.bool
    go_wp2_with fail
    go_ret
    exact h
  obtain ⟨z1, z2⟩ := word_no hZ
  have z1' : ¬ x = ⟨#[122, 111, 110, 101]⟩ := z1
  have z2' : (x.toList == [122, 111, 110, 101]) = false := z2
  by_cases hE : x.toList = wEra
  · have E := Lib.hid (SE.out hE)
    obtain rfl : x = ⟨#[101, 114, 97]⟩ := by rw [S_of x, hE]; rfl
    clear hR hZ hE SR SZ SE SL SN KR KZ KL r1 r2 r1' r2' z1 z2 z1' z2'
    go_wp2_with fail
    refine (KE.out gw L c w1 G1.out HW.out).mono ?_
    rintro e w2 h
    rw [← E.out] at h
    obtain ⟨b, rfl⟩ := h.bool
    go_wp2_with fail
    go_ret
    exact h
  obtain ⟨e1, e2⟩ := word_no hE
  have e1' : ¬ x = ⟨#[101, 114, 97]⟩ := e1
  have e2' : (x.toList == [101, 114, 97]) = false := e2
  by_cases hL : x.toList = wLink
  · have E := Lib.hid (SL.out hL)
    obtain rfl : x = ⟨#[108, 105, 110, 107]⟩ := by rw [S_of x, hL]; rfl
    clear hR hZ hE hL SR SZ SE SL SN KR KZ KE r1 r2 r1' r2' z1 z2 z1' z2' e1 e2 e1' e2'
    go_wp2_with fail
    refine (KL.out gw L c w1 G1.out HW.out).mono ?_
    rintro e w2 h
    rw [← E.out] at h
    obtain ⟨b, rfl⟩ := h.bool
    go_wp2_with fail
    go_ret
    exact h
  obtain ⟨l1, l2⟩ := word_no hL
  have l1' : ¬ x = ⟨#[108, 105, 110, 107]⟩ := l1
  have l2' : (x.toList == [108, 105, 110, 107]) = false := l2
  have E := Lib.hid (SN.out hR hZ hE hL)
  clear hR hZ hE hL SR SZ SE SL SN KR KZ KE KL r1 r2 z1 z2 e1 e2 l1 l2
  go_wp2_with fail
  go_ret
  rw [E.out]
  exact ⟨rfl, (Tch.refl base pb w).gr G1.out LE.out⟩
end Go.Proofs.YtkkilmmpmiichaaGreatDoor
