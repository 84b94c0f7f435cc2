/- The project's apply: a type applies from a time on. -/
import Derived.BigQuiet
import Derived.Deep.QuietTactic
import Derived.Test.YtkmgildnhnjepaaGreatDoorTM41
import Derived.Test.YtkmgildnhnjepaaGreatDoorTM42
import Derived.Test.YtkmgildnhnjepaaGreatDoorTM28
import Derived.Test.YtkmgildnhnjepaaGreatDoorTM17
namespace Go.Proofs.YtkmgildnhnjepaaGreatDoor
set_option linter.unusedVariables false
set_option linter.unusedSimpArgs false
open Go.RowKit
/-- what apply leaves -/
def ApE (X : Nat → Prop) (pb mb : Nat) (s : PS) (w : World) (e : Ending) (w' : World) : Prop :=
  e = .returned (.tuple #[]) ∧ (∃ vt vc, MAt 46 44 66 X pb mb w' s.ty s vt vc) ∧ Kp X w w'

set_option maxRecDepth 100000 in
set_option maxHeartbeats 16000000 in
theorem papply (X : Nat → Prop) (pb mb : Nat) (s : PS) (x : TypD) (t : Int) (w : World) (vt vc : Value) (hm : MAt 46 44 66 X pb mb w s.ty s vt vc) (hx : x.In) (l1 : s.ty.length ≤ 100000000) (l2 : s.ch.length ≤ 100000000) :
    Calls Tryz.prog 52 #[.pointer (some ⟨pb, 0, none⟩), .int .i64 t, .agg #[.int .i64 x.off, .bool x.sv, .string x.nm]] w (ApE X pb mb (s.put t x) w) := by
  have mixed : Tryz.prog.follows .mixedOrders = true := by kernel_rfl
  obtain ⟨i0, hi, hz0, hz1, hz2⟩ := info_parts infoTyp
  have I1 := Lib.hid hi
  have I2 := Lib.hid hz0
  have I3 := Lib.hid hz1
  have I4 := Lib.hid hz2
  clear hi hz0 hz1 hz2
  obtain ⟨j0, hi, hz0, hz1, hz2⟩ := info_parts infoCha
  have J1 := Lib.hid hi
  have J2 := Lib.hid hz0
  have J3 := Lib.hid hz1
  have J4 := Lib.hid hz2
  clear hi hz0 hz1 hz2
  have HM := Lib.hid hm
  have HX := Lib.hid hx
  have L1 := Lib.hid l1
  have L2 := Lib.hid l2
  have LK := Lib.hid (fun W (g : Gr w W) => lookT (hm.mp.gr g) hx)
  have FIN : Hid (∀ W, (∃ vt vc, MAt 46 44 66 X pb mb W (s.put t x).ty (s.put t x) vt vc) → Kp X w W → ApE X pb mb (s.put t x) w (.returned (.tuple #[])) W) := fun W a b => ⟨rfl, a, b⟩
  have PU : Hid (s.put t x = ⟨if x ∈ s.ty then s.ty else s.ty ++ [x], if s.ty.idxOf x = s.la then s.ch else s.ch ++ [(t, s.ty.idxOf x)], s.ty.idxOf x⟩) := rfl
  obtain ⟨xo, xs, xn⟩ := x
  obtain ⟨ty, ch, la⟩ := s
  simp only at LK PU L1 L2 ⊢
  have B0 := Lib.hid (box_one w (.cells #[.int .i64 xo, .bool xs, .string xn] 46))
  clear hm hx l1 l2
  generalize PS.put ⟨ty, ch, la⟩ t ⟨xo, xs, xn⟩ = sf at FIN PU ⊢
  go_enter Tryz.func52, Tryz.ntmps52
  go_wp2_with fail
  have HM1 := Lib.hid (HM.out.grow B0.out.1)
  have KP1 := Lib.hid ((Kp.refl X w).gr B0.out.1 HM.out.xl)
  have QX : Hid (w.heap.size = w.heap.size) := rfl
  have OTQ : Hid (vt.ownBlock ≠ some w.heap.size) := fun e => by have := (World.ownsRow.lt HM.out.ot _ e).2; omega
  have LK1 : ∀ n, _ := fun n => LK.out ((w.alloc (.cells #[.int .i64 xo, .bool xs, .string xn] 46)).drewN n) (B0.out.1.drewN n)
  clear LK HM QX
  generalize w.alloc (.cells #[.int .i64 xo, .bool xs, .string xn] 46) = w1 at B0 HM1 LK1 KP1 ⊢
  generalize w.heap.size = qx at B0 OTQ ⊢
  have y3 : w1.cell? ⟨pb, 3, none⟩ = some (.map (some mb)) := bcell_row HM1.out.blk rfl
  have z0 : w1.cell? ⟨qx, 0, none⟩ = some (.int .i64 xo) := bcell_row B0.out.2 rfl
  have z1 : w1.cell? ⟨qx, 1, none⟩ = some (.bool xs) := bcell_row B0.out.2 rfl
  have z2 : w1.cell? ⟨qx, 2, none⟩ = some (.string xn) := bcell_row B0.out.2 rfl
  by_cases hk : (⟨xo, xs, xn⟩ : TypD) ∈ ty
  · have dk : decide ((⟨xo, xs, xn⟩ : TypD) ∈ ty) = true := decide_eq_true hk
    have nk : numT ty ⟨xo, xs, xn⟩ = ((ty.idxOf ⟨xo, xs, xn⟩ : Nat) : Int) := if_pos hk
    rw [dk, nk] at LK1
    have HK := Lib.hid hk
    clear dk nk hk
    generalize ty.idxOf ⟨xo, xs, xn⟩ = k at PU LK1
    go_quiet (fail)
    clear LK1 y3 z0 z1 z2
    have HM2 := Lib.hid (HM1.out.grow ((Gr.refl w1).drewN nq))
    have KP2 := Lib.hid (KP1.out.gr ((Gr.refl w1).drewN nq) HM1.out.xl)
    generalize w1.drewN nq = w2 at HM2 KP2 ⊢
    clear HM1 B0 KP1
    have y4 : w2.cell? ⟨pb, 4, none⟩ = some (.int .i64 (la : Int)) := bcell_row HM2.out.blk rfl
    by_cases ek : (k : Nat) = la
    · have t0 : (((k : Nat) : Int) != (la : Int)) = false := bneF (by omega)
      have EK := Lib.hid ek
      clear ek
      go_wp2_with fail
      exact bodyPost_ret (results_none rfl _ _ _) rfl (FIN.out _ ⟨_, _, by rw [PU.out, if_pos HK.out, if_pos EK.out, EK.out]; exact HM2.out⟩ KP2.out)
    · have t0 : (((k : Nat) : Int) != (la : Int)) = true := bneT (by omega)
      have EK := Lib.hid ek
      clear ek
      obtain ⟨A2, n2, hvc, hm1, hm2, _⟩ := HM2.out.oc.form
      rw [hvc] at HM2
      (try simp only at hm1)
      clear hvc
      have NC := Lib.hid (bheap_new w2 (.cells #[.int .i64 t, .int .i64 (k : Nat)] 44))
      have HM3 := Lib.hid (HM2.out.grow (Gr.alloc w2 (.cells #[.int .i64 t, .int .i64 (k : Nat)] 44)))
      have KP3 := Lib.hid (KP2.out.gr (Gr.alloc w2 (.cells #[.int .i64 t, .int .i64 (k : Nat)] 44)) HM2.out.xl)
      have y2 : w2.cell? ⟨pb, 2, none⟩ = some (.slice A2 (PS.chs ⟨ty, ch, la⟩).length n2) := bcell_row HM2.out.blk rfl
      have LC : Hid ((PS.chs ⟨ty, ch, la⟩).length ≤ 100000000) := by unfold Hid PS.chs; simpa using L2.out
      go_wp2_with (first | (refine lay_one _ _ _ (by rfl) (bsn_change1 _ t (k : Nat)) ?_) | (at_builtin; refine wpList_append_lies _ (by rfl) _ _ 30 (by rfl) 0 44 j0 (.agg #[.int .i64 0, .int .i64 0]) 2 16 Tryz.underlying30 J1.out J2.out J3.out J4.out (by rfl) (by omega) (.slice A2 (PS.chs ⟨ty, ch, la⟩).length n2) (PS.chs ⟨ty, ch, la⟩).length ((PS.chs ⟨ty, ch, la⟩).flatMap ChaD.cells) (by rfl) HM3.out.oc ⟨w2.heap.size, 0, none⟩ 1 1 [.int .i64 t, .int .i64 (k : Nat)] (by rfl) (by rfl) (World.news_of_block NC.out) (ch_one ⟨t, (k : Nat)⟩) (by omega) (by have := LC.out; unfold maxLen; omega) (by have := LC.out; omega) (Nat.zero_le _) _ rfl ?_; intro g2 cap2 w8 hown2 hgrow2 hat2 hlt2; have BC := Lib.hid (MAt.addC HM3.out (t := t) (k := k) (own_more rfl hown2) hgrow2 hat2 (by decide) (by decide) (by decide)); have b8 := blk_far hgrow2 HM3.out.blk (row_apart HM3.out.oc HM3.out.blk (by decide)); have p2 : w8.cell? ⟨pb, 2, none⟩ = some (.slice A2 (PS.chs ⟨ty, ch, la⟩).length n2) := bcell_row b8 rfl; have fp2 : w8.frozen? ⟨pb, 2, none⟩ = false := unfrozen b8; have p4 : (w8.setCell ⟨pb, 2, none⟩ (.slice (some ⟨g2, 0, none⟩) ((PS.chs ⟨ty, ch, la⟩).length + 1) cap2)).cell? ⟨pb, 4, none⟩ = some (.int .i64 (la : Int)) := bcell_row BC.out.1.blk rfl; have fp4 : (w8.setCell ⟨pb, 2, none⟩ (.slice (some ⟨g2, 0, none⟩) ((PS.chs ⟨ty, ch, la⟩).length + 1) cap2)).frozen? ⟨pb, 4, none⟩ = false := unfrozen BC.out.1.blk; clear hown2 hgrow2 hat2 hlt2 b8))
      have BL := BC.out.1.last k (by decide) (by decide)
      exact bodyPost_ret (results_none rfl _ _ _) rfl (FIN.out _ ⟨_, _, by rw [PU.out, if_pos HK.out, if_neg EK.out]; exact BL.1⟩ ((KP3.out.trans BC.out.2).trans BL.2))
  · have dk : decide ((⟨xo, xs, xn⟩ : TypD) ∈ ty) = false := decide_eq_false hk
    have nk : numT ty ⟨xo, xs, xn⟩ = 0 := if_neg hk
    have IK : Hid (ty.idxOf ⟨xo, xs, xn⟩ = ty.length) := List.idxOf_eq_length hk
    rw [dk, nk] at LK1
    have HK := Lib.hid hk
    clear dk nk hk
    rw [IK.out] at PU
    clear IK
    obtain ⟨A1, n1, rfl, hn1, hn2, _⟩ := HM1.out.ot.form
    simp only at hn1
    go_quiet (fail)
    clear LK1 y3 z0 z1 z2
    have HM2 := Lib.hid (HM1.out.grow ((Gr.refl w1).drewN nq))
    have HX2 := Lib.hid (bheap_gr ((Gr.refl w1).drewN nq) B0.out.2)
    have KP2 := Lib.hid (KP1.out.gr ((Gr.refl w1).drewN nq) HM1.out.xl)
    generalize w1.drewN nq = w2 at HM2 HX2 KP2 ⊢
    clear HM1 B0 KP1
    have y0 : w2.cell? ⟨pb, 0, none⟩ = some (.slice A1 ty.length n1) := bcell_row HM2.out.blk rfl
    go_wp2_with fail
    clear y0
    refine wp_region_noPanic ?_
    refine till_start 6 (fun wx => wx.heap[pb]? = some (.cells #[.slice A1 ty.length n1, .int .i64 0, vc, .map (some mb), .int .i64 (la : Int)] 66 (0, 0)) ∧ wx.heap[qx]? = some (.cells #[.int .i64 xo, .bool xs, .string xn] 46 (0, 0))) (by kernel_rfl) ⟨HM2.out.blk, HX2.out⟩ (fun hHeld => ?_)
    (try dsimp only at hHeld)
    have GD := Lib.hid (Gr.drew w2)
    have HMd := Lib.hid (HM2.out.grow GD.out)
    have HXd := Lib.hid (bheap_gr GD.out HX2.out)
    have KPd := Lib.hid (KP2.out.gr GD.out HM2.out.xl)
    generalize w2.drew = wd at hHeld GD HMd HXd KPd ⊢
    clear GD
    refine till_take (i := 0) (oi := { dst := some 25, op := _, type := _, pos := _, after := _, guard := _ }) (v := ?v1) rfl (by kernel_rfl) (by kernel_rfl) (by kernel_rfl) (by kernel_rfl) (fun _ _ _ h => h) (Or.inl ⟨by rfl, ?hy1⟩) (by assumption) ?rest1
    case hy1 => (intro w hSw; go_simp <;> (with_reducible rfl))
    (try simp only [Act.put, List.setIfInBounds_toArray, List.set_cons_zero, List.set_cons_succ])
    refine till_take (i := 1) (oi := { dst := some 26, op := _, type := _, pos := _, after := _, guard := _ }) (v := ?v2) rfl (by kernel_rfl) (by kernel_rfl) (by kernel_rfl) (by kernel_rfl) (fun _ _ _ h => h) (Or.inl ⟨by rfl, ?hy2⟩) (by assumption) ?rest2
    case hy2 => (intro w hSw; go_simp <;> (with_reducible rfl))
    (try simp only [Act.put, List.setIfInBounds_toArray, List.set_cons_zero, List.set_cons_succ])
    refine till_take (i := 2) (oi := { dst := some 27, op := _, type := _, pos := _, after := _, guard := _ }) (v := ?v3) rfl (by kernel_rfl) (by kernel_rfl) (by kernel_rfl) (by kernel_rfl) (fun _ _ _ h => h) (Or.inl ⟨by rfl, ?hy3⟩) (by assumption) ?rest3
    case hy3 => (intro w hSw; go_simp <;> (with_reducible rfl))
    (try simp only [Act.put, List.setIfInBounds_toArray, List.set_cons_zero, List.set_cons_succ])
    refine till_take (i := 3) (oi := { dst := some 28, op := _, type := _, pos := _, after := _, guard := _ }) (v := ?v4) rfl (by kernel_rfl) (by kernel_rfl) (by kernel_rfl) (by kernel_rfl) (fun _ _ _ h => h) (Or.inl ⟨by rfl, ?hy4⟩) (by assumption) ?rest4
    case hy4 => (intro w hSw; have c3 := bcell_row (i := 3) hSw.1 rfl; go_simp <;> (with_reducible rfl))
    (try simp only [Act.put, List.setIfInBounds_toArray, List.set_cons_zero, List.set_cons_succ])
    refine till_take (i := 4) (oi := { dst := some 29, op := _, type := _, pos := _, after := _, guard := _ }) (v := ?v5) rfl (by kernel_rfl) (by kernel_rfl) (by kernel_rfl) (by kernel_rfl) (fun _ _ _ h => h) (Or.inl ⟨by rfl, ?hy5⟩) (by assumption) ?rest5
    case hy5 => (intro w hSw; have d0 := bcell_row (i := 0) hSw.2 rfl; have d1 := bcell_row (i := 1) hSw.2 rfl; have d2 := bcell_row (i := 2) hSw.2 rfl; go_simp <;> (with_reducible rfl))
    (try simp only [Act.put, List.setIfInBounds_toArray, List.set_cons_zero, List.set_cons_succ])
    refine till_take (i := 5) (oi := { dst := some 30, op := _, type := _, pos := _, after := _, guard := _ }) (v := ?v6) rfl (by kernel_rfl) (by kernel_rfl) (by kernel_rfl) (by kernel_rfl) (fun _ _ _ h => h) (Or.inl ⟨by rfl, ?hy6⟩) (by assumption) ?rest6
    case hy6 => (intro w hSw; go_simp <;> (with_reducible rfl))
    (try simp only [Act.put, List.setIfInBounds_toArray, List.set_cons_zero, List.set_cons_succ])
    obtain ⟨w4, hrun, hmp, hgrow⟩ := storeT HMd.out.mp HX.out HK.out (Nat.le_trans L1.out (by decide))
    simp only at hrun
    have MU := Lib.hid (HMd.out.map hmp hgrow)
    have HX4 := Lib.hid (blk_far hgrow HXd.out (fun e => map_ne HMd.out.mp HXd.out (Option.some.inj e).symm))
    clear hmp hgrow
    refine till_one (i := 6) (by kernel_rfl) rfl (fun K hK => ?_)
    go_simp
    refine hK.out _ _ (Or.inl (by kernel_rfl)) ?_
    clear hK K
    (try simp only [Act.put, List.setIfInBounds_toArray, List.set_cons_zero, List.set_cons_succ])
    clear hrun hHeld
    refine till_done (by kernel_rfl) ?_ _
    refine NoPanic.normal ?_
    have HM4 := Lib.hid MU.out.1
    have KP4 := Lib.hid (KPd.out.trans MU.out.2)
    clear MU KPd HMd HXd HM2 HX2 KP2
    go_wp2_with fail
    refine wp_region_noPanic ?_
    refine till_start 12 (fun wx => wx.heap[pb]? = some (.cells #[.slice A1 ty.length n1, .int .i64 0, vc, .map (some mb), .int .i64 (la : Int)] 66 (0, 0)) ∧ wx.heap[qx]? = some (.cells #[.int .i64 xo, .bool xs, .string xn] 46 (0, 0))) (by kernel_rfl) ⟨HM4.out.blk, HX4.out⟩ (fun hHeld => ?_)
    (try dsimp only at hHeld)
    have GD := Lib.hid (Gr.drew w4)
    have HM5 := Lib.hid (HM4.out.grow GD.out)
    have HX5 := Lib.hid (bheap_gr GD.out HX4.out)
    have KP5 := Lib.hid (KP4.out.gr GD.out HM4.out.xl)
    generalize w4.drew = w5 at hHeld GD HM5 HX5 KP5 ⊢
    clear GD HM4 HX4 KP4
    refine till_take (i := 0) (oi := { dst := some 31, op := _, type := _, pos := _, after := _, guard := _ }) (v := ?v7) rfl (by kernel_rfl) (by kernel_rfl) (by kernel_rfl) (by kernel_rfl) (fun _ _ _ h => h) (Or.inl ⟨by rfl, ?hy7⟩) (by assumption) ?rest7
    case hy7 => (intro w hSw; go_simp <;> (with_reducible rfl))
    (try simp only [Act.put, List.setIfInBounds_toArray, List.set_cons_zero, List.set_cons_succ])
    refine till_take (i := 1) (oi := { dst := some 32, op := _, type := _, pos := _, after := _, guard := _ }) (v := ?v8) rfl (by kernel_rfl) (by kernel_rfl) (by kernel_rfl) (by kernel_rfl) (fun _ _ _ h => h) (Or.inl ⟨by rfl, ?hy8⟩) (by assumption) ?rest8
    case hy8 => (intro w hSw; go_simp <;> (with_reducible rfl))
    (try simp only [Act.put, List.setIfInBounds_toArray, List.set_cons_zero, List.set_cons_succ])
    refine till_take (i := 2) (oi := { dst := some 33, op := _, type := _, pos := _, after := _, guard := _ }) (v := ?v9) rfl (by kernel_rfl) (by kernel_rfl) (by kernel_rfl) (by kernel_rfl) (fun _ _ _ h => h) (Or.inl ⟨by rfl, ?hy9⟩) (by assumption) ?rest9
    case hy9 => (intro w hSw; go_simp <;> (with_reducible rfl))
    (try simp only [Act.put, List.setIfInBounds_toArray, List.set_cons_zero, List.set_cons_succ])
    refine till_take (i := 3) (oi := { dst := some 34, op := _, type := _, pos := _, after := _, guard := _ }) (v := ?v10) rfl (by kernel_rfl) (by kernel_rfl) (by kernel_rfl) (by kernel_rfl) (fun _ _ _ h => h) (Or.inl ⟨by rfl, ?hy10⟩) (by assumption) ?rest10
    case hy10 => (intro w hSw; go_simp <;> (with_reducible rfl))
    (try simp only [Act.put, List.setIfInBounds_toArray, List.set_cons_zero, List.set_cons_succ])
    refine till_take (i := 4) (oi := { dst := some 35, op := _, type := _, pos := _, after := _, guard := _ }) (v := ?v11) rfl (by kernel_rfl) (by kernel_rfl) (by kernel_rfl) (by kernel_rfl) (fun _ _ _ h => h) (Or.inl ⟨by rfl, ?hy11⟩) (by assumption) ?rest11
    case hy11 => (intro w hSw; go_simp <;> (with_reducible rfl))
    (try simp only [Act.put, List.setIfInBounds_toArray, List.set_cons_zero, List.set_cons_succ])
    refine till_take (i := 5) (oi := { dst := some 36, op := _, type := _, pos := _, after := _, guard := _ }) (v := ?v12) rfl (by kernel_rfl) (by kernel_rfl) (by kernel_rfl) (by kernel_rfl) (fun _ _ _ h => h) (Or.inl ⟨by rfl, ?hy12⟩) (by assumption) ?rest12
    case hy12 => (intro w hSw; have c0 := bcell_row (i := 0) hSw.1 rfl; go_simp <;> (with_reducible rfl))
    (try simp only [Act.put, List.setIfInBounds_toArray, List.set_cons_zero, List.set_cons_succ])
    refine till_take (i := 6) (oi := { dst := some 37, op := _, type := _, pos := _, after := _, guard := _ }) (v := ?v13) rfl (by kernel_rfl) (by kernel_rfl) (by kernel_rfl) (by kernel_rfl) (fun _ _ _ h => h) (Or.inl ⟨by rfl, ?hy13⟩) (by assumption) ?rest13
    case hy13 => (intro w hSw; have d0 := bcell_row (i := 0) hSw.2 rfl; have d1 := bcell_row (i := 1) hSw.2 rfl; have d2 := bcell_row (i := 2) hSw.2 rfl; go_simp <;> (with_reducible rfl))
    (try simp only [Act.put, List.setIfInBounds_toArray, List.set_cons_zero, List.set_cons_succ])
    have NT := Lib.hid (box_one w5 (.cells #[.int .i64 xo, .bool xs, .string xn] 46))
    refine till_one (i := 7) (by kernel_rfl) rfl (fun K hK => ?_)
    go_simp
    refine hK.out _ _ (Or.inr ⟨bheap_gr NT.out.1 hHeld.1, bheap_gr NT.out.1 hHeld.2⟩) ?_
    clear hK K
    (try simp only [Act.put, List.setIfInBounds_toArray, List.set_cons_zero, List.set_cons_succ])
    have HM6 := Lib.hid (HM5.out.grow NT.out.1)
    have HX6 := Lib.hid (bheap_gr NT.out.1 HX5.out)
    have KP6 := Lib.hid (KP5.out.gr NT.out.1 HM5.out.xl)
    have NVX : Hid (∀ j, (Value.slice A1 ty.length n1).ownBlock = some j → j ≠ qx) := fun j hj e => OTQ.out (e ▸ hj)
    generalize w5.alloc (.cells #[.int .i64 xo, .bool xs, .string xn] 46) = w6 at NT HM6 HX6 KP6 ⊢
    generalize w5.heap.size = q6 at NT ⊢
    clear hHeld HM5 HX5 KP5
    refine till_one (i := 8) (by kernel_rfl) rfl (fun K hK => ?_)
    (refine step_append_lies _ (by rfl) _ _ 29 (by rfl) 0 46 i0 (.agg #[.int .i64 0, .bool false, .string .empty]) 3 32 Tryz.underlying29 I1.out I2.out I3.out I4.out (by rfl) (by omega) (.slice A1 ty.length n1) ty.length (ty.flatMap TypD.cells) (by rfl) HM6.out.ot ⟨q6, 0, none⟩ 1 1 [.int .i64 xo, .bool xs, .string xn] (by rfl) (by rfl) (World.news_of_block NT.out.2) (ty_one ⟨xo, xs, xn⟩) (by omega) (by have := L1.out; unfold maxLen; omega) (by have := L1.out; omega) (Nat.zero_le _) _ rfl ?_)
    intro g1 cap1 w7 hown1 hgrow1 hat1 hlt1
    refine hK.out _ _ (Or.inr ⟨blk_far hgrow1 HM6.out.blk (row_apart HM6.out.ot HM6.out.blk (by decide)), blk_far hgrow1 HX6.out (fun e => NVX.out _ e rfl)⟩) ?_
    clear hK K
    (try simp only [Act.put, List.setIfInBounds_toArray, List.set_cons_zero, List.set_cons_succ])
    have b7 := Lib.hid (blk_far hgrow1 HM6.out.blk (row_apart HM6.out.ot HM6.out.blk (by decide)))
    have x7 := Lib.hid (blk_far hgrow1 HX6.out (fun e => NVX.out _ e rfl))
    have BT := Lib.hid (MAt.addT HM6.out (x := ⟨xo, xs, xn⟩) (own_more rfl hown1) hgrow1 hat1 HX.out (by decide) (by decide) (by decide))
    clear hown1 hgrow1 hat1 hlt1
    refine till_one (i := 9) (by kernel_rfl) rfl (fun K hK => ?_)
    go_simp
    refine hK.out _ _ (Or.inr ⟨b7.out, x7.out⟩) ?_
    clear hK K
    (try simp only [Act.put, List.setIfInBounds_toArray, List.set_cons_zero, List.set_cons_succ])
    refine till_one (i := 10) (by kernel_rfl) rfl (fun K hK => ?_)
    go_simp
    refine hK.out _ _ (Or.inr ⟨b7.out, x7.out⟩) ?_
    clear hK K
    (try simp only [Act.put, List.setIfInBounds_toArray, List.set_cons_zero, List.set_cons_succ])
    refine till_one (i := 11) (by kernel_rfl) rfl (fun K hK => ?_)
    go_simp
    refine hK.out _ _ (Or.inr ⟨b7.out, x7.out⟩) ?_
    clear hK K
    (try simp only [Act.put, List.setIfInBounds_toArray, List.set_cons_zero, List.set_cons_succ])
    have zc : w7.cell? ⟨pb, 0, none⟩ = some (.slice A1 ty.length n1) := bcell_row b7.out rfl
    have fz : w7.frozen? ⟨pb, 0, none⟩ = false := unfrozen b7.out
    refine till_one (i := 12) (by kernel_rfl) rfl (fun K hK => ?_)
    go_simp
    refine hK.out _ _ (Or.inl (by kernel_rfl)) ?_
    clear hK K
    (try simp only [Act.put, List.setIfInBounds_toArray, List.set_cons_zero, List.set_cons_succ])
    clear zc fz b7 x7
    refine till_done (by kernel_rfl) ?_ _
    refine NoPanic.normal ?_
    have HM8 := Lib.hid BT.out.1
    have KP8 := Lib.hid (KP6.out.trans BT.out.2)
    clear BT HM6 HX6 KP6 NT
    generalize w7.setCell ⟨pb, 0, none⟩ (.slice (some ⟨g1, 0, none⟩) (ty.length + 1) cap1) = w9 at HM8 KP8 ⊢
    have y4 : w9.cell? ⟨pb, 4, none⟩ = some (.int .i64 (la : Int)) := bcell_row HM8.out.blk rfl
    by_cases ek : (ty.length : Nat) = la
    · have t0 : (((ty.length : Nat) : Int) != (la : Int)) = false := bneF (by omega)
      have EK := Lib.hid ek
      clear ek
      go_wp2_with fail
      exact bodyPost_ret (results_none rfl _ _ _) rfl (FIN.out _ ⟨_, _, by rw [PU.out, if_neg HK.out, if_pos EK.out, EK.out]; exact HM8.out⟩ KP8.out)
    · have t0 : (((ty.length : Nat) : Int) != (la : Int)) = true := bneT (by omega)
      have EK := Lib.hid ek
      clear ek
      obtain ⟨A2, n2, hvc, hm1, hm2, _⟩ := HM8.out.oc.form
      rw [hvc] at HM8
      (try simp only at hm1)
      clear hvc
      have NC := Lib.hid (bheap_new w9 (.cells #[.int .i64 t, .int .i64 (ty.length : Nat)] 44))
      have HM3 := Lib.hid (HM8.out.grow (Gr.alloc w9 (.cells #[.int .i64 t, .int .i64 (ty.length : Nat)] 44)))
      have KP3 := Lib.hid (KP8.out.gr (Gr.alloc w9 (.cells #[.int .i64 t, .int .i64 (ty.length : Nat)] 44)) HM8.out.xl)
      have y2 : w9.cell? ⟨pb, 2, none⟩ = some (.slice A2 (PS.chs ⟨(ty ++ [⟨xo, xs, xn⟩]), ch, la⟩).length n2) := bcell_row HM8.out.blk rfl
      have LC : Hid ((PS.chs ⟨(ty ++ [⟨xo, xs, xn⟩]), ch, la⟩).length ≤ 100000000) := by unfold Hid PS.chs; simpa using L2.out
      go_wp2_with (first | (refine lay_one _ _ _ (by rfl) (bsn_change1 _ t (ty.length : Nat)) ?_) | (at_builtin; refine wpList_append_lies _ (by rfl) _ _ 30 (by rfl) 0 44 j0 (.agg #[.int .i64 0, .int .i64 0]) 2 16 Tryz.underlying30 J1.out J2.out J3.out J4.out (by rfl) (by omega) (.slice A2 (PS.chs ⟨(ty ++ [⟨xo, xs, xn⟩]), ch, la⟩).length n2) (PS.chs ⟨(ty ++ [⟨xo, xs, xn⟩]), ch, la⟩).length ((PS.chs ⟨(ty ++ [⟨xo, xs, xn⟩]), ch, la⟩).flatMap ChaD.cells) (by rfl) HM3.out.oc ⟨w9.heap.size, 0, none⟩ 1 1 [.int .i64 t, .int .i64 (ty.length : Nat)] (by rfl) (by rfl) (World.news_of_block NC.out) (ch_one ⟨t, (ty.length : Nat)⟩) (by omega) (by have := LC.out; unfold maxLen; omega) (by have := LC.out; omega) (Nat.zero_le _) _ rfl ?_; intro g2 cap2 w8 hown2 hgrow2 hat2 hlt2; have BC := Lib.hid (MAt.addC HM3.out (t := t) (k := ty.length) (own_more rfl hown2) hgrow2 hat2 (by decide) (by decide) (by decide)); have b8 := blk_far hgrow2 HM3.out.blk (row_apart HM3.out.oc HM3.out.blk (by decide)); have p2 : w8.cell? ⟨pb, 2, none⟩ = some (.slice A2 (PS.chs ⟨(ty ++ [⟨xo, xs, xn⟩]), ch, la⟩).length n2) := bcell_row b8 rfl; have fp2 : w8.frozen? ⟨pb, 2, none⟩ = false := unfrozen b8; have p4 : (w8.setCell ⟨pb, 2, none⟩ (.slice (some ⟨g2, 0, none⟩) ((PS.chs ⟨(ty ++ [⟨xo, xs, xn⟩]), ch, la⟩).length + 1) cap2)).cell? ⟨pb, 4, none⟩ = some (.int .i64 (la : Int)) := bcell_row BC.out.1.blk rfl; have fp4 : (w8.setCell ⟨pb, 2, none⟩ (.slice (some ⟨g2, 0, none⟩) ((PS.chs ⟨(ty ++ [⟨xo, xs, xn⟩]), ch, la⟩).length + 1) cap2)).frozen? ⟨pb, 4, none⟩ = false := unfrozen BC.out.1.blk; clear hown2 hgrow2 hat2 hlt2 b8))
      have BL := BC.out.1.last ty.length (by decide) (by decide)
      exact bodyPost_ret (results_none rfl _ _ _) rfl (FIN.out _ ⟨_, _, by rw [PU.out, if_neg HK.out, if_neg EK.out]; exact BL.1⟩ ((KP3.out.trans BC.out.2).trans BL.2))
end Go.Proofs.YtkmgildnhnjepaaGreatDoor
