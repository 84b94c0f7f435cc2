/- Spans of the laws, the closed fact on tables. The closed fact on tables. -/
import Derived.Test.YtkmgildnhnjepaaGreatDoorRM39
import Derived.Test.YtkmgildnhnjepaaGreatDoorRM44
import Derived.Test.YtkmgildnhnjepaaGreatDoorRM19
import Derived.Test.YtkmgildnhnjepaaGreatDoorRM17
import Derived.Test.YtkmgildnhnjepaaGreatDoorRM28
namespace Go.Proofs.YtkmgildnhnjepaaGreatDoor
set_option linter.unusedVariables false
set_option linter.unusedSimpArgs false
open Go.RowKit
/-- the end of a span of the laws -/
def spT (f l : Int) : Int := min (tV f + 1 + l % 40000000) (tV (-1))
theorem tV_last : tV (-1) = 13569465599 := by decide
theorem spT_bd (f l : Int) : -11676096000 < spT f l + 1 ∧ spT f l ≤ 13569465599 := by have := tV_bd f; unfold spT; rw [tV_last]; omega

set_option maxRecDepth 100000 in
set_option maxHeartbeats 8000000 in
theorem pspan (f l : Int) (w : World) (f1 : -9223372036854775808 ≤ f) (f2 : f ≤ 9223372036854775807) (l1 : -9223372036854775808 ≤ l) (l2 : l ≤ 9223372036854775807) :
    Calls Tryz.prog 14 #[.int .i64 f, .int .i64 l] w fun e w' => e = .returned (.agg #[.int .i64 (tV f), .int .i64 (spT f l)]) ∧ Gr w w' := by
  have mixed : Tryz.prog.follows .mixedOrders = true := by kernel_rfl
  have KF := Lib.hid (fun W => tV_any f W f1 f2)
  have KM := Lib.hid (fun W => tV_any (-1) W (by decide) (by decide))
  have KRe := Lib.hid (fun W => rest_any l 40000000 W l1 l2 (by omega) (by omega))
  have bd := tV_bd f
  have r0 : 0 ≤ l % 40000000 := by omega
  have r1 : l % 40000000 < 40000000 := by omega
  have ES : Hid (spT f l = min (tV f + 1 + l % 40000000) (tV (-1))) := rfl
  generalize spT f l = sp at ES ⊢
  generalize tV (-1) = m at KM ES
  generalize tV f = a at KF bd ES ⊢
  generalize l % 40000000 = r at KRe r0 r1 ES
  have WF : Hid (IntKind.i64.wrap (a + 1) = a + 1) := IntWalk.i64_in _ (by omega)
  have WG : Hid (IntKind.i64.wrap (a + 1 + r) = a + 1 + r) := IntWalk.i64_in _ (by omega)
  clear l1 l2 f1 f2 bd r0 r1
  have B0 := Lib.hid (box_one w (.cells #[.int .i64 0, .int .i64 0] 28))
  go_enter Tryz.func14, Tryz.ntmps14
  go_wp2_with fail
  generalize w.alloc (.cells #[.int .i64 0, .int .i64 0] 28) = w0 at B0 ⊢
  refine (KF.out w0).mono ?_
  rintro e w1 ⟨rfl, g1⟩
  have HR := Lib.hid (bheap_gr g1 B0.out.2)
  have G1 := Lib.hid (B0.out.1.trans g1)
  have NB := Lib.hid (box_one w1 (.cells #[.int .i64 a, .int .i64 0] 28))
  have G2 := Lib.hid (G1.out.trans NB.out.1)
  have HR2 := Lib.hid (bheap_gr NB.out.1 HR.out)
  have NE : Hid (w.heap.size ≠ w1.heap.size) := fun e => by have := (Array.getElem?_eq_some_iff.1 HR.out).1; omega
  have NQ1 : Hid (w.heap.size ≤ w1.heap.size) := Below.size G1.out
  have NQ0 : Hid (w.heap.size ≤ w.heap.size) := Nat.le_refl _
  clear g1 B0 KF HR G1
  go_wp2_with fail
  generalize w1.alloc (.cells #[.int .i64 a, .int .i64 0] 28) = w2 at NB G2 HR2 ⊢
  generalize w1.heap.size = qs at NB NE NQ1 ⊢
  have HS2 := Lib.hid NB.out.2
  clear NB
  obtain ⟨q, hq⟩ : ∃ q, w.heap.size = q := ⟨_, rfl⟩
  have QQ : Hid (w.heap.size ≤ q) := Nat.le_of_eq hq
  rw [hq] at HR2 NE ⊢
  clear hq NQ0
  refine wp_region_noPanic ?_
  refine till_start 9 (fun wx => wx.heap[qs]? = some (.cells #[.int .i64 a, .int .i64 0] 28 (0, 0))) (by kernel_rfl) HS2.out (fun hHeld => ?_)
  (try dsimp only at hHeld)
  have GD := Lib.hid (Gr.drew w2)
  have HRd := Lib.hid (bheap_gr GD.out HR2.out)
  have GW := Lib.hid (G2.out.trans GD.out)
  generalize w2.drew = wd at hHeld GD HRd GW ⊢
  clear GD HR2 HS2 G2
  refine till_take (i := 0) (oi := { dst := some 9, op := _, type := _, pos := _, after := _, guard := _ }) (v := ?v1) rfl (by kernel_rfl) (by kernel_rfl) (by kernel_rfl) (by kernel_rfl) (fun _ _ _ h => h) (Or.inl ⟨by rfl, ?hy1⟩) (by assumption) ?rest1
  case hy1 => (intro w hSw; go_simp <;> (with_reducible rfl))
  (try simp only [Act.put, List.setIfInBounds_toArray, List.set_cons_zero, List.set_cons_succ])
  refine till_take (i := 1) (oi := { dst := some 10, op := _, type := _, pos := _, after := _, guard := _ }) (v := ?v2) rfl (by kernel_rfl) (by kernel_rfl) (by kernel_rfl) (by kernel_rfl) (fun _ _ _ h => h) (Or.inl ⟨by rfl, ?hy2⟩) (by assumption) ?rest2
  case hy2 => (intro w hSw; have d0 := bcell_row (i := 0) hSw rfl; go_simp <;> (with_reducible rfl))
  (try simp only [Act.put, List.setIfInBounds_toArray, List.set_cons_zero, List.set_cons_succ])
  refine till_take (i := 2) (oi := { dst := some 11, op := _, type := _, pos := _, after := _, guard := _ }) (v := (.int .i64 (a + 1))) rfl (by kernel_rfl) (by kernel_rfl) (by kernel_rfl) (by kernel_rfl) (fun _ _ _ h => h) (Or.inl ⟨by rfl, ?hy3⟩) (by assumption) ?rest3
  case hy3 => (intro w hSw; simp [go_sem, WF.out])
  (try simp only [Act.put, List.setIfInBounds_toArray, List.set_cons_zero, List.set_cons_succ])
  refine till_take (i := 3) (oi := { dst := some 12, op := _, type := _, pos := _, after := _, guard := _ }) (v := ?v4) rfl (by kernel_rfl) (by kernel_rfl) (by kernel_rfl) (by kernel_rfl) (fun _ _ _ h => h) (Or.inl ⟨by rfl, ?hy4⟩) (by assumption) ?rest4
  case hy4 => (intro w hSw; go_simp <;> (with_reducible rfl))
  (try simp only [Act.put, List.setIfInBounds_toArray, List.set_cons_zero, List.set_cons_succ])
  refine till_one (i := 4) (by kernel_rfl) rfl (fun K hK => ?_)
  go_simp
  (with_reducible refine (KRe.out wd).mono ?_)
  rintro e wd ⟨rfl, rfl⟩
  (go_wp2_with fail)
  refine hK.out _ _ (Or.inr hHeld) ?_
  clear hK K
  (try simp only [Act.put, List.setIfInBounds_toArray, List.set_cons_zero, List.set_cons_succ])
  refine till_take (i := 5) (oi := { dst := some 14, op := _, type := _, pos := _, after := _, guard := _ }) (v := (.int .i64 (a + 1 + r))) rfl (by kernel_rfl) (by kernel_rfl) (by kernel_rfl) (by kernel_rfl) (fun _ _ _ h => h) (Or.inl ⟨by rfl, ?hy5⟩) (by assumption) ?rest5
  case hy5 => (intro w hSw; simp [go_sem, WG.out])
  (try simp only [Act.put, List.setIfInBounds_toArray, List.set_cons_zero, List.set_cons_succ])
  refine till_one (i := 6) (by kernel_rfl) rfl (fun K hK => ?_)
  go_simp
  (with_reducible refine (KM.out wd).mono ?_)
  rintro e w6 ⟨rfl, g6⟩
  (go_wp2_with fail)
  refine hK.out _ _ (Or.inr (bheap_gr g6 hHeld)) ?_
  clear hK K
  (try simp only [Act.put, List.setIfInBounds_toArray, List.set_cons_zero, List.set_cons_succ])
  have hH2 := bheap_gr g6 hHeld
  clear hHeld
  have hHeld := hH2
  clear hH2
  have HR6 := Lib.hid (bheap_gr g6 HRd.out)
  have G6 := Lib.hid (GW.out.trans g6)
  clear g6 HRd GW
  refine till_one (i := 7) (by kernel_rfl) rfl (fun K hK => ?_)
  go_simp
  refine hK.out _ _ (Or.inr hHeld) ?_
  clear hK K
  (try simp only [Act.put, List.setIfInBounds_toArray, List.set_cons_zero, List.set_cons_succ])
  refine till_one (i := 8) (by kernel_rfl) rfl (fun K hK => ?_)
  go_simp
  refine hK.out _ _ (Or.inr hHeld) ?_
  clear hK K
  (try simp only [Act.put, List.setIfInBounds_toArray, List.set_cons_zero, List.set_cons_succ])
  have zc : w6.cell? ⟨qs, 1, none⟩ = some (.int .i64 0) := bcell_row hHeld rfl
  have fz : w6.frozen? ⟨qs, 1, none⟩ = false := unfrozen hHeld
  have HS7 := Lib.hid (heap_setCell_same w6 qs 1 #[.int .i64 a, .int .i64 0] 28 (.int .i64 (min (a + 1 + r) m)) hHeld)
  have HR7 := Lib.hid (blk_set2 (p := ⟨qs, 1, none⟩) (u := .int .i64 (min (a + 1 + r) m)) HR6.out NE.out)
  have G7 := Lib.hid (Below.setCell G6.out (p := ⟨qs, 1, none⟩) NQ1.out (.int .i64 (min (a + 1 + r) m)))
  refine till_one (i := 9) (by kernel_rfl) rfl (fun K hK => ?_)
  go_simp
  refine hK.out _ _ (Or.inl (by kernel_rfl)) ?_
  clear hK K
  (try simp only [Act.put, List.setIfInBounds_toArray, List.set_cons_zero, List.set_cons_succ])
  clear zc fz hHeld HR6 G6
  refine till_done (by kernel_rfl) ?_ _
  refine NoPanic.normal ?_
  generalize w6.setCell ⟨qs, 1, none⟩ (.int .i64 (min (a + 1 + r) m)) = w7 at HS7 HR7 G7 ⊢
  rw [← ES.out] at HS7
  clear ES
  have z0 : w7.cell? ⟨qs, 0, none⟩ = some (.int .i64 a) := bcell_row HS7.out rfl
  have z1 : w7.cell? ⟨qs, 1, none⟩ = some (.int .i64 sp) := bcell_row HS7.out rfl
  have y0 : w7.cell? ⟨q, 0, none⟩ = some (.int .i64 0) := bcell_row HR7.out rfl
  have y1 : w7.cell? ⟨q, 1, none⟩ = some (.int .i64 0) := bcell_row HR7.out rfl
  have f0 : w7.frozen? ⟨q, 0, none⟩ = false := unfrozen HR7.out
  have f1 : w7.frozen? ⟨q, 1, none⟩ = false := unfrozen HR7.out
  have s0 : ((w7.setCell ⟨q, 0, none⟩ (.int .i64 a)).setCell ⟨q, 1, none⟩ (.int .i64 sp)).cell? ⟨q, 0, none⟩ = some (.int .i64 a) := bcell_row (heap_setCell_same _ q 1 #[.int .i64 a, .int .i64 0] 28 (.int .i64 sp) (heap_setCell_same w7 q 0 #[.int .i64 0, .int .i64 0] 28 (.int .i64 a) HR7.out)) rfl
  have s1 : ((w7.setCell ⟨q, 0, none⟩ (.int .i64 a)).setCell ⟨q, 1, none⟩ (.int .i64 sp)).cell? ⟨q, 1, none⟩ = some (.int .i64 sp) := bcell_row (heap_setCell_same _ q 1 #[.int .i64 a, .int .i64 0] 28 (.int .i64 sp) (heap_setCell_same w7 q 0 #[.int .i64 0, .int .i64 0] 28 (.int .i64 a) HR7.out)) rfl
  go_wp2_with fail
  exact bodyPost_ret (v := .agg #[.int .i64 a, .int .i64 sp]) (by simp [results, Tryz.results14, go_sem, s0, s1]) rfl ⟨rfl, Below.setCell (Below.setCell G7.out (p := ⟨q, 0, none⟩) QQ.out _) (p := ⟨q, 1, none⟩) QQ.out _⟩

theorem bsn_types2 (w : World) : (Instr.buildSlice 29 2 #[(0, Value.agg #[.int .i64 0, .bool false, .string ⟨#[65]⟩]), (1, Value.agg #[.int .i64 3600, .bool false, .string ⟨#[66]⟩])]).run Tryz.prog w = .ok (.slice (some ⟨w.heap.size, 0, none⟩) 2 2) (w.alloc (.cells #[.int .i64 0, .bool false, .string ⟨#[65]⟩, .int .i64 3600, .bool false, .string ⟨#[66]⟩] 46)) := by kernel_rfl

theorem bsn_changes2 (w : World) : (Instr.buildSlice 30 2 #[(0, Value.agg #[.int .i64 10000, .int .i64 1]), (1, Value.agg #[.int .i64 20000, .int .i64 0])]).run Tryz.prog w = .ok (.slice (some ⟨w.heap.size, 0, none⟩) 2 2) (w.alloc (.cells #[.int .i64 10000, .int .i64 1, .int .i64 20000, .int .i64 0] 44)) := by kernel_rfl

def sTy : List TypD := [⟨0, false, ⟨#[65]⟩⟩, ⟨3600, false, ⟨#[66]⟩⟩]
def sCh : List ChaD := [⟨10000, 1⟩, ⟨20000, 0⟩]
theorem row_blk {α : Type} {w : World} {k q : Nat} {en : α → List Value} {l : List α} {cs : Array Value} {T : TypeId} {m : Nat × Nat} (hk : ∀ x, (en x).length = k) (h : w.heap[q]? = some (.cells cs T m)) (hc : cs.toList = l.flatMap en) : Row w k en (some ⟨q, 0, none⟩) l := fun i x hx => by
  refine ⟨q, 0, rfl, (Array.getElem?_eq_some_iff.1 h).1, fun j v hv => ?_⟩
  have := flat_get hk l i x hx j v hv
  rw [← hc] at this
  simp only [World.cell?, h]
  rw [Nat.zero_add, ← Array.getElem?_toList, this]; rfl
/-- what sample leaves -/
def SmE (w : World) (e : Ending) (w' : World) : Prop := ∃ a b, e = .returned (.agg #[.slice (some ⟨a, 0, none⟩) sTy.length 2, .int .i64 0, .slice (some ⟨b, 0, none⟩) sCh.length 2]) ∧ Row w' 3 TypD.cells (some ⟨a, 0, none⟩) sTy ∧ Row w' 2 ChaD.cells (some ⟨b, 0, none⟩) sCh ∧ Gr w w'

set_option maxRecDepth 100000 in
set_option maxHeartbeats 4000000 in
theorem psample (w : World) : Calls Tryz.prog 35 #[] w (SmE w) := by
  have FIN : Hid (∀ a b w', w'.heap[a]? = some (.cells #[.int .i64 0, .bool false, .string ⟨#[65]⟩, .int .i64 3600, .bool false, .string ⟨#[66]⟩] 46 (0, 0)) → w'.heap[b]? = some (.cells #[.int .i64 10000, .int .i64 1, .int .i64 20000, .int .i64 0] 44 (0, 0)) → Gr w w' → SmE w (.returned (.agg #[.slice (some ⟨a, 0, none⟩) 2 2, .int .i64 0, .slice (some ⟨b, 0, none⟩) 2 2])) w') := fun a b w' h1 h2 g => ⟨a, b, rfl, row_blk ty_len h1 rfl, row_blk ch_len h2 rfl, g⟩
  have B0 := Lib.hid (box_three w (.cells #[.slice (some ⟨w.heap.size + 1, 0, none⟩) 2 2, .int .i64 0, .slice (some ⟨w.heap.size + 1 + 1, 0, none⟩) 2 2] 32) (.cells #[.int .i64 0, .bool false, .string ⟨#[65]⟩, .int .i64 3600, .bool false, .string ⟨#[66]⟩] 46) (.cells #[.int .i64 10000, .int .i64 1, .int .i64 20000, .int .i64 0] 44))
  go_enter Tryz.func35, Tryz.ntmps35
  go_wp2_with (first | (refine lay_one _ _ _ (by rfl) (bsn_types2 _) ?_) | (refine lay_one _ _ _ (by rfl) (bsn_changes2 _) ?_))
  generalize ((w.alloc (.cells #[.slice (some ⟨w.heap.size + 1, 0, none⟩) 2 2, .int .i64 0, .slice (some ⟨w.heap.size + 1 + 1, 0, none⟩) 2 2] 32)).alloc (.cells #[.int .i64 0, .bool false, .string ⟨#[65]⟩, .int .i64 3600, .bool false, .string ⟨#[66]⟩] 46)).alloc (.cells #[.int .i64 10000, .int .i64 1, .int .i64 20000, .int .i64 0] 44) = w1 at B0 ⊢
  have s0 : w1.cell? ⟨w.heap.size, 0, none⟩ = some (.slice (some ⟨w.heap.size + 1, 0, none⟩) 2 2) := bcell_row B0.out.2.1 rfl
  have s1 : w1.cell? ⟨w.heap.size, 1, none⟩ = some (.int .i64 0) := bcell_row B0.out.2.1 rfl
  have s2 : w1.cell? ⟨w.heap.size, 2, none⟩ = some (.slice (some ⟨w.heap.size + 1 + 1, 0, none⟩) 2 2) := bcell_row B0.out.2.1 rfl
  exact bodyPost_ret (v := .agg #[.slice (some ⟨w.heap.size + 1, 0, none⟩) 2 2, .int .i64 0, .slice (some ⟨w.heap.size + 1 + 1, 0, none⟩) 2 2]) (by simp [results, Tryz.results35, go_sem, s0, s1, s2]) rfl (FIN.out _ _ _ B0.out.2.2.1 B0.out.2.2.2 B0.out.1)
end Go.Proofs.YtkmgildnhnjepaaGreatDoor
namespace Go.Proofs.YtkmgildnhnjepaaGreatDoor
set_option linter.unusedVariables false
set_option linter.unusedSimpArgs false
open Go.RowKit
theorem sC : tabC sTy 0 sCh = 0 := by decide +kernel
theorem sO : tabO sTy 0 sCh 10000 = ⟨3600, false, ⟨#[66]⟩⟩ := by decide +kernel
theorem sA : tabA sTy 0 sCh 10000 = ⟨3600, false, ⟨#[66]⟩⟩ := by unfold tabA; rw [if_pos sC, sO]
theorem sIn : ∀ x ∈ sTy, x.In := fun x hx => by
  simp only [sTy, List.mem_cons, List.not_mem_nil, or_false] at hx
  rcases hx with rfl | rfl <;> exact ⟨by unfold maxLen; decide +kernel, by unfold I64; decide⟩
theorem eF_tab {z : ZonD} (hn : z.nm = S [65]) (hz : z.eras = [eF]) : mkC [] [z] [] (S [65]) 0 5 = 0 ∧ mkTy [] [z] [] (S [65]) 0 5 = [⟨3600, false, S [67, 69, 84]⟩] ∧ mkCh [] [z] [] (S [65]) 0 5 = [] := by
  have h0 := eF_at hn hz
  have hr : eF.ru.toList = [] := by simp [eF, S_toList]
  have res := (atC_zero.1 h0.1).1
  have ee : erasN [z] [] (S [65]) = [eF] := by
    have hb := (resC_zero.1 res).1
    have := end_zone (good_of hb) (i := 0) (z := z) rfl
    rw [hn] at this
    rw [erasN_at (z := z) (by rw [this]; rfl), hz]
  have ef : eraF [] [z] [] [eF] = 0 := eraF_zero.2 fun k e he => by
    have : e = eF := by
      cases k with
      | zero => simpa using he.symm
      | succ k => simp at he
    subst this
    unfold eraK; rw [if_pos hr]
  have lc : ∀ t, locT [] [z] [] [eF] t = ⟨3600, false, S [67, 69, 84]⟩ := fun t => by
    unfold locT
    rw [eraE_one, ← h0.2, atT_yes h0.1]
    have : eraN [z] [] (S [65]) 0 = eF := by unfold eraN; rw [ee, eraE_one]
    rw [this]
    unfold typE
    rw [savP_fix hr, savP_fix hr]
  have tl : tls (locT [] [z] [] [eF]) 0 5 = [] := List.eq_nil_iff_forall_not_mem.2 fun t ht => (mem_tls.1 ht).2 (by rw [lc, lc])
  have mt : mkT [] [z] [] (S [65]) 0 5 = ⟨[⟨3600, false, S [67, 69, 84]⟩], [], ⟨3600, false, S [67, 69, 84]⟩⟩ := by
    unfold mkT tab
    rw [ee, tl, bld_nil, lc]
  have mc : mkC [] [z] [] (S [65]) 0 5 = 0 := mkC_zero.2 ⟨res, ⟨by decide, by decide, by decide⟩, by rw [ee]; exact ef, by rw [mt]; decide, by rw [mt]; decide⟩
  refine ⟨mc, ?_, ?_⟩
  · unfold mkTy; rw [if_pos mc, mt]
  · unfold mkCh; rw [if_pos mc, mt]; rfl

set_option maxRecDepth 100000 in
set_option maxHeartbeats 8000000 in
theorem ptabled (w : World) (ht : BkTab w) : Calls Tryz.prog 13 #[] w fun e w' => e = .returned (.bool true) ∧ Gr w w' := by
  have HT := Lib.hid ht
  have SA := Lib.hid sA
  have SC := Lib.hid sC
  clear ht
  go_enter Tryz.func13, Tryz.ntmps13
  go_wp2_with fail
  refine (psample w).mono ?_
  rintro e w1 ⟨a, b, rfl, r1, r2, g1⟩
  have K := Lib.hid (ptabAt (some ⟨a, 0, none⟩) 2 sTy 0 (some ⟨b, 0, none⟩) 2 sCh 10000 w1 r1 sIn r2)
  have G1 := Lib.hid g1
  clear r1 r2 g1
  go_wp2_with fail
  refine K.out.mono ?_
  rintro e w2 ⟨rfl, g2⟩
  have G2 := Lib.hid (G1.out.trans g2)
  rw [SA.out, SC.out]
  clear K g2 G1
  have NB := Lib.hid (box_one w2 (.cells #[.int .i64 3600, .bool false, .string ⟨#[66]⟩] 46))
  go_wp2_with fail
  have G3 := Lib.hid (G2.out.trans NB.out.1)
  generalize w2.alloc (.cells #[.int .i64 3600, .bool false, .string ⟨#[66]⟩] 46) = w3 at NB G3 ⊢
  generalize w2.heap.size = qx at NB ⊢
  refine (pfixed w3).mono ?_
  rintro e w4 ⟨q, rfl, h1, h2, g4⟩
  have G4 := Lib.hid (G3.out.trans g4)
  have HX := Lib.hid (bheap_gr g4 NB.out.2)
  have B := Lib.hid (aloneB_at (w := w4) (Ar := none) (cr := 0) (rs := []) (q := q) (q2 := q + 1) (nm := S [65]) (e := eF) ⟨⟨Nat.le_refl _, by unfold maxLen; exact Nat.zero_le _⟩, Row.nil _ _ _ _, fun r hr => by cases hr⟩ (by rw [S_size]; unfold maxLen; decide) ⟨by rw [show eF.ru = S [] from rfl, S_size]; unfold maxLen; decide, by rw [show eF.fm = S [67, 69, 84] from rfl, S_size]; unfold maxLen; decide, by show (-9223372036854775808 : Int) ≤ 0; decide, by show (0 : Int) ≤ 9223372036854775807; decide⟩ h1 h2)
  clear h1 h2 g4 NB G3 G2
  go_wp2_with fail
  refine (pMake (aloneB none 0 [] q (q + 1) (S [65]) eF) (S [65]) 0 5 w4 B.out (by rw [S_size]; unfold maxLen; decide) (by decide) (by decide) (by decide) (by decide) (G4.out.bk HT.out)).mono ?_
  rintro e w5 he
  have R := eF_tab (z := ⟨S [65], some ⟨q, 0, none⟩, 1, [eF]⟩) rfl rfl
  have he2 : MkE [] [⟨S [65], some ⟨q, 0, none⟩, 1, [eF]⟩] [] (S [65]) 0 5 w4 e w5 := he
  clear he
  unfold MkE at he2
  rw [R.1, R.2.1, R.2.2] at he2
  obtain ⟨At, ct, Ac, cc, rfl, ta, _, g5⟩ := he2
  have G5 := Lib.hid (G4.out.trans g5)
  have HX5 := Lib.hid (bheap_gr g5 HX.out)
  obtain ⟨bb, off, rfl, c0, c1, c2⟩ := ta.2.1.three (i := 0) (x := ⟨3600, false, S [67, 69, 84]⟩) rfl rfl (Gr.refl w5)
  simp only [Nat.zero_mul, Nat.add_zero] at c0 c1 c2
  have NT := Lib.hid (box_one w5 (.cells #[.slice (some ⟨bb, off, none⟩) 1 ct, .int .i64 0, .slice Ac 0 cc] 32))
  have C2 := Lib.hid (NT.out.1.holds c2)
  have HX6 := Lib.hid (bheap_gr NT.out.1 HX5.out)
  have G6 := Lib.hid (G5.out.trans NT.out.1)
  clear R ta g5 c0 c1 c2 B HX HX5 G5 G4
  simp only [List.length_singleton, List.length_nil]
  have c2 : (w5.alloc (.cells #[.slice (some ⟨bb, off, none⟩) 1 ct, .int .i64 0, .slice Ac 0 cc] 32)).cell? ⟨bb, off + 2, none⟩ = some (.string (S [67, 69, 84])) := C2.out
  have z2 : (w5.alloc (.cells #[.slice (some ⟨bb, off, none⟩) 1 ct, .int .i64 0, .slice Ac 0 cc] 32)).cell? ⟨qx, 2, none⟩ = some (.string ⟨#[66]⟩) := bcell_row HX6.out rfl
  have e3 : (S [67, 69, 84]) = ⟨#[67, 69, 84]⟩ := rfl
  rw [e3] at c2
  clear C2 HX6 e3
  go_wp2_with fail
  go_ret
  exact ⟨rfl, G6.out⟩
end Go.Proofs.YtkmgildnhnjepaaGreatDoor
