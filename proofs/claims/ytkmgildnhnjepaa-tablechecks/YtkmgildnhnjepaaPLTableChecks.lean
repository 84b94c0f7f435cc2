/- The law TableChecks of package timeballlaw returns true for every input and leaves its arguments as they were: Check returns what the reference returns. No condition. -/
import Derived.ProofKit
import Derived.OpenShut
import Derived.Test.YtkmgildnhnjepaaRows
import Derived.Test.YtkmgildnhnjepaaPM09
import Derived.Test.YtkmgildnhnjepaaPM10
import Derived.Test.YtkmgildnhnjepaaPM06
namespace Go.Proofs.Ytkmgildnhnjepaa.tableChecks
open Go.ChangeShapes Go.WideShapes Go.ChangeAt Go.RowKit
set_option linter.unusedVariables false
set_option linter.unusedSimpArgs false
theorem own : ownKnob Try.prog.godebug = none := by kernel_rfl

set_option maxRecDepth 100000 in
set_option maxHeartbeats 16000000 in
theorem walk (tb : TabD) (w : World) (ht : tb.Lies w) :
    Calls Try.prog 3 #[tabV tb] w fun e w' => e = .returned (.bool true) ∧ Gr w w' := by
  have K0 : Hid (∀ W, Calls Try.prog 5 #[.agg #[.slice none 0 0, .int .i64 0, .slice none 0 0]] W fun e w' => e = .returned (.int .i64 5) ∧ Gr W w') := fun W => ptabCheck none 0 [] 0 none 0 [] W (Row.nil _ _ _ _) (fun x hx => by cases hx) (Row.nil _ _ _ _)
  have K1 := Lib.hid (fun W (g : Gr w W) => ptabCheck tb.At tb.ct tb.ty tb.fst tb.Ac tb.cc tb.ch W (ht.1.2.1.gr g) ht.1.2.2 (ht.2.2.2.1.gr g))
  have K2 := Lib.hid (fun W (g : Gr w W) => rtabCheck tb.At tb.ct tb.ty tb.fst tb.Ac tb.cc tb.ch W (ht.1.2.1.gr g) ht.1.2.2 (ht.2.2.2.1.gr g))
  clear ht
  obtain ⟨A, c, ty, f, B, d, ch⟩ := tb
  simp only at K1 K2
  generalize tabC ty f ch = C at K1 K2
  have tc : (C == C) = true := beqT rfl
  have mixed : Try.prog.follows .mixedOrders = true := by kernel_rfl
  have B0 := Lib.hid (box_one w (.cells #[.slice A ty.length c, .int .i64 f, .slice B ch.length d] 25))
  go_enter Try.func3, Try.ntmps3
  go_wp2_with fail
  generalize w.alloc (.cells #[.slice A ty.length c, .int .i64 f, .slice B ch.length d] 25) = w1 at B0 ⊢
  generalize w.heap.size = q at B0 ⊢
  refine wp_region_noPanic ?_
  refine till_start 3 (fun wx => wx.heap[q]? = some (.cells #[.slice A ty.length c, .int .i64 f, .slice B ch.length d] 25 (0, 0))) (by kernel_rfl) B0.out.2 (fun hHeld => ?_)
  (try dsimp only at hHeld)
  have G1 := Lib.hid (B0.out.1.trans (Gr.drew w1))
  generalize w1.drew = vd at hHeld G1 ⊢
  clear B0
  refine till_mid 1 (i := 0) (oi := { dst := some 3, op := _, type := _, pos := _, after := _, guard := _ }) (v := ?v1) rfl (by kernel_rfl) (by kernel_rfl) (by kernel_rfl) (by kernel_rfl) (fun _ _ _ h => h) (Or.inl ⟨by rfl, ?hy1⟩) (by assumption) ?rest1
  case hy1 => (intro w hSw; have d0 := bcell_row (i := 0) hSw rfl; have d1 := bcell_row (i := 1) hSw rfl; have d2 := bcell_row (i := 2) hSw rfl; go_simp <;> (with_reducible rfl))
  (try simp only [Act.put, List.setIfInBounds_toArray, List.set_cons_zero, List.set_cons_succ])
  refine till_take (i := 2) (oi := { dst := some 5, op := _, type := _, pos := _, after := _, guard := _ }) (v := ?v2) rfl (by kernel_rfl) (by kernel_rfl) (by kernel_rfl) (by kernel_rfl) (fun _ _ _ h => h) (Or.inl ⟨by rfl, ?hy2⟩) (by assumption) ?rest2
  case hy2 => (intro w hSw; have d0 := bcell_row (i := 0) hSw rfl; have d1 := bcell_row (i := 1) hSw rfl; have d2 := bcell_row (i := 2) hSw rfl; go_simp <;> (with_reducible rfl))
  (try simp only [Act.put, List.setIfInBounds_toArray, List.set_cons_zero, List.set_cons_succ])
  refine till_one (i := 1) (by kernel_rfl) rfl (fun K hK => ?_)
  go_simp
  (with_reducible refine (K1.out vd G1.out).mono ?_)
  rintro e v2 ⟨rfl, g2⟩
  (go_wp2_with fail)
  refine hK.out _ _ (Or.inr (bheap_gr g2 hHeld)) ?_
  clear hK K
  (try simp only [Act.put, List.setIfInBounds_toArray, List.set_cons_zero, List.set_cons_succ])
  have G2 := Lib.hid (G1.out.trans g2)
  clear hHeld g2 G1 K1
  refine till_one (i := 3) (by kernel_rfl) rfl (fun K hK => ?_)
  go_simp
  (with_reducible refine (K2.out v2 G2.out).mono ?_)
  rintro e v3 ⟨rfl, g3⟩
  (go_wp2_with fail)
  refine hK.out _ _ (Or.inl (by kernel_rfl)) ?_
  clear hK K
  (try simp only [Act.put, List.setIfInBounds_toArray, List.set_cons_zero, List.set_cons_succ])
  have G3 := Lib.hid (G2.out.trans g3)
  clear g3 G2 K2
  refine till_one (i := 4) (by kernel_rfl) rfl (fun K hK => ?_)
  go_simp
  refine hK.out _ _ (Or.inl (by kernel_rfl)) ?_
  clear hK K
  (try simp only [Act.put, List.setIfInBounds_toArray, List.set_cons_zero, List.set_cons_succ])
  refine till_one (i := 5) (by kernel_rfl) rfl (fun K hK => ?_)
  go_simp
  refine hK.out _ _ (Or.inl (by kernel_rfl)) ?_
  clear hK K
  (try simp only [Act.put, List.setIfInBounds_toArray, List.set_cons_zero, List.set_cons_succ])
  refine till_one (i := 6) (by kernel_rfl) rfl (fun K hK => ?_)
  go_simp
  refine hK.out _ _ (Or.inl (by kernel_rfl)) ?_
  clear hK K
  (try simp only [Act.put, List.setIfInBounds_toArray, List.set_cons_zero, List.set_cons_succ])
  refine till_one (i := 7) (by kernel_rfl) rfl (fun K hK => ?_)
  go_simp
  (with_reducible refine (K0.out v3).mono ?_)
  rintro e v4 ⟨rfl, g4⟩
  (go_wp2_with fail)
  refine hK.out _ _ (Or.inl (by kernel_rfl)) ?_
  clear hK K
  (try simp only [Act.put, List.setIfInBounds_toArray, List.set_cons_zero, List.set_cons_succ])
  have G4 := Lib.hid (G3.out.trans g4)
  clear g4 G3 K0
  refine till_one (i := 8) (by kernel_rfl) rfl (fun K hK => ?_)
  go_simp
  refine hK.out _ _ (Or.inl (by kernel_rfl)) ?_
  clear hK K
  (try simp only [Act.put, List.setIfInBounds_toArray, List.set_cons_zero, List.set_cons_succ])
  refine till_one (i := 9) (by kernel_rfl) rfl (fun K hK => ?_)
  go_simp
  refine hK.out _ _ (Or.inl (by kernel_rfl)) ?_
  clear hK K
  (try simp only [Act.put, List.setIfInBounds_toArray, List.set_cons_zero, List.set_cons_succ])
  refine till_one (i := 10) (by kernel_rfl) rfl (fun K hK => ?_)
  go_simp
  refine hK.out _ _ (Or.inl (by kernel_rfl)) ?_
  clear hK K
  (try simp only [Act.put, List.setIfInBounds_toArray, List.set_cons_zero, List.set_cons_succ])
  refine till_done (by kernel_rfl) ?_ _
  refine NoPanic.normal ?_
  go_wp2_with fail
  go_ret
  exact ⟨rfl, G4.out⟩

set_option maxRecDepth 100000 in
theorem lifted (os : Os) (started : os.Started) (H : Type) (enc : TypeId × Value → H) :
    ReturnsInHanded {} Try.checked os 3 .any (Rows.tableChecksSpec.pre6 enc Try.prog Try.f3 Rows.tableChecksRow.domain false) (Rows.tableChecksSpec.post enc Try.prog Try.f3 false true false false) := by
  refine returnsInHanded_of_change (C := Try.checked) own started (by kernel_rfl) Try.func3
    (ChangeSpec.witness6 (enc := enc) (C := Try.checked) false ⟨#[], #[Value.agg #[.slice none 0 0, .int .i64 0, .slice none 0 0]], []⟩ 8 (by kernel_rfl) (by kernel_rfl) (by kernel_rfl) (by kernel_rfl)) ?_
  intro W base args ds gs before hval0 hW hcnd _
  have hval : ∀ (j : Nat) t v, Try.f3.params[j]? = some t → args[j]? = some v → Value.okWide Try.prog W .any base t v := hval0
  have hW' := hW
  obtain ⟨p, q, hA0, hV, rfl, hfz, hnd⟩ := hW
  have hA : DataW.TrodAll enc Try.prog W 0 (fun _ => true) true Try.f3.params.toList args.toList ds p := hA0
  rw [Try.params3] at hA hval
  obtain ⟨v0, vs0, d0, ds0, p0, q0, hargs, rfl, rfl, h0, r0⟩ := trodAll_cons hA
  obtain ⟨rfl, rfl, rfl⟩ := trodAll_nil r0
  obtain rfl : args = #[v0] := by cases args; simp_all
  obtain ⟨rfl, rfl⟩ := trodVars_none hV
  obtain ⟨tb0, rfl, bi0⟩ := open_table (hval 0 25 v0 rfl rfl) h0
  clear hA0 hval0
  simp only [List.append_nil] at hW'
  refine (walk tb0 W bi0).mono fun e W' ⟨he, hg⟩ => ?_
  subst he
  exact ⟨_, rfl, post_of_below (pa := (p0 ++ [])) (pv := []) hW' (fun _ _ _ => trodAll_cons_mk (shut_bool Try.underlying4 _) trodAll_mk0) (fun _ hsp => (trodAll_cons_mk (stays table_reads h0 hg (fun p hp => by simp [hp]) (fun p hp => hW'.lt p hp) hsp) trodAll_mk0)) (fun _ _ => rfl) (by simp)
    hg (ok_one (by kernel_rfl) rfl (okWide_bool_mk Try.underlying4 _))⟩

theorem over : Rows.tableChecksRow.holds Try.pinned (OpenSpec.ofChange Rows.tableChecksSpec) :=
  OpenClaim.holds_of_wide 3 Try.f3 rfl rfl rfl rfl rfl rfl rfl ⟨rfl, rfl, rfl, rfl, rfl⟩ rfl rfl rfl rfl rfl (by kernel_rfl) Try.func3 (by kernel_rfl)
    (of_decide_eq_true (by kernel_rfl)) (by unfold Func.isWrapper; first | (rw [if_pos (by decide +kernel)]; kernel_rfl) | (rw [if_neg (by decide +kernel)]; exact ⟨rfl, rfl⟩))
    (fun os started H enc _ => lifted os started H enc)

theorem proved : Rows.TableChecksSaid :=
  over
end Go.Proofs.Ytkmgildnhnjepaa.tableChecks
namespace Go.Proofs.Ytkmgildnhnjepaa
theorem tableChecks_holds : Rows.TableChecksSaid := tableChecks.proved
end Go.Proofs.Ytkmgildnhnjepaa
