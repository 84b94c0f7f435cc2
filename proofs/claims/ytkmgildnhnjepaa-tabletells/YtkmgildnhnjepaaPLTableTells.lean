/- The law TableTells of package timeballlaw returns true for every input and leaves its arguments as they were: At returns what the reference returns. No condition. -/
import Derived.ProofKit
import Derived.OpenShut
import Derived.Test.YtkmgildnhnjepaaRows
import Derived.Test.YtkmgildnhnjepaaPM09
import Derived.Test.YtkmgildnhnjepaaPM12
import Derived.Test.YtkmgildnhnjepaaPM10
import Derived.Test.YtkmgildnhnjepaaPM06
namespace Go.Proofs.Ytkmgildnhnjepaa.tableTells
open Go.ChangeShapes Go.WideShapes Go.ChangeAt Go.RowKit
set_option linter.unusedVariables false
set_option linter.unusedSimpArgs false
theorem own : ownKnob Try.prog.godebug = none := by kernel_rfl

set_option maxRecDepth 100000 in
set_option maxHeartbeats 16000000 in
theorem walk (tb : TabD) (t : Int) (t1 : -9223372036854775808 ≤ t) (t2 : t ≤ 9223372036854775807) (w : World) (ht : tb.Lies w) :
    Calls Try.prog 4 #[tabV tb, .int .i64 t] w fun e w' => e = .returned (.bool true) ∧ Gr w w' := by
  have K0 : Hid (∀ W, Calls Try.prog 7 #[.agg #[.slice none 0 0, .int .i64 0, .slice none 0 0], .int .i64 0] W fun e w' => e = .returned (.tuple #[.agg #[.int .i64 0, .bool false, .string ⟨#[]⟩], .int .i64 5]) ∧ Gr W w') := fun W => ptabAt none 0 [] 0 none 0 [] 0 W (Row.nil _ _ _ _) (fun x hx => by cases hx) (Row.nil _ _ _ _)
  have K1 := Lib.hid (fun W (g : Gr w W) => ptabAt tb.At tb.ct tb.ty tb.fst tb.Ac tb.cc tb.ch t W (ht.1.2.1.gr g) ht.1.2.2 (ht.2.2.2.1.gr g))
  have K2 := Lib.hid (fun W (g : Gr w W) => rtabCheck tb.At tb.ct tb.ty tb.fst tb.Ac tb.cc tb.ch W (ht.1.2.1.gr g) ht.1.2.2 (ht.2.2.2.1.gr g))
  have K3 := Lib.hid (fun h0 W (g : Gr w W) => rtabOf tb.At tb.ct tb.ty tb.fst tb.Ac tb.cc tb.ch t W h0 (ht.1.2.1.gr g) (ht.2.2.2.1.gr g))
  clear ht
  obtain ⟨A, c, ty, f, B, d, ch⟩ := tb
  simp only at K1 K2 K3
  unfold AtTE at K1
  have TY0 : Hid (tabC ty f ch ≠ 0 → tabA ty f ch t = ⟨0, false, ⟨#[]⟩⟩) := fun h => if_neg h
  have TY1 : Hid (tabC ty f ch = 0 → tabA ty f ch t = tabO ty f ch t) := fun h => if_pos h
  generalize tabA ty f ch t = x at K1 TY0 TY1
  generalize tabO ty f ch t = z at K3 TY1
  obtain ⟨o, s, y⟩ := x
  simp only at K1
  have tc : (tabC ty f ch == tabC ty f ch) = true := beqT rfl
  have tn : (tabC ty f ch != tabC ty f ch) = false := bneF rfl
  have mixed : Try.prog.follows .mixedOrders = true := by kernel_rfl
  have B0 := Lib.hid (box_one w (.cells #[.slice A ty.length c, .int .i64 f, .slice B ch.length d] 25))
  go_enter Try.func4, Try.ntmps4
  go_wp2_with fail
  generalize w.alloc (.cells #[.slice A ty.length c, .int .i64 f, .slice B ch.length d] 25) = w1 at B0 ⊢
  generalize w.heap.size = q at B0 ⊢
  have x0 : w1.cell? ⟨q, 0, none⟩ = some (.slice A ty.length c) := bcell_row B0.out.2 rfl
  have x1 : w1.cell? ⟨q, 1, none⟩ = some (.int .i64 f) := bcell_row B0.out.2 rfl
  have x2 : w1.cell? ⟨q, 2, none⟩ = some (.slice B ch.length d) := bcell_row B0.out.2 rfl
  go_wp2_with fail
  clear x0 x1 x2
  refine (K1.out w1 B0.out.1).mono ?_
  rintro e w2 ⟨rfl, g2⟩
  have NA := Lib.hid (box_one w2 (.cells #[.int .i64 o, .bool s, .string y] 30))
  have G3 := Lib.hid ((B0.out.1.trans g2).trans NA.out.1)
  have HQ3 := Lib.hid (bheap_gr (g2.trans NA.out.1) B0.out.2)
  clear g2 B0 K1
  go_wp2_with fail
  generalize w2.alloc (.cells #[.int .i64 o, .bool s, .string y] 30) = w3 at NA G3 HQ3 ⊢
  generalize w2.heap.size = qa at NA ⊢
  refine (K0.out w3).mono ?_
  rintro e w4 ⟨rfl, g4⟩
  have g5 := g4.trans (Gr.alloc w4 (.cells #[.int .i64 0, .bool false, .string ⟨#[]⟩] 30))
  have G5 := Lib.hid (G3.out.trans g5)
  have HQ5 := Lib.hid (bheap_gr g5 HQ3.out)
  have HA5 := Lib.hid (bheap_gr g5 NA.out.2)
  clear g5 g4 G3 HQ3 NA K0
  have x0 : (w4.alloc (.cells #[.int .i64 0, .bool false, .string ⟨#[]⟩] 30)).cell? ⟨q, 0, none⟩ = some (.slice A ty.length c) := bcell_row HQ5.out rfl
  have x1 : (w4.alloc (.cells #[.int .i64 0, .bool false, .string ⟨#[]⟩] 30)).cell? ⟨q, 1, none⟩ = some (.int .i64 f) := bcell_row HQ5.out rfl
  have x2 : (w4.alloc (.cells #[.int .i64 0, .bool false, .string ⟨#[]⟩] 30)).cell? ⟨q, 2, none⟩ = some (.slice B ch.length d) := bcell_row HQ5.out rfl
  go_wp2_with fail
  clear x0 x1 x2
  generalize w4.alloc (.cells #[.int .i64 0, .bool false, .string ⟨#[]⟩] 30) = w5 at G5 HQ5 HA5 ⊢
  refine (K2.out w5 G5.out).mono ?_
  rintro e w6 ⟨rfl, g6⟩
  have G6 := Lib.hid (G5.out.trans g6)
  have HQ6 := Lib.hid (bheap_gr g6 HQ5.out)
  have HA6 := Lib.hid (bheap_gr g6 HA5.out)
  clear g6 G5 HQ5 HA5 K2
  by_cases hC : tabC ty f ch = 0
  · have ez := TY1.out hC
    subst ez
    have H0 := Lib.hid hC
    simp only at K3
    have EQ : ∀ w, (binOp .eql 30 (.agg #[.int .i64 o, .bool s, .string y]) (.agg #[.int .i64 o, .bool s, .string y])).run Try.prog w = .ok (.bool true) w := fun w => by have h := eqlType o o s s y y w; simpa using h
    rw [hC]
    clear TY0 TY1 hC tc tn
    go_wp2_with fail
    refine wp_region_noPanic ?_
    refine till_start 4 (fun wx => wx.heap[qa]? = some (.cells #[.int .i64 o, .bool s, .string y] 30 (0, 0)) ∧ wx.heap[q]? = some (.cells #[.slice A ty.length c, .int .i64 f, .slice B ch.length d] 25 (0, 0))) (by kernel_rfl) ⟨HA6.out, HQ6.out⟩ (fun hHeld => ?_)
    (try dsimp only at hHeld)
    have G7 := Lib.hid (G6.out.trans (Gr.drew w6))
    generalize w6.drew = vd at hHeld G7 ⊢
    clear G6 HA6 HQ6
    refine till_take (i := 0) (oi := { dst := some 41, op := _, type := _, pos := _, after := _, guard := _ }) (v := ?v3) rfl (by kernel_rfl) (by kernel_rfl) (by kernel_rfl) (by kernel_rfl) (fun _ _ _ h => h) (Or.inl ⟨by rfl, ?hy3⟩) (by assumption) ?rest3
    case hy3 => (intro w hSw; have d0 := bcell_row (i := 0) hSw.1 rfl; have d1 := bcell_row (i := 1) hSw.1 rfl; have d2 := bcell_row (i := 2) hSw.1 rfl; go_simp <;> (with_reducible rfl))
    (try simp only [Act.put, List.setIfInBounds_toArray, List.set_cons_zero, List.set_cons_succ])
    refine till_mid 3 (i := 1) (oi := { dst := some 42, op := _, type := _, pos := _, after := _, guard := _ }) (v := ?v4) rfl (by kernel_rfl) (by kernel_rfl) (by kernel_rfl) (by kernel_rfl) (fun _ _ _ h => h) (Or.inl ⟨by rfl, ?hy4⟩) (by assumption) ?rest4
    case hy4 => (intro w hSw; have d0 := bcell_row (i := 0) hSw.2 rfl; have d1 := bcell_row (i := 1) hSw.2 rfl; have d2 := bcell_row (i := 2) hSw.2 rfl; go_simp <;> (with_reducible rfl))
    (try simp only [Act.put, List.setIfInBounds_toArray, List.set_cons_zero, List.set_cons_succ])
    refine till_pure (i := 2) (oi := { dst := some 43, op := _, type := _, pos := _, after := _, guard := _ }) (v := ?v5) rfl (by kernel_rfl) (by kernel_rfl) (by kernel_rfl) (by kernel_rfl) (fun _ _ _ h => h) (Or.inl ⟨by rfl, ?hy5⟩) (by assumption) ?rest5
    case hy5 => (intro w hSw; go_simp <;> (with_reducible rfl))
    (try simp only [Act.put, List.setIfInBounds_toArray, List.set_cons_zero, List.set_cons_succ])
    refine till_one (i := 3) (by kernel_rfl) rfl (fun K hK => ?_)
    go_simp
    (with_reducible refine (K3.out H0.out vd G7.out).mono ?_)
    rintro e v2 ⟨rfl, g2⟩
    (go_wp2_with fail)
    refine hK.out _ _ (Or.inr ⟨bheap_gr g2 hHeld.1, bheap_gr g2 hHeld.2⟩) ?_
    clear hK K
    (try simp only [Act.put, List.setIfInBounds_toArray, List.set_cons_zero, List.set_cons_succ])
    have G8 := Lib.hid (G7.out.trans g2)
    clear hHeld g2 G7 K3
    refine till_one (i := 4) (by kernel_rfl) rfl (fun K hK => ?_)
    go_simp
    refine hK.out _ _ (Or.inl (by kernel_rfl)) ?_
    clear hK K
    (try simp only [Act.put, List.setIfInBounds_toArray, List.set_cons_zero, List.set_cons_succ])
    refine till_one (i := 5) (by kernel_rfl) rfl (fun K hK => ?_)
    go_simp
    refine hK.out _ _ (Or.inl (by kernel_rfl)) ?_
    clear hK K
    (try simp only [Act.put, List.setIfInBounds_toArray, List.set_cons_zero, List.set_cons_succ])
    refine till_one (i := 6) (by kernel_rfl) rfl (fun K hK => ?_)
    go_simp
    refine hK.out _ _ (Or.inl (by kernel_rfl)) ?_
    clear hK K
    (try simp only [Act.put, List.setIfInBounds_toArray, List.set_cons_zero, List.set_cons_succ])
    refine till_one (i := 7) (by kernel_rfl) rfl (fun K hK => ?_)
    go_simp
    refine hK.out _ _ (Or.inl (by kernel_rfl)) ?_
    clear hK K
    (try simp only [Act.put, List.setIfInBounds_toArray, List.set_cons_zero, List.set_cons_succ])
    refine till_one (i := 8) (by kernel_rfl) rfl (fun K hK => ?_)
    go_simp
    refine hK.out _ _ (Or.inl (by kernel_rfl)) ?_
    clear hK K
    (try simp only [Act.put, List.setIfInBounds_toArray, List.set_cons_zero, List.set_cons_succ])
    refine till_one (i := 9) (by kernel_rfl) rfl (fun K hK => ?_)
    go_simp
    refine hK.out _ _ (Or.inl (by kernel_rfl)) ?_
    clear hK K
    (try simp only [Act.put, List.setIfInBounds_toArray, List.set_cons_zero, List.set_cons_succ])
    refine till_done (by kernel_rfl) ?_ _
    refine NoPanic.normal ?_
    go_wp2_with fail
    go_ret
    exact ⟨rfl, G8.out⟩
  · have ez := TY0.out hC
    injection ez with e1 e2 e3
    subst e1
    subst e2
    subst e3
    have EQ : ∀ w, (binOp .eql 30 (.agg #[.int .i64 0, .bool false, .string ⟨#[]⟩]) (.agg #[.int .i64 0, .bool false, .string ⟨#[]⟩])).run Try.prog w = .ok (.bool true) w := fun w => by have h := eqlType 0 0 false false ⟨#[]⟩ ⟨#[]⟩ w; simpa using h
    have tk := bneT hC
    clear TY0 TY1 hC K3
    generalize tabC ty f ch = C at tc tn tk ⊢
    have x0 : w6.cell? ⟨qa, 0, none⟩ = some (.int .i64 0) := bcell_row HA6.out rfl
    have x1 : w6.cell? ⟨qa, 1, none⟩ = some (.bool false) := bcell_row HA6.out rfl
    have x2 : w6.cell? ⟨qa, 2, none⟩ = some (.string ⟨#[]⟩) := bcell_row HA6.out rfl
    go_wp2_with fail
    go_ret
    exact ⟨rfl, G6.out⟩

set_option maxRecDepth 100000 in
theorem lifted (os : Os) (started : os.Started) (H : Type) (enc : TypeId × Value → H) :
    ReturnsInHanded {} Try.checked os 4 .any (Rows.tableTellsSpec.pre6 enc Try.prog Try.f4 Rows.tableTellsRow.domain false) (Rows.tableTellsSpec.post enc Try.prog Try.f4 false true false false) := by
  refine returnsInHanded_of_change (C := Try.checked) own started (by kernel_rfl) Try.func4
    (ChangeSpec.witness6 (enc := enc) (C := Try.checked) false ⟨#[], #[Value.agg #[.slice none 0 0, .int .i64 0, .slice none 0 0], Value.int .i64 0], []⟩ 8 (by kernel_rfl) (by kernel_rfl) (by kernel_rfl) (by kernel_rfl)) ?_
  intro W base args ds gs before hval0 hW hcnd _
  have hval : ∀ (j : Nat) t v, Try.f4.params[j]? = some t → args[j]? = some v → Value.okWide Try.prog W .any base t v := hval0
  have hW' := hW
  obtain ⟨p, q, hA0, hV, rfl, hfz, hnd⟩ := hW
  have hA : DataW.TrodAll enc Try.prog W 0 (fun _ => true) true Try.f4.params.toList args.toList ds p := hA0
  rw [Try.params4] at hA hval
  obtain ⟨v0, vs0, d0, ds0, p0, q0, hargs, rfl, rfl, h0, r0⟩ := trodAll_cons hA
  obtain ⟨v1, vs1, d1, ds1, p1, q1, rfl, rfl, rfl, h1, r1⟩ := trodAll_cons r0
  obtain ⟨rfl, rfl, rfl⟩ := trodAll_nil r1
  obtain rfl : args = #[v0, v1] := by cases args; simp_all
  obtain ⟨rfl, rfl⟩ := trodVars_none hV
  obtain ⟨tb0, rfl, bi0⟩ := open_table (hval 0 25 v0 rfl rfl) h0
  obtain ⟨a1, rfl, rfl, rfl, w1⟩ := open_int Try.underlying3 (hval 1 3 v1 rfl rfl) h1
  clear hA0 hval0
  simp only [List.append_nil] at hW'
  refine (walk tb0 a1 (bounds_i64 w1).1 (bounds_i64 w1).2 W bi0).mono fun e W' ⟨he, hg⟩ => ?_
  subst he
  exact ⟨_, rfl, post_of_below (pa := (p0 ++ ([] ++ []))) (pv := []) hW' (fun _ _ _ => trodAll_cons_mk (shut_bool Try.underlying4 _) trodAll_mk0) (fun _ hsp => (trodAll_cons_mk (stays table_reads h0 hg (fun p hp => by simp [hp]) (fun p hp => hW'.lt p hp) hsp) (trodAll_cons_mk (shut_int Try.underlying3 w1) trodAll_mk0))) (fun _ _ => rfl) (by simp)
    hg (ok_one (by kernel_rfl) rfl (okWide_bool_mk Try.underlying4 _))⟩

theorem over : Rows.tableTellsRow.holds Try.pinned (OpenSpec.ofChange Rows.tableTellsSpec) :=
  OpenClaim.holds_of_wide 4 Try.f4 rfl rfl rfl rfl rfl rfl rfl ⟨rfl, rfl, rfl, rfl, rfl⟩ rfl rfl rfl rfl rfl (by kernel_rfl) Try.func4 (by kernel_rfl)
    (of_decide_eq_true (by kernel_rfl)) (by unfold Func.isWrapper; first | (rw [if_pos (by decide +kernel)]; kernel_rfl) | (rw [if_neg (by decide +kernel)]; exact ⟨rfl, rfl⟩))
    (fun os started H enc _ => lifted os started H enc)

theorem proved : Rows.TableTellsSaid :=
  over
end Go.Proofs.Ytkmgildnhnjepaa.tableTells
namespace Go.Proofs.Ytkmgildnhnjepaa
theorem tableTells_holds : Rows.TableTellsSaid := tableTells.proved
end Go.Proofs.Ytkmgildnhnjepaa
