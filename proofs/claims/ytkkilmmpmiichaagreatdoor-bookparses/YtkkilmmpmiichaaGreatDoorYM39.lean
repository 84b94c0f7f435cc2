/- SplitN at six words; what the project's addRule of package book does. -/
import Derived.Test.YtkkilmmpmiichaaGreatDoorYM36
import Derived.Test.YtkkilmmpmiichaaGreatDoorYM15
import Derived.Test.YtkkilmmpmiichaaGreatDoorYM38
namespace Go.Proofs.YtkkilmmpmiichaaGreatDoor
set_option linter.unusedVariables false
set_option linter.unusedSimpArgs false
open Go.RowKit
/-- what one of the functions that add a line does: nothing is added, or this -/
def AddA (base pb n : Nat) (w : World) (o : Option BkS) (e : Ending) (w' : World) : Prop := match o with
  | none => e = .returned (.bool false) ∧ Tch base pb w w'
  | some q => e = .returned (.bool true) ∧ PSt w' base pb n q ∧ Tch base pb w w'
theorem splitB_head (sep : ByteArray) (save : Nat) (k j : Nat) (t : ByteArray) : (Lib.splitB sep save (k + 1) t)[0]? = (Lib.splitB sep save (j + 1) t)[0]? := by
  rcases Lib.indexB_cases t sep with hix | ⟨i, hix, _⟩
  · rw [Lib.splitB_miss sep save _ t hix, Lib.splitB_miss sep save _ t hix]
  · rw [Lib.splitB_hit sep save k t i hix, Lib.splitB_hit sep save j t i hix]; rfl
/-- what SplitN at six leaves -/
def Split6 (t : ByteArray) (w : World) (e : Ending) (w' : World) : Prop := ∃ g L c : Nat, e = .returned (.slice (some ⟨g, 0, none⟩) L c) ∧ w.heap.size ≤ g ∧ L ≤ c ∧ 1 ≤ L ∧ L ≤ 6 ∧ Gr w w' ∧ ((bl t).length ≤ 5 → L = (bl t).length) ∧ (6 ≤ (bl t).length → L = 6) ∧ (∀ j, j < L → (bl t).length ≤ 5 ∨ j = 0 → w'.cell? ⟨g, j, none⟩ = some (.string (wd t j)))

theorem split6 (t : ByteArray) (m : Int) (w : World) (hs : t.size ≤ 1048576) (hm : w.cell? ⟨0, 0, none⟩ = some (.int .i64 m)) :
    Calls Tryz.prog 27 #[.string t, .string ⟨#[32]⟩, .int .i64 6] w (Split6 t w) := by
  refine (Tryz.strings_SplitN t ⟨#[32]⟩ 6 m w (by omega) hm (by decide) (by omega) (by omega)).mono ?_
  rintro e w' ⟨rfl, rfl⟩
  have hb := bl_len t
  have hle := Lib.countB_le ⟨#[32]⟩ (by decide) t.size t (Nat.le_refl _)
  have h1 : 1 ≤ (ByteArray.mk #[32]).size := by decide
  have hk := Lib.splitB_length_le ⟨#[32]⟩ 0 (min 6 (t.size + 1) - 1) t
  have lenc : Lib.countB t ⟨#[32]⟩ ≤ min 6 (t.size + 1) - 1 ∨ (min 6 (t.size + 1) - 1 = 5 ∧ 6 ≤ (bl t).length) := by omega
  have pos : 1 ≤ (Lib.splitB ⟨#[32]⟩ 0 (min 6 (t.size + 1) - 1) t).length := by
    rcases lenc with c | c
    · rw [splitB_more _ h1 0 _ t c]; have : (bl t).length = _ := hb; show 1 ≤ (bl t).length; omega
    · rw [splitB_less _ h1 0 _ t (by omega)]; omega
  refine ⟨w.heap.size, _, _, rfl, Nat.le_refl _, by omega, pos, by omega, Gr.alloc _ _, ?_, ?_, ?_⟩
  · intro h5
    rcases lenc with c | c
    · rw [splitB_more _ h1 0 _ t c]; rfl
    · omega
  · intro h6
    rcases lenc with c | c
    · rw [splitB_more _ h1 0 _ t c]; show (bl t).length = 6; omega
    · rw [splitB_less _ h1 0 _ t (by omega)]; omega
  · intro j hj hc
    rw [World.cell?_alloc_new]
    have key : (Lib.splitB ⟨#[32]⟩ 0 (min 6 (t.size + 1) - 1) t)[j]? = (bl t)[j]? := by
      rcases lenc with c | c
      · rw [splitB_more _ h1 0 _ t c]; rfl
      · rcases hc with hc | rfl
        · omega
        · have e5 := c.1
          rw [e5]
          obtain ⟨m', hm'⟩ : ∃ m', Lib.countB t ⟨#[32]⟩ = m' + 1 := ⟨Lib.countB t ⟨#[32]⟩ - 1, by omega⟩
          unfold bl
          rw [hm']
          exact splitB_head _ _ _ _ _
    have hl : j < (bl t).length := by
      rcases lenc with c | c
      · have : (Lib.splitB ⟨#[32]⟩ 0 (min 6 (t.size + 1) - 1) t).length = (bl t).length := by rw [splitB_more _ h1 0 _ t c]; rfl
        omega
      · rcases hc with hc | rfl <;> omega
    unfold Lib.cellsOf wd
    rw [List.getElem?_toArray, List.getElem?_append_left (by simp; omega), List.getElem?_map, key]
    simp [List.getD, List.getElem?_eq_getElem hl]

set_option maxRecDepth 100000 in
set_option maxHeartbeats 8000000 in
theorem paddRule (t : ByteArray) (p : BkS) (base pb n : Nat) (w : World) (hs : t.size ≤ 60000) (hp : PSt w base pb n p) (hn : n ≤ 100000) (ht : RpTab w) :
    Calls Tryz.prog 28 #[.pointer (some ⟨pb, 0, none⟩), .string t] w (AddA base pb (n + 1) w (if p.st = 0 then (ruleR t.toList).map fun r => { p with rs := p.rs ++ [r] } else none)) := by
  obtain ⟨v0, v1, v2, zs, hp⟩ := hp
  have P := Lib.hid hp
  have KP := Lib.hid (fun w h => pparse t w (by omega) h)
  have HT := Lib.hid ht
  have HB := Lib.hid hp.blk
  have NR : Hid (p.rs.length ≤ 100000) := Nat.le_trans hp.nr hn
  clear hs hn ht
  cases hr : ruleR t.toList with
  | none =>
    have e0 : (if p.st = 0 then (none : Option RuD).map fun r => ({ p with rs := p.rs ++ [r] } : BkS) else none) = none := by split <;> rfl
    rw [e0]
    have HN : Hid (∀ e, RuleReadA t.toList e → e = noRule) := fun e h => ruleR_no hr h
    clear e0 hr hp
    go_enter Tryz.func28, Tryz.ntmps28
    go_wp2_with fail
    refine (KP.out w HT.out).mono ?_
    rintro e w1 ⟨h, g1⟩
    obtain rfl := HN.out e h
    clear h HN
    go_wp2_with fail
    go_ret
    exact ⟨rfl, (Tch.refl base pb w).gr (g1.alloc' _) P.out.le⟩
  | some r =>
    have HN : Hid (∀ e, RuleReadA t.toList e → e = ruE r 0) := fun e h => ruleR_yes hr h
    have RI : Hid r.In := by
      have hc := ruleC_zero.1 (ruleR_some hr).1
      have a := name_len (ruleSyn_iff.1 hc.1).1
      have b := abbr_len (ruleSyn_iff.1 hc.1).2
      refine ⟨?_, ?_⟩
      · rw [size_toList]; unfold maxLen; omega
      · rw [size_toList]; unfold maxLen; omega
    obtain ⟨nm, fr, tt, mo, k, d, n0, at', by', sv, lt⟩ := r
    have HNB := Lib.hid (fun W : World => box_one W (.cells #[.string nm, .int .i64 fr, .int .i64 tt, .int .i64 mo, .int .i64 k, .int .i64 d, .int .i64 n0, .int .i64 at', .int .i64 by', .int .i64 sv, .string lt] 42))
    clear hr
    by_cases h0 : p.st = 0
    · rw [if_pos h0]
      show Calls _ _ _ _ (AddA base pb (n + 1) w (some { p with rs := p.rs ++ [⟨nm, fr, tt, mo, k, d, n0, at', by', sv, lt⟩] }))
      have HB1 : Hid (w.heap[pb]? = some (.cells #[v0, v1, v2, .int .i64 0] 35 (0, 0))) := by unfold Hid; rw [HB.out, h0]; rfl
      obtain ⟨i0, hi, hz0, hz1, hz2⟩ := info_parts infoRule
      have I1 := Lib.hid hi
      have I2 := Lib.hid hz0
      have I3 := Lib.hid hz1
      have I4 := Lib.hid hz2
      clear h0 HB hi hz0 hz1 hz2 hp
      go_enter Tryz.func28, Tryz.ntmps28
      go_wp2_with fail
      refine (KP.out w HT.out).mono ?_
      rintro e w1 ⟨h, g1⟩
      obtain rfl := HN.out e h
      have HB2 := Lib.hid (bheap_gr (g1.alloc' (.cells #[.string nm, .int .i64 fr, .int .i64 tt, .int .i64 mo, .int .i64 k, .int .i64 d, .int .i64 n0, .int .i64 at', .int .i64 by', .int .i64 sv, .string lt] 42)) HB1.out)
      have HR2 := Lib.hid (HNB.out w1).2
      have G2 := Lib.hid (g1.alloc' (.cells #[.string nm, .int .i64 fr, .int .i64 tt, .int .i64 mo, .int .i64 k, .int .i64 d, .int .i64 n0, .int .i64 at', .int .i64 by', .int .i64 sv, .string lt] 42))
      have RNE : Hid (some w1.heap.size ≠ v0.ownBlock) := fun e => by
        have := (own_block_lt P.out.rs _ e.symm).2
        have := Below.size g1
        omega
      have y3 : (w1.alloc (.cells #[.string nm, .int .i64 fr, .int .i64 tt, .int .i64 mo, .int .i64 k, .int .i64 d, .int .i64 n0, .int .i64 at', .int .i64 by', .int .i64 sv, .string lt] 42)).cell? ⟨pb, 3, none⟩ = some (.int .i64 0) := bcell_row HB2.out rfl
      clear h HN g1 HB1 HNB
      go_wp2_with fail
      clear y3
      generalize w1.alloc (.cells #[.string nm, .int .i64 fr, .int .i64 tt, .int .i64 mo, .int .i64 k, .int .i64 d, .int .i64 n0, .int .i64 at', .int .i64 by', .int .i64 sv, .string lt] 42) = w2 at HB2 HR2 G2 ⊢
      generalize w1.heap.size = rb at HR2 RNE ⊢
      refine wp_region_noPanic ?_
      refine till_start 12 (fun wx => wx.heap[pb]? = some (.cells #[v0, v1, v2, .int .i64 0] 35 (0, 0)) ∧ wx.heap[rb]? = some (.cells #[.string nm, .int .i64 fr, .int .i64 tt, .int .i64 mo, .int .i64 k, .int .i64 d, .int .i64 n0, .int .i64 at', .int .i64 by', .int .i64 sv, .string lt] 42 (0, 0))) (by kernel_rfl) ⟨HB2.out, HR2.out⟩ (fun hHeld => ?_)
      (try dsimp only at hHeld)
      have G2d := Lib.hid (G2.out.trans (Gr.drew w2))
      generalize w2.drew = w2d at hHeld G2d ⊢
      clear G2
      refine till_take (i := 0) (oi := { dst := some 21, op := _, type := _, pos := _, after := _, guard := _ }) (v := ?v1) rfl (by kernel_rfl) (by kernel_rfl) (by kernel_rfl) (by kernel_rfl) (fun _ _ _ h => h) (Or.inl ⟨by rfl, ?hy1⟩) (by assumption) ?rest1
      case hy1 => (intro w hSw; go_simp <;> (with_reducible rfl))
      (try simp only [Act.put, List.setIfInBounds_toArray, List.set_cons_zero, List.set_cons_succ])
      refine till_take (i := 1) (oi := { dst := some 22, op := _, type := _, pos := _, after := _, guard := _ }) (v := ?v2) rfl (by kernel_rfl) (by kernel_rfl) (by kernel_rfl) (by kernel_rfl) (fun _ _ _ h => h) (Or.inl ⟨by rfl, ?hy2⟩) (by assumption) ?rest2
      case hy2 => (intro w hSw; go_simp <;> (with_reducible rfl))
      (try simp only [Act.put, List.setIfInBounds_toArray, List.set_cons_zero, List.set_cons_succ])
      refine till_take (i := 2) (oi := { dst := some 23, op := _, type := _, pos := _, after := _, guard := _ }) (v := ?v3) rfl (by kernel_rfl) (by kernel_rfl) (by kernel_rfl) (by kernel_rfl) (fun _ _ _ h => h) (Or.inl ⟨by rfl, ?hy3⟩) (by assumption) ?rest3
      case hy3 => (intro w hSw; go_simp <;> (with_reducible rfl))
      (try simp only [Act.put, List.setIfInBounds_toArray, List.set_cons_zero, List.set_cons_succ])
      refine till_take (i := 3) (oi := { dst := some 24, op := _, type := _, pos := _, after := _, guard := _ }) (v := ?v4) rfl (by kernel_rfl) (by kernel_rfl) (by kernel_rfl) (by kernel_rfl) (fun _ _ _ h => h) (Or.inl ⟨by rfl, ?hy4⟩) (by assumption) ?rest4
      case hy4 => (intro w hSw; go_simp <;> (with_reducible rfl))
      (try simp only [Act.put, List.setIfInBounds_toArray, List.set_cons_zero, List.set_cons_succ])
      refine till_take (i := 4) (oi := { dst := some 25, op := _, type := _, pos := _, after := _, guard := _ }) (v := ?v5) rfl (by kernel_rfl) (by kernel_rfl) (by kernel_rfl) (by kernel_rfl) (fun _ _ _ h => h) (Or.inl ⟨by rfl, ?hy5⟩) (by assumption) ?rest5
      case hy5 => (intro w hSw; go_simp <;> (with_reducible rfl))
      (try simp only [Act.put, List.setIfInBounds_toArray, List.set_cons_zero, List.set_cons_succ])
      refine till_take (i := 5) (oi := { dst := some 26, op := _, type := _, pos := _, after := _, guard := _ }) (v := ?v6) rfl (by kernel_rfl) (by kernel_rfl) (by kernel_rfl) (by kernel_rfl) (fun _ _ _ h => h) (Or.inl ⟨by rfl, ?hy6⟩) (by assumption) ?rest6
      case hy6 => (intro w hSw; have c0 := bcell_row (i := 0) hSw.1 rfl; go_simp <;> (with_reducible rfl))
      (try simp only [Act.put, List.setIfInBounds_toArray, List.set_cons_zero, List.set_cons_succ])
      refine till_take (i := 6) (oi := { dst := some 27, op := _, type := _, pos := _, after := _, guard := _ }) (v := ?v7) rfl (by kernel_rfl) (by kernel_rfl) (by kernel_rfl) (by kernel_rfl) (fun _ _ _ h => h) (Or.inl ⟨by rfl, ?hy7⟩) (by assumption) ?rest7
      case hy7 => (intro w hSw; have d0 := bcell_row (i := 0) hSw.2 rfl; have d1 := bcell_row (i := 1) hSw.2 rfl; have d2 := bcell_row (i := 2) hSw.2 rfl; have d3 := bcell_row (i := 3) hSw.2 rfl; have d4 := bcell_row (i := 4) hSw.2 rfl; have d5 := bcell_row (i := 5) hSw.2 rfl; have d6 := bcell_row (i := 6) hSw.2 rfl; have d7 := bcell_row (i := 7) hSw.2 rfl; have d8 := bcell_row (i := 8) hSw.2 rfl; have d9 := bcell_row (i := 9) hSw.2 rfl; have d10 := bcell_row (i := 10) hSw.2 rfl; go_simp <;> (with_reducible rfl))
      (try simp only [Act.put, List.setIfInBounds_toArray, List.set_cons_zero, List.set_cons_succ])
      have HNB := Lib.hid (box_one w2d (.cells #[.string nm, .int .i64 fr, .int .i64 tt, .int .i64 mo, .int .i64 k, .int .i64 d, .int .i64 n0, .int .i64 at', .int .i64 by', .int .i64 sv, .string lt] 42))
      refine till_one (i := 7) (by kernel_rfl) rfl (fun K hK => ?_)
      go_simp
      refine hK.out _ _ (Or.inr ⟨bheap_gr HNB.out.1 hHeld.1, bheap_gr HNB.out.1 hHeld.2⟩) ?_
      clear hK K
      (try simp only [Act.put, List.setIfInBounds_toArray, List.set_cons_zero, List.set_cons_succ])
      generalize w2d.alloc (.cells #[.string nm, .int .i64 fr, .int .i64 tt, .int .i64 mo, .int .i64 k, .int .i64 d, .int .i64 n0, .int .i64 at', .int .i64 by', .int .i64 sv, .string lt] 42) = w3 at HNB ⊢
      generalize w2d.heap.size = q3 at HNB ⊢
      have G3 := Lib.hid (G2d.out.trans HNB.out.1)
      have OW := Lib.hid (P.out.rs.gr G3.out)
      have NB := Lib.hid HNB.out.2
      have HB3 := Lib.hid (bheap_gr HNB.out.1 hHeld.1)
      have HR3 := Lib.hid (bheap_gr HNB.out.1 hHeld.2)
      have lt3 := Lib.hid (show rb < w3.heap.size from (Array.getElem?_eq_some_iff.1 HR3.out).1)
      clear HNB hHeld HB2 HR2
      refine till_one (i := 8) (by kernel_rfl) rfl (fun K hK => ?_)
      (refine step_append_lies _ (by rfl) _ _ 22 (by rfl) base 42 i0 (.agg #[.string .empty, .int .i64 0, .int .i64 0, .int .i64 0, .int .i64 0, .int .i64 0, .int .i64 0, .int .i64 0, .int .i64 0, .int .i64 0, .string .empty]) 11 104 Tryz.underlying22 I1.out I2.out I3.out I4.out (by rfl) (by omega) v0 p.rs.length (p.rs.flatMap RuD.cells) (by rfl) OW.out ⟨q3, 0, none⟩ 1 1 [.string nm, .int .i64 fr, .int .i64 tt, .int .i64 mo, .int .i64 k, .int .i64 d, .int .i64 n0, .int .i64 at', .int .i64 by', .int .i64 sv, .string lt] (by rfl) (by rfl) (World.news_of_block NB.out) (ru_one ⟨nm, fr, tt, mo, k, d, n0, at', by', sv, lt⟩) (by omega) (by have := NR.out; unfold maxLen; omega) (by have := NR.out; omega) (Nat.le_trans P.out.le (Below.size G3.out)) w3.heap.size rfl ?_)
      intro g cap w4 hown hgrow hat hlt
      refine hK.out _ _ (Or.inr ⟨(hgrow.block pb (Nat.lt_of_lt_of_le P.out.lt (Nat.le_trans P.out.le (Below.size G3.out))) (pb_ne OW.out P.out.lt)).trans HB3.out, (hgrow.block rb lt3.out RNE.out).trans HR3.out⟩) ?_
      clear hK K
      (try simp only [Act.put, List.setIfInBounds_toArray, List.set_cons_zero, List.set_cons_succ])
      have HB4 := Lib.hid ((hgrow.block pb (Nat.lt_of_lt_of_le P.out.lt (Nat.le_trans P.out.le (Below.size G3.out))) (pb_ne OW.out P.out.lt)).trans HB3.out)
      have HR4 := Lib.hid ((hgrow.block rb lt3.out RNE.out).trans HR3.out)
      have FIN := Lib.hid (PAt.addRule (r := ⟨nm, fr, tt, mo, k, d, n0, at', by', sv, lt⟩) P.out G3.out (own_more rfl hown) hgrow RI.out)
      clear hown hgrow hat hlt HB3 HR3 OW NB lt3
      refine till_one (i := 9) (by kernel_rfl) rfl (fun K hK => ?_)
      go_simp
      refine hK.out _ _ (Or.inr ⟨HB4.out, HR4.out⟩) ?_
      clear hK K
      (try simp only [Act.put, List.setIfInBounds_toArray, List.set_cons_zero, List.set_cons_succ])
      refine till_one (i := 10) (by kernel_rfl) rfl (fun K hK => ?_)
      go_simp
      refine hK.out _ _ (Or.inr ⟨HB4.out, HR4.out⟩) ?_
      clear hK K
      (try simp only [Act.put, List.setIfInBounds_toArray, List.set_cons_zero, List.set_cons_succ])
      refine till_one (i := 11) (by kernel_rfl) rfl (fun K hK => ?_)
      go_simp
      refine hK.out _ _ (Or.inr ⟨HB4.out, HR4.out⟩) ?_
      clear hK K
      (try simp only [Act.put, List.setIfInBounds_toArray, List.set_cons_zero, List.set_cons_succ])
      have zc : w4.cell? ⟨pb, 0, none⟩ = some v0 := bcell_row HB4.out rfl
      have fz : w4.frozen? ⟨pb, 0, none⟩ = false := by simp [World.frozen?, HB4.out]
      refine till_one (i := 12) (by kernel_rfl) rfl (fun K hK => ?_)
      go_simp
      refine hK.out _ _ (Or.inl (by kernel_rfl)) ?_
      clear hK K
      (try simp only [Act.put, List.setIfInBounds_toArray, List.set_cons_zero, List.set_cons_succ])
      clear zc fz HB4 HR4
      refine till_done (by kernel_rfl) ?_ _
      refine NoPanic.normal ?_
      go_wp2_with fail
      go_ret
      exact ⟨rfl, ⟨_, _, _, _, FIN.out.1⟩, FIN.out.2⟩

    · rw [if_neg h0]
      have hb2 : ∀ W, Gr w W → W.cell? ⟨pb, 3, none⟩ = some (.int .i64 (p.st : Int)) := fun W g => bcell_row (bheap_gr g HB.out) rfl
      have HC := Lib.hid hb2
      have t0 : ((p.st : Int) != 0) = true := bneT (by omega)
      clear h0 HB hb2 hp
      generalize (p.st : Int) = s at HC t0
      go_enter Tryz.func28, Tryz.ntmps28
      go_wp2_with fail
      refine (KP.out w HT.out).mono ?_
      rintro e w1 ⟨h, g1⟩
      obtain rfl := HN.out e h
      have y3 := HC.out _ (g1.alloc' (.cells #[.string nm, .int .i64 fr, .int .i64 tt, .int .i64 mo, .int .i64 k, .int .i64 d, .int .i64 n0, .int .i64 at', .int .i64 by', .int .i64 sv, .string lt] 42))
      clear h HN HC
      go_wp2_with fail
      go_ret
      exact ⟨rfl, (Tch.refl base pb w).gr (g1.alloc' _) P.out.le⟩
end Go.Proofs.YtkkilmmpmiichaaGreatDoor
