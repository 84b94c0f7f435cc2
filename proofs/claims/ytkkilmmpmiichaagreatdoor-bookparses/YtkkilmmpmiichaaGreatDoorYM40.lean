/- What the project's addZone and addLink of package book do. -/
import Derived.Test.YtkkilmmpmiichaaGreatDoorYM39
namespace Go.Proofs.YtkkilmmpmiichaaGreatDoor
set_option linter.unusedVariables false
set_option linter.unusedSimpArgs false
open Go.RowKit
theorem infoZone : (Tryz.prog.info? 47).map (fun i => (i.zero, i.size, i.bytes)) = some (some (.agg #[.string .empty, .slice none 0 0]), 2, 40) := by kernel_rfl

theorem infoLink : (Tryz.prog.info? 49).map (fun i => (i.zero, i.size, i.bytes)) = some (some (.agg #[.string .empty, .string .empty]), 2, 32) := by kernel_rfl

/-- the words of a line, as SplitN at six leaves them -/
structure Wds (t : ByteArray) (w0 w : World) (gw L c : Nat) : Prop where
  new : w0.heap.size ≤ gw
  cap : L ≤ c
  pos : 1 ≤ L
  six : L ≤ 6
  few : (bl t).length ≤ 5 → L = (bl t).length
  many : 6 ≤ (bl t).length → L = 6
  cell : ∀ j, j < L → (bl t).length ≤ 5 ∨ j = 0 → w.cell? ⟨gw, j, none⟩ = some (.string (wd t j))
theorem Wds.is {t : ByteArray} {w0 w : World} {gw L c k : Nat} (h : Wds t w0 w gw L c) (hk : k ≤ 5) : L = k ↔ (bl t).length = k := by
  by_cases h5 : (bl t).length ≤ 5
  · rw [h.few h5]
  · have := h.many (by omega); omega
theorem wd_max {t : ByteArray} (hs : t.size ≤ 60000) (j : Nat) : (wd t j).size ≤ maxLen := Nat.le_trans (wd_size j) (by unfold maxLen; omega)

set_option maxRecDepth 100000 in
set_option maxHeartbeats 8000000 in
theorem paddZone (t : ByteArray) (p : BkS) (base pb n gw L c : Nat) (w0 w : World) (hs : t.size ≤ 60000) (hp : PSt w0 base pb n p) (hn : n ≤ 100000) (g0 : Gr w0 w) (hw : Wds t w0 w gw L c) :
    Calls Tryz.prog 29 #[.pointer (some ⟨pb, 0, none⟩), .slice (some ⟨gw, 0, none⟩) L c] w (AddA base pb (n + 1) w0 (if (bl t).length = 2 ∧ (p.st = 0 ∨ p.st = 2) then some { p with zs := p.zs ++ [(wd t 1, [])], st := 1 } else none)) := by
  obtain ⟨v0, v1, v2, zs, hp⟩ := hp
  have P := Lib.hid hp
  have G0 := Lib.hid g0
  have HB := Lib.hid (bheap_gr g0 hp.blk)
  have NR : Hid (zs.length ≤ 100000) := Nat.le_trans hp.nz hn
  have S1 := Lib.hid (wd_max hs 1)
  have CL1 := Lib.hid (fun w => clone_any (wd t 1) w (Nat.le_trans (wd_size 1) (by omega)))
  have GNE : Hid (some gw ≠ v1.ownBlock) := fun e => by have := (own_block_lt hp.zr _ e.symm).2; have := hw.new; omega
  have h6 := hw.six
  have hi2 := hw.is (k := 2) (by omega)
  have hc1 := hw.cell 1
  have hcap := hw.cap
  clear g0 hs hn
  by_cases h2 : (bl t).length = 2
  case neg =>
    rw [if_neg (fun h => h2 h.1)]
    have t2 : ((L : Int) != 2) = true := bneT (fun e => h2 (hi2.1 (by omega)))
    clear hi2 hc1 h2 hw hp
    go_enter Tryz.func29, Tryz.ntmps29
    go_wp2_with fail
    go_ret
    exact ⟨rfl, (Tch.refl base pb w0).gr G0.out P.out.le⟩

  obtain rfl : L = 2 := hi2.2 h2
  have C1 := Lib.hid (hc1 (by omega) (Or.inl (by omega)))
  clear hi2 hc1 hw
  have t2 : (((2 : Nat) : Int) != 2) = false := by decide
  by_cases h0 : p.st = 0
  · rw [if_pos ⟨h2, Or.inl h0⟩]
    have HB1 : Hid (w.heap[pb]? = some (.cells #[v0, v1, v2, .int .i64 0] 35 (0, 0))) := by unfold Hid; rw [HB.out, h0]; rfl
    have y3 : w.cell? ⟨pb, 3, none⟩ = some (.int .i64 0) := bcell_row HB1.out rfl
    clear h0 h2 HB hp
    obtain ⟨i0, hi, hz0, hz1, hz2⟩ := info_parts infoZone
    have I1 := Lib.hid hi
    have I2 := Lib.hid hz0
    have I3 := Lib.hid hz1
    have I4 := Lib.hid hz2
    clear hi hz0 hz1 hz2
    go_enter Tryz.func29, Tryz.ntmps29
    go_wp2_with fail
    clear y3 t2
    refine wp_region_noPanic ?_
    refine till_start 16 (fun wx => wx.heap[pb]? = some (.cells #[v0, v1, v2, .int .i64 0] 35 (0, 0)) ∧ wx.cell? ⟨gw, 1, none⟩ = some (.string (wd t 1))) (by kernel_rfl) ⟨HB1.out, C1.out⟩ (fun hHeld => ?_)
    (try dsimp only at hHeld)
    have G0d := Lib.hid (G0.out.trans (Gr.drew w))
    generalize w.drew = wd0 at hHeld G0d ⊢
    clear G0
    refine till_take (i := 0) (oi := { dst := some 22, op := _, type := _, pos := _, after := _, guard := _ }) (v := ?v1) rfl (by kernel_rfl) (by kernel_rfl) (by kernel_rfl) (by kernel_rfl) (fun _ _ _ h => h) (Or.inl ⟨by rfl, ?hy1⟩) (by assumption) ?rest1
    case hy1 => (intro w hSw; go_simp <;> (with_reducible rfl))
    (try simp only [Act.put, List.setIfInBounds_toArray, List.set_cons_zero, List.set_cons_succ])
    refine till_take (i := 1) (oi := { dst := some 23, op := _, type := _, pos := _, after := _, guard := _ }) (v := ?v2) rfl (by kernel_rfl) (by kernel_rfl) (by kernel_rfl) (by kernel_rfl) (fun _ _ _ h => h) (Or.inl ⟨by rfl, ?hy2⟩) (by assumption) ?rest2
    case hy2 => (intro w hSw; go_simp <;> (with_reducible rfl))
    (try simp only [Act.put, List.setIfInBounds_toArray, List.set_cons_zero, List.set_cons_succ])
    refine till_take (i := 2) (oi := { dst := some 24, op := _, type := _, pos := _, after := _, guard := _ }) (v := ?v3) rfl (by kernel_rfl) (by kernel_rfl) (by kernel_rfl) (by kernel_rfl) (fun _ _ _ h => h) (Or.inl ⟨by rfl, ?hy3⟩) (by assumption) ?rest3
    case hy3 => (intro w hSw; go_simp <;> (with_reducible rfl))
    (try simp only [Act.put, List.setIfInBounds_toArray, List.set_cons_zero, List.set_cons_succ])
    refine till_take (i := 3) (oi := { dst := some 25, op := _, type := _, pos := _, after := _, guard := _ }) (v := ?v4) rfl (by kernel_rfl) (by kernel_rfl) (by kernel_rfl) (by kernel_rfl) (fun _ _ _ h => h) (Or.inl ⟨by rfl, ?hy4⟩) (by assumption) ?rest4
    case hy4 => (intro w hSw; go_simp <;> (with_reducible rfl))
    (try simp only [Act.put, List.setIfInBounds_toArray, List.set_cons_zero, List.set_cons_succ])
    refine till_take (i := 4) (oi := { dst := some 26, op := _, type := _, pos := _, after := _, guard := _ }) (v := ?v5) rfl (by kernel_rfl) (by kernel_rfl) (by kernel_rfl) (by kernel_rfl) (fun _ _ _ h => h) (Or.inl ⟨by rfl, ?hy5⟩) (by assumption) ?rest5
    case hy5 => (intro w hSw; go_simp <;> (with_reducible rfl))
    (try simp only [Act.put, List.setIfInBounds_toArray, List.set_cons_zero, List.set_cons_succ])
    refine till_take (i := 5) (oi := { dst := some 27, op := _, type := _, pos := _, after := _, guard := _ }) (v := ?v6) rfl (by kernel_rfl) (by kernel_rfl) (by kernel_rfl) (by kernel_rfl) (fun _ _ _ h => h) (Or.inl ⟨by rfl, ?hy6⟩) (by assumption) ?rest6
    case hy6 => (intro w hSw; have c0 := bcell_row (i := 1) hSw.1 rfl; go_simp <;> (with_reducible rfl))
    (try simp only [Act.put, List.setIfInBounds_toArray, List.set_cons_zero, List.set_cons_succ])
    refine till_take (i := 6) (oi := { dst := some 28, op := _, type := _, pos := _, after := _, guard := _ }) (v := ?v7) rfl (by kernel_rfl) (by kernel_rfl) (by kernel_rfl) (by kernel_rfl) (fun _ _ _ h => h) (Or.inl ⟨by rfl, ?hy7⟩) (by assumption) ?rest7
    case hy7 => (intro w hSw; go_simp <;> (with_reducible rfl))
    (try simp only [Act.put, List.setIfInBounds_toArray, List.set_cons_zero, List.set_cons_succ])
    refine till_take (i := 7) (oi := { dst := some 29, op := _, type := _, pos := _, after := _, guard := _ }) (v := ?v8) rfl (by kernel_rfl) (by kernel_rfl) (by kernel_rfl) (by kernel_rfl) (fun _ _ _ h => h) (Or.inl ⟨by rfl, ?hy8⟩) (by assumption) ?rest8
    case hy8 => (intro w hSw; go_simp <;> (with_reducible rfl))
    (try simp only [Act.put, List.setIfInBounds_toArray, List.set_cons_zero, List.set_cons_succ])
    refine till_take (i := 8) (oi := { dst := some 30, op := _, type := _, pos := _, after := _, guard := _ }) (v := ?v9) rfl (by kernel_rfl) (by kernel_rfl) (by kernel_rfl) (by kernel_rfl) (fun _ _ _ h => h) (Or.inl ⟨by rfl, ?hy9⟩) (by assumption) ?rest9
    case hy9 => (intro w hSw; have c1 := hSw.2; go_simp <;> (with_reducible rfl))
    (try simp only [Act.put, List.setIfInBounds_toArray, List.set_cons_zero, List.set_cons_succ])
    refine till_one (i := 9) (by kernel_rfl) rfl (fun K hK => ?_)
    go_simp
    (with_reducible refine (CL1.out _).mono ?_)
    rintro e wc1 ⟨rfl, gx1⟩
    (go_wp2_with fail)
    refine hK.out _ _ (Or.inr ⟨bheap_gr gx1 hHeld.1, gx1.holds hHeld.2⟩) ?_
    clear hK K
    (try simp only [Act.put, List.setIfInBounds_toArray, List.set_cons_zero, List.set_cons_succ])
    have hH1 := And.intro (bheap_gr gx1 hHeld.1) (gx1.holds hHeld.2)
    have GC1 := Lib.hid (G0d.out.trans gx1)
    clear gx1 hHeld G0d
    refine till_one (i := 10) (by kernel_rfl) rfl (fun K hK => ?_)
    go_simp
    refine hK.out _ _ (Or.inr hH1) ?_
    clear hK K
    (try simp only [Act.put, List.setIfInBounds_toArray, List.set_cons_zero, List.set_cons_succ])
    have HNB := Lib.hid (box_one wc1 (.cells #[.string (wd t 1), .slice none 0 0] 47))
    refine till_one (i := 11) (by kernel_rfl) rfl (fun K hK => ?_)
    go_simp
    refine hK.out _ _ (Or.inr ⟨bheap_gr HNB.out.1 hH1.1, HNB.out.1.holds hH1.2⟩) ?_
    clear hK K
    (try simp only [Act.put, List.setIfInBounds_toArray, List.set_cons_zero, List.set_cons_succ])
    generalize wc1.alloc (.cells #[.string (wd t 1), .slice none 0 0] 47) = w3 at HNB ⊢
    generalize wc1.heap.size = q3 at HNB ⊢
    have G3 := Lib.hid (GC1.out.trans HNB.out.1)
    have OW := Lib.hid (P.out.zr.gr G3.out)
    have NB := Lib.hid HNB.out.2
    have HB3 := Lib.hid (bheap_gr HNB.out.1 hH1.1)
    have K1 := Lib.hid (HNB.out.1.holds hH1.2)
    clear HNB hH1
    refine till_one (i := 12) (by kernel_rfl) rfl (fun K hK => ?_)
    (refine step_append_lies _ (by rfl) _ _ 23 (by rfl) base 47 i0 (.agg #[.string .empty, .slice none 0 0]) 2 40 Tryz.underlying23 I1.out I2.out I3.out I4.out (by rfl) (by omega) v1 zs.length (zs.flatMap ZonD.cells) (by rfl) OW.out ⟨q3, 0, none⟩ 1 1 [.string (wd t 1), .slice none 0 0] (by rfl) (by rfl) (World.news_of_block NB.out) (zo_one ⟨wd t 1, none, 0, []⟩) (by omega) (by have := NR.out; unfold maxLen; omega) (by have := NR.out; omega) (Nat.le_trans P.out.le (Below.size G3.out)) w3.heap.size rfl ?_)
    intro g cap w4 hown hgrow hat hlt
    refine hK.out _ _ (Or.inr ⟨(hgrow.block pb (Nat.lt_of_lt_of_le P.out.lt (Nat.le_trans P.out.le (Below.size G3.out))) (pb_ne OW.out P.out.lt)).trans HB3.out, (World.cell?_of_block (hgrow.block gw (World.block_lt_of_cell? _ _ K1.out) GNE.out)).trans K1.out⟩) ?_
    clear hK K
    (try simp only [Act.put, List.setIfInBounds_toArray, List.set_cons_zero, List.set_cons_succ])
    have HB4 := Lib.hid ((hgrow.block pb (Nat.lt_of_lt_of_le P.out.lt (Nat.le_trans P.out.le (Below.size G3.out))) (pb_ne OW.out P.out.lt)).trans HB3.out)
    have J1 := Lib.hid ((World.cell?_of_block (hgrow.block gw (World.block_lt_of_cell? _ _ K1.out) GNE.out)).trans K1.out)
    have FIN := Lib.hid (PAt.addZone (nm := wd t 1) P.out G3.out (own_more rfl hown) hgrow S1.out)
    clear hown hgrow hat hlt HB3 OW NB K1
    refine till_one (i := 13) (by kernel_rfl) rfl (fun K hK => ?_)
    go_simp
    refine hK.out _ _ (Or.inr ⟨HB4.out, J1.out⟩) ?_
    clear hK K
    (try simp only [Act.put, List.setIfInBounds_toArray, List.set_cons_zero, List.set_cons_succ])
    refine till_one (i := 14) (by kernel_rfl) rfl (fun K hK => ?_)
    go_simp
    refine hK.out _ _ (Or.inr ⟨HB4.out, J1.out⟩) ?_
    clear hK K
    (try simp only [Act.put, List.setIfInBounds_toArray, List.set_cons_zero, List.set_cons_succ])
    refine till_one (i := 15) (by kernel_rfl) rfl (fun K hK => ?_)
    go_simp
    refine hK.out _ _ (Or.inr ⟨HB4.out, J1.out⟩) ?_
    clear hK K
    (try simp only [Act.put, List.setIfInBounds_toArray, List.set_cons_zero, List.set_cons_succ])
    have zc : w4.cell? ⟨pb, 1, none⟩ = some v1 := bcell_row HB4.out rfl
    have fz : w4.frozen? ⟨pb, 1, none⟩ = false := by simp [World.frozen?, HB4.out]
    refine till_one (i := 16) (by kernel_rfl) rfl (fun K hK => ?_)
    go_simp
    refine hK.out _ _ (Or.inl (by kernel_rfl)) ?_
    clear hK K
    (try simp only [Act.put, List.setIfInBounds_toArray, List.set_cons_zero, List.set_cons_succ])
    have HB5 := Lib.hid (blk_set (j := 1) (u := .slice (some ⟨g, 0, none⟩) (zs.length + 1) cap) HB4.out)
    clear zc fz HB4 J1
    generalize w4.setCell ⟨pb, 1, none⟩ (.slice (some ⟨g, 0, none⟩) (zs.length + 1) cap) = w5 at HB5 FIN ⊢
    refine till_done (by kernel_rfl) ?_ _
    refine NoPanic.normal ?_
    have zc : w5.cell? ⟨pb, 3, none⟩ = some (.int .i64 0) := bcell_row HB5.out rfl
    have fz : w5.frozen? ⟨pb, 3, none⟩ = false := by simp [World.frozen?, HB5.out]
    go_wp2_with fail
    go_ret
    exact ⟨rfl, ⟨_, _, _, _, FIN.out.1⟩, FIN.out.2⟩

  by_cases hst : p.st = 2
  · rw [if_pos ⟨h2, Or.inr hst⟩]
    have HB1 : Hid (w.heap[pb]? = some (.cells #[v0, v1, v2, .int .i64 2] 35 (0, 0))) := by unfold Hid; rw [HB.out, hst]; rfl
    have y3 : w.cell? ⟨pb, 3, none⟩ = some (.int .i64 2) := bcell_row HB1.out rfl
    clear h0 h2 hst HB hp
    obtain ⟨i0, hi, hz0, hz1, hz2⟩ := info_parts infoZone
    have I1 := Lib.hid hi
    have I2 := Lib.hid hz0
    have I3 := Lib.hid hz1
    have I4 := Lib.hid hz2
    clear hi hz0 hz1 hz2
    go_enter Tryz.func29, Tryz.ntmps29
    go_wp2_with fail
    clear y3 t2
    refine wp_region_noPanic ?_
    refine till_start 16 (fun wx => wx.heap[pb]? = some (.cells #[v0, v1, v2, .int .i64 2] 35 (0, 0)) ∧ wx.cell? ⟨gw, 1, none⟩ = some (.string (wd t 1))) (by kernel_rfl) ⟨HB1.out, C1.out⟩ (fun hHeld => ?_)
    (try dsimp only at hHeld)
    have G0d := Lib.hid (G0.out.trans (Gr.drew w))
    generalize w.drew = wd0 at hHeld G0d ⊢
    clear G0
    refine till_take (i := 0) (oi := { dst := some 22, op := _, type := _, pos := _, after := _, guard := _ }) (v := ?v10) rfl (by kernel_rfl) (by kernel_rfl) (by kernel_rfl) (by kernel_rfl) (fun _ _ _ h => h) (Or.inl ⟨by rfl, ?hy10⟩) (by assumption) ?rest10
    case hy10 => (intro w hSw; go_simp <;> (with_reducible rfl))
    (try simp only [Act.put, List.setIfInBounds_toArray, List.set_cons_zero, List.set_cons_succ])
    refine till_take (i := 1) (oi := { dst := some 23, op := _, type := _, pos := _, after := _, guard := _ }) (v := ?v11) rfl (by kernel_rfl) (by kernel_rfl) (by kernel_rfl) (by kernel_rfl) (fun _ _ _ h => h) (Or.inl ⟨by rfl, ?hy11⟩) (by assumption) ?rest11
    case hy11 => (intro w hSw; go_simp <;> (with_reducible rfl))
    (try simp only [Act.put, List.setIfInBounds_toArray, List.set_cons_zero, List.set_cons_succ])
    refine till_take (i := 2) (oi := { dst := some 24, op := _, type := _, pos := _, after := _, guard := _ }) (v := ?v12) rfl (by kernel_rfl) (by kernel_rfl) (by kernel_rfl) (by kernel_rfl) (fun _ _ _ h => h) (Or.inl ⟨by rfl, ?hy12⟩) (by assumption) ?rest12
    case hy12 => (intro w hSw; go_simp <;> (with_reducible rfl))
    (try simp only [Act.put, List.setIfInBounds_toArray, List.set_cons_zero, List.set_cons_succ])
    refine till_take (i := 3) (oi := { dst := some 25, op := _, type := _, pos := _, after := _, guard := _ }) (v := ?v13) rfl (by kernel_rfl) (by kernel_rfl) (by kernel_rfl) (by kernel_rfl) (fun _ _ _ h => h) (Or.inl ⟨by rfl, ?hy13⟩) (by assumption) ?rest13
    case hy13 => (intro w hSw; go_simp <;> (with_reducible rfl))
    (try simp only [Act.put, List.setIfInBounds_toArray, List.set_cons_zero, List.set_cons_succ])
    refine till_take (i := 4) (oi := { dst := some 26, op := _, type := _, pos := _, after := _, guard := _ }) (v := ?v14) rfl (by kernel_rfl) (by kernel_rfl) (by kernel_rfl) (by kernel_rfl) (fun _ _ _ h => h) (Or.inl ⟨by rfl, ?hy14⟩) (by assumption) ?rest14
    case hy14 => (intro w hSw; go_simp <;> (with_reducible rfl))
    (try simp only [Act.put, List.setIfInBounds_toArray, List.set_cons_zero, List.set_cons_succ])
    refine till_take (i := 5) (oi := { dst := some 27, op := _, type := _, pos := _, after := _, guard := _ }) (v := ?v15) rfl (by kernel_rfl) (by kernel_rfl) (by kernel_rfl) (by kernel_rfl) (fun _ _ _ h => h) (Or.inl ⟨by rfl, ?hy15⟩) (by assumption) ?rest15
    case hy15 => (intro w hSw; have c0 := bcell_row (i := 1) hSw.1 rfl; go_simp <;> (with_reducible rfl))
    (try simp only [Act.put, List.setIfInBounds_toArray, List.set_cons_zero, List.set_cons_succ])
    refine till_take (i := 6) (oi := { dst := some 28, op := _, type := _, pos := _, after := _, guard := _ }) (v := ?v16) rfl (by kernel_rfl) (by kernel_rfl) (by kernel_rfl) (by kernel_rfl) (fun _ _ _ h => h) (Or.inl ⟨by rfl, ?hy16⟩) (by assumption) ?rest16
    case hy16 => (intro w hSw; go_simp <;> (with_reducible rfl))
    (try simp only [Act.put, List.setIfInBounds_toArray, List.set_cons_zero, List.set_cons_succ])
    refine till_take (i := 7) (oi := { dst := some 29, op := _, type := _, pos := _, after := _, guard := _ }) (v := ?v17) rfl (by kernel_rfl) (by kernel_rfl) (by kernel_rfl) (by kernel_rfl) (fun _ _ _ h => h) (Or.inl ⟨by rfl, ?hy17⟩) (by assumption) ?rest17
    case hy17 => (intro w hSw; go_simp <;> (with_reducible rfl))
    (try simp only [Act.put, List.setIfInBounds_toArray, List.set_cons_zero, List.set_cons_succ])
    refine till_take (i := 8) (oi := { dst := some 30, op := _, type := _, pos := _, after := _, guard := _ }) (v := ?v18) rfl (by kernel_rfl) (by kernel_rfl) (by kernel_rfl) (by kernel_rfl) (fun _ _ _ h => h) (Or.inl ⟨by rfl, ?hy18⟩) (by assumption) ?rest18
    case hy18 => (intro w hSw; have c1 := hSw.2; go_simp <;> (with_reducible rfl))
    (try simp only [Act.put, List.setIfInBounds_toArray, List.set_cons_zero, List.set_cons_succ])
    refine till_one (i := 9) (by kernel_rfl) rfl (fun K hK => ?_)
    go_simp
    (with_reducible refine (CL1.out _).mono ?_)
    rintro e wc1 ⟨rfl, gx1⟩
    (go_wp2_with fail)
    refine hK.out _ _ (Or.inr ⟨bheap_gr gx1 hHeld.1, gx1.holds hHeld.2⟩) ?_
    clear hK K
    (try simp only [Act.put, List.setIfInBounds_toArray, List.set_cons_zero, List.set_cons_succ])
    have hH1 := And.intro (bheap_gr gx1 hHeld.1) (gx1.holds hHeld.2)
    have GC1 := Lib.hid (G0d.out.trans gx1)
    clear gx1 hHeld G0d
    refine till_one (i := 10) (by kernel_rfl) rfl (fun K hK => ?_)
    go_simp
    refine hK.out _ _ (Or.inr hH1) ?_
    clear hK K
    (try simp only [Act.put, List.setIfInBounds_toArray, List.set_cons_zero, List.set_cons_succ])
    have HNB := Lib.hid (box_one wc1 (.cells #[.string (wd t 1), .slice none 0 0] 47))
    refine till_one (i := 11) (by kernel_rfl) rfl (fun K hK => ?_)
    go_simp
    refine hK.out _ _ (Or.inr ⟨bheap_gr HNB.out.1 hH1.1, HNB.out.1.holds hH1.2⟩) ?_
    clear hK K
    (try simp only [Act.put, List.setIfInBounds_toArray, List.set_cons_zero, List.set_cons_succ])
    generalize wc1.alloc (.cells #[.string (wd t 1), .slice none 0 0] 47) = w3 at HNB ⊢
    generalize wc1.heap.size = q3 at HNB ⊢
    have G3 := Lib.hid (GC1.out.trans HNB.out.1)
    have OW := Lib.hid (P.out.zr.gr G3.out)
    have NB := Lib.hid HNB.out.2
    have HB3 := Lib.hid (bheap_gr HNB.out.1 hH1.1)
    have K1 := Lib.hid (HNB.out.1.holds hH1.2)
    clear HNB hH1
    refine till_one (i := 12) (by kernel_rfl) rfl (fun K hK => ?_)
    (refine step_append_lies _ (by rfl) _ _ 23 (by rfl) base 47 i0 (.agg #[.string .empty, .slice none 0 0]) 2 40 Tryz.underlying23 I1.out I2.out I3.out I4.out (by rfl) (by omega) v1 zs.length (zs.flatMap ZonD.cells) (by rfl) OW.out ⟨q3, 0, none⟩ 1 1 [.string (wd t 1), .slice none 0 0] (by rfl) (by rfl) (World.news_of_block NB.out) (zo_one ⟨wd t 1, none, 0, []⟩) (by omega) (by have := NR.out; unfold maxLen; omega) (by have := NR.out; omega) (Nat.le_trans P.out.le (Below.size G3.out)) w3.heap.size rfl ?_)
    intro g cap w4 hown hgrow hat hlt
    refine hK.out _ _ (Or.inr ⟨(hgrow.block pb (Nat.lt_of_lt_of_le P.out.lt (Nat.le_trans P.out.le (Below.size G3.out))) (pb_ne OW.out P.out.lt)).trans HB3.out, (World.cell?_of_block (hgrow.block gw (World.block_lt_of_cell? _ _ K1.out) GNE.out)).trans K1.out⟩) ?_
    clear hK K
    (try simp only [Act.put, List.setIfInBounds_toArray, List.set_cons_zero, List.set_cons_succ])
    have HB4 := Lib.hid ((hgrow.block pb (Nat.lt_of_lt_of_le P.out.lt (Nat.le_trans P.out.le (Below.size G3.out))) (pb_ne OW.out P.out.lt)).trans HB3.out)
    have J1 := Lib.hid ((World.cell?_of_block (hgrow.block gw (World.block_lt_of_cell? _ _ K1.out) GNE.out)).trans K1.out)
    have FIN := Lib.hid (PAt.addZone (nm := wd t 1) P.out G3.out (own_more rfl hown) hgrow S1.out)
    clear hown hgrow hat hlt HB3 OW NB K1
    refine till_one (i := 13) (by kernel_rfl) rfl (fun K hK => ?_)
    go_simp
    refine hK.out _ _ (Or.inr ⟨HB4.out, J1.out⟩) ?_
    clear hK K
    (try simp only [Act.put, List.setIfInBounds_toArray, List.set_cons_zero, List.set_cons_succ])
    refine till_one (i := 14) (by kernel_rfl) rfl (fun K hK => ?_)
    go_simp
    refine hK.out _ _ (Or.inr ⟨HB4.out, J1.out⟩) ?_
    clear hK K
    (try simp only [Act.put, List.setIfInBounds_toArray, List.set_cons_zero, List.set_cons_succ])
    refine till_one (i := 15) (by kernel_rfl) rfl (fun K hK => ?_)
    go_simp
    refine hK.out _ _ (Or.inr ⟨HB4.out, J1.out⟩) ?_
    clear hK K
    (try simp only [Act.put, List.setIfInBounds_toArray, List.set_cons_zero, List.set_cons_succ])
    have zc : w4.cell? ⟨pb, 1, none⟩ = some v1 := bcell_row HB4.out rfl
    have fz : w4.frozen? ⟨pb, 1, none⟩ = false := by simp [World.frozen?, HB4.out]
    refine till_one (i := 16) (by kernel_rfl) rfl (fun K hK => ?_)
    go_simp
    refine hK.out _ _ (Or.inl (by kernel_rfl)) ?_
    clear hK K
    (try simp only [Act.put, List.setIfInBounds_toArray, List.set_cons_zero, List.set_cons_succ])
    have HB5 := Lib.hid (blk_set (j := 1) (u := .slice (some ⟨g, 0, none⟩) (zs.length + 1) cap) HB4.out)
    clear zc fz HB4 J1
    generalize w4.setCell ⟨pb, 1, none⟩ (.slice (some ⟨g, 0, none⟩) (zs.length + 1) cap) = w5 at HB5 FIN ⊢
    refine till_done (by kernel_rfl) ?_ _
    refine NoPanic.normal ?_
    have zc : w5.cell? ⟨pb, 3, none⟩ = some (.int .i64 2) := bcell_row HB5.out rfl
    have fz : w5.frozen? ⟨pb, 3, none⟩ = false := by simp [World.frozen?, HB5.out]
    go_wp2_with fail
    go_ret
    exact ⟨rfl, ⟨_, _, _, _, FIN.out.1⟩, FIN.out.2⟩

  · rw [if_neg (fun h => h.2.elim h0 hst)]
    have y3 : w.cell? ⟨pb, 3, none⟩ = some (.int .i64 (p.st : Int)) := bcell_row HB.out rfl
    have t0 : ((p.st : Int) != 0) = true := bneT (by omega)
    have t3 : ((p.st : Int) != 2) = true := bneT (by omega)
    clear h0 hst h2 hp HB
    generalize (p.st : Int) = s at y3 t0 t3
    go_enter Tryz.func29, Tryz.ntmps29
    go_wp2_with fail
    go_ret
    exact ⟨rfl, (Tch.refl base pb w0).gr G0.out P.out.le⟩

set_option maxRecDepth 100000 in
set_option maxHeartbeats 8000000 in
theorem paddLink (t : ByteArray) (p : BkS) (base pb n gw L c : Nat) (w0 w : World) (hs : t.size ≤ 60000) (hp : PSt w0 base pb n p) (hn : n ≤ 100000) (g0 : Gr w0 w) (hw : Wds t w0 w gw L c) :
    Calls Tryz.prog 31 #[.pointer (some ⟨pb, 0, none⟩), .slice (some ⟨gw, 0, none⟩) L c] w (AddA base pb (n + 1) w0 (if (bl t).length = 3 ∧ p.st ≠ 1 then some { p with ls := p.ls ++ [⟨wd t 1, wd t 2⟩], st := 3 } else none)) := by
  obtain ⟨v0, v1, v2, zs, hp⟩ := hp
  have P := Lib.hid hp
  have G0 := Lib.hid g0
  have HB := Lib.hid (bheap_gr g0 hp.blk)
  have NR : Hid (p.ls.length ≤ 100000) := Nat.le_trans hp.nl hn
  have S1 := Lib.hid (wd_max hs 1)
  have S2 := Lib.hid (wd_max hs 2)
  have CL1 := Lib.hid (fun w => clone_any (wd t 1) w (Nat.le_trans (wd_size 1) (by omega)))
  have CL2 := Lib.hid (fun w => clone_any (wd t 2) w (Nat.le_trans (wd_size 2) (by omega)))
  have GNE : Hid (some gw ≠ v2.ownBlock) := fun e => by have := (own_block_lt hp.lr _ e.symm).2; have := hw.new; omega
  have h6 := hw.six
  have hi2 := hw.is (k := 3) (by omega)
  have hc1 := hw.cell 1
  have hc2 := hw.cell 2
  have hcap := hw.cap
  clear g0 hs hn
  by_cases h2 : (bl t).length = 3
  case neg =>
    rw [if_neg (fun h => h2 h.1)]
    have t2 : ((L : Int) != 3) = true := bneT (fun e => h2 (hi2.1 (by omega)))
    clear hi2 hc1 hc2 h2 hw hp
    go_enter Tryz.func31, Tryz.ntmps31
    go_wp2_with fail
    go_ret
    exact ⟨rfl, (Tch.refl base pb w0).gr G0.out P.out.le⟩

  obtain rfl : L = 3 := hi2.2 h2
  have C1 := Lib.hid (hc1 (by omega) (Or.inl (by omega)))
  have C2 := Lib.hid (hc2 (by omega) (Or.inl (by omega)))
  clear hi2 hc1 hc2 hw
  have t2 : (((3 : Nat) : Int) != 3) = false := by decide
  by_cases h0 : p.st = 1
  · rw [if_neg (fun h => h.2 h0)]
    have y3 : w.cell? ⟨pb, 3, none⟩ = some (.int .i64 1) := by have := bcell_row (i := 3) HB.out rfl; rw [h0] at this; exact this
    clear h0 h2 hp HB
    go_enter Tryz.func31, Tryz.ntmps31
    go_wp2_with fail
    go_ret
    exact ⟨rfl, (Tch.refl base pb w0).gr G0.out P.out.le⟩

  · rw [if_pos ⟨h2, h0⟩]
    have HB1 : Hid (w.heap[pb]? = some (.cells #[v0, v1, v2, .int .i64 (p.st : Int)] 35 (0, 0))) := HB
    have y3 : w.cell? ⟨pb, 3, none⟩ = some (.int .i64 (p.st : Int)) := bcell_row HB1.out rfl
    have t0 : ((p.st : Int) == 1) = false := beqF (by omega)
    clear h0 h2 HB hp
    generalize (p.st : Int) = s at HB1 y3 t0
    obtain ⟨i0, hi, hz0, hz1, hz2⟩ := info_parts infoLink
    have I1 := Lib.hid hi
    have I2 := Lib.hid hz0
    have I3 := Lib.hid hz1
    have I4 := Lib.hid hz2
    clear hi hz0 hz1 hz2
    go_enter Tryz.func31, Tryz.ntmps31
    go_wp2_with fail
    clear y3 t2 t0
    refine wp_region_noPanic ?_
    refine till_start 20 (fun wx => wx.heap[pb]? = some (.cells #[v0, v1, v2, .int .i64 s] 35 (0, 0)) ∧ wx.cell? ⟨gw, 1, none⟩ = some (.string (wd t 1)) ∧ wx.cell? ⟨gw, 2, none⟩ = some (.string (wd t 2))) (by kernel_rfl) ⟨HB1.out, C1.out, C2.out⟩ (fun hHeld => ?_)
    (try dsimp only at hHeld)
    have G0d := Lib.hid (G0.out.trans (Gr.drew w))
    generalize w.drew = wd0 at hHeld G0d ⊢
    clear G0
    refine till_take (i := 0) (oi := { dst := some 15, op := _, type := _, pos := _, after := _, guard := _ }) (v := ?v19) rfl (by kernel_rfl) (by kernel_rfl) (by kernel_rfl) (by kernel_rfl) (fun _ _ _ h => h) (Or.inl ⟨by rfl, ?hy19⟩) (by assumption) ?rest19
    case hy19 => (intro w hSw; go_simp <;> (with_reducible rfl))
    (try simp only [Act.put, List.setIfInBounds_toArray, List.set_cons_zero, List.set_cons_succ])
    refine till_take (i := 1) (oi := { dst := some 16, op := _, type := _, pos := _, after := _, guard := _ }) (v := ?v20) rfl (by kernel_rfl) (by kernel_rfl) (by kernel_rfl) (by kernel_rfl) (fun _ _ _ h => h) (Or.inl ⟨by rfl, ?hy20⟩) (by assumption) ?rest20
    case hy20 => (intro w hSw; go_simp <;> (with_reducible rfl))
    (try simp only [Act.put, List.setIfInBounds_toArray, List.set_cons_zero, List.set_cons_succ])
    refine till_take (i := 2) (oi := { dst := some 17, op := _, type := _, pos := _, after := _, guard := _ }) (v := ?v21) rfl (by kernel_rfl) (by kernel_rfl) (by kernel_rfl) (by kernel_rfl) (fun _ _ _ h => h) (Or.inl ⟨by rfl, ?hy21⟩) (by assumption) ?rest21
    case hy21 => (intro w hSw; go_simp <;> (with_reducible rfl))
    (try simp only [Act.put, List.setIfInBounds_toArray, List.set_cons_zero, List.set_cons_succ])
    refine till_take (i := 3) (oi := { dst := some 18, op := _, type := _, pos := _, after := _, guard := _ }) (v := ?v22) rfl (by kernel_rfl) (by kernel_rfl) (by kernel_rfl) (by kernel_rfl) (fun _ _ _ h => h) (Or.inl ⟨by rfl, ?hy22⟩) (by assumption) ?rest22
    case hy22 => (intro w hSw; go_simp <;> (with_reducible rfl))
    (try simp only [Act.put, List.setIfInBounds_toArray, List.set_cons_zero, List.set_cons_succ])
    refine till_take (i := 4) (oi := { dst := some 19, op := _, type := _, pos := _, after := _, guard := _ }) (v := ?v23) rfl (by kernel_rfl) (by kernel_rfl) (by kernel_rfl) (by kernel_rfl) (fun _ _ _ h => h) (Or.inl ⟨by rfl, ?hy23⟩) (by assumption) ?rest23
    case hy23 => (intro w hSw; go_simp <;> (with_reducible rfl))
    (try simp only [Act.put, List.setIfInBounds_toArray, List.set_cons_zero, List.set_cons_succ])
    refine till_take (i := 5) (oi := { dst := some 20, op := _, type := _, pos := _, after := _, guard := _ }) (v := ?v24) rfl (by kernel_rfl) (by kernel_rfl) (by kernel_rfl) (by kernel_rfl) (fun _ _ _ h => h) (Or.inl ⟨by rfl, ?hy24⟩) (by assumption) ?rest24
    case hy24 => (intro w hSw; have c0 := bcell_row (i := 2) hSw.1 rfl; go_simp <;> (with_reducible rfl))
    (try simp only [Act.put, List.setIfInBounds_toArray, List.set_cons_zero, List.set_cons_succ])
    refine till_take (i := 6) (oi := { dst := some 21, op := _, type := _, pos := _, after := _, guard := _ }) (v := ?v25) rfl (by kernel_rfl) (by kernel_rfl) (by kernel_rfl) (by kernel_rfl) (fun _ _ _ h => h) (Or.inl ⟨by rfl, ?hy25⟩) (by assumption) ?rest25
    case hy25 => (intro w hSw; go_simp <;> (with_reducible rfl))
    (try simp only [Act.put, List.setIfInBounds_toArray, List.set_cons_zero, List.set_cons_succ])
    refine till_take (i := 7) (oi := { dst := some 22, op := _, type := _, pos := _, after := _, guard := _ }) (v := ?v26) rfl (by kernel_rfl) (by kernel_rfl) (by kernel_rfl) (by kernel_rfl) (fun _ _ _ h => h) (Or.inl ⟨by rfl, ?hy26⟩) (by assumption) ?rest26
    case hy26 => (intro w hSw; go_simp <;> (with_reducible rfl))
    (try simp only [Act.put, List.setIfInBounds_toArray, List.set_cons_zero, List.set_cons_succ])
    refine till_take (i := 8) (oi := { dst := some 23, op := _, type := _, pos := _, after := _, guard := _ }) (v := ?v27) rfl (by kernel_rfl) (by kernel_rfl) (by kernel_rfl) (by kernel_rfl) (fun _ _ _ h => h) (Or.inl ⟨by rfl, ?hy27⟩) (by assumption) ?rest27
    case hy27 => (intro w hSw; have c1 := hSw.2.1; go_simp <;> (with_reducible rfl))
    (try simp only [Act.put, List.setIfInBounds_toArray, List.set_cons_zero, List.set_cons_succ])
    refine till_take (i := 10) (oi := { dst := some 25, op := _, type := _, pos := _, after := _, guard := _ }) (v := ?v28) rfl (by kernel_rfl) (by kernel_rfl) (by kernel_rfl) (by kernel_rfl) (fun _ _ _ h => h) (Or.inl ⟨by rfl, ?hy28⟩) (by assumption) ?rest28
    case hy28 => (intro w hSw; go_simp <;> (with_reducible rfl))
    (try simp only [Act.put, List.setIfInBounds_toArray, List.set_cons_zero, List.set_cons_succ])
    refine till_take (i := 11) (oi := { dst := some 26, op := _, type := _, pos := _, after := _, guard := _ }) (v := ?v29) rfl (by kernel_rfl) (by kernel_rfl) (by kernel_rfl) (by kernel_rfl) (fun _ _ _ h => h) (Or.inl ⟨by rfl, ?hy29⟩) (by assumption) ?rest29
    case hy29 => (intro w hSw; go_simp <;> (with_reducible rfl))
    (try simp only [Act.put, List.setIfInBounds_toArray, List.set_cons_zero, List.set_cons_succ])
    refine till_take (i := 12) (oi := { dst := some 27, op := _, type := _, pos := _, after := _, guard := _ }) (v := ?v30) rfl (by kernel_rfl) (by kernel_rfl) (by kernel_rfl) (by kernel_rfl) (fun _ _ _ h => h) (Or.inl ⟨by rfl, ?hy30⟩) (by assumption) ?rest30
    case hy30 => (intro w hSw; have c2 := hSw.2.2; go_simp <;> (with_reducible rfl))
    (try simp only [Act.put, List.setIfInBounds_toArray, List.set_cons_zero, List.set_cons_succ])
    refine till_one (i := 9) (by kernel_rfl) rfl (fun K hK => ?_)
    go_simp
    (with_reducible refine (CL1.out _).mono ?_)
    rintro e wc1 ⟨rfl, gx1⟩
    (go_wp2_with fail)
    refine hK.out _ _ (Or.inr ⟨bheap_gr gx1 hHeld.1, gx1.holds hHeld.2.1, gx1.holds hHeld.2.2⟩) ?_
    clear hK K
    (try simp only [Act.put, List.setIfInBounds_toArray, List.set_cons_zero, List.set_cons_succ])
    have hH1 := And.intro (bheap_gr gx1 hHeld.1) (And.intro (gx1.holds hHeld.2.1) (gx1.holds hHeld.2.2))
    have GC1 := Lib.hid (G0d.out.trans gx1)
    clear gx1 hHeld G0d
    refine till_one (i := 13) (by kernel_rfl) rfl (fun K hK => ?_)
    go_simp
    (with_reducible refine (CL2.out _).mono ?_)
    rintro e wc2 ⟨rfl, gx2⟩
    (go_wp2_with fail)
    refine hK.out _ _ (Or.inr ⟨bheap_gr gx2 hH1.1, gx2.holds hH1.2.1, gx2.holds hH1.2.2⟩) ?_
    clear hK K
    (try simp only [Act.put, List.setIfInBounds_toArray, List.set_cons_zero, List.set_cons_succ])
    have hH2 := And.intro (bheap_gr gx2 hH1.1) (And.intro (gx2.holds hH1.2.1) (gx2.holds hH1.2.2))
    have GC2 := Lib.hid (GC1.out.trans gx2)
    clear gx2 hH1 GC1
    refine till_one (i := 14) (by kernel_rfl) rfl (fun K hK => ?_)
    go_simp
    refine hK.out _ _ (Or.inr hH2) ?_
    clear hK K
    (try simp only [Act.put, List.setIfInBounds_toArray, List.set_cons_zero, List.set_cons_succ])
    have HNB := Lib.hid (box_one wc2 (.cells #[.string (wd t 1), .string (wd t 2)] 49))
    refine till_one (i := 15) (by kernel_rfl) rfl (fun K hK => ?_)
    go_simp
    refine hK.out _ _ (Or.inr ⟨bheap_gr HNB.out.1 hH2.1, HNB.out.1.holds hH2.2.1, HNB.out.1.holds hH2.2.2⟩) ?_
    clear hK K
    (try simp only [Act.put, List.setIfInBounds_toArray, List.set_cons_zero, List.set_cons_succ])
    generalize wc2.alloc (.cells #[.string (wd t 1), .string (wd t 2)] 49) = w3 at HNB ⊢
    generalize wc2.heap.size = q3 at HNB ⊢
    have G3 := Lib.hid (GC2.out.trans HNB.out.1)
    have OW := Lib.hid (P.out.lr.gr G3.out)
    have NB := Lib.hid HNB.out.2
    have HB3 := Lib.hid (bheap_gr HNB.out.1 hH2.1)
    have K1 := Lib.hid (HNB.out.1.holds hH2.2.1)
    have K2 := Lib.hid (HNB.out.1.holds hH2.2.2)
    clear HNB hH2
    refine till_one (i := 16) (by kernel_rfl) rfl (fun K hK => ?_)
    (refine step_append_lies _ (by rfl) _ _ 24 (by rfl) base 49 i0 (.agg #[.string .empty, .string .empty]) 2 32 Tryz.underlying24 I1.out I2.out I3.out I4.out (by rfl) (by omega) v2 p.ls.length (p.ls.flatMap LinD.cells) (by rfl) OW.out ⟨q3, 0, none⟩ 1 1 [.string (wd t 1), .string (wd t 2)] (by rfl) (by rfl) (World.news_of_block NB.out) (li_one ⟨wd t 1, wd t 2⟩) (by omega) (by have := NR.out; unfold maxLen; omega) (by have := NR.out; omega) (Nat.le_trans P.out.le (Below.size G3.out)) w3.heap.size rfl ?_)
    intro g cap w4 hown hgrow hat hlt
    refine hK.out _ _ (Or.inr ⟨(hgrow.block pb (Nat.lt_of_lt_of_le P.out.lt (Nat.le_trans P.out.le (Below.size G3.out))) (pb_ne OW.out P.out.lt)).trans HB3.out, (World.cell?_of_block (hgrow.block gw (World.block_lt_of_cell? _ _ K1.out) GNE.out)).trans K1.out, (World.cell?_of_block (hgrow.block gw (World.block_lt_of_cell? _ _ K2.out) GNE.out)).trans K2.out⟩) ?_
    clear hK K
    (try simp only [Act.put, List.setIfInBounds_toArray, List.set_cons_zero, List.set_cons_succ])
    have HB4 := Lib.hid ((hgrow.block pb (Nat.lt_of_lt_of_le P.out.lt (Nat.le_trans P.out.le (Below.size G3.out))) (pb_ne OW.out P.out.lt)).trans HB3.out)
    have J1 := Lib.hid ((World.cell?_of_block (hgrow.block gw (World.block_lt_of_cell? _ _ K1.out) GNE.out)).trans K1.out)
    have J2 := Lib.hid ((World.cell?_of_block (hgrow.block gw (World.block_lt_of_cell? _ _ K2.out) GNE.out)).trans K2.out)
    have FIN := Lib.hid (PAt.addLink (r := ⟨wd t 1, wd t 2⟩) P.out G3.out (own_more rfl hown) hgrow ⟨S1.out, S2.out⟩)
    clear hown hgrow hat hlt HB3 OW NB K1 K2
    refine till_one (i := 17) (by kernel_rfl) rfl (fun K hK => ?_)
    go_simp
    refine hK.out _ _ (Or.inr ⟨HB4.out, J1.out, J2.out⟩) ?_
    clear hK K
    (try simp only [Act.put, List.setIfInBounds_toArray, List.set_cons_zero, List.set_cons_succ])
    refine till_one (i := 18) (by kernel_rfl) rfl (fun K hK => ?_)
    go_simp
    refine hK.out _ _ (Or.inr ⟨HB4.out, J1.out, J2.out⟩) ?_
    clear hK K
    (try simp only [Act.put, List.setIfInBounds_toArray, List.set_cons_zero, List.set_cons_succ])
    refine till_one (i := 19) (by kernel_rfl) rfl (fun K hK => ?_)
    go_simp
    refine hK.out _ _ (Or.inr ⟨HB4.out, J1.out, J2.out⟩) ?_
    clear hK K
    (try simp only [Act.put, List.setIfInBounds_toArray, List.set_cons_zero, List.set_cons_succ])
    have zc : w4.cell? ⟨pb, 2, none⟩ = some v2 := bcell_row HB4.out rfl
    have fz : w4.frozen? ⟨pb, 2, none⟩ = false := by simp [World.frozen?, HB4.out]
    refine till_one (i := 20) (by kernel_rfl) rfl (fun K hK => ?_)
    go_simp
    refine hK.out _ _ (Or.inl (by kernel_rfl)) ?_
    clear hK K
    (try simp only [Act.put, List.setIfInBounds_toArray, List.set_cons_zero, List.set_cons_succ])
    have HB5 := Lib.hid (blk_set (j := 2) (u := .slice (some ⟨g, 0, none⟩) (p.ls.length + 1) cap) HB4.out)
    clear zc fz HB4 J1 J2
    generalize w4.setCell ⟨pb, 2, none⟩ (.slice (some ⟨g, 0, none⟩) (p.ls.length + 1) cap) = w5 at HB5 FIN ⊢
    refine till_done (by kernel_rfl) ?_ _
    refine NoPanic.normal ?_
    have zc : w5.cell? ⟨pb, 3, none⟩ = some (.int .i64 s) := bcell_row HB5.out rfl
    have fz : w5.frozen? ⟨pb, 3, none⟩ = false := by simp [World.frozen?, HB5.out]
    go_wp2_with fail
    go_ret
    exact ⟨rfl, ⟨_, _, _, _, FIN.out.1⟩, FIN.out.2⟩

end Go.Proofs.YtkkilmmpmiichaaGreatDoor
