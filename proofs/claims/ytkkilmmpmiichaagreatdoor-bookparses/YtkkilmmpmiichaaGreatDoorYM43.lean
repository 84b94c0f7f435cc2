/- What the project's addEra of package book does. -/
import Derived.IntWalk
import Derived.Test.YtkkilmmpmiichaaGreatDoorYM42
namespace Go.Proofs.YtkkilmmpmiichaaGreatDoor
set_option linter.unusedVariables false
set_option linter.unusedSimpArgs false
open Go.RowKit
theorem infoEra : (Tryz.prog.info? 52).map (fun i => (i.zero, i.size, i.bytes)) = some (some (.agg #[.int .i64 0, .string .empty, .int .i64 0, .string .empty, .int .i64 0]), 5, 56) := by kernel_rfl

theorem own_frozen {α : Type} {w : World} {base k g n c o : Nat} {e : TypeId} {enc : α → List Value} {l : List α} (h : Own w base e k enc (.slice (some ⟨g, 0, none⟩) n c) l) : w.frozen? ⟨g, o, none⟩ = false := by
  rcases h.2 with ⟨hn, _⟩ | ⟨g', cap, cur, hv, hbb, hg, _⟩
  · cases hn
  · injection hv with hA
    injection hA with hA
    injection hA with hA
    subst hA
    simp [World.frozen?, hg]
theorem st_same {w : World} {base pb n k : Nat} {p : BkS} {zz : List (ByteArray × List EraD)} {v0 v1 v2 : Value} {zs : List ZonD} (hs : p.st = k) (h : PAt w base pb n { p with zs := zz } v0 v1 v2 zs) : PAt w base pb n { p with zs := zz, st := k } v0 v1 v2 zs := by
  subst hs; exact h
theorem stampV_bd (l : List UInt8) : -9223372036854775808 ≤ (stmpV l).1 ∧ (stmpV l).1 ≤ 9223372036854775807 := by
  unfold stmpV
  split
  · rename_i h
    obtain ⟨y, m, d, r, hv, h1, h2, _, e⟩ := stamped_to l h
    have := Cal.days_bd hv
    show _ ≤ stampV l ∧ stampV l ≤ _
    rw [e]; omega
  · exact ⟨by decide, by decide⟩
theorem eraR_in {t : ByteArray} (hs : t.size ≤ 60000) : (eraR t).1.In := by
  have a := wd_max hs 2
  have b := wd_max hs 3
  have c := stampV_bd (wd t 4).toList
  refine ⟨?_, b, ?_⟩
  · show (if Lib.hasPrefix (wd t 2).toList [45] = true then ByteArray.mk #[] else wd t 2).size ≤ maxLen
    split
    · unfold maxLen; exact Nat.zero_le _
    · exact a
  · show _ ≤ (if decide ((bl t).length = 5) = true then (stmpV (wd t 4).toList).1 else 0) ∧ (if decide ((bl t).length = 5) = true then (stmpV (wd t 4).toList).1 else 0) ≤ _
    split
    · exact c
    · exact ⟨by decide, by decide⟩

set_option maxRecDepth 100000 in
set_option maxHeartbeats 20000000 in
theorem paddEra4 (t : ByteArray) (p : BkS) (base pb n gw L c : Nat) (w0 w : World) (hL : L = 4) (hs : t.size ≤ 60000) (hp : PSt w0 base pb n p) (hn : n ≤ 100000) (g0 : Gr w0 w) (hw : Wds t w0 w gw L c) (hb : (bl t).length = 4) (hst : p.st = 1) (hz : p.zs ≠ []) (hl : HasLen w) :
    Calls Tryz.prog 30 #[.pointer (some ⟨pb, 0, none⟩), .slice (some ⟨gw, 0, none⟩) L c] w (AddA base pb (n + 1) w0 (if (eraR t).2 = true then some { p with zs := addE p.zs (eraR t).1, st := 2 } else none)) := by
  subst hL
  have KR := Lib.hid (preadEra4 t gw c 4 w rfl hs hb hw.cap (World.block_lt_of_cell? w ⟨gw, 0, none⟩ (hw.cell 0 (by omega) (Or.inr rfl))) (fun j hj => hw.cell j hj (Or.inl (by omega))) hl)
  have EI := Lib.hid (eraR_in hs)
  obtain ⟨v0, v1, v2, zs, hp⟩ := hp
  have G0 := Lib.hid g0
  have ST := Lib.hid hst
  have hcap := hw.cap
  generalize eraR t = er at KR EI ⊢
  obtain ⟨⟨off, ru, sv, fm, un⟩, ok⟩ := er
  simp only at EI ⊢
  have tl : (((4 : Nat) : Int) == 4) = true := by decide
  have tf : (((4 : Nat) : Int) != 5) = true := by decide
  have HB : Hid (w.heap[pb]? = some (.cells #[v0, v1, v2, .int .i64 1] 35 (0, 0))) := by have := bheap_gr g0 hp.blk; rw [hst] at this; exact this
  have y3 : w.cell? ⟨pb, 3, none⟩ = some (.int .i64 1) := bcell_row HB.out rfl
  cases ok with
  | false =>
    have LE := Lib.hid hp.le
    rw [if_neg (by simp)]
    clear hp hw hs hn hb hst hz hl g0 HB EI
    go_enter Tryz.func30, Tryz.ntmps30
    go_wp2_with fail
    clear y3 tl tf
    refine KR.out.mono ?_
    rintro e w1 ⟨rfl, g1⟩
    go_wp2_with fail
    go_ret
    exact ⟨rfl, (Tch.refl base pb w0).gr ((G0.out.trans g1).alloc' _) LE.out⟩
  | true =>
    rw [if_pos rfl]
    -- the zones: one at least
    obtain ⟨zi, z, rfl⟩ : ∃ zi z, zs = zi ++ [z] := by
      rcases List.eq_nil_or_concat zs with rfl | ⟨zi, z, rfl⟩
      · exact absurd (by rw [← hp.zm]; rfl) hz
      · exact ⟨zi, z, by rw [List.concat_eq_append]⟩
    obtain ⟨bl', b1, b2, h3, h4⟩ := hp.zz.last
    obtain ⟨g1, nz, c1, rfl, hnz, hnc⟩ : ∃ g1 nz c1, v1 = .slice (some ⟨g1, 0, none⟩) nz c1 ∧ nz = zi.length + 1 ∧ nz ≤ c1 := by
      rcases hp.zr.2 with ⟨_, h0⟩ | ⟨g', cap', cur', hv, _, _, h1, _⟩
      · simp at h0
      · exact ⟨g', _, cap', hv, by simp, h1⟩
    have hnb := hp.nz
    have hne := hp.ne z (by simp)
    have P := Lib.hid hp
    have B1 := Lib.hid b1
    have B2 := Lib.hid b2
    have H3 := Lib.hid h3
    have NR : Hid (z.eras.length ≤ 100000) := Nat.le_trans hne hn
    have nzb : nz ≤ 100000 := by rw [hnz]; simp at hnb; omega
    obtain ⟨znm, zA, zc, ze⟩ := z
    have H4 : Hid (ErAt w0 bl' ⟨znm, zA, zc, ze⟩) := h4
    simp only at NR
    have ZC : Hid (∀ W, Gr w0 W → W.cell? ⟨g1, zi.length * 2 + 1, none⟩ = some (.slice zA ze.length zc)) := fun W g => by
      obtain ⟨b, o, e, _, hc⟩ := (Own.row zo_len (hp.zr.gr g)) zi.length ⟨znm, zA, zc, ze⟩ (by simp)
      injection e with e; injection e with e1 e2; subst e1; subst e2
      have := hc 1 (.slice zA ze.length zc) rfl
      simpa using this
    have ENE0 : Hid (∀ W : World, w0.heap.size ≤ W.heap.size → some W.heap.size ≠ (Value.slice zA ze.length zc).ownBlock) := fun W hW e => by
      have := (own_block_lt h4.1 _ e.symm).2
      omega
    have ZNE : Hid (some g1 ≠ (Value.slice zA ze.length zc).ownBlock) := fun e => by
      rcases own_ne hp.zr h4.1 (by decide) with q | q
      · cases q
      · exact q e
    obtain ⟨i0, hi, hz0, hz1, hz2⟩ := info_parts infoEra
    have I1 := Lib.hid hi
    have I2 := Lib.hid hz0
    have I3 := Lib.hid hz1
    have I4 := Lib.hid hz2
    have i1 : (0 : Int) ≤ (nz : Int) - 1 := by omega
    have i2 : (nz : Int) - 1 < (nz : Int) := by omega
    have i3 : ((nz : Int) - 1).toNat = zi.length := by omega
    clear hi hz0 hz1 hz2 hp hw hs hn hb hst hz hl g0 b1 b2 h3 h4 hnb hne
    go_enter Tryz.func30, Tryz.ntmps30
    go_wp2_with fail
    clear y3 tf
    refine KR.out.mono ?_
    rintro e w1 ⟨rfl, gx⟩
    have GB := Lib.hid ((G0.out.trans gx).alloc' (.cells #[.int .i64 off, .string ru, .int .i64 sv, .string fm, .int .i64 un] 52))
    have HE := Lib.hid (box_one w1 (.cells #[.int .i64 off, .string ru, .int .i64 sv, .string fm, .int .i64 un] 52)).2
    have HB2 := Lib.hid (bheap_gr (gx.alloc' (.cells #[.int .i64 off, .string ru, .int .i64 sv, .string fm, .int .i64 un] 52)) HB.out)
    have ENE := Lib.hid (ENE0.out w1 (Below.size (G0.out.trans gx)))
    clear gx KR ENE0 HB
    go_wp2_with fail
    generalize w1.alloc (.cells #[.int .i64 off, .string ru, .int .i64 sv, .string fm, .int .i64 un] 52) = w2 at GB HE HB2 ⊢
    generalize w1.heap.size = eb at HE ENE ⊢
    have HS : w2.cell? ⟨pb, 1, none⟩ = some (.slice (some ⟨g1, 0, none⟩) nz c1) := bcell_row HB2.out rfl
    refine wp_region_noPanic ?_
    refine till_start 13 (fun wx => wx.cell? ⟨pb, 1, none⟩ = some (.slice (some ⟨g1, 0, none⟩) nz c1)) (by kernel_rfl) HS (fun hHeld => ?_)
    (try dsimp only at hHeld)
    refine till_take (i := 0) (oi := { dst := some 33, op := _, type := _, pos := _, after := _, guard := _ }) (v := ?v1) rfl (by kernel_rfl) (by kernel_rfl) (by kernel_rfl) (by kernel_rfl) (fun _ _ _ h => h) (Or.inl ⟨by rfl, ?hy1⟩) (by assumption) ?rest1
    case hy1 => (intro w hSw; go_simp <;> (with_reducible rfl))
    (try simp only [Act.put, List.setIfInBounds_toArray, List.set_cons_zero, List.set_cons_succ])
    refine till_take (i := 1) (oi := { dst := some 34, op := _, type := _, pos := _, after := _, guard := _ }) (v := ?v2) rfl (by kernel_rfl) (by kernel_rfl) (by kernel_rfl) (by kernel_rfl) (fun _ _ _ h => h) (Or.inl ⟨by rfl, ?hy2⟩) (by assumption) ?rest2
    case hy2 => (intro w hSw; go_simp <;> (with_reducible rfl))
    (try simp only [Act.put, List.setIfInBounds_toArray, List.set_cons_zero, List.set_cons_succ])
    refine till_take (i := 2) (oi := { dst := some 35, op := _, type := _, pos := _, after := _, guard := _ }) (v := ?v3) rfl (by kernel_rfl) (by kernel_rfl) (by kernel_rfl) (by kernel_rfl) (fun _ _ _ h => h) (Or.inl ⟨by rfl, ?hy3⟩) (by assumption) ?rest3
    case hy3 => (intro w hSw; go_simp <;> (with_reducible rfl))
    (try simp only [Act.put, List.setIfInBounds_toArray, List.set_cons_zero, List.set_cons_succ])
    refine till_take (i := 3) (oi := { dst := some 36, op := _, type := _, pos := _, after := _, guard := _ }) (v := ?v4) rfl (by kernel_rfl) (by kernel_rfl) (by kernel_rfl) (by kernel_rfl) (fun _ _ _ h => h) (Or.inl ⟨by rfl, ?hy4⟩) (by assumption) ?rest4
    case hy4 => (intro w hSw; go_simp <;> (with_reducible rfl))
    (try simp only [Act.put, List.setIfInBounds_toArray, List.set_cons_zero, List.set_cons_succ])
    refine till_take (i := 4) (oi := { dst := some 37, op := _, type := _, pos := _, after := _, guard := _ }) (v := ?v5) rfl (by kernel_rfl) (by kernel_rfl) (by kernel_rfl) (by kernel_rfl) (fun _ _ _ h => h) (Or.inl ⟨by rfl, ?hy5⟩) (by assumption) ?rest5
    case hy5 => (intro w hSw; have c0 := hSw; go_simp <;> (with_reducible rfl))
    (try simp only [Act.put, List.setIfInBounds_toArray, List.set_cons_zero, List.set_cons_succ])
    refine till_take (i := 5) (oi := { dst := some 38, op := _, type := _, pos := _, after := _, guard := _ }) (v := ?v6) rfl (by kernel_rfl) (by kernel_rfl) (by kernel_rfl) (by kernel_rfl) (fun _ _ _ h => h) (Or.inl ⟨by rfl, ?hy6⟩) (by assumption) ?rest6
    case hy6 => (intro w hSw; go_simp <;> (with_reducible rfl))
    (try simp only [Act.put, List.setIfInBounds_toArray, List.set_cons_zero, List.set_cons_succ])
    refine till_take (i := 6) (oi := { dst := some 39, op := _, type := _, pos := _, after := _, guard := _ }) (v := ?v7) rfl (by kernel_rfl) (by kernel_rfl) (by kernel_rfl) (by kernel_rfl) (fun _ _ _ h => h) (Or.inl ⟨by rfl, ?hy7⟩) (by assumption) ?rest7
    case hy7 => (intro w hSw; go_simp <;> (with_reducible rfl))
    (try simp only [Act.put, List.setIfInBounds_toArray, List.set_cons_zero, List.set_cons_succ])
    refine till_take (i := 7) (oi := { dst := some 40, op := _, type := _, pos := _, after := _, guard := _ }) (v := ?v8) rfl (by kernel_rfl) (by kernel_rfl) (by kernel_rfl) (by kernel_rfl) (fun _ _ _ h => h) (Or.inl ⟨by rfl, ?hy8⟩) (by assumption) ?rest8
    case hy8 => (intro w hSw; go_simp <;> (with_reducible rfl))
    (try simp only [Act.put, List.setIfInBounds_toArray, List.set_cons_zero, List.set_cons_succ])
    refine till_take (i := 8) (oi := { dst := some 41, op := _, type := _, pos := _, after := _, guard := _ }) (v := ?v9) rfl (by kernel_rfl) (by kernel_rfl) (by kernel_rfl) (by kernel_rfl) (fun _ _ _ h => h) (Or.inl ⟨by rfl, ?hy9⟩) (by assumption) ?rest9
    case hy9 => (intro w hSw; go_simp <;> (with_reducible rfl))
    (try simp only [Act.put, List.setIfInBounds_toArray, List.set_cons_zero, List.set_cons_succ])
    refine till_take (i := 9) (oi := { dst := some 42, op := _, type := _, pos := _, after := _, guard := _ }) (v := ?v10) rfl (by kernel_rfl) (by kernel_rfl) (by kernel_rfl) (by kernel_rfl) (fun _ _ _ h => h) (Or.inl ⟨by rfl, ?hy10⟩) (by assumption) ?rest10
    case hy10 => (intro w hSw; have c0 := hSw; go_simp <;> (with_reducible rfl))
    (try simp only [Act.put, List.setIfInBounds_toArray, List.set_cons_zero, List.set_cons_succ])
    refine till_take (i := 10) (oi := { dst := some 43, op := _, type := _, pos := _, after := _, guard := _ }) (v := ?v11) rfl (by kernel_rfl) (by kernel_rfl) (by kernel_rfl) (by kernel_rfl) (fun _ _ _ h => h) (Or.inl ⟨by rfl, ?hy11⟩) (by assumption) ?rest11
    case hy11 => (intro w hSw; go_simp <;> (with_reducible rfl))
    (try simp only [Act.put, List.setIfInBounds_toArray, List.set_cons_zero, List.set_cons_succ])
    refine till_take (i := 11) (oi := { dst := some 44, op := _, type := _, pos := _, after := _, guard := _ }) (v := (.int .i64 (zi.length : Int))) rfl (by kernel_rfl) (by kernel_rfl) (by kernel_rfl) (by kernel_rfl) (fun _ _ _ h => h) (Or.inl ⟨by rfl, ?hy12⟩) (by assumption) ?rest12
    case hy12 => (intro w hSw; go_simp; exact IntWalk.i64_in _ (by omega))
    (try simp only [Act.put, List.setIfInBounds_toArray, List.set_cons_zero, List.set_cons_succ])
    refine till_take (i := 12) (oi := { dst := some 45, op := _, type := _, pos := _, after := _, guard := _ }) (v := (.pointer (some ⟨g1, zi.length * 2, none⟩))) rfl (by kernel_rfl) (by kernel_rfl) (by kernel_rfl) (by kernel_rfl) (fun _ _ _ h => h) (Or.inl ⟨by rfl, ?hy13⟩) (by assumption) ?rest13
    case hy13 => (intro w hSw; go_simp; exact fun h => absurd h (by omega))
    (try simp only [Act.put, List.setIfInBounds_toArray, List.set_cons_zero, List.set_cons_succ])
    refine till_one (i := 13) (by kernel_rfl) rfl (fun K hK => ?_)
    go_simp
    refine hK.out _ _ (Or.inl (by kernel_rfl)) ?_
    clear hK K
    (try simp only [Act.put, List.setIfInBounds_toArray, List.set_cons_zero, List.set_cons_succ])
    refine till_done (by kernel_rfl) ?_ _
    refine NoPanic.normal ?_
    clear hHeld HS

    have G3 := Lib.hid (GB.out.trans (Gr.drew w2))
    have HE3 := Lib.hid (bheap_gr (Gr.drew w2) HE.out)
    have HB3 := Lib.hid (bheap_gr (Gr.drew w2) HB2.out)
    generalize w2.drew = w3 at G3 HE3 HB3 ⊢
    have Z3 := Lib.hid (ZC.out w3 G3.out)
    clear GB HE HB2 ZC i1 i2 i3
    go_wp2_with fail
    refine wp_region_noPanic ?_
    refine till_start 10 (fun wx => wx.cell? ⟨g1, zi.length * 2 + 1, none⟩ = some (.slice zA ze.length zc) ∧ wx.heap[eb]? = some (.cells #[.int .i64 off, .string ru, .int .i64 sv, .string fm, .int .i64 un] 52 (0, 0))) (by kernel_rfl) ⟨Z3.out, HE3.out⟩ (fun hHeld => ?_)
    (try dsimp only at hHeld)
    have G3d := Lib.hid (G3.out.trans (Gr.drew w3))
    generalize w3.drew = w3d at hHeld G3d ⊢
    clear G3
    refine till_take (i := 0) (oi := { dst := some 46, op := _, type := _, pos := _, after := _, guard := _ }) (v := ?v14) rfl (by kernel_rfl) (by kernel_rfl) (by kernel_rfl) (by kernel_rfl) (fun _ _ _ h => h) (Or.inl ⟨by rfl, ?hy14⟩) (by assumption) ?rest14
    case hy14 => (intro w hSw; go_simp <;> (with_reducible rfl))
    (try simp only [Act.put, List.setIfInBounds_toArray, List.set_cons_zero, List.set_cons_succ])
    refine till_take (i := 1) (oi := { dst := some 47, op := _, type := _, pos := _, after := _, guard := _ }) (v := ?v15) rfl (by kernel_rfl) (by kernel_rfl) (by kernel_rfl) (by kernel_rfl) (fun _ _ _ h => h) (Or.inl ⟨by rfl, ?hy15⟩) (by assumption) ?rest15
    case hy15 => (intro w hSw; go_simp <;> (with_reducible rfl))
    (try simp only [Act.put, List.setIfInBounds_toArray, List.set_cons_zero, List.set_cons_succ])
    refine till_take (i := 2) (oi := { dst := some 48, op := _, type := _, pos := _, after := _, guard := _ }) (v := ?v16) rfl (by kernel_rfl) (by kernel_rfl) (by kernel_rfl) (by kernel_rfl) (fun _ _ _ h => h) (Or.inl ⟨by rfl, ?hy16⟩) (by assumption) ?rest16
    case hy16 => (intro w hSw; go_simp <;> (with_reducible rfl))
    (try simp only [Act.put, List.setIfInBounds_toArray, List.set_cons_zero, List.set_cons_succ])
    refine till_take (i := 3) (oi := { dst := some 49, op := _, type := _, pos := _, after := _, guard := _ }) (v := ?v17) rfl (by kernel_rfl) (by kernel_rfl) (by kernel_rfl) (by kernel_rfl) (fun _ _ _ h => h) (Or.inl ⟨by rfl, ?hy17⟩) (by assumption) ?rest17
    case hy17 => (intro w hSw; go_simp <;> (with_reducible rfl))
    (try simp only [Act.put, List.setIfInBounds_toArray, List.set_cons_zero, List.set_cons_succ])
    refine till_take (i := 4) (oi := { dst := some 50, op := _, type := _, pos := _, after := _, guard := _ }) (v := ?v18) rfl (by kernel_rfl) (by kernel_rfl) (by kernel_rfl) (by kernel_rfl) (fun _ _ _ h => h) (Or.inl ⟨by rfl, ?hy18⟩) (by assumption) ?rest18
    case hy18 => (intro w hSw; have c0 := hSw.1; go_simp <;> (with_reducible rfl))
    (try simp only [Act.put, List.setIfInBounds_toArray, List.set_cons_zero, List.set_cons_succ])
    refine till_take (i := 5) (oi := { dst := some 51, op := _, type := _, pos := _, after := _, guard := _ }) (v := ?v19) rfl (by kernel_rfl) (by kernel_rfl) (by kernel_rfl) (by kernel_rfl) (fun _ _ _ h => h) (Or.inl ⟨by rfl, ?hy19⟩) (by assumption) ?rest19
    case hy19 => (intro w hSw; have d0 := bcell_row (i := 0) hSw.2 rfl; have d1 := bcell_row (i := 1) hSw.2 rfl; have d2 := bcell_row (i := 2) hSw.2 rfl; have d3 := bcell_row (i := 3) hSw.2 rfl; have d4 := bcell_row (i := 4) hSw.2 rfl; go_simp <;> (with_reducible rfl))
    (try simp only [Act.put, List.setIfInBounds_toArray, List.set_cons_zero, List.set_cons_succ])
    have HNB := Lib.hid (box_one w3d (.cells #[.int .i64 off, .string ru, .int .i64 sv, .string fm, .int .i64 un] 52))
    refine till_one (i := 6) (by kernel_rfl) rfl (fun K hK => ?_)
    go_simp
    refine hK.out _ _ (Or.inr ⟨HNB.out.1.holds hHeld.1, bheap_gr HNB.out.1 hHeld.2⟩) ?_
    clear hK K
    (try simp only [Act.put, List.setIfInBounds_toArray, List.set_cons_zero, List.set_cons_succ])
    generalize w3d.alloc (.cells #[.int .i64 off, .string ru, .int .i64 sv, .string fm, .int .i64 un] 52) = w4 at HNB ⊢
    generalize w3d.heap.size = q4 at HNB ⊢
    have G4 := Lib.hid (G3d.out.trans HNB.out.1)
    have OW := Lib.hid (H4.out.1.gr G4.out)
    have NB := Lib.hid HNB.out.2
    have Z4 := Lib.hid (HNB.out.1.holds hHeld.1)
    have HE4 := Lib.hid (bheap_gr HNB.out.1 hHeld.2)
    have lte := Lib.hid (show eb < w4.heap.size from (Array.getElem?_eq_some_iff.1 HE4.out).1)
    have ltz := Lib.hid (World.block_lt_of_cell? _ _ Z4.out)
    clear HNB hHeld
    refine till_one (i := 7) (by kernel_rfl) rfl (fun K hK => ?_)
    (refine step_append_lies _ (by rfl) _ _ 45 (by rfl) bl' 52 i0 (.agg #[.int .i64 0, .string .empty, .int .i64 0, .string .empty, .int .i64 0]) 5 56 Tryz.underlying45 I1.out I2.out I3.out I4.out (by rfl) (by omega) (.slice zA ze.length zc) ze.length (ze.flatMap EraD.cells) (by rfl) OW.out ⟨q4, 0, none⟩ 1 1 [.int .i64 off, .string ru, .int .i64 sv, .string fm, .int .i64 un] (by rfl) (by rfl) (World.news_of_block NB.out) (er_one ⟨off, ru, sv, fm, un⟩) (by omega) (by have := NR.out; unfold maxLen; omega) (by have := NR.out; omega) (Nat.le_trans B2.out (Below.size G4.out)) w4.heap.size rfl ?_)
    intro g cap w5 hown hgrow hat hlt
    refine hK.out _ _ (Or.inr ⟨(World.cell?_of_block (hgrow.block g1 ltz.out ZNE.out)).trans Z4.out, (hgrow.block eb lte.out ENE.out).trans HE4.out⟩) ?_
    clear hK K
    (try simp only [Act.put, List.setIfInBounds_toArray, List.set_cons_zero, List.set_cons_succ])
    have Z5 := Lib.hid ((World.cell?_of_block (hgrow.block g1 ltz.out ZNE.out)).trans Z4.out)
    have HE5 := Lib.hid ((hgrow.block eb lte.out ENE.out).trans HE4.out)
    have FZ5 : Hid (w5.frozen? ⟨g1, zi.length * 2 + 1, none⟩ = false) := (World.frozen?_of_block (hgrow.block g1 ltz.out ZNE.out)).trans (own_frozen (P.out.zr.gr G4.out))
    have FIN := Lib.hid (PAt.addEra (e := ⟨off, ru, sv, fm, un⟩) P.out B1.out B2.out H3.out H4.out G4.out (own_more rfl hown) hgrow EI.out)
    clear hown hgrow hat hlt Z4 HE4 OW NB lte ltz
    refine till_one (i := 8) (by kernel_rfl) rfl (fun K hK => ?_)
    go_simp
    refine hK.out _ _ (Or.inr ⟨Z5.out, HE5.out⟩) ?_
    clear hK K
    (try simp only [Act.put, List.setIfInBounds_toArray, List.set_cons_zero, List.set_cons_succ])
    refine till_one (i := 9) (by kernel_rfl) rfl (fun K hK => ?_)
    go_simp
    refine hK.out _ _ (Or.inr ⟨Z5.out, HE5.out⟩) ?_
    clear hK K
    (try simp only [Act.put, List.setIfInBounds_toArray, List.set_cons_zero, List.set_cons_succ])
    have zc5 := Z5.out
    have fz5 := FZ5.out
    refine till_one (i := 10) (by kernel_rfl) rfl (fun K hK => ?_)
    go_simp
    refine hK.out _ _ (Or.inl (by kernel_rfl)) ?_
    clear hK K
    (try simp only [Act.put, List.setIfInBounds_toArray, List.set_cons_zero, List.set_cons_succ])
    clear zc5 fz5 Z5 HE5 FZ5
    generalize w5.setCell ⟨g1, zi.length * 2 + 1, none⟩ (.slice (some ⟨g, 0, none⟩) (ze.length + 1) cap) = w6 at FIN ⊢
    refine till_done (by kernel_rfl) ?_ _
    refine NoPanic.normal ?_
    have FI2 := Lib.hid (PAt.setSt 2 FIN.out.1)
    have zc6 : w6.cell? ⟨pb, 3, none⟩ = some (.int .i64 1) := by have := bcell_row (i := 3) FIN.out.1.blk rfl; rw [show (({ p with zs := addE p.zs ⟨off, ru, sv, fm, un⟩ } : BkS).st) = 1 from ST.out] at this; exact this
    have fz6 : w6.frozen? ⟨pb, 3, none⟩ = false := by simp [World.frozen?, FIN.out.1.blk]
    go_wp2_with fail
    go_ret
    exact ⟨rfl, ⟨_, _, _, _, FI2.out.1⟩, FIN.out.2.trans FI2.out.2⟩

set_option maxRecDepth 100000 in
set_option maxHeartbeats 20000000 in
theorem paddEra5 (t : ByteArray) (p : BkS) (base pb n gw L c : Nat) (w0 w : World) (hL : L = 5) (hs : t.size ≤ 60000) (hp : PSt w0 base pb n p) (hn : n ≤ 100000) (g0 : Gr w0 w) (hw : Wds t w0 w gw L c) (hb : (bl t).length = 5) (hst : p.st = 1) (hz : p.zs ≠ []) (hl : HasLen w) :
    Calls Tryz.prog 30 #[.pointer (some ⟨pb, 0, none⟩), .slice (some ⟨gw, 0, none⟩) L c] w (AddA base pb (n + 1) w0 (if (eraR t).2 = true then some { p with zs := addE p.zs (eraR t).1, st := 1 } else none)) := by
  subst hL
  have KR := Lib.hid (preadEra5 t gw c 5 w rfl hs hb hw.cap (World.block_lt_of_cell? w ⟨gw, 0, none⟩ (hw.cell 0 (by omega) (Or.inr rfl))) (fun j hj => hw.cell j hj (Or.inl (by omega))) hl)
  have EI := Lib.hid (eraR_in hs)
  obtain ⟨v0, v1, v2, zs, hp⟩ := hp
  have G0 := Lib.hid g0
  have ST := Lib.hid hst
  have hcap := hw.cap
  generalize eraR t = er at KR EI ⊢
  obtain ⟨⟨off, ru, sv, fm, un⟩, ok⟩ := er
  simp only at EI ⊢
  have tl : (((5 : Nat) : Int) == 4) = false := by decide
  have tf : (((5 : Nat) : Int) != 5) = false := by decide
  have HB : Hid (w.heap[pb]? = some (.cells #[v0, v1, v2, .int .i64 1] 35 (0, 0))) := by have := bheap_gr g0 hp.blk; rw [hst] at this; exact this
  have y3 : w.cell? ⟨pb, 3, none⟩ = some (.int .i64 1) := bcell_row HB.out rfl
  cases ok with
  | false =>
    have LE := Lib.hid hp.le
    rw [if_neg (by simp)]
    clear hp hw hs hn hb hst hz hl g0 HB EI
    go_enter Tryz.func30, Tryz.ntmps30
    go_wp2_with fail
    clear y3 tl tf
    refine KR.out.mono ?_
    rintro e w1 ⟨rfl, g1⟩
    go_wp2_with fail
    go_ret
    exact ⟨rfl, (Tch.refl base pb w0).gr ((G0.out.trans g1).alloc' _) LE.out⟩
  | true =>
    rw [if_pos rfl]
    -- the zones: one at least
    obtain ⟨zi, z, rfl⟩ : ∃ zi z, zs = zi ++ [z] := by
      rcases List.eq_nil_or_concat zs with rfl | ⟨zi, z, rfl⟩
      · exact absurd (by rw [← hp.zm]; rfl) hz
      · exact ⟨zi, z, by rw [List.concat_eq_append]⟩
    obtain ⟨bl', b1, b2, h3, h4⟩ := hp.zz.last
    obtain ⟨g1, nz, c1, rfl, hnz, hnc⟩ : ∃ g1 nz c1, v1 = .slice (some ⟨g1, 0, none⟩) nz c1 ∧ nz = zi.length + 1 ∧ nz ≤ c1 := by
      rcases hp.zr.2 with ⟨_, h0⟩ | ⟨g', cap', cur', hv, _, _, h1, _⟩
      · simp at h0
      · exact ⟨g', _, cap', hv, by simp, h1⟩
    have hnb := hp.nz
    have hne := hp.ne z (by simp)
    have P := Lib.hid hp
    have B1 := Lib.hid b1
    have B2 := Lib.hid b2
    have H3 := Lib.hid h3
    have NR : Hid (z.eras.length ≤ 100000) := Nat.le_trans hne hn
    have nzb : nz ≤ 100000 := by rw [hnz]; simp at hnb; omega
    obtain ⟨znm, zA, zc, ze⟩ := z
    have H4 : Hid (ErAt w0 bl' ⟨znm, zA, zc, ze⟩) := h4
    simp only at NR
    have ZC : Hid (∀ W, Gr w0 W → W.cell? ⟨g1, zi.length * 2 + 1, none⟩ = some (.slice zA ze.length zc)) := fun W g => by
      obtain ⟨b, o, e, _, hc⟩ := (Own.row zo_len (hp.zr.gr g)) zi.length ⟨znm, zA, zc, ze⟩ (by simp)
      injection e with e; injection e with e1 e2; subst e1; subst e2
      have := hc 1 (.slice zA ze.length zc) rfl
      simpa using this
    have ENE0 : Hid (∀ W : World, w0.heap.size ≤ W.heap.size → some W.heap.size ≠ (Value.slice zA ze.length zc).ownBlock) := fun W hW e => by
      have := (own_block_lt h4.1 _ e.symm).2
      omega
    have ZNE : Hid (some g1 ≠ (Value.slice zA ze.length zc).ownBlock) := fun e => by
      rcases own_ne hp.zr h4.1 (by decide) with q | q
      · cases q
      · exact q e
    obtain ⟨i0, hi, hz0, hz1, hz2⟩ := info_parts infoEra
    have I1 := Lib.hid hi
    have I2 := Lib.hid hz0
    have I3 := Lib.hid hz1
    have I4 := Lib.hid hz2
    have i1 : (0 : Int) ≤ (nz : Int) - 1 := by omega
    have i2 : (nz : Int) - 1 < (nz : Int) := by omega
    have i3 : ((nz : Int) - 1).toNat = zi.length := by omega
    clear hi hz0 hz1 hz2 hp hw hs hn hb hst hz hl g0 b1 b2 h3 h4 hnb hne
    go_enter Tryz.func30, Tryz.ntmps30
    go_wp2_with fail
    clear y3 tf
    refine KR.out.mono ?_
    rintro e w1 ⟨rfl, gx⟩
    have GB := Lib.hid ((G0.out.trans gx).alloc' (.cells #[.int .i64 off, .string ru, .int .i64 sv, .string fm, .int .i64 un] 52))
    have HE := Lib.hid (box_one w1 (.cells #[.int .i64 off, .string ru, .int .i64 sv, .string fm, .int .i64 un] 52)).2
    have HB2 := Lib.hid (bheap_gr (gx.alloc' (.cells #[.int .i64 off, .string ru, .int .i64 sv, .string fm, .int .i64 un] 52)) HB.out)
    have ENE := Lib.hid (ENE0.out w1 (Below.size (G0.out.trans gx)))
    clear gx KR ENE0 HB
    go_wp2_with fail
    generalize w1.alloc (.cells #[.int .i64 off, .string ru, .int .i64 sv, .string fm, .int .i64 un] 52) = w2 at GB HE HB2 ⊢
    generalize w1.heap.size = eb at HE ENE ⊢
    have HS : w2.cell? ⟨pb, 1, none⟩ = some (.slice (some ⟨g1, 0, none⟩) nz c1) := bcell_row HB2.out rfl
    refine wp_region_noPanic ?_
    refine till_start 13 (fun wx => wx.cell? ⟨pb, 1, none⟩ = some (.slice (some ⟨g1, 0, none⟩) nz c1)) (by kernel_rfl) HS (fun hHeld => ?_)
    (try dsimp only at hHeld)
    refine till_take (i := 0) (oi := { dst := some 33, op := _, type := _, pos := _, after := _, guard := _ }) (v := ?v20) rfl (by kernel_rfl) (by kernel_rfl) (by kernel_rfl) (by kernel_rfl) (fun _ _ _ h => h) (Or.inl ⟨by rfl, ?hy20⟩) (by assumption) ?rest20
    case hy20 => (intro w hSw; go_simp <;> (with_reducible rfl))
    (try simp only [Act.put, List.setIfInBounds_toArray, List.set_cons_zero, List.set_cons_succ])
    refine till_take (i := 1) (oi := { dst := some 34, op := _, type := _, pos := _, after := _, guard := _ }) (v := ?v21) rfl (by kernel_rfl) (by kernel_rfl) (by kernel_rfl) (by kernel_rfl) (fun _ _ _ h => h) (Or.inl ⟨by rfl, ?hy21⟩) (by assumption) ?rest21
    case hy21 => (intro w hSw; go_simp <;> (with_reducible rfl))
    (try simp only [Act.put, List.setIfInBounds_toArray, List.set_cons_zero, List.set_cons_succ])
    refine till_take (i := 2) (oi := { dst := some 35, op := _, type := _, pos := _, after := _, guard := _ }) (v := ?v22) rfl (by kernel_rfl) (by kernel_rfl) (by kernel_rfl) (by kernel_rfl) (fun _ _ _ h => h) (Or.inl ⟨by rfl, ?hy22⟩) (by assumption) ?rest22
    case hy22 => (intro w hSw; go_simp <;> (with_reducible rfl))
    (try simp only [Act.put, List.setIfInBounds_toArray, List.set_cons_zero, List.set_cons_succ])
    refine till_take (i := 3) (oi := { dst := some 36, op := _, type := _, pos := _, after := _, guard := _ }) (v := ?v23) rfl (by kernel_rfl) (by kernel_rfl) (by kernel_rfl) (by kernel_rfl) (fun _ _ _ h => h) (Or.inl ⟨by rfl, ?hy23⟩) (by assumption) ?rest23
    case hy23 => (intro w hSw; go_simp <;> (with_reducible rfl))
    (try simp only [Act.put, List.setIfInBounds_toArray, List.set_cons_zero, List.set_cons_succ])
    refine till_take (i := 4) (oi := { dst := some 37, op := _, type := _, pos := _, after := _, guard := _ }) (v := ?v24) rfl (by kernel_rfl) (by kernel_rfl) (by kernel_rfl) (by kernel_rfl) (fun _ _ _ h => h) (Or.inl ⟨by rfl, ?hy24⟩) (by assumption) ?rest24
    case hy24 => (intro w hSw; have c0 := hSw; go_simp <;> (with_reducible rfl))
    (try simp only [Act.put, List.setIfInBounds_toArray, List.set_cons_zero, List.set_cons_succ])
    refine till_take (i := 5) (oi := { dst := some 38, op := _, type := _, pos := _, after := _, guard := _ }) (v := ?v25) rfl (by kernel_rfl) (by kernel_rfl) (by kernel_rfl) (by kernel_rfl) (fun _ _ _ h => h) (Or.inl ⟨by rfl, ?hy25⟩) (by assumption) ?rest25
    case hy25 => (intro w hSw; go_simp <;> (with_reducible rfl))
    (try simp only [Act.put, List.setIfInBounds_toArray, List.set_cons_zero, List.set_cons_succ])
    refine till_take (i := 6) (oi := { dst := some 39, op := _, type := _, pos := _, after := _, guard := _ }) (v := ?v26) rfl (by kernel_rfl) (by kernel_rfl) (by kernel_rfl) (by kernel_rfl) (fun _ _ _ h => h) (Or.inl ⟨by rfl, ?hy26⟩) (by assumption) ?rest26
    case hy26 => (intro w hSw; go_simp <;> (with_reducible rfl))
    (try simp only [Act.put, List.setIfInBounds_toArray, List.set_cons_zero, List.set_cons_succ])
    refine till_take (i := 7) (oi := { dst := some 40, op := _, type := _, pos := _, after := _, guard := _ }) (v := ?v27) rfl (by kernel_rfl) (by kernel_rfl) (by kernel_rfl) (by kernel_rfl) (fun _ _ _ h => h) (Or.inl ⟨by rfl, ?hy27⟩) (by assumption) ?rest27
    case hy27 => (intro w hSw; go_simp <;> (with_reducible rfl))
    (try simp only [Act.put, List.setIfInBounds_toArray, List.set_cons_zero, List.set_cons_succ])
    refine till_take (i := 8) (oi := { dst := some 41, op := _, type := _, pos := _, after := _, guard := _ }) (v := ?v28) rfl (by kernel_rfl) (by kernel_rfl) (by kernel_rfl) (by kernel_rfl) (fun _ _ _ h => h) (Or.inl ⟨by rfl, ?hy28⟩) (by assumption) ?rest28
    case hy28 => (intro w hSw; go_simp <;> (with_reducible rfl))
    (try simp only [Act.put, List.setIfInBounds_toArray, List.set_cons_zero, List.set_cons_succ])
    refine till_take (i := 9) (oi := { dst := some 42, op := _, type := _, pos := _, after := _, guard := _ }) (v := ?v29) rfl (by kernel_rfl) (by kernel_rfl) (by kernel_rfl) (by kernel_rfl) (fun _ _ _ h => h) (Or.inl ⟨by rfl, ?hy29⟩) (by assumption) ?rest29
    case hy29 => (intro w hSw; have c0 := hSw; go_simp <;> (with_reducible rfl))
    (try simp only [Act.put, List.setIfInBounds_toArray, List.set_cons_zero, List.set_cons_succ])
    refine till_take (i := 10) (oi := { dst := some 43, op := _, type := _, pos := _, after := _, guard := _ }) (v := ?v30) rfl (by kernel_rfl) (by kernel_rfl) (by kernel_rfl) (by kernel_rfl) (fun _ _ _ h => h) (Or.inl ⟨by rfl, ?hy30⟩) (by assumption) ?rest30
    case hy30 => (intro w hSw; go_simp <;> (with_reducible rfl))
    (try simp only [Act.put, List.setIfInBounds_toArray, List.set_cons_zero, List.set_cons_succ])
    refine till_take (i := 11) (oi := { dst := some 44, op := _, type := _, pos := _, after := _, guard := _ }) (v := (.int .i64 (zi.length : Int))) rfl (by kernel_rfl) (by kernel_rfl) (by kernel_rfl) (by kernel_rfl) (fun _ _ _ h => h) (Or.inl ⟨by rfl, ?hy31⟩) (by assumption) ?rest31
    case hy31 => (intro w hSw; go_simp; exact IntWalk.i64_in _ (by omega))
    (try simp only [Act.put, List.setIfInBounds_toArray, List.set_cons_zero, List.set_cons_succ])
    refine till_take (i := 12) (oi := { dst := some 45, op := _, type := _, pos := _, after := _, guard := _ }) (v := (.pointer (some ⟨g1, zi.length * 2, none⟩))) rfl (by kernel_rfl) (by kernel_rfl) (by kernel_rfl) (by kernel_rfl) (fun _ _ _ h => h) (Or.inl ⟨by rfl, ?hy32⟩) (by assumption) ?rest32
    case hy32 => (intro w hSw; go_simp; exact fun h => absurd h (by omega))
    (try simp only [Act.put, List.setIfInBounds_toArray, List.set_cons_zero, List.set_cons_succ])
    refine till_one (i := 13) (by kernel_rfl) rfl (fun K hK => ?_)
    go_simp
    refine hK.out _ _ (Or.inl (by kernel_rfl)) ?_
    clear hK K
    (try simp only [Act.put, List.setIfInBounds_toArray, List.set_cons_zero, List.set_cons_succ])
    refine till_done (by kernel_rfl) ?_ _
    refine NoPanic.normal ?_
    clear hHeld HS

    have G3 := Lib.hid (GB.out.trans (Gr.drew w2))
    have HE3 := Lib.hid (bheap_gr (Gr.drew w2) HE.out)
    have HB3 := Lib.hid (bheap_gr (Gr.drew w2) HB2.out)
    generalize w2.drew = w3 at G3 HE3 HB3 ⊢
    have Z3 := Lib.hid (ZC.out w3 G3.out)
    clear GB HE HB2 ZC i1 i2 i3
    go_wp2_with fail
    refine wp_region_noPanic ?_
    refine till_start 10 (fun wx => wx.cell? ⟨g1, zi.length * 2 + 1, none⟩ = some (.slice zA ze.length zc) ∧ wx.heap[eb]? = some (.cells #[.int .i64 off, .string ru, .int .i64 sv, .string fm, .int .i64 un] 52 (0, 0))) (by kernel_rfl) ⟨Z3.out, HE3.out⟩ (fun hHeld => ?_)
    (try dsimp only at hHeld)
    have G3d := Lib.hid (G3.out.trans (Gr.drew w3))
    generalize w3.drew = w3d at hHeld G3d ⊢
    clear G3
    refine till_take (i := 0) (oi := { dst := some 46, op := _, type := _, pos := _, after := _, guard := _ }) (v := ?v33) rfl (by kernel_rfl) (by kernel_rfl) (by kernel_rfl) (by kernel_rfl) (fun _ _ _ h => h) (Or.inl ⟨by rfl, ?hy33⟩) (by assumption) ?rest33
    case hy33 => (intro w hSw; go_simp <;> (with_reducible rfl))
    (try simp only [Act.put, List.setIfInBounds_toArray, List.set_cons_zero, List.set_cons_succ])
    refine till_take (i := 1) (oi := { dst := some 47, op := _, type := _, pos := _, after := _, guard := _ }) (v := ?v34) rfl (by kernel_rfl) (by kernel_rfl) (by kernel_rfl) (by kernel_rfl) (fun _ _ _ h => h) (Or.inl ⟨by rfl, ?hy34⟩) (by assumption) ?rest34
    case hy34 => (intro w hSw; go_simp <;> (with_reducible rfl))
    (try simp only [Act.put, List.setIfInBounds_toArray, List.set_cons_zero, List.set_cons_succ])
    refine till_take (i := 2) (oi := { dst := some 48, op := _, type := _, pos := _, after := _, guard := _ }) (v := ?v35) rfl (by kernel_rfl) (by kernel_rfl) (by kernel_rfl) (by kernel_rfl) (fun _ _ _ h => h) (Or.inl ⟨by rfl, ?hy35⟩) (by assumption) ?rest35
    case hy35 => (intro w hSw; go_simp <;> (with_reducible rfl))
    (try simp only [Act.put, List.setIfInBounds_toArray, List.set_cons_zero, List.set_cons_succ])
    refine till_take (i := 3) (oi := { dst := some 49, op := _, type := _, pos := _, after := _, guard := _ }) (v := ?v36) rfl (by kernel_rfl) (by kernel_rfl) (by kernel_rfl) (by kernel_rfl) (fun _ _ _ h => h) (Or.inl ⟨by rfl, ?hy36⟩) (by assumption) ?rest36
    case hy36 => (intro w hSw; go_simp <;> (with_reducible rfl))
    (try simp only [Act.put, List.setIfInBounds_toArray, List.set_cons_zero, List.set_cons_succ])
    refine till_take (i := 4) (oi := { dst := some 50, op := _, type := _, pos := _, after := _, guard := _ }) (v := ?v37) rfl (by kernel_rfl) (by kernel_rfl) (by kernel_rfl) (by kernel_rfl) (fun _ _ _ h => h) (Or.inl ⟨by rfl, ?hy37⟩) (by assumption) ?rest37
    case hy37 => (intro w hSw; have c0 := hSw.1; go_simp <;> (with_reducible rfl))
    (try simp only [Act.put, List.setIfInBounds_toArray, List.set_cons_zero, List.set_cons_succ])
    refine till_take (i := 5) (oi := { dst := some 51, op := _, type := _, pos := _, after := _, guard := _ }) (v := ?v38) rfl (by kernel_rfl) (by kernel_rfl) (by kernel_rfl) (by kernel_rfl) (fun _ _ _ h => h) (Or.inl ⟨by rfl, ?hy38⟩) (by assumption) ?rest38
    case hy38 => (intro w hSw; have d0 := bcell_row (i := 0) hSw.2 rfl; have d1 := bcell_row (i := 1) hSw.2 rfl; have d2 := bcell_row (i := 2) hSw.2 rfl; have d3 := bcell_row (i := 3) hSw.2 rfl; have d4 := bcell_row (i := 4) hSw.2 rfl; go_simp <;> (with_reducible rfl))
    (try simp only [Act.put, List.setIfInBounds_toArray, List.set_cons_zero, List.set_cons_succ])
    have HNB := Lib.hid (box_one w3d (.cells #[.int .i64 off, .string ru, .int .i64 sv, .string fm, .int .i64 un] 52))
    refine till_one (i := 6) (by kernel_rfl) rfl (fun K hK => ?_)
    go_simp
    refine hK.out _ _ (Or.inr ⟨HNB.out.1.holds hHeld.1, bheap_gr HNB.out.1 hHeld.2⟩) ?_
    clear hK K
    (try simp only [Act.put, List.setIfInBounds_toArray, List.set_cons_zero, List.set_cons_succ])
    generalize w3d.alloc (.cells #[.int .i64 off, .string ru, .int .i64 sv, .string fm, .int .i64 un] 52) = w4 at HNB ⊢
    generalize w3d.heap.size = q4 at HNB ⊢
    have G4 := Lib.hid (G3d.out.trans HNB.out.1)
    have OW := Lib.hid (H4.out.1.gr G4.out)
    have NB := Lib.hid HNB.out.2
    have Z4 := Lib.hid (HNB.out.1.holds hHeld.1)
    have HE4 := Lib.hid (bheap_gr HNB.out.1 hHeld.2)
    have lte := Lib.hid (show eb < w4.heap.size from (Array.getElem?_eq_some_iff.1 HE4.out).1)
    have ltz := Lib.hid (World.block_lt_of_cell? _ _ Z4.out)
    clear HNB hHeld
    refine till_one (i := 7) (by kernel_rfl) rfl (fun K hK => ?_)
    (refine step_append_lies _ (by rfl) _ _ 45 (by rfl) bl' 52 i0 (.agg #[.int .i64 0, .string .empty, .int .i64 0, .string .empty, .int .i64 0]) 5 56 Tryz.underlying45 I1.out I2.out I3.out I4.out (by rfl) (by omega) (.slice zA ze.length zc) ze.length (ze.flatMap EraD.cells) (by rfl) OW.out ⟨q4, 0, none⟩ 1 1 [.int .i64 off, .string ru, .int .i64 sv, .string fm, .int .i64 un] (by rfl) (by rfl) (World.news_of_block NB.out) (er_one ⟨off, ru, sv, fm, un⟩) (by omega) (by have := NR.out; unfold maxLen; omega) (by have := NR.out; omega) (Nat.le_trans B2.out (Below.size G4.out)) w4.heap.size rfl ?_)
    intro g cap w5 hown hgrow hat hlt
    refine hK.out _ _ (Or.inr ⟨(World.cell?_of_block (hgrow.block g1 ltz.out ZNE.out)).trans Z4.out, (hgrow.block eb lte.out ENE.out).trans HE4.out⟩) ?_
    clear hK K
    (try simp only [Act.put, List.setIfInBounds_toArray, List.set_cons_zero, List.set_cons_succ])
    have Z5 := Lib.hid ((World.cell?_of_block (hgrow.block g1 ltz.out ZNE.out)).trans Z4.out)
    have HE5 := Lib.hid ((hgrow.block eb lte.out ENE.out).trans HE4.out)
    have FZ5 : Hid (w5.frozen? ⟨g1, zi.length * 2 + 1, none⟩ = false) := (World.frozen?_of_block (hgrow.block g1 ltz.out ZNE.out)).trans (own_frozen (P.out.zr.gr G4.out))
    have FIN := Lib.hid (PAt.addEra (e := ⟨off, ru, sv, fm, un⟩) P.out B1.out B2.out H3.out H4.out G4.out (own_more rfl hown) hgrow EI.out)
    clear hown hgrow hat hlt Z4 HE4 OW NB lte ltz
    refine till_one (i := 8) (by kernel_rfl) rfl (fun K hK => ?_)
    go_simp
    refine hK.out _ _ (Or.inr ⟨Z5.out, HE5.out⟩) ?_
    clear hK K
    (try simp only [Act.put, List.setIfInBounds_toArray, List.set_cons_zero, List.set_cons_succ])
    refine till_one (i := 9) (by kernel_rfl) rfl (fun K hK => ?_)
    go_simp
    refine hK.out _ _ (Or.inr ⟨Z5.out, HE5.out⟩) ?_
    clear hK K
    (try simp only [Act.put, List.setIfInBounds_toArray, List.set_cons_zero, List.set_cons_succ])
    have zc5 := Z5.out
    have fz5 := FZ5.out
    refine till_one (i := 10) (by kernel_rfl) rfl (fun K hK => ?_)
    go_simp
    refine hK.out _ _ (Or.inl (by kernel_rfl)) ?_
    clear hK K
    (try simp only [Act.put, List.setIfInBounds_toArray, List.set_cons_zero, List.set_cons_succ])
    clear zc5 fz5 Z5 HE5 FZ5
    generalize w5.setCell ⟨g1, zi.length * 2 + 1, none⟩ (.slice (some ⟨g, 0, none⟩) (ze.length + 1) cap) = w6 at FIN ⊢
    refine till_done (by kernel_rfl) ?_ _
    refine NoPanic.normal ?_
    go_wp2_with fail
    go_ret
    exact ⟨rfl, ⟨_, _, _, _, st_same ST.out FIN.out.1⟩, FIN.out.2⟩

end Go.Proofs.YtkkilmmpmiichaaGreatDoor
