/- What the project's settle of package turns returns. -/
import Derived.Test.YtkmgildnhnjepaaGreatDoorTM27
import Derived.Test.YtkmgildnhnjepaaGreatDoorTM17
namespace Go.Proofs.YtkmgildnhnjepaaGreatDoor
set_option linter.unusedVariables false
set_option linter.unusedSimpArgs false
open Go.RowKit
theorem infoTurn : (Tryz.prog.info? 75).map (fun i => (i.zero, i.size, i.bytes)) = some (some (.agg #[.int .i64 0, .int .i64 0, .string .empty]), 3, 32) := by kernel_rfl

theorem Row.twelve {α : Type} {w W : World} {e : α → List Value} {A : Option Addr} {l : List α} {i : Nat} {x : α} {v0 v1 v2 v3 v4 v5 v6 v7 v8 v9 v10 v11 : Value} (h : Row w 12 e A l) (hx : l[i]? = some x) (he : e x = [v0, v1, v2, v3, v4, v5, v6, v7, v8, v9, v10, v11]) (g : Gr w W) :
    ∃ b off, A = some ⟨b, off, none⟩ ∧ W.cell? ⟨b, off + i * 12, none⟩ = some v0 ∧ W.cell? ⟨b, off + i * 12 + 1, none⟩ = some v1 ∧ W.cell? ⟨b, off + i * 12 + 2, none⟩ = some v2 ∧ W.cell? ⟨b, off + i * 12 + 3, none⟩ = some v3 ∧ W.cell? ⟨b, off + i * 12 + 4, none⟩ = some v4 ∧ W.cell? ⟨b, off + i * 12 + 5, none⟩ = some v5 ∧ W.cell? ⟨b, off + i * 12 + 6, none⟩ = some v6 ∧ W.cell? ⟨b, off + i * 12 + 7, none⟩ = some v7 ∧ W.cell? ⟨b, off + i * 12 + 8, none⟩ = some v8 ∧ W.cell? ⟨b, off + i * 12 + 9, none⟩ = some v9 ∧ W.cell? ⟨b, off + i * 12 + 10, none⟩ = some v10 ∧ W.cell? ⟨b, off + i * 12 + 11, none⟩ = some v11 := by
  obtain ⟨b, off, rfl, hb, hc⟩ := h i x hx
  rw [he] at hc
  exact ⟨b, off, rfl, g.holds (hc 0 v0 rfl), g.holds (hc 1 v1 rfl), g.holds (hc 2 v2 rfl), g.holds (hc 3 v3 rfl), g.holds (hc 4 v4 rfl), g.holds (hc 5 v5 rfl), g.holds (hc 6 v6 rfl), g.holds (hc 7 v7 rfl), g.holds (hc 8 v8 rfl), g.holds (hc 9 v9 rfl), g.holds (hc 10 v10 rfl), g.holds (hc 11 v11 rfl)⟩
theorem Row.three {α : Type} {w W : World} {e : α → List Value} {A : Option Addr} {l : List α} {i : Nat} {x : α} {v0 v1 v2 : Value} (h : Row w 3 e A l) (hx : l[i]? = some x) (he : e x = [v0, v1, v2]) (g : Gr w W) :
    ∃ b off, A = some ⟨b, off, none⟩ ∧ W.cell? ⟨b, off + i * 3, none⟩ = some v0 ∧ W.cell? ⟨b, off + i * 3 + 1, none⟩ = some v1 ∧ W.cell? ⟨b, off + i * 3 + 2, none⟩ = some v2 := by
  obtain ⟨b, off, rfl, hb, hc⟩ := h i x hx
  rw [he] at hc
  exact ⟨b, off, rfl, g.holds (hc 0 v0 rfl), g.holds (hc 1 v1 rfl), g.holds (hc 2 v2 rfl)⟩
theorem take_more {α : Type} {l : List α} {k : Nat} {x : α} (h : l[k]? = some x) : l.take (k + 1) = l.take k ++ [x] := by
  have hk : k < l.length := (List.getElem?_eq_some_iff.1 h).1
  rw [List.take_succ_eq_append_getElem hk, (List.getElem?_eq_some_iff.1 h).2]
/-- where a row of one's own lies -/
theorem own_atF {α : Type} {w : World} {base k n c : Nat} {e : TypeId} {enc : α → List Value} {A : Option Addr} {l : List α} (h : Own w base e k enc (.slice A n c) l) : ∀ a, A = some a → base ≤ a.block := fun a e => own_base h a.block (by subst e; rfl)
/-- a row as it is returned -/
def TursAt (w : World) (A : Option Addr) (c : Nat) (l : List TurD) : Prop := SlOk l.length c ∧ Row w 3 TurD.cells A l
/-- what settle leaves -/
def SetE (off : Int) (l : List PenD) (w : World) (e : Ending) (w' : World) : Prop :=
  (riseB (turL off 0 l) = true ∧ ∃ A c, e = .returned (.tuple #[.slice A l.length c, .int .i64 0]) ∧ TursAt w' A c (turL off 0 l) ∧ Gr w w' ∧ ∀ a, A = some a → w.heap.size ≤ a.block) ∨ (riseB (turL off 0 l) = false ∧ e = .returned (.tuple #[.slice none 0 0, .int .i64 5]) ∧ Gr w w')

set_option maxRecDepth 100000 in
set_option maxHeartbeats 20000000 in
theorem tsettle (A : Option Addr) (c : Nat) (l : List PenD) (off : Int) (w : World) (hr : Row w 12 PenD.cells A l) (hl : l.length ≤ 1500) (ho : ∀ p ∈ l, p.Ok) (hs : ∀ p ∈ l, p.r.lt.size ≤ 1048576) (h1 : -64800 ≤ off) (h2 : off ≤ 64800) :
    Calls Tryz.prog 79 #[.slice A l.length c, .int .i64 off] w (SetE off l w) := by
  have mixed : Tryz.prog.follows .mixedOrders = true := by kernel_rfl
  have HR := Lib.hid hr
  have HO := Lib.hid ho
  have HS := Lib.hid hs
  have KM := Lib.hid (fun p s w hp h3 h4 => tmoment p off s w hp h1 h2 h3 h4)
  have KC := Lib.hid clone_str
  have SB := Lib.hid (fun i => svAt_bd ho i)
  have IN := Lib.hid (fun s p (hp : PenD.Ok p) h3 h4 => (turP_in (off := off) (sv := s) hp h1 h2 h3 h4).2.1)
  obtain ⟨i0, hi, hz0, hz1, hz2⟩ := info_parts infoTurn
  have I1 := Lib.hid hi
  have I2 := Lib.hid hz0
  have I3 := Lib.hid hz1
  have I4 := Lib.hid hz2
  clear hr ho hs hi hz0 hz1 hz2
  obtain ⟨TL, hTL⟩ : ∃ TL, turL off 0 l = TL := ⟨_, rfl⟩
  have HT : Hid (∀ (k : Nat) (p : PenD), l[k]? = some p → TL[k]? = some (turP off (svAt l k) p)) := fun k p hp => by rw [← hTL]; exact turL_at hp
  have HN : Hid (TL.length = l.length) := by rw [← hTL]; exact turL_len off l 0
  unfold SetE
  rw [hTL]
  clear hTL
  go_enter Tryz.func79, Tryz.ntmps79
  go_wp2_with (at_make; refine wpList_make_own _ rfl _ _ 71 rfl w.heap.size 75 i0 (.agg #[.int .i64 0, .int .i64 0, .string .empty]) 3 Tryz.underlying71 I1.out I2.out I3.out .i64 .i64 _ l.length rfl rfl (by omega) (by rw [I4.out]; omega) (by unfold maxLen; omega) (Nat.le_refl _) ?_; intro w0 hown0 hgrow0)
  have G0 := Lib.hid (grown_gr (Gr.refl w) hgrow0 (fun j hj => by cases hj))
  have OW0 : Hid (Own w0 w.heap.size 75 3 TurD.cells (.slice (some ⟨w.heap.size, 0, none⟩) 0 l.length) ([] : List TurD)) := hown0
  clear hown0 hgrow0
  go_wp2_with fail
  go_loopw [6, 7, 16] (fun v s7 i W => ∃ (k : Nat) (s : Int), k ≤ l.length ∧ i = .int .i64 k ∧ s7 = .int .i64 s ∧ 0 ≤ s ∧ s ≤ 10800 ∧ Hid (s = svAt l k) ∧ Hid (Own W w.heap.size 75 3 TurD.cells v (TL.take k)) ∧ Hid (Rise (TL.take k)) ∧ Hid (Gr w W)) (fun v s7 i W => l.length - (intOf i).toNat)
  case atStart => exact ⟨0, 0, Nat.zero_le _, rfl, rfl, by omega, by omega, rfl, OW0, fun i x y hx _ => by simp at hx, G0⟩
  case round =>
    clear G0 OW0
    obtain ⟨k, s, hk, rfl, rfl, hs0, hs1, SV, hw, hri, hg⟩ := hrel
    have LT : Hid ((TL.take k).length = k) := by have := HN.out; unfold Hid; rw [List.length_take]; omega
    obtain ⟨A2, c2, rfl, hc1, hc2, hA2⟩ := hw.out.form
    obtain ⟨kk, hkk⟩ : ∃ kk, (TL.take k).length = kk := ⟨_, rfl⟩
    have ekk : kk = k := by rw [← hkk, LT.out]
    rw [hkk] at hw hc1 ⊢
    subst ekk
    clear hkk
    by_cases hlt : kk < l.length
    · obtain ⟨⟨no, ⟨znm, fr, tt, mo, zk, d, n, at', by', sv, lt⟩⟩, hx⟩ := get_lt hlt
      have TX := Lib.hid (HT.out kk _ hx)
      have OKP := Lib.hid (HO.out _ (get_mem hx))
      have SM : Hid (lt.size ≤ 1048576) := HS.out _ (get_mem hx)
      have SVN : Hid (sv = svAt l (kk + 1)) := (svAt_succ hx).symm
      have hsv : 0 ≤ sv ∧ sv ≤ 10800 := by have := SB.out (kk + 1); rw [← SVN.out] at this; exact this
      obtain ⟨hv0, hv1⟩ := hsv
      have KP := Lib.hid (fun w => KM.out ⟨no, ⟨znm, fr, tt, mo, zk, d, n, at', by', sv, lt⟩⟩ s w OKP.out hs0 hs1)
      have MB := IN.out s ⟨no, ⟨znm, fr, tt, mo, zk, d, n, at', by', sv, lt⟩⟩ OKP.out hs0 hs1
      rw [← SV.out] at TX
      obtain ⟨b, of', rfl, c0, c1, c2', c3, c4, c5, c6, c7, c8, c9, c10, c11⟩ := HR.out.twelve hx rfl hg.out
      clear hx SV
      go_wp2_with fail
      clear c0 c1 c2' c3 c4 c5 c6 c7 c8 c9 c10 c11
      have B0 := Lib.hid (box_one wr (.cells #[.string znm, .int .i64 fr, .int .i64 tt, .int .i64 mo, .int .i64 zk, .int .i64 d, .int .i64 n, .int .i64 at', .int .i64 by', .int .i64 sv, .string lt, .int .i64 no] 163))
      have OWB := Lib.hid (hw.out.gr B0.out.1)
      have GB := Lib.hid (hg.out.trans B0.out.1)
      have HB := Lib.hid B0.out.2
      clear B0 hw hg
      generalize wr.alloc (.cells #[.string znm, .int .i64 fr, .int .i64 tt, .int .i64 mo, .int .i64 zk, .int .i64 d, .int .i64 n, .int .i64 at', .int .i64 by', .int .i64 sv, .string lt, .int .i64 no] 163) = wq at OWB GB HB ⊢
      generalize wr.heap.size = q at HB ⊢
      have x0 := bcell_row (i := 0) HB.out rfl
      have x1 := bcell_row (i := 1) HB.out rfl
      have x2 := bcell_row (i := 2) HB.out rfl
      have x3 := bcell_row (i := 3) HB.out rfl
      have x4 := bcell_row (i := 4) HB.out rfl
      have x5 := bcell_row (i := 5) HB.out rfl
      have x6 := bcell_row (i := 6) HB.out rfl
      have x7 := bcell_row (i := 7) HB.out rfl
      have x8 := bcell_row (i := 8) HB.out rfl
      have x9 := bcell_row (i := 9) HB.out rfl
      have x10 := bcell_row (i := 10) HB.out rfl
      have x11 := bcell_row (i := 11) HB.out rfl
      go_wp2_with fail
      clear x0 x1 x2 x3 x4 x5 x6 x7 x8 x9 x10 x11
      refine (KP.out wq).mono ?_
      rintro e w1 ⟨rfl, g1⟩
      have EM : Hid (turP off s ⟨no, ⟨znm, fr, tt, mo, zk, d, n, at', by', sv, lt⟩⟩ = ⟨momR off s ⟨no, ⟨znm, fr, tt, mo, zk, d, n, at', by', sv, lt⟩⟩, sv, lt⟩) := rfl
      rw [EM.out] at TX
      have MB' : -4000000000 ≤ momR off s ⟨no, ⟨znm, fr, tt, mo, zk, d, n, at', by', sv, lt⟩⟩ ∧ momR off s ⟨no, ⟨znm, fr, tt, mo, zk, d, n, at', by', sv, lt⟩⟩ ≤ 7000000000 := MB
      clear KP EM OKP MB
      generalize momR off s ⟨no, ⟨znm, fr, tt, mo, zk, d, n, at', by', sv, lt⟩⟩ = m at TX MB' ⊢
      obtain ⟨m1, m2⟩ := MB'
      have G1 := Lib.hid (GB.out.trans g1)
      have OW := Lib.hid (OWB.out.gr g1)
      have OWD := Lib.hid (OWB.out.gr (g1.trans (Gr.drew w1)))
      have HQ := Lib.hid (bheap_gr g1 HB.out)
      have TK := Lib.hid (take_more TX.out)
      have LN : Hid ((TL.take kk).length ≤ 1500) := by have := LT.out; unfold Hid; omega
      clear g1 GB OWB HB
      by_cases k0 : kk = 0
      · have kz : ¬ (kk : Int) > 0 := by omega
        have RS : Hid (Rise (TL.take (kk + 1))) := by unfold Hid; rw [TK.out, k0]; simpa using rise_one _
        obtain ⟨L, hL⟩ : ∃ L, TL.take kk = L := ⟨_, rfl⟩
        have LL : Hid (L.length = kk) := by rw [← hL]; exact LT.out
        rw [hL] at TK OWD LN
        clear hL OW hri k0
        have hkl := LL.out
        go_wp2_with fail
        refine wp_region_noPanic ?_
        refine till_start 12 (fun wx => wx.heap[q]? = some (.cells #[.string znm, .int .i64 fr, .int .i64 tt, .int .i64 mo, .int .i64 zk, .int .i64 d, .int .i64 n, .int .i64 at', .int .i64 by', .int .i64 sv, .string lt, .int .i64 no] 163 (0, 0))) (by kernel_rfl) HQ.out (fun hHeld => ?_)
        (try dsimp only at hHeld)
        have G1d := Lib.hid (G1.out.trans (Gr.drew w1))
        generalize w1.drew = wd at hHeld G1d OWD ⊢
        clear G1
        refine till_take (i := 0) (oi := { dst := some 37, op := _, type := _, pos := _, after := _, guard := _ }) (v := ?v1) rfl (by kernel_rfl) (by kernel_rfl) (by kernel_rfl) (by kernel_rfl) (fun _ _ _ h => h) (Or.inl ⟨by rfl, ?hy1⟩) (by assumption) ?rest1
        case hy1 => (intro w hSw; go_simp <;> (with_reducible rfl))
        (try simp only [Act.put, List.setIfInBounds_toArray, List.set_cons_zero, List.set_cons_succ])
        refine till_take (i := 1) (oi := { dst := some 38, op := _, type := _, pos := _, after := _, guard := _ }) (v := ?v2) rfl (by kernel_rfl) (by kernel_rfl) (by kernel_rfl) (by kernel_rfl) (fun _ _ _ h => h) (Or.inl ⟨by rfl, ?hy2⟩) (by assumption) ?rest2
        case hy2 => (intro w hSw; go_simp <;> (with_reducible rfl))
        (try simp only [Act.put, List.setIfInBounds_toArray, List.set_cons_zero, List.set_cons_succ])
        refine till_take (i := 2) (oi := { dst := some 39, op := _, type := _, pos := _, after := _, guard := _ }) (v := ?v3) rfl (by kernel_rfl) (by kernel_rfl) (by kernel_rfl) (by kernel_rfl) (fun _ _ _ h => h) (Or.inl ⟨by rfl, ?hy3⟩) (by assumption) ?rest3
        case hy3 => (intro w hSw; go_simp <;> (with_reducible rfl))
        (try simp only [Act.put, List.setIfInBounds_toArray, List.set_cons_zero, List.set_cons_succ])
        refine till_take (i := 3) (oi := { dst := some 40, op := _, type := _, pos := _, after := _, guard := _ }) (v := ?v4) rfl (by kernel_rfl) (by kernel_rfl) (by kernel_rfl) (by kernel_rfl) (fun _ _ _ h => h) (Or.inl ⟨by rfl, ?hy4⟩) (by assumption) ?rest4
        case hy4 => (intro w hSw; go_simp <;> (with_reducible rfl))
        (try simp only [Act.put, List.setIfInBounds_toArray, List.set_cons_zero, List.set_cons_succ])
        refine till_take (i := 4) (oi := { dst := some 41, op := _, type := _, pos := _, after := _, guard := _ }) (v := ?v5) rfl (by kernel_rfl) (by kernel_rfl) (by kernel_rfl) (by kernel_rfl) (fun _ _ _ h => h) (Or.inl ⟨by rfl, ?hy5⟩) (by assumption) ?rest5
        case hy5 => (intro w hSw; have c9 := bcell_row (i := 9) hSw rfl; go_simp <;> (with_reducible rfl))
        (try simp only [Act.put, List.setIfInBounds_toArray, List.set_cons_zero, List.set_cons_succ])
        refine till_take (i := 5) (oi := { dst := some 42, op := _, type := _, pos := _, after := _, guard := _ }) (v := ?v6) rfl (by kernel_rfl) (by kernel_rfl) (by kernel_rfl) (by kernel_rfl) (fun _ _ _ h => h) (Or.inl ⟨by rfl, ?hy6⟩) (by assumption) ?rest6
        case hy6 => (intro w hSw; go_simp <;> (with_reducible rfl))
        (try simp only [Act.put, List.setIfInBounds_toArray, List.set_cons_zero, List.set_cons_succ])
        refine till_take (i := 6) (oi := { dst := some 43, op := _, type := _, pos := _, after := _, guard := _ }) (v := ?v7) rfl (by kernel_rfl) (by kernel_rfl) (by kernel_rfl) (by kernel_rfl) (fun _ _ _ h => h) (Or.inl ⟨by rfl, ?hy7⟩) (by assumption) ?rest7
        case hy7 => (intro w hSw; go_simp <;> (with_reducible rfl))
        (try simp only [Act.put, List.setIfInBounds_toArray, List.set_cons_zero, List.set_cons_succ])
        refine till_take (i := 7) (oi := { dst := some 44, op := _, type := _, pos := _, after := _, guard := _ }) (v := ?v8) rfl (by kernel_rfl) (by kernel_rfl) (by kernel_rfl) (by kernel_rfl) (fun _ _ _ h => h) (Or.inl ⟨by rfl, ?hy8⟩) (by assumption) ?rest8
        case hy8 => (intro w hSw; have c10 := bcell_row (i := 10) hSw rfl; go_simp <;> (with_reducible rfl))
        (try simp only [Act.put, List.setIfInBounds_toArray, List.set_cons_zero, List.set_cons_succ])
        refine till_one (i := 8) (by kernel_rfl) rfl (fun K hK => ?_)
        go_simp
        (with_reducible refine (KC.out lt _ SM.out).mono ?_)
        rintro e w2 ⟨rfl, g2⟩
        (go_wp2_with fail)
        refine hK.out _ _ (Or.inr (bheap_gr g2 hHeld)) ?_
        clear hK K
        (try simp only [Act.put, List.setIfInBounds_toArray, List.set_cons_zero, List.set_cons_succ])
        have HQ2 := Lib.hid (bheap_gr g2 hHeld)
        have G2 := Lib.hid (G1d.out.trans g2)
        have OW2 := Lib.hid (OWD.out.gr g2)
        clear g2 hHeld G1d OWD
        refine till_one (i := 9) (by kernel_rfl) rfl (fun K hK => ?_)
        go_simp
        refine hK.out _ _ (Or.inr HQ2.out) ?_
        clear hK K
        (try simp only [Act.put, List.setIfInBounds_toArray, List.set_cons_zero, List.set_cons_succ])
        have NB := Lib.hid (box_one w2 (.cells #[.int .i64 m, .int .i64 sv, .string lt] 75))
        refine till_one (i := 10) (by kernel_rfl) rfl (fun K hK => ?_)
        go_simp
        refine hK.out _ _ (Or.inr (bheap_gr NB.out.1 HQ2.out)) ?_
        clear hK K
        (try simp only [Act.put, List.setIfInBounds_toArray, List.set_cons_zero, List.set_cons_succ])
        generalize w2.alloc (.cells #[.int .i64 m, .int .i64 sv, .string lt] 75) = w3 at NB ⊢
        generalize w2.heap.size = q3 at NB ⊢
        have G3 := Lib.hid (G2.out.trans NB.out.1)
        have OW3 := Lib.hid (OW2.out.gr NB.out.1)
        have HQ3 := Lib.hid (bheap_gr NB.out.1 HQ2.out)
        have NB3 := Lib.hid NB.out.2
        clear NB OW2 G2 HQ2
        refine till_one (i := 11) (by kernel_rfl) rfl (fun K hK => ?_)
        (refine step_append_lies _ (by rfl) _ _ 71 (by rfl) w.heap.size 75 i0 (.agg #[.int .i64 0, .int .i64 0, .string .empty]) 3 32 Tryz.underlying71 I1.out I2.out I3.out I4.out (by rfl) (by omega) (.slice A2 kk c2) L.length (L.flatMap TurD.cells) (by rfl) OW3.out ⟨q3, 0, none⟩ 1 1 [.int .i64 m, .int .i64 sv, .string lt] (by rfl) (by rfl) (World.news_of_block NB3.out) (tu_one ⟨m, sv, lt⟩) (by omega) (by have := LN.out; unfold maxLen; omega) (by have := LN.out; omega) (Below.size G3.out) w3.heap.size rfl ?_)
        intro g cap w4 hown hgrow hat hlt4
        refine hK.out _ _ (Or.inr (heap_far hgrow HQ3.out (own_far OW3.out HQ3.out (by decide)))) ?_
        clear hK K
        (try simp only [Act.put, List.setIfInBounds_toArray, List.set_cons_zero, List.set_cons_succ])
        have HQ4 := Lib.hid (heap_far hgrow HQ3.out (own_far OW3.out HQ3.out (by decide)))
        have OW4 := Lib.hid (own_more TK.out hown)
        rw [LL.out] at OW4
        have G4 := Lib.hid (grown_gr G3.out hgrow (own_base OW3.out))
        clear hown hgrow hat hlt4 OW3 HQ3 NB3 G3
        refine till_one (i := 12) (by kernel_rfl) rfl (fun K hK => ?_)
        go_simp
        refine hK.out _ _ (Or.inl (by kernel_rfl)) ?_
        clear hK K
        (try simp only [Act.put, List.setIfInBounds_toArray, List.set_cons_zero, List.set_cons_succ])
        refine till_done (by kernel_rfl) ?_ _
        refine NoPanic.normal ?_
        have x9 := bcell_row (i := 9) HQ4.out rfl
        go_wp2_with fail
        clear x9
        go_roundw
        case rel => exact ⟨kk + 1, sv, by omega, by go_num, rfl, by omega, by omega, SVN, OW4, RS, G4⟩
        case measure => simp [intOf]; omega

      · obtain ⟨k', rfl⟩ : ∃ k', kk = k' + 1 := ⟨kk - 1, by omega⟩
        have kz : (k' : Int) + 1 > 0 := by omega
        have qz : ((k' : Int) + 1 - 1) = (k' : Int) := by omega
        have qw : IntKind.i64.wrap ((k' : Int) + 1 - 1) = (k' : Int) := by rw [IntKind.wrap_i64]; omega
        obtain ⟨⟨pat, psv, plt⟩, hpx⟩ := get_lt (show k' < TL.length by have := HN.out; omega)
        have TP := Lib.hid hpx
        have hp : (TL.take (k' + 1))[k']? = some (⟨pat, psv, plt⟩ : TurD) := by rw [List.getElem?_take, if_pos (by omega)]; exact hpx
        have HP := Lib.hid hp
        have PB : -4000000000 ≤ pat ∧ pat ≤ 7000000000 := by
          obtain ⟨p', hp'⟩ := get_lt (show k' < l.length by omega)
          have e1 := HT.out k' p' hp'
          rw [hpx] at e1
          injection e1 with e1
          have e2 := IN.out (svAt l k') p' (HO.out _ (get_mem hp')) (SB.out k').1 (SB.out k').2
          rw [← e1] at e2
          exact e2
        obtain ⟨pb1, pb2⟩ := PB
        obtain ⟨b2, off2, rfl, d0, _, _⟩ := Row.three (OW.out.row tu_len) hp rfl (Gr.refl w1)
        clear hpx hp
        by_cases hle : m ≤ pat
        · have NR : Hid (riseB TL = false) := rise_not TP.out TX.out hle
          go_wp2_with fail
          go_ret2
          exact Or.inr ⟨NR.out, rfl, G1.out⟩
        · have RS : Hid (Rise (TL.take (k' + 1 + 1))) := by
            unfold Hid
            rw [TK.out]
            exact rise_snoc hri.out (by rw [LT.out]; exact HP.out) (show pat < m by omega)
          obtain ⟨L, hL⟩ : ∃ L, TL.take (k' + 1) = L := ⟨_, rfl⟩
          have LL : Hid (L.length = k' + 1) := by rw [← hL]; exact LT.out
          rw [hL] at TK OWD LN
          clear hL OW hri HP TP
          have hkl := LL.out
          obtain ⟨A2, hA⟩ : ∃ A, A = some (⟨b2, off2, none⟩ : Addr) := ⟨_, rfl⟩
          go_wp2_with fail
          clear d0 qz qw
          rw [← hA] at OWD ⊢
          clear hA
          refine wp_region_noPanic ?_
          refine till_start 12 (fun wx => wx.heap[q]? = some (.cells #[.string znm, .int .i64 fr, .int .i64 tt, .int .i64 mo, .int .i64 zk, .int .i64 d, .int .i64 n, .int .i64 at', .int .i64 by', .int .i64 sv, .string lt, .int .i64 no] 163 (0, 0))) (by kernel_rfl) HQ.out (fun hHeld => ?_)
          (try dsimp only at hHeld)
          have G1d := Lib.hid (G1.out.trans (Gr.drew w1))
          generalize w1.drew = wd at hHeld G1d OWD ⊢
          clear G1
          refine till_take (i := 0) (oi := { dst := some 37, op := _, type := _, pos := _, after := _, guard := _ }) (v := ?v9) rfl (by kernel_rfl) (by kernel_rfl) (by kernel_rfl) (by kernel_rfl) (fun _ _ _ h => h) (Or.inl ⟨by rfl, ?hy9⟩) (by assumption) ?rest9
          case hy9 => (intro w hSw; go_simp <;> (with_reducible rfl))
          (try simp only [Act.put, List.setIfInBounds_toArray, List.set_cons_zero, List.set_cons_succ])
          refine till_take (i := 1) (oi := { dst := some 38, op := _, type := _, pos := _, after := _, guard := _ }) (v := ?v10) rfl (by kernel_rfl) (by kernel_rfl) (by kernel_rfl) (by kernel_rfl) (fun _ _ _ h => h) (Or.inl ⟨by rfl, ?hy10⟩) (by assumption) ?rest10
          case hy10 => (intro w hSw; go_simp <;> (with_reducible rfl))
          (try simp only [Act.put, List.setIfInBounds_toArray, List.set_cons_zero, List.set_cons_succ])
          refine till_take (i := 2) (oi := { dst := some 39, op := _, type := _, pos := _, after := _, guard := _ }) (v := ?v11) rfl (by kernel_rfl) (by kernel_rfl) (by kernel_rfl) (by kernel_rfl) (fun _ _ _ h => h) (Or.inl ⟨by rfl, ?hy11⟩) (by assumption) ?rest11
          case hy11 => (intro w hSw; go_simp <;> (with_reducible rfl))
          (try simp only [Act.put, List.setIfInBounds_toArray, List.set_cons_zero, List.set_cons_succ])
          refine till_take (i := 3) (oi := { dst := some 40, op := _, type := _, pos := _, after := _, guard := _ }) (v := ?v12) rfl (by kernel_rfl) (by kernel_rfl) (by kernel_rfl) (by kernel_rfl) (fun _ _ _ h => h) (Or.inl ⟨by rfl, ?hy12⟩) (by assumption) ?rest12
          case hy12 => (intro w hSw; go_simp <;> (with_reducible rfl))
          (try simp only [Act.put, List.setIfInBounds_toArray, List.set_cons_zero, List.set_cons_succ])
          refine till_take (i := 4) (oi := { dst := some 41, op := _, type := _, pos := _, after := _, guard := _ }) (v := ?v13) rfl (by kernel_rfl) (by kernel_rfl) (by kernel_rfl) (by kernel_rfl) (fun _ _ _ h => h) (Or.inl ⟨by rfl, ?hy13⟩) (by assumption) ?rest13
          case hy13 => (intro w hSw; have c9 := bcell_row (i := 9) hSw rfl; go_simp <;> (with_reducible rfl))
          (try simp only [Act.put, List.setIfInBounds_toArray, List.set_cons_zero, List.set_cons_succ])
          refine till_take (i := 5) (oi := { dst := some 42, op := _, type := _, pos := _, after := _, guard := _ }) (v := ?v14) rfl (by kernel_rfl) (by kernel_rfl) (by kernel_rfl) (by kernel_rfl) (fun _ _ _ h => h) (Or.inl ⟨by rfl, ?hy14⟩) (by assumption) ?rest14
          case hy14 => (intro w hSw; go_simp <;> (with_reducible rfl))
          (try simp only [Act.put, List.setIfInBounds_toArray, List.set_cons_zero, List.set_cons_succ])
          refine till_take (i := 6) (oi := { dst := some 43, op := _, type := _, pos := _, after := _, guard := _ }) (v := ?v15) rfl (by kernel_rfl) (by kernel_rfl) (by kernel_rfl) (by kernel_rfl) (fun _ _ _ h => h) (Or.inl ⟨by rfl, ?hy15⟩) (by assumption) ?rest15
          case hy15 => (intro w hSw; go_simp <;> (with_reducible rfl))
          (try simp only [Act.put, List.setIfInBounds_toArray, List.set_cons_zero, List.set_cons_succ])
          refine till_take (i := 7) (oi := { dst := some 44, op := _, type := _, pos := _, after := _, guard := _ }) (v := ?v16) rfl (by kernel_rfl) (by kernel_rfl) (by kernel_rfl) (by kernel_rfl) (fun _ _ _ h => h) (Or.inl ⟨by rfl, ?hy16⟩) (by assumption) ?rest16
          case hy16 => (intro w hSw; have c10 := bcell_row (i := 10) hSw rfl; go_simp <;> (with_reducible rfl))
          (try simp only [Act.put, List.setIfInBounds_toArray, List.set_cons_zero, List.set_cons_succ])
          refine till_one (i := 8) (by kernel_rfl) rfl (fun K hK => ?_)
          go_simp
          (with_reducible refine (KC.out lt _ SM.out).mono ?_)
          rintro e w2 ⟨rfl, g2⟩
          (go_wp2_with fail)
          refine hK.out _ _ (Or.inr (bheap_gr g2 hHeld)) ?_
          clear hK K
          (try simp only [Act.put, List.setIfInBounds_toArray, List.set_cons_zero, List.set_cons_succ])
          have HQ2 := Lib.hid (bheap_gr g2 hHeld)
          have G2 := Lib.hid (G1d.out.trans g2)
          have OW2 := Lib.hid (OWD.out.gr g2)
          clear g2 hHeld G1d OWD
          refine till_one (i := 9) (by kernel_rfl) rfl (fun K hK => ?_)
          go_simp
          refine hK.out _ _ (Or.inr HQ2.out) ?_
          clear hK K
          (try simp only [Act.put, List.setIfInBounds_toArray, List.set_cons_zero, List.set_cons_succ])
          have NB := Lib.hid (box_one w2 (.cells #[.int .i64 m, .int .i64 sv, .string lt] 75))
          refine till_one (i := 10) (by kernel_rfl) rfl (fun K hK => ?_)
          go_simp
          refine hK.out _ _ (Or.inr (bheap_gr NB.out.1 HQ2.out)) ?_
          clear hK K
          (try simp only [Act.put, List.setIfInBounds_toArray, List.set_cons_zero, List.set_cons_succ])
          generalize w2.alloc (.cells #[.int .i64 m, .int .i64 sv, .string lt] 75) = w3 at NB ⊢
          generalize w2.heap.size = q3 at NB ⊢
          have G3 := Lib.hid (G2.out.trans NB.out.1)
          have OW3 := Lib.hid (OW2.out.gr NB.out.1)
          have HQ3 := Lib.hid (bheap_gr NB.out.1 HQ2.out)
          have NB3 := Lib.hid NB.out.2
          clear NB OW2 G2 HQ2
          refine till_one (i := 11) (by kernel_rfl) rfl (fun K hK => ?_)
          (refine step_append_lies _ (by rfl) _ _ 71 (by rfl) w.heap.size 75 i0 (.agg #[.int .i64 0, .int .i64 0, .string .empty]) 3 32 Tryz.underlying71 I1.out I2.out I3.out I4.out (by rfl) (by omega) (.slice A2 (k' + 1) c2) L.length (L.flatMap TurD.cells) (by rfl) OW3.out ⟨q3, 0, none⟩ 1 1 [.int .i64 m, .int .i64 sv, .string lt] (by rfl) (by rfl) (World.news_of_block NB3.out) (tu_one ⟨m, sv, lt⟩) (by omega) (by have := LN.out; unfold maxLen; omega) (by have := LN.out; omega) (Below.size G3.out) w3.heap.size rfl ?_)
          intro g cap w4 hown hgrow hat hlt4
          refine hK.out _ _ (Or.inr (heap_far hgrow HQ3.out (own_far OW3.out HQ3.out (by decide)))) ?_
          clear hK K
          (try simp only [Act.put, List.setIfInBounds_toArray, List.set_cons_zero, List.set_cons_succ])
          have HQ4 := Lib.hid (heap_far hgrow HQ3.out (own_far OW3.out HQ3.out (by decide)))
          have OW4 := Lib.hid (own_more TK.out hown)
          rw [LL.out] at OW4
          have G4 := Lib.hid (grown_gr G3.out hgrow (own_base OW3.out))
          clear hown hgrow hat hlt4 OW3 HQ3 NB3 G3
          refine till_one (i := 12) (by kernel_rfl) rfl (fun K hK => ?_)
          go_simp
          refine hK.out _ _ (Or.inl (by kernel_rfl)) ?_
          clear hK K
          (try simp only [Act.put, List.setIfInBounds_toArray, List.set_cons_zero, List.set_cons_succ])
          refine till_done (by kernel_rfl) ?_ _
          refine NoPanic.normal ?_
          have x9 := bcell_row (i := 9) HQ4.out rfl
          go_wp2_with fail
          clear x9
          go_roundw
          case rel => exact ⟨k' + 1 + 1, sv, by omega, by go_num, rfl, by omega, by omega, SVN, OW4, RS, G4⟩
          case measure => simp [intOf]; omega

    · have e : kk = l.length := by omega
      have HW : Hid (Own wr w.heap.size 75 3 TurD.cells (.slice A2 kk c2) TL) := by have := hw.out; rw [e, ← HN.out, List.take_length] at this; rw [e, ← HN.out]; exact this
      have HRI : Hid (riseB TL = true) := by have := hri.out; rw [e, ← HN.out, List.take_length] at this; exact (rise_iff TL).2 this
      have FIN : Hid (TursAt wr A2 c2 TL) := ⟨⟨by rw [HN.out, ← e]; exact hc1, hc2⟩, HW.out.row tu_len⟩
      have FR : Hid (∀ a, A2 = some a → w.heap.size ≤ a.block) := own_atF HW.out
      have EE := Lib.hid e
      clear e hw hri HW
      go_wp2_with fail
      go_ret2
      exact Or.inl ⟨HRI.out, _, _, by rw [EE.out]; rfl, FIN.out, hg.out, FR.out⟩

end Go.Proofs.YtkmgildnhnjepaaGreatDoor
