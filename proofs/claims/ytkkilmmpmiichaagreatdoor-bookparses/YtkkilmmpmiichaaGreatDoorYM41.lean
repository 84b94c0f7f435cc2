/- What the project's readEra of package book returns. -/
import Derived.Deep.DeepCutAuto
import Derived.Test.YtkkilmmpmiichaaGreatDoorYM40
import Derived.Test.YtkkilmmpmiichaaGreatDoorYM26
import Derived.Test.YtkkilmmpmiichaaGreatDoorYM15
import Derived.Test.YtkkilmmpmiichaaGreatDoorYM36
namespace Go.Proofs.YtkkilmmpmiichaaGreatDoor
set_option linter.unusedVariables false
set_option linter.unusedSimpArgs false
open Go.RowKit
theorem trim_max {t : ByteArray} (hs : t.size ≤ 60000) : (Lib.trimPrefix (wd t 2).toList [45]).length ≤ maxLen := by
  have a := wd_size (t := t) 2
  have b : (Lib.trimPrefix (wd t 2).toList [45]).length ≤ (wd t 2).toList.length := by unfold Lib.trimPrefix; split <;> simp
  rw [← size_toList] at b
  unfold maxLen; omega

theorem cutPrefix_any (s : ByteArray) (w : World) : Calls Tryz.prog 92 #[.string s, .string ⟨#[45]⟩] w fun e w' => e = .returned (.tuple #[.string (S (Lib.trimPrefix s.toList [45])), .bool (Lib.hasPrefix s.toList [45])]) ∧ Gr w w' := gives_prefix s w

set_option maxRecDepth 100000 in
theorem clo_num (x e : Int) (good : Bool) (bx : Nat) (w : World) (hb : Box w bx good) :
    Calls Tryz.prog 90 #[.int .i64 x, .int .i64 e, .pointer (some ⟨bx, 0, none⟩)] w fun en w' => en = .returned (.int .i64 x) ∧ w.setCell ⟨bx, 0, none⟩ (.bool (good && (e == 0))) = w' := by
  have c0 := hb.cell
  have f0 := hb.frozen
  clear hb
  obtain ⟨q, eq⟩ : ∃ q, (e == 0) = q := ⟨_, rfl⟩
  rw [eq]
  cases good <;> cases q
  all_goals
    go_enter Tryz.func90, Tryz.ntmps90
    go_wp2
    go_ret
    exact ⟨rfl, rfl⟩

/-- what the walk over readEra carries: the words, the result's block, the box -/
structure RE (t : ByteArray) (w W : World) (gw L b0 bx : Nat) (good : Bool) : Prop where
  gr : Gr w W
  z : W.heap[b0]? = some (.cells #[.int .i64 0, .string ⟨#[]⟩, .int .i64 0, .string ⟨#[]⟩, .int .i64 0] 52 (0, 0))
  bxv : Box W bx good
  cell : ∀ j, j < L → W.cell? ⟨gw, j, none⟩ = some (.string (wd t j))
  gwl : gw < w.heap.size
  b0l : w.heap.size ≤ b0
  bxl : w.heap.size ≤ bx
  ne : b0 ≠ bx

/-- the era under way -/
structure ER (w W : World) (b0 bx be : Nat) (row : Array Value) : Prop where
  h : W.heap[be]? = some (.cells row 52 (0, 0))
  l : w.heap.size ≤ be
  n0 : be ≠ b0
  n1 : be ≠ bx

section
variable {t : ByteArray} {w W W' : World} {gw L b0 bx be : Nat} {good : Bool} {row : Array Value}
theorem RE.gr' (h : RE t w W gw L b0 bx good) (g : Gr W W') : RE t w W' gw L b0 bx good :=
  { h with gr := h.gr.trans g, z := bheap_gr g h.z, bxv := h.bxv.gr g, cell := fun j hj => g.holds (h.cell j hj) }
theorem RE.set (h : RE t w W gw L b0 bx good) (u : Bool) : RE t w (W.setCell ⟨bx, 0, none⟩ (.bool u)) gw L b0 bx u :=
  { h with gr := Below.setCell h.gr h.bxl _, z := (heap_set_ne W ⟨bx, 0, none⟩ _ h.ne).trans h.z, bxv := h.bxv.set u, cell := fun j hj => (World.cell?_of_block (heap_set_ne W ⟨bx, 0, none⟩ _ (by have := h.gwl; have := h.bxl; show gw ≠ bx; omega))).trans (h.cell j hj) }
theorem RE.era (h : RE t w W gw L b0 bx good) (e : ER w W b0 bx be row) (j : Nat) (u : Value) : RE t w (W.setCell ⟨be, j, none⟩ u) gw L b0 bx good :=
  { h with gr := Below.setCell h.gr e.l _, z := (heap_set_ne W ⟨be, j, none⟩ _ (Ne.symm e.n0)).trans h.z, bxv := (heap_set_ne W ⟨be, j, none⟩ _ (Ne.symm e.n1)).trans h.bxv, cell := fun i hi => (World.cell?_of_block (heap_set_ne W ⟨be, j, none⟩ _ (by have := h.gwl; have := e.l; show gw ≠ be; omega))).trans (h.cell i hi) }
theorem ER.gr' (h : ER w W b0 bx be row) (g : Gr W W') : ER w W' b0 bx be row := { h with h := bheap_gr g h.h }
theorem ER.box (h : ER w W b0 bx be row) (u : Bool) : ER w (W.setCell ⟨bx, 0, none⟩ (.bool u)) b0 bx be row := { h with h := (heap_set_ne W ⟨bx, 0, none⟩ _ h.n1).trans h.h }
theorem ER.set (h : ER w W b0 bx be row) (j : Nat) (u : Value) : ER w (W.setCell ⟨be, j, none⟩ u) b0 bx be (row.setIfInBounds j u) := { h with h := blk_set h.h }
theorem RE.new (h : RE t w W gw L b0 bx good) (row : Array Value) : RE t w (W.alloc (.cells row 52)) gw L b0 bx good ∧ ER w (W.alloc (.cells row 52)) b0 bx W.heap.size row :=
  ⟨h.gr' (Gr.alloc _ _), bheap_new _ _, Below.size h.gr, (fun e => by have := (Array.getElem?_eq_some_iff.1 h.z).1; omega), (fun e => by have := h.bxv.lt; omega)⟩
theorem RE.first (hgw : gw < w.heap.size) (hc : ∀ j, j < L → w.cell? ⟨gw, j, none⟩ = some (.string (wd t j))) : RE t w ((w.alloc (.cells #[.int .i64 0, .string ⟨#[]⟩, .int .i64 0, .string ⟨#[]⟩, .int .i64 0] 52)).alloc (.cells #[.bool true] 4)) gw L w.heap.size (w.heap.size + 1) true := by
  have b := box_two w (.cells #[.int .i64 0, .string ⟨#[]⟩, .int .i64 0, .string ⟨#[]⟩, .int .i64 0] 52) (.cells #[.bool true] 4)
  exact ⟨b.1, b.2.1, b.2.2, fun j hj => b.1.holds (hc j hj), hgw, Nat.le_refl _, Nat.le_succ _, by omega⟩
/-- an era stored cell by cell -/
theorem store5 {r0 r1 r2 r3 r4 : Value} (h : RE t w W gw L b0 bx good) (e : ER w W b0 bx be #[r0, r1, r2, r3, r4]) (v0 v1 v2 v3 v4 : Value) :
    RE t w (((((W.setCell ⟨be, 0, none⟩ v0).setCell ⟨be, 1, none⟩ v1).setCell ⟨be, 2, none⟩ v2).setCell ⟨be, 3, none⟩ v3).setCell ⟨be, 4, none⟩ v4) gw L b0 bx good ∧ ER w (((((W.setCell ⟨be, 0, none⟩ v0).setCell ⟨be, 1, none⟩ v1).setCell ⟨be, 2, none⟩ v2).setCell ⟨be, 3, none⟩ v3).setCell ⟨be, 4, none⟩ v4) b0 bx be #[v0, v1, v2, v3, v4] := by
  have h0 := h.era e 0 v0
  have e0 := e.set 0 v0
  have h1 := h0.era e0 1 v1
  have e1 := e0.set 1 v1
  have h2 := h1.era e1 2 v2
  have e2 := e1.set 2 v2
  have h3 := h2.era e2 3 v3
  have e3 := e2.set 3 v3
  exact ⟨h3.era e3 4 v4, e3.set 4 v4⟩
/-- .. into the result -/
theorem store5z (h : RE t w W gw L b0 bx good) (e : ER w W b0 bx be row) (v0 v1 v2 v3 v4 : Value) :
    (((((W.setCell ⟨b0, 0, none⟩ v0).setCell ⟨b0, 1, none⟩ v1).setCell ⟨b0, 2, none⟩ v2).setCell ⟨b0, 3, none⟩ v3).setCell ⟨b0, 4, none⟩ v4).heap[b0]? = some (.cells #[v0, v1, v2, v3, v4] 52 (0, 0)) ∧
    (((((W.setCell ⟨b0, 0, none⟩ v0).setCell ⟨b0, 1, none⟩ v1).setCell ⟨b0, 2, none⟩ v2).setCell ⟨b0, 3, none⟩ v3).setCell ⟨b0, 4, none⟩ v4).heap[be]? = some (.cells row 52 (0, 0)) ∧
    (((((W.setCell ⟨b0, 0, none⟩ v0).setCell ⟨b0, 1, none⟩ v1).setCell ⟨b0, 2, none⟩ v2).setCell ⟨b0, 3, none⟩ v3).setCell ⟨b0, 4, none⟩ v4).cell? ⟨bx, 0, none⟩ = some (.bool good) ∧
    Gr w (((((W.setCell ⟨b0, 0, none⟩ v0).setCell ⟨b0, 1, none⟩ v1).setCell ⟨b0, 2, none⟩ v2).setCell ⟨b0, 3, none⟩ v3).setCell ⟨b0, 4, none⟩ v4) := by
  refine ⟨blk_set (blk_set (blk_set (blk_set (blk_set h.z)))), ?_, ?_, Below.setCell (Below.setCell (Below.setCell (Below.setCell (Below.setCell h.gr h.b0l _) h.b0l _) h.b0l _) h.b0l _) h.b0l _⟩
  · rw [heap_set_ne _ _ _ e.n0, heap_set_ne _ _ _ e.n0, heap_set_ne _ _ _ e.n0, heap_set_ne _ _ _ e.n0, heap_set_ne _ _ _ e.n0]; exact e.h
  · have hb : (((((W.setCell ⟨b0, 0, none⟩ v0).setCell ⟨b0, 1, none⟩ v1).setCell ⟨b0, 2, none⟩ v2).setCell ⟨b0, 3, none⟩ v3).setCell ⟨b0, 4, none⟩ v4).heap[bx]? = W.heap[bx]? := by
      rw [heap_set_ne _ _ _ (Ne.symm h.ne), heap_set_ne _ _ _ (Ne.symm h.ne), heap_set_ne _ _ _ (Ne.symm h.ne), heap_set_ne _ _ _ (Ne.symm h.ne), heap_set_ne _ _ _ (Ne.symm h.ne)]
    exact (World.cell?_of_block (a := ⟨bx, 0, none⟩) hb).trans h.bxv.cell
end
set_option maxRecDepth 100000 in
set_option maxHeartbeats 20000000 in
theorem preadEra4 (t : ByteArray) (gw c L : Nat) (w : World) (hL : L = 4) (hs : t.size ≤ 60000) (h5 : (bl t).length = 4) (hcap : 4 ≤ c) (hgw : gw < w.heap.size) (hc : ∀ j, j < 4 → w.cell? ⟨gw, j, none⟩ = some (.string (wd t j))) (hl : HasLen w) :
    Calls Tryz.prog 57 #[.slice (some ⟨gw, 0, none⟩) 4 c] w fun e w' => e = .returned (.tuple #[eraV (eraR t).1, .bool (eraR t).2]) ∧ Gr w w' := by
  have KS1 := Lib.hid (fun w => readSpan_ans (wd t 1) w (wd_max hs 1))
  have SV1 : Hid (∀ e, SpanAns (wd t 1).toList e → e = two (spanV (wd t 1).toList).1 (spanV (wd t 1).toList).2) := fun e h => spanV_ans h
  have KS2 := Lib.hid (fun w => readSpan_ans (S (Lib.trimPrefix (wd t 2).toList [45])) w (by rw [S_size]; exact trim_max hs))
  rw [S_toList] at KS2
  have SV2 : Hid (∀ e, SpanAns (Lib.trimPrefix (wd t 2).toList [45]) e → e = two (spanV (Lib.trimPrefix (wd t 2).toList [45])).1 (spanV (Lib.trimPrefix (wd t 2).toList [45])).2) := fun e h => spanV_ans h
  have KT := Lib.hid (fun w hl => readStamp_any (wd t 4) w hl (wd_max hs 4))
  have TV := Lib.hid (stmpV_ans (wd t 4).toList)
  have KX := Lib.hid (fun w => cutPrefix_any (wd t 2) w)
  have KN := Lib.hid (fun w => pname_any (wd t 2) w (wd_max hs 2))
  have KC := Lib.hid (fun x e good w hb => clo_num x e good (w.heap.size + 1 - w.heap.size + 0) w hb)
  clear KC
  have KC := Lib.hid (fun x e good W hb => clo_num x e good (w.heap.size + 1) W hb)
  have CL2 := Lib.hid (fun w => clone_any (wd t 2) w (Nat.le_trans (wd_size 2) (by omega)))
  have CL3 := Lib.hid (fun w => clone_any (wd t 3) w (Nat.le_trans (wd_size 3) (by omega)))
  have FE : Hid (eraR t = (⟨(spanV (wd t 1).toList).1, if Lib.hasPrefix (wd t 2).toList [45] = true then ByteArray.mk #[] else wd t 2, if Lib.hasPrefix (wd t 2).toList [45] = true then (spanV (Lib.trimPrefix (wd t 2).toList [45])).1 else 0, wd t 3, 0⟩,
    ((spanV (wd t 1).toList).2 == 0) && (if Lib.hasPrefix (wd t 2).toList [45] = true then (spanV (Lib.trimPrefix (wd t 2).toList [45])).2 == 0 else isNameB (wd t 2).toList) && true)) := by
    unfold Hid eraR
    simp only [h5]
    rfl
  have HL := Lib.hid hl
  have RR1 : Hid (RE t w ((w.alloc (.cells #[.int .i64 0, .string ⟨#[]⟩, .int .i64 0, .string ⟨#[]⟩, .int .i64 0] 52)).alloc (.cells #[.bool true] 4)) gw L w.heap.size (w.heap.size + 1) true) := by rw [hL]; exact RE.first hgw hc
  generalize spanV (wd t 1).toList = a at SV1 FE
  obtain ⟨a1, a2⟩ := a
  generalize spanV (Lib.trimPrefix (wd t 2).toList [45]) = s at SV2 FE
  obtain ⟨s1, s2⟩ := s
  generalize stmpV (wd t 4).toList = u at TV FE
  obtain ⟨u1, u2⟩ := u
  generalize isNameB (wd t 2).toList = bn at KN FE
  simp only at SV1 SV2 TV FE
  generalize Lib.hasPrefix (wd t 2).toList [45] = pf at KX FE
  generalize S (Lib.trimPrefix (wd t 2).toList [45]) = sp at KX KS2
  have l1 : (1 : Int) < ((4 : Nat) : Int) := by decide
  have l3 : (3 : Int) < ((4 : Nat) : Int) := by decide
  have l4 : 3 < L := by omega
  clear hs h5 hc hl
  go_enter Tryz.func57, Tryz.ntmps57
  go_upto_region 3 with fail
  generalize (w.alloc (.cells #[.int .i64 0, .string ⟨#[]⟩, .int .i64 0, .string ⟨#[]⟩, .int .i64 0] 52)).alloc (.cells #[.bool true] 4) = w1 at RR1 ⊢
  go_cut [6] (fun s6 wx => ∃ be : Nat, s6 = .pointer (some ⟨be, 0, none⟩) ∧ Hid (RE t w wx gw L w.heap.size (w.heap.size + 1) (a2 == 0)) ∧ Hid (ER w wx w.heap.size (w.heap.size + 1) be #[.int .i64 a1, .string ⟨#[]⟩, .int .i64 0, .string (wd t 3), .int .i64 0]))
  case first =>
    refine wp_region_noPanic ?_
    refine till_start 14 (fun wx => wx.cell? ⟨gw, 1, none⟩ = some (.string (wd t 1)) ∧ wx.cell? ⟨gw, 3, none⟩ = some (.string (wd t 3))) (by kernel_rfl) ⟨RR1.out.cell 1 (by omega), RR1.out.cell 3 (by omega)⟩ (fun hHeld => ?_)
    (try dsimp only at hHeld)
    have RR2 := Lib.hid (RR1.out.gr' (Gr.drew w1))
    generalize w1.drew = w2 at RR2 hHeld ⊢
    clear RR1
    refine till_take (i := 0) (oi := { dst := some 10, op := _, type := _, pos := _, after := _, guard := _ }) (v := ?v1) rfl (by kernel_rfl) (by kernel_rfl) (by kernel_rfl) (by kernel_rfl) (fun _ _ _ h => h) (Or.inl ⟨by rfl, ?hy1⟩) (by assumption) ?rest1
    case hy1 => (intro w hSw; go_simp <;> (with_reducible rfl))
    (try simp only [Act.put, List.setIfInBounds_toArray, List.set_cons_zero, List.set_cons_succ])
    refine till_take (i := 1) (oi := { dst := some 11, op := _, type := _, pos := _, after := _, guard := _ }) (v := ?v2) rfl (by kernel_rfl) (by kernel_rfl) (by kernel_rfl) (by kernel_rfl) (fun _ _ _ h => h) (Or.inl ⟨by rfl, ?hy2⟩) (by assumption) ?rest2
    case hy2 => (intro w hSw; go_simp <;> (with_reducible rfl))
    (try simp only [Act.put, List.setIfInBounds_toArray, List.set_cons_zero, List.set_cons_succ])
    refine till_take (i := 8) (oi := { dst := some 18, op := _, type := _, pos := _, after := _, guard := _ }) (v := ?v3) rfl (by kernel_rfl) (by kernel_rfl) (by kernel_rfl) (by kernel_rfl) (fun _ _ _ h => h) (Or.inl ⟨by rfl, ?hy3⟩) (by assumption) ?rest3
    case hy3 => (intro w hSw; go_simp <;> (with_reducible rfl))
    (try simp only [Act.put, List.setIfInBounds_toArray, List.set_cons_zero, List.set_cons_succ])
    refine till_take (i := 2) (oi := { dst := some 12, op := _, type := _, pos := _, after := _, guard := _ }) (v := ?v4) rfl (by kernel_rfl) (by kernel_rfl) (by kernel_rfl) (by kernel_rfl) (fun _ _ _ h => h) (Or.inl ⟨by rfl, ?hy4⟩) (by assumption) ?rest4
    case hy4 => (intro w hSw; go_simp <;> (with_reducible rfl))
    (try simp only [Act.put, List.setIfInBounds_toArray, List.set_cons_zero, List.set_cons_succ])
    refine till_take (i := 9) (oi := { dst := some 19, op := _, type := _, pos := _, after := _, guard := _ }) (v := ?v5) rfl (by kernel_rfl) (by kernel_rfl) (by kernel_rfl) (by kernel_rfl) (fun _ _ _ h => h) (Or.inl ⟨by rfl, ?hy5⟩) (by assumption) ?rest5
    case hy5 => (intro w hSw; go_simp <;> (with_reducible rfl))
    (try simp only [Act.put, List.setIfInBounds_toArray, List.set_cons_zero, List.set_cons_succ])
    refine till_take (i := 3) (oi := { dst := some 13, op := _, type := _, pos := _, after := _, guard := _ }) (v := ?v6) rfl (by kernel_rfl) (by kernel_rfl) (by kernel_rfl) (by kernel_rfl) (fun _ _ _ h => h) (Or.inl ⟨by rfl, ?hy6⟩) (by assumption) ?rest6
    case hy6 => (intro w hSw; have c1 := hSw.1; go_simp <;> (with_reducible rfl))
    (try simp only [Act.put, List.setIfInBounds_toArray, List.set_cons_zero, List.set_cons_succ])
    refine till_take (i := 10) (oi := { dst := some 20, op := _, type := _, pos := _, after := _, guard := _ }) (v := ?v7) rfl (by kernel_rfl) (by kernel_rfl) (by kernel_rfl) (by kernel_rfl) (fun _ _ _ h => h) (Or.inl ⟨by rfl, ?hy7⟩) (by assumption) ?rest7
    case hy7 => (intro w hSw; have c3 := hSw.2; go_simp <;> (with_reducible rfl))
    (try simp only [Act.put, List.setIfInBounds_toArray, List.set_cons_zero, List.set_cons_succ])
    refine till_two (i := 4) (j := 13) (by kernel_rfl) rfl rfl (fun K hK => ?_) (fun K hK => ?_)
    · go_simp
      (with_reducible refine (KS1.out _).mono ?_)
      rintro e W8 ⟨hv, g8⟩
      obtain rfl := SV1.out e hv
      clear hv
      (go_wp2_with fail)
      have R8 := Lib.hid (RR2.out.gr' g8)
      refine hK.out _ _ (Or.inr ⟨R8.out.cell 1 (by omega), R8.out.cell 3 (by omega)⟩) ?_
      clear hK K
      (try simp only [Act.put, List.setIfInBounds_toArray, List.set_cons_zero, List.set_cons_succ])
      clear g8
      have hHeld : W8.cell? ⟨gw, 1, none⟩ = some (.string (wd t 1)) ∧ W8.cell? ⟨gw, 3, none⟩ = some (.string (wd t 3)) := ⟨R8.out.cell 1 (by omega), R8.out.cell 3 (by omega)⟩
      clear RR2
      refine till_take (i := 5) (oi := { dst := some 15, op := _, type := _, pos := _, after := _, guard := _ }) (v := ?v9) rfl (by kernel_rfl) (by kernel_rfl) (by kernel_rfl) (by kernel_rfl) (fun _ _ _ h => h) (Or.inl ⟨by rfl, ?hy9⟩) (by assumption) ?rest9
      case hy9 => (intro w hSw; go_simp <;> (with_reducible rfl))
      (try simp only [Act.put, List.setIfInBounds_toArray, List.set_cons_zero, List.set_cons_succ])
      refine till_take (i := 6) (oi := { dst := some 16, op := _, type := _, pos := _, after := _, guard := _ }) (v := ?v10) rfl (by kernel_rfl) (by kernel_rfl) (by kernel_rfl) (by kernel_rfl) (fun _ _ _ h => h) (Or.inl ⟨by rfl, ?hy10⟩) (by assumption) ?rest10
      case hy10 => (intro w hSw; go_simp <;> (with_reducible rfl))
      (try simp only [Act.put, List.setIfInBounds_toArray, List.set_cons_zero, List.set_cons_succ])
      refine till_two (i := 7) (j := 13) (by kernel_rfl) rfl rfl (fun K hK => ?_) (fun K hK => ?_)
      · go_simp
        (with_reducible refine (KC.out a1 a2 true W8 R8.out.bxv).mono ?_)
        rintro e W11 ⟨rfl, hw11⟩
        (go_wp2_with fail)
        have R11 : Hid (RE t w W11 gw L w.heap.size (w.heap.size + 1) (a2 == 0)) := by unfold Hid; rw [← hw11]; exact R8.out.set _
        refine hK.out _ _ (Or.inr ⟨R11.out.cell 1 (by omega), R11.out.cell 3 (by omega)⟩) ?_
        clear hK K
        (try simp only [Act.put, List.setIfInBounds_toArray, List.set_cons_zero, List.set_cons_succ])
        clear hw11
        have hHeld : W11.cell? ⟨gw, 1, none⟩ = some (.string (wd t 1)) ∧ W11.cell? ⟨gw, 3, none⟩ = some (.string (wd t 3)) := ⟨R11.out.cell 1 (by omega), R11.out.cell 3 (by omega)⟩
        clear R8
        refine till_two (i := 11) (j := 13) (by kernel_rfl) rfl rfl (fun K hK => ?_) (fun K hK => ?_)
        · go_simp
          (with_reducible refine (CL3.out _).mono ?_)
          rintro e W12 ⟨rfl, g12⟩
          (go_wp2_with fail)
          have R12 := Lib.hid (R11.out.gr' g12)
          refine hK.out _ _ (Or.inr ⟨R12.out.cell 1 (by omega), R12.out.cell 3 (by omega)⟩) ?_
          clear hK K
          (try simp only [Act.put, List.setIfInBounds_toArray, List.set_cons_zero, List.set_cons_succ])
          clear g12
          have hHeld : W12.cell? ⟨gw, 1, none⟩ = some (.string (wd t 1)) ∧ W12.cell? ⟨gw, 3, none⟩ = some (.string (wd t 3)) := ⟨R12.out.cell 1 (by omega), R12.out.cell 3 (by omega)⟩
          clear R11
          refine till_take (i := 12) (oi := { dst := some 22, op := _, type := _, pos := _, after := _, guard := _ }) (v := ?v13) rfl (by kernel_rfl) (by kernel_rfl) (by kernel_rfl) (by kernel_rfl) (fun _ _ _ h => h) (Or.inl ⟨by rfl, ?hy13⟩) (by assumption) ?rest13
          case hy13 => (intro w hSw; go_simp <;> (with_reducible rfl))
          (try simp only [Act.put, List.setIfInBounds_toArray, List.set_cons_zero, List.set_cons_succ])
          refine till_one (i := 13) (by kernel_rfl) rfl (fun K hK => ?_)
          have hn14 := Lib.hid (R12.out.new #[.int .i64 0, .string ⟨#[]⟩, .int .i64 0, .string ⟨#[]⟩, .int .i64 0])
          go_simp
          refine hK.out _ _ (Or.inr ⟨hn14.out.1.cell 1 (by omega), hn14.out.1.cell 3 (by omega)⟩) ?_
          clear hK K
          (try simp only [Act.put, List.setIfInBounds_toArray, List.set_cons_zero, List.set_cons_succ])
          generalize W12.alloc (.cells #[.int .i64 0, .string ⟨#[]⟩, .int .i64 0, .string ⟨#[]⟩, .int .i64 0] 52) = W14 at hn14 ⊢
          generalize W12.heap.size = be at hn14 ⊢
          have R14 := Lib.hid hn14.out.1
          have E14 := Lib.hid hn14.out.2
          clear hn14
          have hHeld : W14.cell? ⟨gw, 1, none⟩ = some (.string (wd t 1)) ∧ W14.cell? ⟨gw, 3, none⟩ = some (.string (wd t 3)) := ⟨R14.out.cell 1 (by omega), R14.out.cell 3 (by omega)⟩
          clear R12
          refine till_one (i := 14) (by kernel_rfl) rfl (fun K hK => ?_)
          have z0 : W14.cell? ⟨be, 0, none⟩ = some (.int .i64 0) := bcell_row E14.out.h rfl
          have z1 : W14.cell? ⟨be, 1, none⟩ = some (.string ⟨#[]⟩) := bcell_row E14.out.h rfl
          have z2 : W14.cell? ⟨be, 2, none⟩ = some (.int .i64 0) := bcell_row E14.out.h rfl
          have z3 : W14.cell? ⟨be, 3, none⟩ = some (.string ⟨#[]⟩) := bcell_row E14.out.h rfl
          have z4 : W14.cell? ⟨be, 4, none⟩ = some (.int .i64 0) := bcell_row E14.out.h rfl
          have fz : ∀ i, W14.frozen? ⟨be, i, none⟩ = false := fun i => by simp [World.frozen?, E14.out.h]
          have FN := Lib.hid (store5 R14.out E14.out (.int .i64 a1) (.string ⟨#[]⟩) (.int .i64 0) (.string (wd t 3)) (.int .i64 0))
          go_simp
          clear z0 z1 z2 z3 z4 fz
          refine hK.out _ _ (Or.inl (by kernel_rfl)) ?_
          clear hK K
          (try simp only [Act.put, List.setIfInBounds_toArray, List.set_cons_zero, List.set_cons_succ])
          generalize (((((W14.setCell ⟨be, 0, none⟩ (.int .i64 a1)).setCell ⟨be, 1, none⟩ (.string ⟨#[]⟩)).setCell ⟨be, 2, none⟩ (.int .i64 0)).setCell ⟨be, 3, none⟩ (.string (wd t 3))).setCell ⟨be, 4, none⟩ (.int .i64 0)) = W15 at FN ⊢
          refine till_done (by kernel_rfl) ?_ _
          refine NoPanic.normal ?_
          go_wp2_with fail
          go_meet
          exact ⟨be, rfl, FN.out.1, FN.out.2⟩
        · have hn16 := Lib.hid (R11.out.new #[.int .i64 0, .string ⟨#[]⟩, .int .i64 0, .string ⟨#[]⟩, .int .i64 0])
          go_simp
          refine hK.out _ _ (Or.inr ⟨hn16.out.1.cell 1 (by omega), hn16.out.1.cell 3 (by omega)⟩) ?_
          clear hK K
          (try simp only [Act.put, List.setIfInBounds_toArray, List.set_cons_zero, List.set_cons_succ])
          generalize W11.alloc (.cells #[.int .i64 0, .string ⟨#[]⟩, .int .i64 0, .string ⟨#[]⟩, .int .i64 0] 52) = W16 at hn16 ⊢
          generalize W11.heap.size = be at hn16 ⊢
          have R16 := Lib.hid hn16.out.1
          have E16 := Lib.hid hn16.out.2
          clear hn16
          have hHeld : W16.cell? ⟨gw, 1, none⟩ = some (.string (wd t 1)) ∧ W16.cell? ⟨gw, 3, none⟩ = some (.string (wd t 3)) := ⟨R16.out.cell 1 (by omega), R16.out.cell 3 (by omega)⟩
          clear R11
          refine till_one (i := 11) (by kernel_rfl) rfl (fun K hK => ?_)
          go_simp
          (with_reducible refine (CL3.out _).mono ?_)
          rintro e W17 ⟨rfl, g17⟩
          (go_wp2_with fail)
          have R17 := Lib.hid (R16.out.gr' g17)
          have E17 := Lib.hid (E16.out.gr' g17)
          refine hK.out _ _ (Or.inr ⟨R17.out.cell 1 (by omega), R17.out.cell 3 (by omega)⟩) ?_
          clear hK K
          (try simp only [Act.put, List.setIfInBounds_toArray, List.set_cons_zero, List.set_cons_succ])
          clear g17
          have hHeld : W17.cell? ⟨gw, 1, none⟩ = some (.string (wd t 1)) ∧ W17.cell? ⟨gw, 3, none⟩ = some (.string (wd t 3)) := ⟨R17.out.cell 1 (by omega), R17.out.cell 3 (by omega)⟩
          clear R16 E16
          refine till_take (i := 12) (oi := { dst := some 22, op := _, type := _, pos := _, after := _, guard := _ }) (v := ?v18) rfl (by kernel_rfl) (by kernel_rfl) (by kernel_rfl) (by kernel_rfl) (fun _ _ _ h => h) (Or.inl ⟨by rfl, ?hy18⟩) (by assumption) ?rest18
          case hy18 => (intro w hSw; go_simp <;> (with_reducible rfl))
          (try simp only [Act.put, List.setIfInBounds_toArray, List.set_cons_zero, List.set_cons_succ])
          refine till_one (i := 14) (by kernel_rfl) rfl (fun K hK => ?_)
          have z0 : W17.cell? ⟨be, 0, none⟩ = some (.int .i64 0) := bcell_row E17.out.h rfl
          have z1 : W17.cell? ⟨be, 1, none⟩ = some (.string ⟨#[]⟩) := bcell_row E17.out.h rfl
          have z2 : W17.cell? ⟨be, 2, none⟩ = some (.int .i64 0) := bcell_row E17.out.h rfl
          have z3 : W17.cell? ⟨be, 3, none⟩ = some (.string ⟨#[]⟩) := bcell_row E17.out.h rfl
          have z4 : W17.cell? ⟨be, 4, none⟩ = some (.int .i64 0) := bcell_row E17.out.h rfl
          have fz : ∀ i, W17.frozen? ⟨be, i, none⟩ = false := fun i => by simp [World.frozen?, E17.out.h]
          have FN := Lib.hid (store5 R17.out E17.out (.int .i64 a1) (.string ⟨#[]⟩) (.int .i64 0) (.string (wd t 3)) (.int .i64 0))
          go_simp
          clear z0 z1 z2 z3 z4 fz
          refine hK.out _ _ (Or.inl (by kernel_rfl)) ?_
          clear hK K
          (try simp only [Act.put, List.setIfInBounds_toArray, List.set_cons_zero, List.set_cons_succ])
          generalize (((((W17.setCell ⟨be, 0, none⟩ (.int .i64 a1)).setCell ⟨be, 1, none⟩ (.string ⟨#[]⟩)).setCell ⟨be, 2, none⟩ (.int .i64 0)).setCell ⟨be, 3, none⟩ (.string (wd t 3))).setCell ⟨be, 4, none⟩ (.int .i64 0)) = W19 at FN ⊢
          refine till_done (by kernel_rfl) ?_ _
          refine NoPanic.normal ?_
          go_wp2_with fail
          go_meet
          exact ⟨be, rfl, FN.out.1, FN.out.2⟩
      · have hn20 := Lib.hid (R8.out.new #[.int .i64 0, .string ⟨#[]⟩, .int .i64 0, .string ⟨#[]⟩, .int .i64 0])
        go_simp
        refine hK.out _ _ (Or.inr ⟨hn20.out.1.cell 1 (by omega), hn20.out.1.cell 3 (by omega)⟩) ?_
        clear hK K
        (try simp only [Act.put, List.setIfInBounds_toArray, List.set_cons_zero, List.set_cons_succ])
        generalize W8.alloc (.cells #[.int .i64 0, .string ⟨#[]⟩, .int .i64 0, .string ⟨#[]⟩, .int .i64 0] 52) = W20 at hn20 ⊢
        generalize W8.heap.size = be at hn20 ⊢
        have R20 := Lib.hid hn20.out.1
        have E20 := Lib.hid hn20.out.2
        clear hn20
        have hHeld : W20.cell? ⟨gw, 1, none⟩ = some (.string (wd t 1)) ∧ W20.cell? ⟨gw, 3, none⟩ = some (.string (wd t 3)) := ⟨R20.out.cell 1 (by omega), R20.out.cell 3 (by omega)⟩
        clear R8
        refine till_one (i := 7) (by kernel_rfl) rfl (fun K hK => ?_)
        go_simp
        (with_reducible refine (KC.out a1 a2 true W20 R20.out.bxv).mono ?_)
        rintro e W21 ⟨rfl, hw21⟩
        (go_wp2_with fail)
        have R21 : Hid (RE t w W21 gw L w.heap.size (w.heap.size + 1) (a2 == 0)) := by unfold Hid; rw [← hw21]; exact R20.out.set _
        have E21 : Hid (ER w W21 w.heap.size (w.heap.size + 1) be #[.int .i64 0, .string ⟨#[]⟩, .int .i64 0, .string ⟨#[]⟩, .int .i64 0]) := by unfold Hid; rw [← hw21]; exact E20.out.box _
        refine hK.out _ _ (Or.inr ⟨R21.out.cell 1 (by omega), R21.out.cell 3 (by omega)⟩) ?_
        clear hK K
        (try simp only [Act.put, List.setIfInBounds_toArray, List.set_cons_zero, List.set_cons_succ])
        clear hw21
        have hHeld : W21.cell? ⟨gw, 1, none⟩ = some (.string (wd t 1)) ∧ W21.cell? ⟨gw, 3, none⟩ = some (.string (wd t 3)) := ⟨R21.out.cell 1 (by omega), R21.out.cell 3 (by omega)⟩
        clear R20 E20
        refine till_one (i := 11) (by kernel_rfl) rfl (fun K hK => ?_)
        go_simp
        (with_reducible refine (CL3.out _).mono ?_)
        rintro e W22 ⟨rfl, g22⟩
        (go_wp2_with fail)
        have R22 := Lib.hid (R21.out.gr' g22)
        have E22 := Lib.hid (E21.out.gr' g22)
        refine hK.out _ _ (Or.inr ⟨R22.out.cell 1 (by omega), R22.out.cell 3 (by omega)⟩) ?_
        clear hK K
        (try simp only [Act.put, List.setIfInBounds_toArray, List.set_cons_zero, List.set_cons_succ])
        clear g22
        have hHeld : W22.cell? ⟨gw, 1, none⟩ = some (.string (wd t 1)) ∧ W22.cell? ⟨gw, 3, none⟩ = some (.string (wd t 3)) := ⟨R22.out.cell 1 (by omega), R22.out.cell 3 (by omega)⟩
        clear R21 E21
        refine till_take (i := 12) (oi := { dst := some 22, op := _, type := _, pos := _, after := _, guard := _ }) (v := ?v23) rfl (by kernel_rfl) (by kernel_rfl) (by kernel_rfl) (by kernel_rfl) (fun _ _ _ h => h) (Or.inl ⟨by rfl, ?hy23⟩) (by assumption) ?rest23
        case hy23 => (intro w hSw; go_simp <;> (with_reducible rfl))
        (try simp only [Act.put, List.setIfInBounds_toArray, List.set_cons_zero, List.set_cons_succ])
        refine till_one (i := 14) (by kernel_rfl) rfl (fun K hK => ?_)
        have z0 : W22.cell? ⟨be, 0, none⟩ = some (.int .i64 0) := bcell_row E22.out.h rfl
        have z1 : W22.cell? ⟨be, 1, none⟩ = some (.string ⟨#[]⟩) := bcell_row E22.out.h rfl
        have z2 : W22.cell? ⟨be, 2, none⟩ = some (.int .i64 0) := bcell_row E22.out.h rfl
        have z3 : W22.cell? ⟨be, 3, none⟩ = some (.string ⟨#[]⟩) := bcell_row E22.out.h rfl
        have z4 : W22.cell? ⟨be, 4, none⟩ = some (.int .i64 0) := bcell_row E22.out.h rfl
        have fz : ∀ i, W22.frozen? ⟨be, i, none⟩ = false := fun i => by simp [World.frozen?, E22.out.h]
        have FN := Lib.hid (store5 R22.out E22.out (.int .i64 a1) (.string ⟨#[]⟩) (.int .i64 0) (.string (wd t 3)) (.int .i64 0))
        go_simp
        clear z0 z1 z2 z3 z4 fz
        refine hK.out _ _ (Or.inl (by kernel_rfl)) ?_
        clear hK K
        (try simp only [Act.put, List.setIfInBounds_toArray, List.set_cons_zero, List.set_cons_succ])
        generalize (((((W22.setCell ⟨be, 0, none⟩ (.int .i64 a1)).setCell ⟨be, 1, none⟩ (.string ⟨#[]⟩)).setCell ⟨be, 2, none⟩ (.int .i64 0)).setCell ⟨be, 3, none⟩ (.string (wd t 3))).setCell ⟨be, 4, none⟩ (.int .i64 0)) = W24 at FN ⊢
        refine till_done (by kernel_rfl) ?_ _
        refine NoPanic.normal ?_
        go_wp2_with fail
        go_meet
        exact ⟨be, rfl, FN.out.1, FN.out.2⟩
    · have hn25 := Lib.hid (RR2.out.new #[.int .i64 0, .string ⟨#[]⟩, .int .i64 0, .string ⟨#[]⟩, .int .i64 0])
      go_simp
      refine hK.out _ _ (Or.inr ⟨hn25.out.1.cell 1 (by omega), hn25.out.1.cell 3 (by omega)⟩) ?_
      clear hK K
      (try simp only [Act.put, List.setIfInBounds_toArray, List.set_cons_zero, List.set_cons_succ])
      generalize w2.alloc (.cells #[.int .i64 0, .string ⟨#[]⟩, .int .i64 0, .string ⟨#[]⟩, .int .i64 0] 52) = W25 at hn25 ⊢
      generalize w2.heap.size = be at hn25 ⊢
      have R25 := Lib.hid hn25.out.1
      have E25 := Lib.hid hn25.out.2
      clear hn25
      have hHeld : W25.cell? ⟨gw, 1, none⟩ = some (.string (wd t 1)) ∧ W25.cell? ⟨gw, 3, none⟩ = some (.string (wd t 3)) := ⟨R25.out.cell 1 (by omega), R25.out.cell 3 (by omega)⟩
      clear RR2
      refine till_one (i := 4) (by kernel_rfl) rfl (fun K hK => ?_)
      go_simp
      (with_reducible refine (KS1.out _).mono ?_)
      rintro e W26 ⟨hv, g26⟩
      obtain rfl := SV1.out e hv
      clear hv
      (go_wp2_with fail)
      have R26 := Lib.hid (R25.out.gr' g26)
      have E26 := Lib.hid (E25.out.gr' g26)
      refine hK.out _ _ (Or.inr ⟨R26.out.cell 1 (by omega), R26.out.cell 3 (by omega)⟩) ?_
      clear hK K
      (try simp only [Act.put, List.setIfInBounds_toArray, List.set_cons_zero, List.set_cons_succ])
      clear g26
      have hHeld : W26.cell? ⟨gw, 1, none⟩ = some (.string (wd t 1)) ∧ W26.cell? ⟨gw, 3, none⟩ = some (.string (wd t 3)) := ⟨R26.out.cell 1 (by omega), R26.out.cell 3 (by omega)⟩
      clear R25 E25
      refine till_take (i := 5) (oi := { dst := some 15, op := _, type := _, pos := _, after := _, guard := _ }) (v := ?v27) rfl (by kernel_rfl) (by kernel_rfl) (by kernel_rfl) (by kernel_rfl) (fun _ _ _ h => h) (Or.inl ⟨by rfl, ?hy27⟩) (by assumption) ?rest27
      case hy27 => (intro w hSw; go_simp <;> (with_reducible rfl))
      (try simp only [Act.put, List.setIfInBounds_toArray, List.set_cons_zero, List.set_cons_succ])
      refine till_take (i := 6) (oi := { dst := some 16, op := _, type := _, pos := _, after := _, guard := _ }) (v := ?v28) rfl (by kernel_rfl) (by kernel_rfl) (by kernel_rfl) (by kernel_rfl) (fun _ _ _ h => h) (Or.inl ⟨by rfl, ?hy28⟩) (by assumption) ?rest28
      case hy28 => (intro w hSw; go_simp <;> (with_reducible rfl))
      (try simp only [Act.put, List.setIfInBounds_toArray, List.set_cons_zero, List.set_cons_succ])
      refine till_one (i := 7) (by kernel_rfl) rfl (fun K hK => ?_)
      go_simp
      (with_reducible refine (KC.out a1 a2 true W26 R26.out.bxv).mono ?_)
      rintro e W29 ⟨rfl, hw29⟩
      (go_wp2_with fail)
      have R29 : Hid (RE t w W29 gw L w.heap.size (w.heap.size + 1) (a2 == 0)) := by unfold Hid; rw [← hw29]; exact R26.out.set _
      have E29 : Hid (ER w W29 w.heap.size (w.heap.size + 1) be #[.int .i64 0, .string ⟨#[]⟩, .int .i64 0, .string ⟨#[]⟩, .int .i64 0]) := by unfold Hid; rw [← hw29]; exact E26.out.box _
      refine hK.out _ _ (Or.inr ⟨R29.out.cell 1 (by omega), R29.out.cell 3 (by omega)⟩) ?_
      clear hK K
      (try simp only [Act.put, List.setIfInBounds_toArray, List.set_cons_zero, List.set_cons_succ])
      clear hw29
      have hHeld : W29.cell? ⟨gw, 1, none⟩ = some (.string (wd t 1)) ∧ W29.cell? ⟨gw, 3, none⟩ = some (.string (wd t 3)) := ⟨R29.out.cell 1 (by omega), R29.out.cell 3 (by omega)⟩
      clear R26 E26
      refine till_one (i := 11) (by kernel_rfl) rfl (fun K hK => ?_)
      go_simp
      (with_reducible refine (CL3.out _).mono ?_)
      rintro e W30 ⟨rfl, g30⟩
      (go_wp2_with fail)
      have R30 := Lib.hid (R29.out.gr' g30)
      have E30 := Lib.hid (E29.out.gr' g30)
      refine hK.out _ _ (Or.inr ⟨R30.out.cell 1 (by omega), R30.out.cell 3 (by omega)⟩) ?_
      clear hK K
      (try simp only [Act.put, List.setIfInBounds_toArray, List.set_cons_zero, List.set_cons_succ])
      clear g30
      have hHeld : W30.cell? ⟨gw, 1, none⟩ = some (.string (wd t 1)) ∧ W30.cell? ⟨gw, 3, none⟩ = some (.string (wd t 3)) := ⟨R30.out.cell 1 (by omega), R30.out.cell 3 (by omega)⟩
      clear R29 E29
      refine till_take (i := 12) (oi := { dst := some 22, op := _, type := _, pos := _, after := _, guard := _ }) (v := ?v31) rfl (by kernel_rfl) (by kernel_rfl) (by kernel_rfl) (by kernel_rfl) (fun _ _ _ h => h) (Or.inl ⟨by rfl, ?hy31⟩) (by assumption) ?rest31
      case hy31 => (intro w hSw; go_simp <;> (with_reducible rfl))
      (try simp only [Act.put, List.setIfInBounds_toArray, List.set_cons_zero, List.set_cons_succ])
      refine till_one (i := 14) (by kernel_rfl) rfl (fun K hK => ?_)
      have z0 : W30.cell? ⟨be, 0, none⟩ = some (.int .i64 0) := bcell_row E30.out.h rfl
      have z1 : W30.cell? ⟨be, 1, none⟩ = some (.string ⟨#[]⟩) := bcell_row E30.out.h rfl
      have z2 : W30.cell? ⟨be, 2, none⟩ = some (.int .i64 0) := bcell_row E30.out.h rfl
      have z3 : W30.cell? ⟨be, 3, none⟩ = some (.string ⟨#[]⟩) := bcell_row E30.out.h rfl
      have z4 : W30.cell? ⟨be, 4, none⟩ = some (.int .i64 0) := bcell_row E30.out.h rfl
      have fz : ∀ i, W30.frozen? ⟨be, i, none⟩ = false := fun i => by simp [World.frozen?, E30.out.h]
      have FN := Lib.hid (store5 R30.out E30.out (.int .i64 a1) (.string ⟨#[]⟩) (.int .i64 0) (.string (wd t 3)) (.int .i64 0))
      go_simp
      clear z0 z1 z2 z3 z4 fz
      refine hK.out _ _ (Or.inl (by kernel_rfl)) ?_
      clear hK K
      (try simp only [Act.put, List.setIfInBounds_toArray, List.set_cons_zero, List.set_cons_succ])
      generalize (((((W30.setCell ⟨be, 0, none⟩ (.int .i64 a1)).setCell ⟨be, 1, none⟩ (.string ⟨#[]⟩)).setCell ⟨be, 2, none⟩ (.int .i64 0)).setCell ⟨be, 3, none⟩ (.string (wd t 3))).setCell ⟨be, 4, none⟩ (.int .i64 0)) = W32 at FN ⊢
      refine till_done (by kernel_rfl) ?_ _
      refine NoPanic.normal ?_
      go_wp2_with fail
      go_meet
      exact ⟨be, rfl, FN.out.1, FN.out.2⟩

  case rest =>
    obtain ⟨be, rfl, R3, E3⟩ := hcut
    subst hL
    clear RR1 l1 l3 l4
    cases pf with
    | true =>
      simp only [if_true] at FE
      have p2 : wc.cell? ⟨gw, 2, none⟩ = some (.string (wd t 2)) := R3.out.cell 2 (by omega)
      go_wp2_with fail
      clear p2
      refine (KX.out wc).mono ?_
      rintro e wP ⟨rfl, gP⟩
      have RP := Lib.hid (R3.out.gr' gP)
      have EP := Lib.hid (E3.out.gr' gP)
      clear gP R3 E3
      go_wp2_with fail
      refine (KS2.out wP).mono ?_
      rintro e wQ ⟨hv, gQ⟩
      obtain rfl := SV2.out e hv
      have RQ := Lib.hid (RP.out.gr' gQ)
      have EQ := Lib.hid (EP.out.gr' gQ)
      clear hv gQ RP EP
      go_wp2_with fail
      refine (KC.out s1 s2 _ wQ RQ.out.bxv).mono ?_
      rintro e wR ⟨rfl, hwR⟩
      have RS : Hid (RE t w wR gw 4 w.heap.size (w.heap.size + 1) ((a2 == 0) && (s2 == 0))) := by unfold Hid; rw [← hwR]; exact RQ.out.set _
      have ES : Hid (ER w wR w.heap.size (w.heap.size + 1) be #[.int .i64 a1, .string ⟨#[]⟩, .int .i64 0, .string (wd t 3), .int .i64 0]) := by unfold Hid; rw [← hwR]; exact EQ.out.box _
      clear hwR RQ EQ
      have z2 : wR.cell? ⟨be, 2, none⟩ = some (.int .i64 0) := bcell_row ES.out.h rfl
      have fz : wR.frozen? ⟨be, 2, none⟩ = false := by simp [World.frozen?, ES.out.h]
      have RA := Lib.hid (RS.out.era ES.out 2 (.int .i64 s1))
      have EA0 := Lib.hid (ES.out.set 2 (.int .i64 s1))
      go_upto_region 9 with fail
      clear z2 fz
      generalize wR.setCell ⟨be, 2, none⟩ (.int .i64 s1) = wA at RA EA0 ⊢
      clear RS ES
      have EA : Hid (ER w wA w.heap.size (w.heap.size + 1) be #[.int .i64 a1, .string ⟨#[]⟩, .int .i64 s1, .string (wd t 3), .int .i64 0]) := EA0
      clear EA0
      have t5 : (((4 : Nat) : Int) == 5) = false := by decide
      go_upto_region 11 with fail
      clear t5
      have RD := RA
      have ED := EA
      clear RA EA
      have ED' : Hid (ER w wA w.heap.size (w.heap.size + 1) be #[.int .i64 a1, .string ⟨#[]⟩, .int .i64 s1, .string (wd t 3), .int .i64 0]) := ED
      clear ED
      refine wp_region_noPanic ?_
      refine till_start 3 (fun wx => wx.heap[be]? = some (.cells #[.int .i64 a1, .string ⟨#[]⟩, .int .i64 s1, .string (wd t 3), .int .i64 0] 52 (0, 0)) ∧ wx.cell? ⟨w.heap.size + 1, 0, none⟩ = some (.bool ((a2 == 0) && (s2 == 0)))) (by kernel_rfl) ⟨ED'.out.h, RD.out.bxv.cell⟩ (fun hHeld => ?_)
      (try dsimp only at hHeld)
      have RF := Lib.hid (RD.out.gr' (Gr.drew wA))
      have EF := Lib.hid (ED'.out.gr' (Gr.drew wA))
      generalize wA.drew = wF at RF EF hHeld ⊢
      clear RD ED'
      refine till_take (i := 0) (oi := { dst := some 61, op := _, type := _, pos := _, after := _, guard := _ }) (v := ?v33) rfl (by kernel_rfl) (by kernel_rfl) (by kernel_rfl) (by kernel_rfl) (fun _ _ _ h => h) (Or.inl ⟨by rfl, ?hy33⟩) (by assumption) ?rest33
      case hy33 => (intro w hSw; have d0 := bcell_row (i := 0) hSw.1 rfl; have d1 := bcell_row (i := 1) hSw.1 rfl; have d2 := bcell_row (i := 2) hSw.1 rfl; have d3 := bcell_row (i := 3) hSw.1 rfl; have d4 := bcell_row (i := 4) hSw.1 rfl; go_simp <;> (with_reducible rfl))
      (try simp only [Act.put, List.setIfInBounds_toArray, List.set_cons_zero, List.set_cons_succ])
      refine till_take (i := 1) (oi := { dst := some 62, op := _, type := _, pos := _, after := _, guard := _ }) (v := ?v34) rfl (by kernel_rfl) (by kernel_rfl) (by kernel_rfl) (by kernel_rfl) (fun _ _ _ h => h) (Or.inl ⟨by rfl, ?hy34⟩) (by assumption) ?rest34
      case hy34 => (intro w hSw; have d0 := hSw.2; go_simp <;> (with_reducible rfl))
      (try simp only [Act.put, List.setIfInBounds_toArray, List.set_cons_zero, List.set_cons_succ])
      have z0 : wF.cell? ⟨w.heap.size, 0, none⟩ = some (.int .i64 0) := bcell_row RF.out.z rfl
      have z1 : wF.cell? ⟨w.heap.size, 1, none⟩ = some (.string ⟨#[]⟩) := bcell_row RF.out.z rfl
      have z2 : wF.cell? ⟨w.heap.size, 2, none⟩ = some (.int .i64 0) := bcell_row RF.out.z rfl
      have z3 : wF.cell? ⟨w.heap.size, 3, none⟩ = some (.string ⟨#[]⟩) := bcell_row RF.out.z rfl
      have z4 : wF.cell? ⟨w.heap.size, 4, none⟩ = some (.int .i64 0) := bcell_row RF.out.z rfl
      have fz : ∀ i, wF.frozen? ⟨w.heap.size, i, none⟩ = false := fun i => by simp [World.frozen?, RF.out.z]
      have FN := Lib.hid (store5z RF.out EF.out (.int .i64 a1) (.string ⟨#[]⟩) (.int .i64 s1) (.string (wd t 3)) (.int .i64 0))
      refine till_one (i := 2) (by kernel_rfl) rfl (fun K hK => ?_)
      go_simp
      clear z0 z1 z2 z3 z4 fz
      generalize (((((wF.setCell ⟨w.heap.size, 0, none⟩ (.int .i64 a1)).setCell ⟨w.heap.size, 1, none⟩ (.string ⟨#[]⟩)).setCell ⟨w.heap.size, 2, none⟩ (.int .i64 s1)).setCell ⟨w.heap.size, 3, none⟩ (.string (wd t 3))).setCell ⟨w.heap.size, 4, none⟩ (.int .i64 0)) = wG at FN hK ⊢
      refine hK.out _ _ (Or.inr ⟨FN.out.2.1, FN.out.2.2.1⟩) ?_
      clear hK K
      (try simp only [Act.put, List.setIfInBounds_toArray, List.set_cons_zero, List.set_cons_succ])
      refine till_one (i := 3) (by kernel_rfl) rfl (fun K hK => ?_)
      go_simp
      refine hK.out _ _ (Or.inl (by kernel_rfl)) ?_
      clear hK K
      (try simp only [Act.put, List.setIfInBounds_toArray, List.set_cons_zero, List.set_cons_succ])
      refine till_done (by kernel_rfl) ?_ _
      refine NoPanic.normal ?_
      have y0 : wG.cell? ⟨w.heap.size, 0, none⟩ = some (.int .i64 a1) := bcell_row FN.out.1 rfl
      have y1 : wG.cell? ⟨w.heap.size, 1, none⟩ = some (.string ⟨#[]⟩) := bcell_row FN.out.1 rfl
      have y2 : wG.cell? ⟨w.heap.size, 2, none⟩ = some (.int .i64 s1) := bcell_row FN.out.1 rfl
      have y3 : wG.cell? ⟨w.heap.size, 3, none⟩ = some (.string (wd t 3)) := bcell_row FN.out.1 rfl
      have y4 : wG.cell? ⟨w.heap.size, 4, none⟩ = some (.int .i64 0) := bcell_row FN.out.1 rfl
      go_wp2_with fail
      refine bodyPost_ret (v := .tuple #[.agg #[.int .i64 a1, .string ⟨#[]⟩, .int .i64 s1, .string (wd t 3), .int .i64 0], .bool ((a2 == 0) && (s2 == 0))]) (by simp [results, Tryz.results57, go_sem, y0, y1, y2, y3, y4]) rfl ⟨?_, FN.out.2.2.2⟩
      rw [FE.out]
      all_goals simp

    | false =>
      simp only [Bool.false_eq_true, if_false] at FE
      have p2 : wc.cell? ⟨gw, 2, none⟩ = some (.string (wd t 2)) := R3.out.cell 2 (by omega)
      go_wp2_with fail
      clear p2
      refine (KX.out wc).mono ?_
      rintro e wP ⟨rfl, gP⟩
      have RP := Lib.hid (R3.out.gr' gP)
      have EP := Lib.hid (E3.out.gr' gP)
      clear gP R3 E3
      have p2 : wP.cell? ⟨gw, 2, none⟩ = some (.string (wd t 2)) := RP.out.cell 2 (by omega)
      go_wp2_with fail
      clear p2
      refine (CL2.out wP).mono ?_
      rintro e wQ ⟨rfl, gQ⟩
      have RQ := Lib.hid (RP.out.gr' gQ)
      have EQ := Lib.hid (EP.out.gr' gQ)
      clear gQ RP EP
      have z1 : wQ.cell? ⟨be, 1, none⟩ = some (.string ⟨#[]⟩) := bcell_row EQ.out.h rfl
      have fz : wQ.frozen? ⟨be, 1, none⟩ = false := by simp [World.frozen?, EQ.out.h]
      have RS := Lib.hid (RQ.out.era EQ.out 1 (.string (wd t 2)))
      have ES0 := Lib.hid (EQ.out.set 1 (.string (wd t 2)))
      go_upto_region 8 with fail
      clear z1 fz
      generalize wQ.setCell ⟨be, 1, none⟩ (.string (wd t 2)) = wR at RS ES0 ⊢
      clear RQ EQ
      have ES : Hid (ER w wR w.heap.size (w.heap.size + 1) be #[.int .i64 a1, .string (wd t 2), .int .i64 0, .string (wd t 3), .int .i64 0]) := ES0
      clear ES0
      have bz := RS.out.bxv.cell
      have bf := RS.out.bxv.frozen
      have e1 : wR.cell? ⟨be, 1, none⟩ = some (.string (wd t 2)) := bcell_row ES.out.h rfl
      obtain ⟨ga, ega⟩ : ∃ ga, (a2 == 0) = ga := ⟨_, rfl⟩
      rw [ega] at bz RS FE
      clear ega
      cases ga
      · have RA := Lib.hid (RS.out.set false)
        have EA := Lib.hid (ES.out.box false)
        go_upto_region 9 with fail
        clear bz bf e1
        generalize wR.setCell ⟨w.heap.size + 1, 0, none⟩ (.bool false) = wA at RA EA ⊢
        clear RS ES
        have t5 : (((4 : Nat) : Int) == 5) = false := by decide
        go_upto_region 11 with fail
        clear t5
        have RD := RA
        have ED := EA
        clear RA EA
        have ED' : Hid (ER w wA w.heap.size (w.heap.size + 1) be #[.int .i64 a1, .string (wd t 2), .int .i64 0, .string (wd t 3), .int .i64 0]) := ED
        clear ED
        refine wp_region_noPanic ?_
        refine till_start 3 (fun wx => wx.heap[be]? = some (.cells #[.int .i64 a1, .string (wd t 2), .int .i64 0, .string (wd t 3), .int .i64 0] 52 (0, 0)) ∧ wx.cell? ⟨w.heap.size + 1, 0, none⟩ = some (.bool false)) (by kernel_rfl) ⟨ED'.out.h, RD.out.bxv.cell⟩ (fun hHeld => ?_)
        (try dsimp only at hHeld)
        have RF := Lib.hid (RD.out.gr' (Gr.drew wA))
        have EF := Lib.hid (ED'.out.gr' (Gr.drew wA))
        generalize wA.drew = wF at RF EF hHeld ⊢
        clear RD ED'
        refine till_take (i := 0) (oi := { dst := some 61, op := _, type := _, pos := _, after := _, guard := _ }) (v := ?v35) rfl (by kernel_rfl) (by kernel_rfl) (by kernel_rfl) (by kernel_rfl) (fun _ _ _ h => h) (Or.inl ⟨by rfl, ?hy35⟩) (by assumption) ?rest35
        case hy35 => (intro w hSw; have d0 := bcell_row (i := 0) hSw.1 rfl; have d1 := bcell_row (i := 1) hSw.1 rfl; have d2 := bcell_row (i := 2) hSw.1 rfl; have d3 := bcell_row (i := 3) hSw.1 rfl; have d4 := bcell_row (i := 4) hSw.1 rfl; go_simp <;> (with_reducible rfl))
        (try simp only [Act.put, List.setIfInBounds_toArray, List.set_cons_zero, List.set_cons_succ])
        refine till_take (i := 1) (oi := { dst := some 62, op := _, type := _, pos := _, after := _, guard := _ }) (v := ?v36) rfl (by kernel_rfl) (by kernel_rfl) (by kernel_rfl) (by kernel_rfl) (fun _ _ _ h => h) (Or.inl ⟨by rfl, ?hy36⟩) (by assumption) ?rest36
        case hy36 => (intro w hSw; have d0 := hSw.2; go_simp <;> (with_reducible rfl))
        (try simp only [Act.put, List.setIfInBounds_toArray, List.set_cons_zero, List.set_cons_succ])
        have z0 : wF.cell? ⟨w.heap.size, 0, none⟩ = some (.int .i64 0) := bcell_row RF.out.z rfl
        have z1 : wF.cell? ⟨w.heap.size, 1, none⟩ = some (.string ⟨#[]⟩) := bcell_row RF.out.z rfl
        have z2 : wF.cell? ⟨w.heap.size, 2, none⟩ = some (.int .i64 0) := bcell_row RF.out.z rfl
        have z3 : wF.cell? ⟨w.heap.size, 3, none⟩ = some (.string ⟨#[]⟩) := bcell_row RF.out.z rfl
        have z4 : wF.cell? ⟨w.heap.size, 4, none⟩ = some (.int .i64 0) := bcell_row RF.out.z rfl
        have fz : ∀ i, wF.frozen? ⟨w.heap.size, i, none⟩ = false := fun i => by simp [World.frozen?, RF.out.z]
        have FN := Lib.hid (store5z RF.out EF.out (.int .i64 a1) (.string (wd t 2)) (.int .i64 0) (.string (wd t 3)) (.int .i64 0))
        refine till_one (i := 2) (by kernel_rfl) rfl (fun K hK => ?_)
        go_simp
        clear z0 z1 z2 z3 z4 fz
        generalize (((((wF.setCell ⟨w.heap.size, 0, none⟩ (.int .i64 a1)).setCell ⟨w.heap.size, 1, none⟩ (.string (wd t 2))).setCell ⟨w.heap.size, 2, none⟩ (.int .i64 0)).setCell ⟨w.heap.size, 3, none⟩ (.string (wd t 3))).setCell ⟨w.heap.size, 4, none⟩ (.int .i64 0)) = wG at FN hK ⊢
        refine hK.out _ _ (Or.inr ⟨FN.out.2.1, FN.out.2.2.1⟩) ?_
        clear hK K
        (try simp only [Act.put, List.setIfInBounds_toArray, List.set_cons_zero, List.set_cons_succ])
        refine till_one (i := 3) (by kernel_rfl) rfl (fun K hK => ?_)
        go_simp
        refine hK.out _ _ (Or.inl (by kernel_rfl)) ?_
        clear hK K
        (try simp only [Act.put, List.setIfInBounds_toArray, List.set_cons_zero, List.set_cons_succ])
        refine till_done (by kernel_rfl) ?_ _
        refine NoPanic.normal ?_
        have y0 : wG.cell? ⟨w.heap.size, 0, none⟩ = some (.int .i64 a1) := bcell_row FN.out.1 rfl
        have y1 : wG.cell? ⟨w.heap.size, 1, none⟩ = some (.string (wd t 2)) := bcell_row FN.out.1 rfl
        have y2 : wG.cell? ⟨w.heap.size, 2, none⟩ = some (.int .i64 0) := bcell_row FN.out.1 rfl
        have y3 : wG.cell? ⟨w.heap.size, 3, none⟩ = some (.string (wd t 3)) := bcell_row FN.out.1 rfl
        have y4 : wG.cell? ⟨w.heap.size, 4, none⟩ = some (.int .i64 0) := bcell_row FN.out.1 rfl
        go_wp2_with fail
        refine bodyPost_ret (v := .tuple #[.agg #[.int .i64 a1, .string (wd t 2), .int .i64 0, .string (wd t 3), .int .i64 0], .bool false]) (by simp [results, Tryz.results57, go_sem, y0, y1, y2, y3, y4]) rfl ⟨?_, FN.out.2.2.2⟩
        rw [FE.out]
        all_goals simp
      · go_wp2_with fail
        refine (KN.out wR).mono ?_
        rintro e w' ⟨rfl, rfl⟩
        have RA := Lib.hid (RS.out.set bn)
        have EA := Lib.hid (ES.out.box bn)
        go_upto_region 9 with fail
        clear bz bf e1
        generalize wR.setCell ⟨w.heap.size + 1, 0, none⟩ (.bool bn) = wA at RA EA ⊢
        clear RS ES
        have t5 : (((4 : Nat) : Int) == 5) = false := by decide
        go_upto_region 11 with fail
        clear t5
        have RD := RA
        have ED := EA
        clear RA EA
        have ED' : Hid (ER w wA w.heap.size (w.heap.size + 1) be #[.int .i64 a1, .string (wd t 2), .int .i64 0, .string (wd t 3), .int .i64 0]) := ED
        clear ED
        refine wp_region_noPanic ?_
        refine till_start 3 (fun wx => wx.heap[be]? = some (.cells #[.int .i64 a1, .string (wd t 2), .int .i64 0, .string (wd t 3), .int .i64 0] 52 (0, 0)) ∧ wx.cell? ⟨w.heap.size + 1, 0, none⟩ = some (.bool bn)) (by kernel_rfl) ⟨ED'.out.h, RD.out.bxv.cell⟩ (fun hHeld => ?_)
        (try dsimp only at hHeld)
        have RF := Lib.hid (RD.out.gr' (Gr.drew wA))
        have EF := Lib.hid (ED'.out.gr' (Gr.drew wA))
        generalize wA.drew = wF at RF EF hHeld ⊢
        clear RD ED'
        refine till_take (i := 0) (oi := { dst := some 61, op := _, type := _, pos := _, after := _, guard := _ }) (v := ?v37) rfl (by kernel_rfl) (by kernel_rfl) (by kernel_rfl) (by kernel_rfl) (fun _ _ _ h => h) (Or.inl ⟨by rfl, ?hy37⟩) (by assumption) ?rest37
        case hy37 => (intro w hSw; have d0 := bcell_row (i := 0) hSw.1 rfl; have d1 := bcell_row (i := 1) hSw.1 rfl; have d2 := bcell_row (i := 2) hSw.1 rfl; have d3 := bcell_row (i := 3) hSw.1 rfl; have d4 := bcell_row (i := 4) hSw.1 rfl; go_simp <;> (with_reducible rfl))
        (try simp only [Act.put, List.setIfInBounds_toArray, List.set_cons_zero, List.set_cons_succ])
        refine till_take (i := 1) (oi := { dst := some 62, op := _, type := _, pos := _, after := _, guard := _ }) (v := ?v38) rfl (by kernel_rfl) (by kernel_rfl) (by kernel_rfl) (by kernel_rfl) (fun _ _ _ h => h) (Or.inl ⟨by rfl, ?hy38⟩) (by assumption) ?rest38
        case hy38 => (intro w hSw; have d0 := hSw.2; go_simp <;> (with_reducible rfl))
        (try simp only [Act.put, List.setIfInBounds_toArray, List.set_cons_zero, List.set_cons_succ])
        have z0 : wF.cell? ⟨w.heap.size, 0, none⟩ = some (.int .i64 0) := bcell_row RF.out.z rfl
        have z1 : wF.cell? ⟨w.heap.size, 1, none⟩ = some (.string ⟨#[]⟩) := bcell_row RF.out.z rfl
        have z2 : wF.cell? ⟨w.heap.size, 2, none⟩ = some (.int .i64 0) := bcell_row RF.out.z rfl
        have z3 : wF.cell? ⟨w.heap.size, 3, none⟩ = some (.string ⟨#[]⟩) := bcell_row RF.out.z rfl
        have z4 : wF.cell? ⟨w.heap.size, 4, none⟩ = some (.int .i64 0) := bcell_row RF.out.z rfl
        have fz : ∀ i, wF.frozen? ⟨w.heap.size, i, none⟩ = false := fun i => by simp [World.frozen?, RF.out.z]
        have FN := Lib.hid (store5z RF.out EF.out (.int .i64 a1) (.string (wd t 2)) (.int .i64 0) (.string (wd t 3)) (.int .i64 0))
        refine till_one (i := 2) (by kernel_rfl) rfl (fun K hK => ?_)
        go_simp
        clear z0 z1 z2 z3 z4 fz
        generalize (((((wF.setCell ⟨w.heap.size, 0, none⟩ (.int .i64 a1)).setCell ⟨w.heap.size, 1, none⟩ (.string (wd t 2))).setCell ⟨w.heap.size, 2, none⟩ (.int .i64 0)).setCell ⟨w.heap.size, 3, none⟩ (.string (wd t 3))).setCell ⟨w.heap.size, 4, none⟩ (.int .i64 0)) = wG at FN hK ⊢
        refine hK.out _ _ (Or.inr ⟨FN.out.2.1, FN.out.2.2.1⟩) ?_
        clear hK K
        (try simp only [Act.put, List.setIfInBounds_toArray, List.set_cons_zero, List.set_cons_succ])
        refine till_one (i := 3) (by kernel_rfl) rfl (fun K hK => ?_)
        go_simp
        refine hK.out _ _ (Or.inl (by kernel_rfl)) ?_
        clear hK K
        (try simp only [Act.put, List.setIfInBounds_toArray, List.set_cons_zero, List.set_cons_succ])
        refine till_done (by kernel_rfl) ?_ _
        refine NoPanic.normal ?_
        have y0 : wG.cell? ⟨w.heap.size, 0, none⟩ = some (.int .i64 a1) := bcell_row FN.out.1 rfl
        have y1 : wG.cell? ⟨w.heap.size, 1, none⟩ = some (.string (wd t 2)) := bcell_row FN.out.1 rfl
        have y2 : wG.cell? ⟨w.heap.size, 2, none⟩ = some (.int .i64 0) := bcell_row FN.out.1 rfl
        have y3 : wG.cell? ⟨w.heap.size, 3, none⟩ = some (.string (wd t 3)) := bcell_row FN.out.1 rfl
        have y4 : wG.cell? ⟨w.heap.size, 4, none⟩ = some (.int .i64 0) := bcell_row FN.out.1 rfl
        go_wp2_with fail
        refine bodyPost_ret (v := .tuple #[.agg #[.int .i64 a1, .string (wd t 2), .int .i64 0, .string (wd t 3), .int .i64 0], .bool bn]) (by simp [results, Tryz.results57, go_sem, y0, y1, y2, y3, y4]) rfl ⟨?_, FN.out.2.2.2⟩
        rw [FE.out]
        all_goals simp

end Go.Proofs.YtkkilmmpmiichaaGreatDoor
