/- What put, the closure of the reference's Names, does: a name comes tto its place. -/
import Derived.Test.YtemdgipkcilpcaaGreatDoorAM23
import Derived.Test.YtemdgipkcilpcaaGreatDoorAM19
import Derived.Test.YtemdgipkcilpcaaGreatDoorAM24
namespace Go.Proofs.YtemdgipkcilpcaaGreatDoor
set_option linter.unusedVariables false
set_option linter.unusedSimpArgs false
open Go.RowKit
theorem bytesLess_lt : ∀ (x y : List UInt8), Op.bytesLess x y = decide (x < y)
  | x, [] => by cases x <;> simp [Op.bytesLess]
  | [], b :: y => by simp [Op.bytesLess]
  | a :: x, b :: y => by
    unfold Op.bytesLess
    rw [bytesLess_lt x y, Bool.eq_iff_iff]
    simp [List.cons_lt_cons_iff]
/-- a slice of names in its cell -/
def OutAt (w : World) (q : Nat) (L : List (List UInt8)) : Prop :=
  ∃ A c, w.heap[q]? = some (.cells #[.slice A L.length c] 35 (0, 0)) ∧ Row w 1 nmC A L ∧ L.length ≤ c ∧ c ≤ maxLen ∧ ((A = none ∧ c = 0) ∨ ∃ b, A = some ⟨b, 0, none⟩ ∧ b ≠ q)

/-- where what is behind the k-th lies -/
def tailA (A : Option Addr) (k c : Nat) : Option Addr := if c = k then A else A.map (·.add (k * 1))
theorem sl_head (A : Option Addr) (k n c : Nat) (w : World) (hk : k ≤ n) (hn : n ≤ c) (h : A = none ∨ ∃ b, A = some ⟨b, 0, none⟩) : (Instr.sliceAt 35 (.slice A n c) none (some (.int .i64 k)) (some (.int .i64 k))).run Tryz.prog w = .ok (.slice A k k) w := by
  have he : Tryz.prog.elem 35 = 9 := by kernel_rfl
  have hu : Tryz.prog.underlying 35 = some (.slice (Tryz.prog.elem 35)) := by rw [he]; exact Tryz.underlying35
  rw [run_sliceAt_slice _ _ _ _ _ _ hu, run_slice_hm w 35 A n c hu .i64 .i64 k k (by omega) (Int.le_refl _) (by omega), he, Tryz.sizeOf9 w]
  simp only [Result.andThen, Int.toNat_natCast]
  unfold sliced
  rcases h with rfl | ⟨b, rfl⟩
  · simp
  · simp [addr_zero]
theorem sl_tail (A : Option Addr) (k n c : Nat) (w : World) (hk : k ≤ n) (hn : n ≤ c) : (Instr.sliceAt 35 (.slice A n c) (some (.int .i64 k)) none none).run Tryz.prog w = .ok (.slice (tailA A k c) (n - k) (c - k)) w := by
  have he : Tryz.prog.elem 35 = 9 := by kernel_rfl
  have hu : Tryz.prog.underlying 35 = some (.slice (Tryz.prog.elem 35)) := by rw [he]; exact Tryz.underlying35
  rw [run_sliceAt_slice _ _ _ _ _ _ hu, run_slice_l w 35 A n c hu .i64 k (by omega) (by omega), he, Tryz.sizeOf9 w]
  rfl
theorem row_tail {w : World} {A : Option Addr} {L : List (List UInt8)} {k c : Nat} (h : Row w 1 nmC A L) (hc : L.length ≤ c) : Row w 1 nmC (tailA A k c) (L.drop k) := fun i x hx => by
  rw [List.getElem?_drop] at hx
  obtain ⟨b, off, rfl, hb, hce⟩ := h _ x hx
  have hl := (List.getElem?_eq_some_iff.1 hx).1
  refine ⟨b, off + k, ?_, hb, fun j v hv => ?_⟩
  · unfold tailA
    rw [if_neg (by omega)]
    simp [addr_zero]
  · have := hce j v hv
    rwa [show off + (k + i) * 1 + j = off + k + i * 1 + j by omega] at this
theorem row_head {w : World} {A : Option Addr} {L : List (List UInt8)} (h : Row w 1 nmC A L) (k : Nat) : Row w 1 nmC A (L.take k) := h.take k

theorem row_one {w : World} {b : Nat} {T : TypeId} {x : List UInt8} {cs : Array Value} (enc : List Value) (h : w.heap[b]? = some (.cells cs T (0, 0))) (hc : cs = #[.string (S x)]) : Row w 1 nmC (some ⟨b, 0, none⟩) [x] := fun i y hy => by
  have hi := (List.getElem?_eq_some_iff.1 hy).1
  have e : i = 0 := by simp at hi; exact hi
  subst e
  have ey : x = y := by simpa using hy
  subst ey; subst hc
  refine ⟨b, 0, rfl, (Array.getElem?_eq_some_iff.1 h).1, fun j v hv => ?_⟩
  have hj := (List.getElem?_eq_some_iff.1 hv).1
  have e : j = 0 := by simp at hj; exact hj
  subst e
  exact bcell_row h (by simpa using hv)
theorem row_set {α : Type} {w : World} {k b off q : Nat} {enc : α → List Value} {l : List α} (h : Row w k enc (some ⟨b, off, none⟩) l) (hne : b ≠ q) (v : Value) : Row (w.setCell ⟨q, 0, none⟩ v) k enc (some ⟨b, off, none⟩) l := fun i x hx => by
  obtain ⟨b', off', e, hb, hc⟩ := h i x hx
  refine ⟨b', off', e, by simpa [World.setCell] using hb, fun j u hu => ?_⟩
  injection e with e; injection e with e1 e2
  subst e1
  exact (World.cell?_setCell_other _ _ _ _ (by first | (simp; done) | (simp; omega))).trans (hc j u hu)
theorem gb_set {w w' : World} {q : Nat} (g : Gr w w') (v : Value) : w.grownBy (w'.setCell ⟨q, 0, none⟩ v) (some q) :=
  ⟨g.os, g.tape, g.output, by simpa [World.setCell] using Below.size g, fun i hi hne => (RowKit.Below.heap_setCell _ _ _ _ (fun e => hne (by rw [e]))).trans (g.block i hi)⟩

set_option maxRecDepth 100000 in
set_option maxHeartbeats 8000000 in
theorem rput (nm : ByteArray) (q : Nat) (L : List (List UInt8)) (w : World) (ho : OutAt w q L) (hl : L.length ≤ 1000) (hs : L.Pairwise (fun a b => leN a b = true)) :
    Calls Tryz.prog 29 #[.string nm, .pointer (some ⟨q, 0, none⟩)] w fun e w' => e = .returned (.tuple #[]) ∧ ∃ L', OutAt w' q L' ∧ L'.Pairwise (fun a b => leN a b = true) ∧ L'.Perm (nm.toList :: L) ∧ w.grownBy w' (some q) := by
  obtain ⟨A, c, hq, hr, hlc, hcm, hA⟩ := ho
  have HQ := Lib.hid hq
  have HR := Lib.hid hr
  have HS := Lib.hid hs
  have HA := Lib.hid hA
  have G := Lib.hid (Gr.refl w)
  obtain ⟨i0, hi, hz0, hz1, hz2⟩ := info_parts infoStr
  have I1 := Lib.hid hi
  have I2 := Lib.hid hz0
  have I3 := Lib.hid hz1
  have I4 := Lib.hid hz2
  unfold maxLen at hcm
  have HAN : Hid (A = none ∨ ∃ b off, A = some ⟨b, off, none⟩) := by rcases hA with ⟨h, _⟩ | ⟨b, h, _⟩; exact Or.inl h; exact Or.inr ⟨b, 0, h⟩
  have HA0 : Hid (A = none ∨ ∃ b, A = some ⟨b, 0, none⟩) := by rcases hA with ⟨h, _⟩ | ⟨b, h, _⟩; exact Or.inl h; exact Or.inr ⟨b, h⟩
  clear hq hr hs hA hi hz0 hz1 hz2
  go_enter Tryz.func29, Tryz.ntmps29
  go_wp2_with fail
  go_loopw [3] (fun i W => Hid (W = w) ∧ ∃ k : Nat, k ≤ L.length ∧ i = .int .i64 k ∧ Hid (∀ i y, i < k → L[i]? = some y → y < nm.toList)) (fun i W => L.length - (intOf i).toNat)
  case atStart => exact ⟨by first | exact trivial | exact rfl, 0, Nat.zero_le _, rfl, fun i y h => by omega⟩
  case round =>
    obtain ⟨hw, k, hk, rfl, hb⟩ := hrel
    have hw := hw.out
    subst hw
    have c0 : wr.cell? ⟨q, 0, none⟩ = some (.slice A L.length c) := bcell_row HQ.out rfl
    by_cases hlt : k < L.length
    · obtain ⟨y, hy⟩ := get_lt hlt
      obtain ⟨b, off, rfl, d0⟩ := HR.out.one hy rfl (Gr.refl wr)
      have e0 : Op.bytesLess y nm.toList = decide (y < nm.toList) := bytesLess_lt _ _
      have HY := Lib.hid hy
      clear hy
      by_cases hyl : y < nm.toList
      · have HB : Hid (∀ i y, i < k + 1 → L[i]? = some y → y < nm.toList) := fun i z hi hz => by
          by_cases e : i = k
          · subst e; rw [HY.out] at hz; injection hz with hz; subst hz; exact hyl
          · exact hb.out i z (by omega) hz
        rw [decide_eq_true hyl] at e0
        clear hyl HY hb
        go_wp2_with fail
        go_roundw
        case rel => exact ⟨by first | exact trivial | exact rfl, k + 1, by omega, by go_num, HB⟩
        case measure => simp [intOf]; omega
      · have H2 : Hid (∀ y, L[k]? = some y → ¬ y < nm.toList) := fun z hz => by rw [HY.out] at hz; injection hz with hz; subst hz; exact hyl
        rw [decide_eq_false hyl] at e0
        clear hyl HY
        have X21 := Lib.hid (fun w => sl_head (some ⟨b, off, none⟩) k L.length c w hk hlc HA0.out)
        have X26 := Lib.hid (fun w => sl_tail (some ⟨b, off, none⟩) k L.length c w hk hlc)
        go_wp2_with fail
        clear c0 d0 e0
        refine wp_region_noPanic ?_
        refine till_start 11 (fun wx => wx.heap[q]? = some (.cells #[.slice (some ⟨b, off, none⟩) L.length c] 35 (0, 0))) (by kernel_rfl) HQ.out (fun hHeld => ?_)
        (try dsimp only at hHeld)
        (try dsimp only at hHeld)
        have Gd := Lib.hid ((Gr.refl wr).trans (Gr.drew wr))
        generalize wr.drew = wd at hHeld Gd ⊢
        refine till_take (i := 0) (oi := { dst := some 18, op := _, type := _, pos := _, after := _, guard := _ }) (v := ?v1) rfl (by kernel_rfl) (by kernel_rfl) (by kernel_rfl) (by kernel_rfl) (fun _ _ _ h => h) (Or.inl ⟨by rfl, ?hy1⟩) (by assumption) ?rest1
        case hy1 => (intro w hSw; have c0 := bcell_row (i := 0) hSw rfl; go_simp <;> (with_reducible rfl))
        (try simp only [Act.put, List.setIfInBounds_toArray, List.set_cons_zero, List.set_cons_succ])
        refine till_take (i := 1) (oi := { dst := some 19, op := _, type := _, pos := _, after := _, guard := _ }) (v := ?v2) rfl (by kernel_rfl) (by kernel_rfl) (by kernel_rfl) (by kernel_rfl) (fun _ _ _ h => h) (Or.inl ⟨by rfl, ?hy2⟩) (by assumption) ?rest2
        case hy2 => (intro w hSw; go_simp <;> (with_reducible rfl))
        (try simp only [Act.put, List.setIfInBounds_toArray, List.set_cons_zero, List.set_cons_succ])
        refine till_take (i := 2) (oi := { dst := some 20, op := _, type := _, pos := _, after := _, guard := _ }) (v := ?v3) rfl (by kernel_rfl) (by kernel_rfl) (by kernel_rfl) (by kernel_rfl) (fun _ _ _ h => h) (Or.inl ⟨by rfl, ?hy3⟩) (by assumption) ?rest3
        case hy3 => (intro w hSw; go_simp <;> (with_reducible rfl))
        (try simp only [Act.put, List.setIfInBounds_toArray, List.set_cons_zero, List.set_cons_succ])
        refine till_take (i := 3) (oi := { dst := some 21, op := _, type := _, pos := _, after := _, guard := _ }) (v := .slice (some ⟨b, off, none⟩) k k) rfl (by kernel_rfl) (by kernel_rfl) (by kernel_rfl) (by kernel_rfl) (fun _ _ _ h => h) (Or.inl ⟨by rfl, ?hy4⟩) (by assumption) ?rest4
        case hy4 => (intro w hSw; simp [go_sem, X21.out])
        (try simp only [Act.put, List.setIfInBounds_toArray, List.set_cons_zero, List.set_cons_succ])
        refine till_take (i := 4) (oi := { dst := some 22, op := _, type := _, pos := _, after := _, guard := _ }) (v := ?v5) rfl (by kernel_rfl) (by kernel_rfl) (by kernel_rfl) (by kernel_rfl) (fun _ _ _ h => h) (Or.inl ⟨by rfl, ?hy5⟩) (by assumption) ?rest5
        case hy5 => (intro w hSw; go_simp <;> (with_reducible rfl))
        (try simp only [Act.put, List.setIfInBounds_toArray, List.set_cons_zero, List.set_cons_succ])
        refine till_take (i := 6) (oi := { dst := some 24, op := _, type := _, pos := _, after := _, guard := _ }) (v := ?v6) rfl (by kernel_rfl) (by kernel_rfl) (by kernel_rfl) (by kernel_rfl) (fun _ _ _ h => h) (Or.inl ⟨by rfl, ?hy6⟩) (by assumption) ?rest6
        case hy6 => (intro w hSw; have c0 := bcell_row (i := 0) hSw rfl; go_simp <;> (with_reducible rfl))
        (try simp only [Act.put, List.setIfInBounds_toArray, List.set_cons_zero, List.set_cons_succ])
        refine till_take (i := 7) (oi := { dst := some 25, op := _, type := _, pos := _, after := _, guard := _ }) (v := ?v7) rfl (by kernel_rfl) (by kernel_rfl) (by kernel_rfl) (by kernel_rfl) (fun _ _ _ h => h) (Or.inl ⟨by rfl, ?hy7⟩) (by assumption) ?rest7
        case hy7 => (intro w hSw; go_simp <;> (with_reducible rfl))
        (try simp only [Act.put, List.setIfInBounds_toArray, List.set_cons_zero, List.set_cons_succ])
        refine till_take (i := 8) (oi := { dst := some 26, op := _, type := _, pos := _, after := _, guard := _ }) (v := .slice (tailA (some ⟨b, off, none⟩) k c) (L.length - k) (c - k)) rfl (by kernel_rfl) (by kernel_rfl) (by kernel_rfl) (by kernel_rfl) (fun _ _ _ h => h) (Or.inl ⟨by rfl, ?hy8⟩) (by assumption) ?rest8
        case hy8 => (intro w hSw; simp [go_sem, X26.out])
        (try simp only [Act.put, List.setIfInBounds_toArray, List.set_cons_zero, List.set_cons_succ])
        have B1 := Lib.hid (box_one wd (.cells #[.string nm] 9))
        refine till_one (i := 5) (by kernel_rfl) rfl (fun K hK => ?_)
        go_simp
        refine hK.out _ _ (Or.inr (bheap_gr B1.out.1 hHeld)) ?_
        clear hK K
        (try simp only [Act.put, List.setIfInBounds_toArray, List.set_cons_zero, List.set_cons_succ])
        have H3 := Lib.hid (bheap_gr B1.out.1 hHeld)
        have G3 := Lib.hid (Gd.out.trans B1.out.1)
        have NR : Hid (Row (wd.alloc (.cells #[.string nm] 9)) 1 nmC (some ⟨wd.heap.size, 0, none⟩) [nm.toList]) := by (have := row_one (nmC nm.toList) B1.out.2 (by rw [← S_of nm]); exact this)
        clear B1
        generalize wd.alloc (.cells #[.string nm] 9) = w3 at H3 G3 NR ⊢
        generalize wd.heap.size = q3 at NR ⊢
        refine till_one (i := 9) (by kernel_rfl) rfl (fun K hK => ?_)
        (refine step_app_full _ (by rfl) _ _ 35 (by rfl) 9 i0 (.string .empty) 1 16 Tryz.underlying35 I1.out I2.out I3.out I4.out (by omega) nmC nm_len [nm.toList] (L.drop k) (some ⟨q3, 0, none⟩) (tailA (some ⟨b, off, none⟩) k c) 1 (L.length - k) (c - k) (by rfl) (by rfl) (by rfl) (by simp) NR.out ((row_tail HR.out hlc).gr G3.out) (Or.inr ⟨_, _, rfl⟩) (by first | (simp; done) | (simp; omega)) ?_)
        intro A4 c4 w4 r4 _ _ g4 _ _
        refine hK.out _ _ (Or.inr (bheap_gr g4 H3.out)) ?_
        clear hK K
        (try simp only [Act.put, List.setIfInBounds_toArray, List.set_cons_zero, List.set_cons_succ])
        have H4 := Lib.hid (bheap_gr g4 H3.out)
        have G4 := Lib.hid (G3.out.trans g4)
        have R4 := Lib.hid r4
        clear r4 g4 H3 G3 NR
        refine till_one (i := 10) (by kernel_rfl) rfl (fun K hK => ?_)
        (refine step_app_full _ (by rfl) _ _ 35 (by rfl) 9 i0 (.string .empty) 1 16 Tryz.underlying35 I1.out I2.out I3.out I4.out (by omega) nmC nm_len (L.take k) ([nm.toList] ++ L.drop k) (some ⟨b, off, none⟩) A4 k ([nm.toList] ++ L.drop k).length c4 (by rfl) (by rfl) (by first | (simp; done) | (simp; omega)) (by rfl) ((row_head HR.out k).gr G4.out) R4.out HAN.out (by first | (simp; done) | (simp; omega)) ?_)
        intro A5 c5 w5 r5 l5 m5 g5 n5 _
        refine hK.out _ _ (Or.inr (bheap_gr g5 H4.out)) ?_
        clear hK K
        (try simp only [Act.put, List.setIfInBounds_toArray, List.set_cons_zero, List.set_cons_succ])
        obtain ⟨rfl, _⟩ := n5 (by simp)
        have H5 := Lib.hid (bheap_gr g5 H4.out)
        have G5 := Lib.hid (G4.out.trans g5)
        have R5 := Lib.hid r5
        have NE := Lib.hid (show w4.heap.size ≠ q by have := (Array.getElem?_eq_some_iff.1 H4.out).1; omega)
        clear r5 g5 H4 R4 n5 hHeld
        have zc : w5.cell? ⟨q, 0, none⟩ = some (.slice (some ⟨b, off, none⟩) L.length c) := bcell_row H5.out rfl
        have fz : w5.frozen? ⟨q, 0, none⟩ = false := unfrozen H5.out
        refine till_one (i := 11) (by kernel_rfl) rfl (fun K hK => ?_)
        go_simp
        refine hK.out _ _ (Or.inl (by kernel_rfl)) ?_
        clear hK K
        (try simp only [Act.put, List.setIfInBounds_toArray, List.set_cons_zero, List.set_cons_succ])
        clear zc fz
        refine till_done (by kernel_rfl) ?_ _
        refine NoPanic.normal ?_
        go_wp2_with fail
        go_end0
        rw [show k + (L.length - k + 1) = (L.take k ++ ([nm.toList] ++ L.drop k)).length by simp [Nat.min_eq_left hk]]
        refine ⟨rfl, L.take k ++ ([nm.toList] ++ L.drop k), ⟨_, _, heap_setCell_same _ _ _ _ _ _ H5.out, row_set R5.out NE.out _, l5, m5, Or.inr ⟨_, rfl, NE.out⟩⟩, put_sorted HS.out hb.out H2.out, put_perm _ _ _, gb_set G5.out _⟩
    · have H2 : Hid (∀ y, L[k]? = some y → ¬ y < nm.toList) := fun z hz => absurd (List.getElem?_eq_some_iff.1 hz).1 hlt
      have X21 := Lib.hid (fun w => sl_head A k L.length c w hk hlc HA0.out)
      have X26 := Lib.hid (fun w => sl_tail A k L.length c w hk hlc)
      go_wp2_with fail
      clear c0
      refine wp_region_noPanic ?_
      refine till_start 11 (fun wx => wx.heap[q]? = some (.cells #[.slice A L.length c] 35 (0, 0))) (by kernel_rfl) HQ.out (fun hHeld => ?_)
      (try dsimp only at hHeld)
      (try dsimp only at hHeld)
      have Gd := Lib.hid ((Gr.refl wr).trans (Gr.drew wr))
      generalize wr.drew = wd at hHeld Gd ⊢
      refine till_take (i := 0) (oi := { dst := some 18, op := _, type := _, pos := _, after := _, guard := _ }) (v := ?v9) rfl (by kernel_rfl) (by kernel_rfl) (by kernel_rfl) (by kernel_rfl) (fun _ _ _ h => h) (Or.inl ⟨by rfl, ?hy9⟩) (by assumption) ?rest9
      case hy9 => (intro w hSw; have c0 := bcell_row (i := 0) hSw rfl; go_simp <;> (with_reducible rfl))
      (try simp only [Act.put, List.setIfInBounds_toArray, List.set_cons_zero, List.set_cons_succ])
      refine till_take (i := 1) (oi := { dst := some 19, op := _, type := _, pos := _, after := _, guard := _ }) (v := ?v10) rfl (by kernel_rfl) (by kernel_rfl) (by kernel_rfl) (by kernel_rfl) (fun _ _ _ h => h) (Or.inl ⟨by rfl, ?hy10⟩) (by assumption) ?rest10
      case hy10 => (intro w hSw; go_simp <;> (with_reducible rfl))
      (try simp only [Act.put, List.setIfInBounds_toArray, List.set_cons_zero, List.set_cons_succ])
      refine till_take (i := 2) (oi := { dst := some 20, op := _, type := _, pos := _, after := _, guard := _ }) (v := ?v11) rfl (by kernel_rfl) (by kernel_rfl) (by kernel_rfl) (by kernel_rfl) (fun _ _ _ h => h) (Or.inl ⟨by rfl, ?hy11⟩) (by assumption) ?rest11
      case hy11 => (intro w hSw; go_simp <;> (with_reducible rfl))
      (try simp only [Act.put, List.setIfInBounds_toArray, List.set_cons_zero, List.set_cons_succ])
      refine till_take (i := 3) (oi := { dst := some 21, op := _, type := _, pos := _, after := _, guard := _ }) (v := .slice A k k) rfl (by kernel_rfl) (by kernel_rfl) (by kernel_rfl) (by kernel_rfl) (fun _ _ _ h => h) (Or.inl ⟨by rfl, ?hy12⟩) (by assumption) ?rest12
      case hy12 => (intro w hSw; simp [go_sem, X21.out])
      (try simp only [Act.put, List.setIfInBounds_toArray, List.set_cons_zero, List.set_cons_succ])
      refine till_take (i := 4) (oi := { dst := some 22, op := _, type := _, pos := _, after := _, guard := _ }) (v := ?v13) rfl (by kernel_rfl) (by kernel_rfl) (by kernel_rfl) (by kernel_rfl) (fun _ _ _ h => h) (Or.inl ⟨by rfl, ?hy13⟩) (by assumption) ?rest13
      case hy13 => (intro w hSw; go_simp <;> (with_reducible rfl))
      (try simp only [Act.put, List.setIfInBounds_toArray, List.set_cons_zero, List.set_cons_succ])
      refine till_take (i := 6) (oi := { dst := some 24, op := _, type := _, pos := _, after := _, guard := _ }) (v := ?v14) rfl (by kernel_rfl) (by kernel_rfl) (by kernel_rfl) (by kernel_rfl) (fun _ _ _ h => h) (Or.inl ⟨by rfl, ?hy14⟩) (by assumption) ?rest14
      case hy14 => (intro w hSw; have c0 := bcell_row (i := 0) hSw rfl; go_simp <;> (with_reducible rfl))
      (try simp only [Act.put, List.setIfInBounds_toArray, List.set_cons_zero, List.set_cons_succ])
      refine till_take (i := 7) (oi := { dst := some 25, op := _, type := _, pos := _, after := _, guard := _ }) (v := ?v15) rfl (by kernel_rfl) (by kernel_rfl) (by kernel_rfl) (by kernel_rfl) (fun _ _ _ h => h) (Or.inl ⟨by rfl, ?hy15⟩) (by assumption) ?rest15
      case hy15 => (intro w hSw; go_simp <;> (with_reducible rfl))
      (try simp only [Act.put, List.setIfInBounds_toArray, List.set_cons_zero, List.set_cons_succ])
      refine till_take (i := 8) (oi := { dst := some 26, op := _, type := _, pos := _, after := _, guard := _ }) (v := .slice (tailA A k c) (L.length - k) (c - k)) rfl (by kernel_rfl) (by kernel_rfl) (by kernel_rfl) (by kernel_rfl) (fun _ _ _ h => h) (Or.inl ⟨by rfl, ?hy16⟩) (by assumption) ?rest16
      case hy16 => (intro w hSw; simp [go_sem, X26.out])
      (try simp only [Act.put, List.setIfInBounds_toArray, List.set_cons_zero, List.set_cons_succ])
      have B1 := Lib.hid (box_one wd (.cells #[.string nm] 9))
      refine till_one (i := 5) (by kernel_rfl) rfl (fun K hK => ?_)
      go_simp
      refine hK.out _ _ (Or.inr (bheap_gr B1.out.1 hHeld)) ?_
      clear hK K
      (try simp only [Act.put, List.setIfInBounds_toArray, List.set_cons_zero, List.set_cons_succ])
      have H3 := Lib.hid (bheap_gr B1.out.1 hHeld)
      have G3 := Lib.hid (Gd.out.trans B1.out.1)
      have NR : Hid (Row (wd.alloc (.cells #[.string nm] 9)) 1 nmC (some ⟨wd.heap.size, 0, none⟩) [nm.toList]) := by (have := row_one (nmC nm.toList) B1.out.2 (by rw [← S_of nm]); exact this)
      clear B1
      generalize wd.alloc (.cells #[.string nm] 9) = w3 at H3 G3 NR ⊢
      generalize wd.heap.size = q3 at NR ⊢
      refine till_one (i := 9) (by kernel_rfl) rfl (fun K hK => ?_)
      (refine step_app_full _ (by rfl) _ _ 35 (by rfl) 9 i0 (.string .empty) 1 16 Tryz.underlying35 I1.out I2.out I3.out I4.out (by omega) nmC nm_len [nm.toList] (L.drop k) (some ⟨q3, 0, none⟩) (tailA A k c) 1 (L.length - k) (c - k) (by rfl) (by rfl) (by rfl) (by simp) NR.out ((row_tail HR.out hlc).gr G3.out) (Or.inr ⟨_, _, rfl⟩) (by first | (simp; done) | (simp; omega)) ?_)
      intro A4 c4 w4 r4 _ _ g4 _ _
      refine hK.out _ _ (Or.inr (bheap_gr g4 H3.out)) ?_
      clear hK K
      (try simp only [Act.put, List.setIfInBounds_toArray, List.set_cons_zero, List.set_cons_succ])
      have H4 := Lib.hid (bheap_gr g4 H3.out)
      have G4 := Lib.hid (G3.out.trans g4)
      have R4 := Lib.hid r4
      clear r4 g4 H3 G3 NR
      refine till_one (i := 10) (by kernel_rfl) rfl (fun K hK => ?_)
      (refine step_app_full _ (by rfl) _ _ 35 (by rfl) 9 i0 (.string .empty) 1 16 Tryz.underlying35 I1.out I2.out I3.out I4.out (by omega) nmC nm_len (L.take k) ([nm.toList] ++ L.drop k) A A4 k ([nm.toList] ++ L.drop k).length c4 (by rfl) (by rfl) (by first | (simp; done) | (simp; omega)) (by rfl) ((row_head HR.out k).gr G4.out) R4.out HAN.out (by first | (simp; done) | (simp; omega)) ?_)
      intro A5 c5 w5 r5 l5 m5 g5 n5 _
      refine hK.out _ _ (Or.inr (bheap_gr g5 H4.out)) ?_
      clear hK K
      (try simp only [Act.put, List.setIfInBounds_toArray, List.set_cons_zero, List.set_cons_succ])
      obtain ⟨rfl, _⟩ := n5 (by simp)
      have H5 := Lib.hid (bheap_gr g5 H4.out)
      have G5 := Lib.hid (G4.out.trans g5)
      have R5 := Lib.hid r5
      have NE := Lib.hid (show w4.heap.size ≠ q by have := (Array.getElem?_eq_some_iff.1 H4.out).1; omega)
      clear r5 g5 H4 R4 n5 hHeld
      have zc : w5.cell? ⟨q, 0, none⟩ = some (.slice A L.length c) := bcell_row H5.out rfl
      have fz : w5.frozen? ⟨q, 0, none⟩ = false := unfrozen H5.out
      refine till_one (i := 11) (by kernel_rfl) rfl (fun K hK => ?_)
      go_simp
      refine hK.out _ _ (Or.inl (by kernel_rfl)) ?_
      clear hK K
      (try simp only [Act.put, List.setIfInBounds_toArray, List.set_cons_zero, List.set_cons_succ])
      clear zc fz
      refine till_done (by kernel_rfl) ?_ _
      refine NoPanic.normal ?_
      go_wp2_with fail
      go_end0
      rw [show k + (L.length - k + 1) = (L.take k ++ ([nm.toList] ++ L.drop k)).length by simp [Nat.min_eq_left hk]]
      refine ⟨rfl, L.take k ++ ([nm.toList] ++ L.drop k), ⟨_, _, heap_setCell_same _ _ _ _ _ _ H5.out, row_set R5.out NE.out _, l5, m5, Or.inr ⟨_, rfl, NE.out⟩⟩, put_sorted HS.out hb.out H2.out, put_perm _ _ _, gb_set G5.out _⟩
end Go.Proofs.YtemdgipkcilpcaaGreatDoor
