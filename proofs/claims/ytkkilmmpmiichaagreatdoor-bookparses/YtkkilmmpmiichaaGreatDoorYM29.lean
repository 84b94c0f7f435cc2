/- What the project's Parse of package rule returns, for every text of a length up tto 1048576. -/
import Derived.Test.YtkkilmmpmiichaaGreatDoorYM28
import Derived.Test.YtkkilmmpmiichaaGreatDoorYM20
namespace Go.Proofs.YtkkilmmpmiichaaGreatDoor
set_option linter.unusedVariables false
set_option linter.unusedSimpArgs false
open Go.RowKit
theorem splitB_more (sep : ByteArray) (h1 : 1 ≤ sep.size) (save : Nat) : ∀ (k : Nat) (t : ByteArray), Lib.countB t sep ≤ k → Lib.splitB sep save k t = Lib.splitB sep save (Lib.countB t sep) t
  | 0, t, h => by rw [show Lib.countB t sep = 0 by omega]
  | k + 1, t, h => by
    rcases Lib.indexB_cases t sep with hix | ⟨i, hix, _⟩
    · rw [Lib.splitB_miss sep save _ t hix, Lib.splitB_miss sep save _ t hix]
    · have hc := Lib.countB_hit t sep i h1 hix
      rw [hc, Nat.add_comm 1, Lib.splitB_hit sep save k t i hix, Lib.splitB_hit sep save _ t i hix, splitB_more sep h1 save k _ (by omega)]
theorem splitB_less (sep : ByteArray) (h1 : 1 ≤ sep.size) (save : Nat) : ∀ (k : Nat) (t : ByteArray), k ≤ Lib.countB t sep → (Lib.splitB sep save k t).length = k + 1
  | 0, t, h => rfl
  | k + 1, t, h => by
    rcases Lib.indexB_cases t sep with hix | ⟨i, hix, _⟩
    · rw [Lib.countB_miss t sep hix] at h; omega
    · have hc := Lib.countB_hit t sep i h1 hix
      rw [Lib.splitB_hit sep save k t i hix, List.length_cons, splitB_less sep h1 save k _ (by omega)]
/-- what SplitN leaves -/
def SplitT (t : ByteArray) (w : World) (e : Ending) (w' : World) : Prop := ∃ g L c : Nat, e = .returned (.slice (some ⟨g, 0, none⟩) L c) ∧ w.heap.size ≤ g ∧ L ≤ c ∧ L ≤ 10 ∧ Gr w w' ∧ (L = 9 ↔ (bl t).length = 9) ∧ (L = 9 → ∀ j, j < 9 → w'.cell? ⟨g, j, none⟩ = some (.string (wd t j)))
theorem splitT (t : ByteArray) (m : Int) (w : World) (hs : t.size ≤ 1048576) (hm : w.cell? ⟨0, 0, none⟩ = some (.int .i64 m)) :
    Calls Tryz.prog 27 #[.string t, .string ⟨#[32]⟩, .int .i64 10] w (SplitT t w) := by
  refine (Tryz.strings_SplitN t ⟨#[32]⟩ 10 m w (by omega) hm (by decide) (by omega) (by omega)).mono ?_
  rintro e w' ⟨rfl, rfl⟩
  have hb := bl_len t
  have hle := Lib.countB_le ⟨#[32]⟩ (by decide) t.size t (Nat.le_refl _)
  have h1 : 1 ≤ (ByteArray.mk #[32]).size := by decide
  have hk := Lib.splitB_length_le ⟨#[32]⟩ 0 (min 10 (t.size + 1) - 1) t
  refine ⟨w.heap.size, _, _, rfl, Nat.le_refl _, by omega, by omega, Gr.alloc _ _, ?_, ?_⟩
  · by_cases c : Lib.countB t ⟨#[32]⟩ ≤ min 10 (t.size + 1) - 1
    · rw [splitB_more _ h1 0 _ t c]; exact Iff.rfl
    · rw [splitB_less _ h1 0 _ t (by omega), hb]; omega
  · intro h9 j hj
    have c : Lib.countB t ⟨#[32]⟩ ≤ min 10 (t.size + 1) - 1 := by
      by_cases c : Lib.countB t ⟨#[32]⟩ ≤ min 10 (t.size + 1) - 1
      · exact c
      · rw [splitB_less _ h1 0 _ t (by omega)] at h9; omega
    have e := splitB_more _ h1 0 _ t c
    rw [e] at h9 ⊢
    have hl : (bl t).length = 9 := h9
    rw [World.cell?_alloc_new]
    show (Lib.cellsOf (bl t) (min 10 (t.size + 1)))[j]? = _
    unfold Lib.cellsOf wd
    rw [List.getElem?_toArray, List.getElem?_append_left (by simp; omega)]
    simp [List.getD, List.getElem?_eq_getElem (show j < (bl t).length by omega)]
theorem clone_any (s : ByteArray) (w : World) (hs : s.size ≤ 1048576) :
    Calls Tryz.prog 22 #[.string s] w fun e w' => e = .returned (.string s) ∧ Gr w w' := by
  have K := Tryz.stringslite_Clone s w (by omega)
  clear hs
  go_enter Tryz.func22, Tryz.ntmps22
  go_wp2_with fail
  refine K.mono ?_
  rintro e w1 ⟨rfl, hg⟩
  go_wp2_with fail
  go_ret
  exact ⟨rfl, hg⟩
/-- if a rule has this text, the guess has it too -/
theorem only_good {s : ByteArray} {fr tt mo k d n at' by' sv : Int} (ho : OnlyRule (wd s) fr tt mo k d n at' by' sv) (h : Good s.toList) :
    ruleC (wd s 1).toList (wd s 8).toList fr tt mo k d n at' by' sv = 0 ∧ ruleL (wd s 1).toList (wd s 8).toList fr tt mo k d n at' by' sv = s.toList := by
  obtain ⟨nm, lt, fr', tt', mo', k', d', n', at2, by2, sv', hc, hl⟩ := h
  obtain ⟨_, _, hw⟩ := good_words hc hl
  obtain ⟨rfl, rfl, rfl, rfl, rfl, rfl, rfl, rfl, rfl⟩ := ho nm lt fr' tt' mo' k' d' n' at2 by2 sv' hc hw
  obtain ⟨w1, _, _, _, _, _, _, w8⟩ := hw
  rw [w1, w8]
  exact ⟨hc, hl⟩
theorem keepC {w W W' : World} {b : Nat} {x z : Value} (h : W.cell? ⟨b, 0, none⟩ = some x ∧ W.cell? ⟨b, 10, none⟩ = some z ∧ Gr w W) (hg : Gr W W') : W'.cell? ⟨b, 0, none⟩ = some x ∧ W'.cell? ⟨b, 10, none⟩ = some z ∧ Gr w W' :=
  ⟨hg.holds h.1, hg.holds h.2.1, h.2.2.trans hg⟩
theorem keepCS {w W : World} {b : Nat} {T : TypeId} {x0 x1 x2 x3 x4 x5 x6 x7 x8 x9 x10 : Value} (h : W.heap[b]? = some (.cells #[x0, x1, x2, x3, x4, x5, x6, x7, x8, x9, x10] T (0, 0))) (hg : Gr w W) : W.cell? ⟨b, 0, none⟩ = some x0 ∧ W.cell? ⟨b, 10, none⟩ = some x10 ∧ Gr w W :=
  ⟨by simp [World.cell?, h], by simp [World.cell?, h], hg⟩
/-- what Parse of package rule reads -/
def RpTab (w : World) : Prop := RdTab w ∧ RtTab w
theorem Gr.rpT {w w' : World} (h : Gr w w') (k : RpTab w) : RpTab w' := ⟨h.rdT k.1, h.rtT k.2⟩

set_option maxRecDepth 100000 in
set_option maxHeartbeats 8000000 in
theorem pparse (s : ByteArray) (w : World) (hs : s.size ≤ 1048576) (ht : RpTab w) :
    Calls Tryz.prog 56 #[.string s] w fun e w' => RuleReadA s.toList e ∧ Gr w w' := by
  obtain ⟨mx, hmx⟩ := ht.1.2.2.2
  have KS := Lib.hid (fun w h => splitT s mx w hs h)
  have HM := Lib.hid hmx
  have KG := Lib.hid (fun g c w hc hc9 h1 h2 => pguess (wd s) g c w hc (fun j => Nat.le_trans (wd_size j) hs) hc9 h1 h2)
  have KT := Lib.hid (fun fr tt mo k d n at' by' sv w h => pruleText (wd s 1) fr tt mo k d n at' by' sv (wd s 8) w h (by have := wd_size (t := s) 1; unfold maxLen; omega) (by have := wd_size (t := s) 8; unfold maxLen; omega))
  have C1 := Lib.hid (fun w => clone_any (wd s 1) w (Nat.le_trans (wd_size 1) hs))
  have C8 := Lib.hid (fun w => clone_any (wd s 8) w (Nat.le_trans (wd_size 8) hs))
  have HT := Lib.hid ht
  have hZ := Lib.hid (heap_new w (.cells zrow 42))
  have G0 := Lib.hid (Gr.alloc w (.cells zrow 42))
  clear hs ht hmx
  go_enter Tryz.func56, Tryz.ntmps56
  go_wp2_with fail
  generalize w.alloc (.cells zrow 42) = w0 at hZ G0 ⊢
  generalize hb0 : w.heap.size = b0 at hZ ⊢
  have HB0 := Lib.hid hb0
  clear hb0
  refine (KS.out w0 (G0.out.holds HM.out)).mono ?_
  rintro e w1 ⟨g, L, c, rfl, hg, hLc, hL10, g1, hiff, hcell⟩
  have HI := Lib.hid hiff
  have HCL := Lib.hid hcell
  have G1 := Lib.hid (G0.out.trans g1)
  have hZ2 := Lib.hid (heap_gr g1 hZ.out)
  have gb : b0 < g := Nat.lt_of_lt_of_le (Array.getElem?_eq_some_iff.1 hZ.out).1 hg
  clear hZ G0 g1 hiff hcell KS hg
  have hZ := hZ2
  clear hZ2
  by_cases l9 : L = 9
  case neg =>
    have t0 : (((L : Nat) : Int) != 9) = true := by simp; omega
    have NG : Hid (RuleReadA s.toList noRule) := Or.inr ⟨fun ⟨nm, lt, fr, tt, mo, k, d, n, at', by', sv, hc, hl⟩ => l9 (HI.out.2 (good_words hc hl).1), rfl⟩
    clear l9
    have z0 : w1.cell? ⟨b0, 0, none⟩ = some (.string ⟨#[]⟩) := by simp [World.cell?, hZ.out]
    have z1 : w1.cell? ⟨b0, 1, none⟩ = some (.int .i64 0) := by simp [World.cell?, hZ.out]
    have z2 : w1.cell? ⟨b0, 2, none⟩ = some (.int .i64 0) := by simp [World.cell?, hZ.out]
    have z3 : w1.cell? ⟨b0, 3, none⟩ = some (.int .i64 0) := by simp [World.cell?, hZ.out]
    have z4 : w1.cell? ⟨b0, 4, none⟩ = some (.int .i64 0) := by simp [World.cell?, hZ.out]
    have z5 : w1.cell? ⟨b0, 5, none⟩ = some (.int .i64 0) := by simp [World.cell?, hZ.out]
    have z6 : w1.cell? ⟨b0, 6, none⟩ = some (.int .i64 0) := by simp [World.cell?, hZ.out]
    have z7 : w1.cell? ⟨b0, 7, none⟩ = some (.int .i64 0) := by simp [World.cell?, hZ.out]
    have z8 : w1.cell? ⟨b0, 8, none⟩ = some (.int .i64 0) := by simp [World.cell?, hZ.out]
    have z9 : w1.cell? ⟨b0, 9, none⟩ = some (.int .i64 0) := by simp [World.cell?, hZ.out]
    have z10 : w1.cell? ⟨b0, 10, none⟩ = some (.string ⟨#[]⟩) := by simp [World.cell?, hZ.out]
    have fz : ∀ i, w1.frozen? ⟨b0, i, none⟩ = false := fun i => by simp [World.frozen?, hZ.out]
    have E := Lib.hid (store11 hZ.out (.string ⟨#[]⟩) (.int .i64 0) (.int .i64 0) (.int .i64 0) (.int .i64 0) (.int .i64 0) (.int .i64 0) (.int .i64 0) (.int .i64 0) (.int .i64 0) (.string ⟨#[]⟩))
    have SB := Lib.hid (store11_below (B := b0) (a := w) (p := b0) (by rw [← HB0.out]; exact G1.out) (Nat.le_refl _) (.string ⟨#[]⟩) (.int .i64 0) (.int .i64 0) (.int .i64 0) (.int .i64 0) (.int .i64 0) (.int .i64 0) (.int .i64 0) (.int .i64 0) (.int .i64 0) (.string ⟨#[]⟩))
    go_wp2_with fail
    generalize (((((((((((w1.setCell ⟨b0, 0, none⟩ (.string ⟨#[]⟩)).setCell ⟨b0, 1, none⟩ (.int .i64 0)).setCell ⟨b0, 2, none⟩ (.int .i64 0)).setCell ⟨b0, 3, none⟩ (.int .i64 0)).setCell ⟨b0, 4, none⟩ (.int .i64 0)).setCell ⟨b0, 5, none⟩ (.int .i64 0)).setCell ⟨b0, 6, none⟩ (.int .i64 0)).setCell ⟨b0, 7, none⟩ (.int .i64 0)).setCell ⟨b0, 8, none⟩ (.int .i64 0)).setCell ⟨b0, 9, none⟩ (.int .i64 0)).setCell ⟨b0, 10, none⟩ (.string ⟨#[]⟩)) = FF at E SB ⊢
    have y0 : FF.cell? ⟨b0, 0, none⟩ = some (.string ⟨#[]⟩) := by simp [World.cell?, E.out]
    have y1 : FF.cell? ⟨b0, 1, none⟩ = some (.int .i64 0) := by simp [World.cell?, E.out]
    have y2 : FF.cell? ⟨b0, 2, none⟩ = some (.int .i64 0) := by simp [World.cell?, E.out]
    have y3 : FF.cell? ⟨b0, 3, none⟩ = some (.int .i64 0) := by simp [World.cell?, E.out]
    have y4 : FF.cell? ⟨b0, 4, none⟩ = some (.int .i64 0) := by simp [World.cell?, E.out]
    have y5 : FF.cell? ⟨b0, 5, none⟩ = some (.int .i64 0) := by simp [World.cell?, E.out]
    have y6 : FF.cell? ⟨b0, 6, none⟩ = some (.int .i64 0) := by simp [World.cell?, E.out]
    have y7 : FF.cell? ⟨b0, 7, none⟩ = some (.int .i64 0) := by simp [World.cell?, E.out]
    have y8 : FF.cell? ⟨b0, 8, none⟩ = some (.int .i64 0) := by simp [World.cell?, E.out]
    have y9 : FF.cell? ⟨b0, 9, none⟩ = some (.int .i64 0) := by simp [World.cell?, E.out]
    have y10 : FF.cell? ⟨b0, 10, none⟩ = some (.string ⟨#[]⟩) := by simp [World.cell?, E.out]
    exact bodyPost_ret (v := .tuple #[ruleV ⟨#[]⟩ 0 0 0 0 0 0 0 0 0 ⟨#[]⟩, .int .i64 3]) (by simp [results, Tryz.results56, go_sem, y0, y1, y2, y3, y4, y5, y6, y7, y8, y9, y10]) rfl ⟨NG.out, by unfold Gr; rw [HB0.out]; exact SB.out⟩
  subst l9
  have HW := Lib.hid (HCL.out rfl)
  clear HCL HI
  go_wp2_with fail
  refine (KG.out g c w1 HW.out hLc (G1.out.rdT HT.out.1) (G1.out.clT HT.out.2.2.2)).mono ?_
  rintro e w2 ⟨fr, tt, mo, k, d, n, at', by', sv, rfl, ho, g2⟩
  have HO := Lib.hid ho
  have G2 := Lib.hid (G1.out.trans g2)
  have hZ2 := Lib.hid (heap_gr g2 hZ.out)
  clear hZ G1 g2 ho KG HW
  have hZ := hZ2
  clear hZ2
  have hB := Lib.hid (heap_new w2 (.cells #[.string (wd s 1), .int .i64 fr, .int .i64 tt, .int .i64 mo, .int .i64 k, .int .i64 d, .int .i64 n, .int .i64 at', .int .i64 by', .int .i64 sv, .string (wd s 8)] 42))
  have G3 := Lib.hid (G2.out.alloc' (.cells #[.string (wd s 1), .int .i64 fr, .int .i64 tt, .int .i64 mo, .int .i64 k, .int .i64 d, .int .i64 n, .int .i64 at', .int .i64 by', .int .i64 sv, .string (wd s 8)] 42))
  have hZ2 := Lib.hid (heap_gr (Gr.alloc w2 (.cells #[.string (wd s 1), .int .i64 fr, .int .i64 tt, .int .i64 mo, .int .i64 k, .int .i64 d, .int .i64 n, .int .i64 at', .int .i64 by', .int .i64 sv, .string (wd s 8)] 42)) hZ.out)
  have hne : b0 < w2.heap.size := (Array.getElem?_eq_some_iff.1 hZ.out).1
  clear hZ G2
  have hZ := hZ2
  clear hZ2
  go_wp2_with fail
  generalize w2.alloc (.cells #[.string (wd s 1), .int .i64 fr, .int .i64 tt, .int .i64 mo, .int .i64 k, .int .i64 d, .int .i64 n, .int .i64 at', .int .i64 by', .int .i64 sv, .string (wd s 8)] 42) = w3 at hB G3 hZ ⊢
  generalize w2.heap.size = b2 at hB hne ⊢
  have KT' := KT.out fr tt mo k d n at' by' sv w3 (G3.out.rtT HT.out.2)
  unfold ruleTextA at KT'
  by_cases ok : ruleC (wd s 1).toList (wd s 8).toList fr tt mo k d n at' by' sv = 0
  case neg =>
    rw [if_neg ok] at KT'
    have tc := bneT ok
    have NG : Hid (RuleReadA s.toList noRule) := Or.inr ⟨fun h => ok (only_good HO.out h).1, rfl⟩
    clear ok HO
    generalize ruleC (wd s 1).toList (wd s 8).toList fr tt mo k d n at' by' sv = cc at KT' tc
    refine KT'.mono ?_
    rintro e w4 ⟨rfl, g4⟩
    have G4 := Lib.hid (G3.out.trans g4)
    have hZ2 := Lib.hid (heap_gr g4 hZ.out)
    clear hZ g4 KT'
    have hZ := hZ2
    clear hZ2
    have z0 : w4.cell? ⟨b0, 0, none⟩ = some (.string ⟨#[]⟩) := by simp [World.cell?, hZ.out]
    have z1 : w4.cell? ⟨b0, 1, none⟩ = some (.int .i64 0) := by simp [World.cell?, hZ.out]
    have z2 : w4.cell? ⟨b0, 2, none⟩ = some (.int .i64 0) := by simp [World.cell?, hZ.out]
    have z3 : w4.cell? ⟨b0, 3, none⟩ = some (.int .i64 0) := by simp [World.cell?, hZ.out]
    have z4 : w4.cell? ⟨b0, 4, none⟩ = some (.int .i64 0) := by simp [World.cell?, hZ.out]
    have z5 : w4.cell? ⟨b0, 5, none⟩ = some (.int .i64 0) := by simp [World.cell?, hZ.out]
    have z6 : w4.cell? ⟨b0, 6, none⟩ = some (.int .i64 0) := by simp [World.cell?, hZ.out]
    have z7 : w4.cell? ⟨b0, 7, none⟩ = some (.int .i64 0) := by simp [World.cell?, hZ.out]
    have z8 : w4.cell? ⟨b0, 8, none⟩ = some (.int .i64 0) := by simp [World.cell?, hZ.out]
    have z9 : w4.cell? ⟨b0, 9, none⟩ = some (.int .i64 0) := by simp [World.cell?, hZ.out]
    have z10 : w4.cell? ⟨b0, 10, none⟩ = some (.string ⟨#[]⟩) := by simp [World.cell?, hZ.out]
    have fz : ∀ i, w4.frozen? ⟨b0, i, none⟩ = false := fun i => by simp [World.frozen?, hZ.out]
    have E := Lib.hid (store11 hZ.out (.string ⟨#[]⟩) (.int .i64 0) (.int .i64 0) (.int .i64 0) (.int .i64 0) (.int .i64 0) (.int .i64 0) (.int .i64 0) (.int .i64 0) (.int .i64 0) (.string ⟨#[]⟩))
    have SB := Lib.hid (store11_below (B := b0) (a := w) (p := b0) (by rw [← HB0.out]; exact G4.out) (Nat.le_refl _) (.string ⟨#[]⟩) (.int .i64 0) (.int .i64 0) (.int .i64 0) (.int .i64 0) (.int .i64 0) (.int .i64 0) (.int .i64 0) (.int .i64 0) (.int .i64 0) (.string ⟨#[]⟩))
    go_wp2_with fail
    generalize (((((((((((w4.setCell ⟨b0, 0, none⟩ (.string ⟨#[]⟩)).setCell ⟨b0, 1, none⟩ (.int .i64 0)).setCell ⟨b0, 2, none⟩ (.int .i64 0)).setCell ⟨b0, 3, none⟩ (.int .i64 0)).setCell ⟨b0, 4, none⟩ (.int .i64 0)).setCell ⟨b0, 5, none⟩ (.int .i64 0)).setCell ⟨b0, 6, none⟩ (.int .i64 0)).setCell ⟨b0, 7, none⟩ (.int .i64 0)).setCell ⟨b0, 8, none⟩ (.int .i64 0)).setCell ⟨b0, 9, none⟩ (.int .i64 0)).setCell ⟨b0, 10, none⟩ (.string ⟨#[]⟩)) = FF at E SB ⊢
    have y0 : FF.cell? ⟨b0, 0, none⟩ = some (.string ⟨#[]⟩) := by simp [World.cell?, E.out]
    have y1 : FF.cell? ⟨b0, 1, none⟩ = some (.int .i64 0) := by simp [World.cell?, E.out]
    have y2 : FF.cell? ⟨b0, 2, none⟩ = some (.int .i64 0) := by simp [World.cell?, E.out]
    have y3 : FF.cell? ⟨b0, 3, none⟩ = some (.int .i64 0) := by simp [World.cell?, E.out]
    have y4 : FF.cell? ⟨b0, 4, none⟩ = some (.int .i64 0) := by simp [World.cell?, E.out]
    have y5 : FF.cell? ⟨b0, 5, none⟩ = some (.int .i64 0) := by simp [World.cell?, E.out]
    have y6 : FF.cell? ⟨b0, 6, none⟩ = some (.int .i64 0) := by simp [World.cell?, E.out]
    have y7 : FF.cell? ⟨b0, 7, none⟩ = some (.int .i64 0) := by simp [World.cell?, E.out]
    have y8 : FF.cell? ⟨b0, 8, none⟩ = some (.int .i64 0) := by simp [World.cell?, E.out]
    have y9 : FF.cell? ⟨b0, 9, none⟩ = some (.int .i64 0) := by simp [World.cell?, E.out]
    have y10 : FF.cell? ⟨b0, 10, none⟩ = some (.string ⟨#[]⟩) := by simp [World.cell?, E.out]
    exact bodyPost_ret (v := .tuple #[ruleV ⟨#[]⟩ 0 0 0 0 0 0 0 0 0 ⟨#[]⟩, .int .i64 3]) (by simp [results, Tryz.results56, go_sem, y0, y1, y2, y3, y4, y5, y6, y7, y8, y9, y10]) rfl ⟨NG.out, by unfold Gr; rw [HB0.out]; exact SB.out⟩
  rw [if_pos ok] at KT'
  by_cases eq : ruleL (wd s 1).toList (wd s 8).toList fr tt mo k d n at' by' sv = s.toList
  case neg =>
    have eq' : (ruleL (wd s 1).toList (wd s 8).toList fr tt mo k d n at' by' sv == s.toList) = false := by simpa using eq
    have eq2 : (ruleL (wd s 1).toList (wd s 8).toList fr tt mo k d n at' by' sv != s.toList) = true := by simp [eq]
    have NG : Hid (RuleReadA s.toList noRule) := Or.inr ⟨fun h => eq (only_good HO.out h).2, rfl⟩
    clear ok HO eq
    generalize ruleL (wd s 1).toList (wd s 8).toList fr tt mo k d n at' by' sv = l at KT' eq' eq2
    refine KT'.mono ?_
    rintro e w4 ⟨rfl, g4⟩
    have G4 := Lib.hid (G3.out.trans g4)
    have hZ2 := Lib.hid (heap_gr g4 hZ.out)
    clear hZ g4 KT'
    have hZ := hZ2
    clear hZ2
    have z0 : w4.cell? ⟨b0, 0, none⟩ = some (.string ⟨#[]⟩) := by simp [World.cell?, hZ.out]
    have z1 : w4.cell? ⟨b0, 1, none⟩ = some (.int .i64 0) := by simp [World.cell?, hZ.out]
    have z2 : w4.cell? ⟨b0, 2, none⟩ = some (.int .i64 0) := by simp [World.cell?, hZ.out]
    have z3 : w4.cell? ⟨b0, 3, none⟩ = some (.int .i64 0) := by simp [World.cell?, hZ.out]
    have z4 : w4.cell? ⟨b0, 4, none⟩ = some (.int .i64 0) := by simp [World.cell?, hZ.out]
    have z5 : w4.cell? ⟨b0, 5, none⟩ = some (.int .i64 0) := by simp [World.cell?, hZ.out]
    have z6 : w4.cell? ⟨b0, 6, none⟩ = some (.int .i64 0) := by simp [World.cell?, hZ.out]
    have z7 : w4.cell? ⟨b0, 7, none⟩ = some (.int .i64 0) := by simp [World.cell?, hZ.out]
    have z8 : w4.cell? ⟨b0, 8, none⟩ = some (.int .i64 0) := by simp [World.cell?, hZ.out]
    have z9 : w4.cell? ⟨b0, 9, none⟩ = some (.int .i64 0) := by simp [World.cell?, hZ.out]
    have z10 : w4.cell? ⟨b0, 10, none⟩ = some (.string ⟨#[]⟩) := by simp [World.cell?, hZ.out]
    have fz : ∀ i, w4.frozen? ⟨b0, i, none⟩ = false := fun i => by simp [World.frozen?, hZ.out]
    have E := Lib.hid (store11 hZ.out (.string ⟨#[]⟩) (.int .i64 0) (.int .i64 0) (.int .i64 0) (.int .i64 0) (.int .i64 0) (.int .i64 0) (.int .i64 0) (.int .i64 0) (.int .i64 0) (.string ⟨#[]⟩))
    have SB := Lib.hid (store11_below (B := b0) (a := w) (p := b0) (by rw [← HB0.out]; exact G4.out) (Nat.le_refl _) (.string ⟨#[]⟩) (.int .i64 0) (.int .i64 0) (.int .i64 0) (.int .i64 0) (.int .i64 0) (.int .i64 0) (.int .i64 0) (.int .i64 0) (.int .i64 0) (.string ⟨#[]⟩))
    go_wp2_with fail
    generalize (((((((((((w4.setCell ⟨b0, 0, none⟩ (.string ⟨#[]⟩)).setCell ⟨b0, 1, none⟩ (.int .i64 0)).setCell ⟨b0, 2, none⟩ (.int .i64 0)).setCell ⟨b0, 3, none⟩ (.int .i64 0)).setCell ⟨b0, 4, none⟩ (.int .i64 0)).setCell ⟨b0, 5, none⟩ (.int .i64 0)).setCell ⟨b0, 6, none⟩ (.int .i64 0)).setCell ⟨b0, 7, none⟩ (.int .i64 0)).setCell ⟨b0, 8, none⟩ (.int .i64 0)).setCell ⟨b0, 9, none⟩ (.int .i64 0)).setCell ⟨b0, 10, none⟩ (.string ⟨#[]⟩)) = FF at E SB ⊢
    have y0 : FF.cell? ⟨b0, 0, none⟩ = some (.string ⟨#[]⟩) := by simp [World.cell?, E.out]
    have y1 : FF.cell? ⟨b0, 1, none⟩ = some (.int .i64 0) := by simp [World.cell?, E.out]
    have y2 : FF.cell? ⟨b0, 2, none⟩ = some (.int .i64 0) := by simp [World.cell?, E.out]
    have y3 : FF.cell? ⟨b0, 3, none⟩ = some (.int .i64 0) := by simp [World.cell?, E.out]
    have y4 : FF.cell? ⟨b0, 4, none⟩ = some (.int .i64 0) := by simp [World.cell?, E.out]
    have y5 : FF.cell? ⟨b0, 5, none⟩ = some (.int .i64 0) := by simp [World.cell?, E.out]
    have y6 : FF.cell? ⟨b0, 6, none⟩ = some (.int .i64 0) := by simp [World.cell?, E.out]
    have y7 : FF.cell? ⟨b0, 7, none⟩ = some (.int .i64 0) := by simp [World.cell?, E.out]
    have y8 : FF.cell? ⟨b0, 8, none⟩ = some (.int .i64 0) := by simp [World.cell?, E.out]
    have y9 : FF.cell? ⟨b0, 9, none⟩ = some (.int .i64 0) := by simp [World.cell?, E.out]
    have y10 : FF.cell? ⟨b0, 10, none⟩ = some (.string ⟨#[]⟩) := by simp [World.cell?, E.out]
    exact bodyPost_ret (v := .tuple #[ruleV ⟨#[]⟩ 0 0 0 0 0 0 0 0 0 ⟨#[]⟩, .int .i64 3]) (by simp [results, Tryz.results56, go_sem, y0, y1, y2, y3, y4, y5, y6, y7, y8, y9, y10]) rfl ⟨NG.out, by unfold Gr; rw [HB0.out]; exact SB.out⟩
  have eq' : (ruleL (wd s 1).toList (wd s 8).toList fr tt mo k d n at' by' sv == s.toList) = true := by simpa using eq
  have eq2 : (ruleL (wd s 1).toList (wd s 8).toList fr tt mo k d n at' by' sv != s.toList) = false := by simp [eq]
  have A : Hid (RuleReadA s.toList (ruleInt (wd s 1) fr tt mo k d n at' by' sv (wd s 8) 0)) := Or.inl ⟨(wd s 1).toList, (wd s 8).toList, fr, tt, mo, k, d, n, at', by', sv, ok, eq, by rw [← S_of, ← S_of]⟩
  clear ok HO eq
  generalize ruleL (wd s 1).toList (wd s 8).toList fr tt mo k d n at' by' sv = l at KT' eq' eq2
  refine KT'.mono ?_
  rintro e w4 ⟨rfl, g4⟩
  have G4 := G3.out.trans g4
  have hZ2 := Lib.hid (heap_gr g4 hZ.out)
  have hB2 := Lib.hid (heap_gr g4 hB.out)
  clear hZ g4 KT' hB G3 KT
  have hZ := hZ2
  have hB := hB2
  clear hZ2 hB2
  have hlw : w.heap.size ≤ b2 := by have := HB0.out; omega
  go_wp2_with fail
  have k0 : w4.cell? ⟨b2, 0, none⟩ = some (.string (wd s 1)) := by simp [World.cell?, hB.out]
  have k10 : w4.cell? ⟨b2, 10, none⟩ = some (.string (wd s 8)) := by simp [World.cell?, hB.out]
  refine wp_region_noPanic ?_
  refine wp_region_held_drew (S := fun wx => wx.cell? ⟨b2, 0, none⟩ = some (.string (wd s 1)) ∧ wx.cell? ⟨b2, 10, none⟩ = some (.string (wd s 8)) ∧ Gr w wx) (by kernel_rfl) ⟨k0, k10, G4.drew'⟩ (fun hHeld => ?_)
  clear k0 k10 G4
  have hB2 := Lib.hid (heap_gr (Gr.drew w4) hB.out)
  have hZ2 := Lib.hid (heap_gr (Gr.drew w4) hZ.out)
  clear hB hZ
  have hB := hB2
  have hZ := hZ2
  clear hB2 hZ2
  generalize w4.drew = v0 at hHeld hB hZ ⊢
  refine wpAnyH_take (i := 0) (oi := { dst := some 29, op := _, type := _, pos := _, after := _, guard := _ }) (v := ?v1) rfl (by kernel_rfl) (by kernel_rfl) (by kernel_rfl) (fun _ _ _ h => h) (Or.inl ⟨by rfl, ?hy1⟩) (by assumption) ?rest1
  case hy1 => (intro w hSw; (try dsimp only at hSw); go_simp <;> (with_reducible rfl))
  (try simp only [Act.put, List.setIfInBounds_toArray, List.set_cons_zero, List.set_cons_succ])
  refine wpAnyH_take (i := 3) (oi := { dst := some 32, op := _, type := _, pos := _, after := _, guard := _ }) (v := ?v2) rfl (by kernel_rfl) (by kernel_rfl) (by kernel_rfl) (fun _ _ _ h => h) (Or.inl ⟨by rfl, ?hy2⟩) (by assumption) ?rest2
  case hy2 => (intro w hSw; (try dsimp only at hSw); go_simp <;> (with_reducible rfl))
  (try simp only [Act.put, List.setIfInBounds_toArray, List.set_cons_zero, List.set_cons_succ])
  refine wpAnyH_take (i := 1) (oi := { dst := some 30, op := _, type := _, pos := _, after := _, guard := _ }) (v := ?v3) rfl (by kernel_rfl) (by kernel_rfl) (by kernel_rfl) (fun _ _ _ h => h) (Or.inl ⟨by rfl, ?hy3⟩) (by assumption) ?rest3
  case hy3 => (intro w hSw; (try dsimp only at hSw); go_simp <;> (with_reducible rfl))
  (try simp only [Act.put, List.setIfInBounds_toArray, List.set_cons_zero, List.set_cons_succ])
  refine wpAnyH_take (i := 4) (oi := { dst := some 33, op := _, type := _, pos := _, after := _, guard := _ }) (v := ?v4) rfl (by kernel_rfl) (by kernel_rfl) (by kernel_rfl) (fun _ _ _ h => h) (Or.inl ⟨by rfl, ?hy4⟩) (by assumption) ?rest4
  case hy4 => (intro w hSw; (try dsimp only at hSw); go_simp <;> (with_reducible rfl))
  (try simp only [Act.put, List.setIfInBounds_toArray, List.set_cons_zero, List.set_cons_succ])
  refine wpAnyH_ready (rs := [2]) (by kernel_rfl) (by simp) ?_
  refine AllReadyH.cons (rs := []) rfl (fun K hK => ?_) AllReadyH.nil
  go_simp
  (with_reducible refine (C1.out _).mono ?_)
  rintro e v5' ⟨rfl, hgx⟩
  (go_wp2_with fail)
  refine hK.out _ _ (keepC hHeld hgx) (fun hHeld2 => ?_)
  clear hK K hHeld
  have hHeld := hHeld2
  clear hHeld2
  (try simp only [Act.put, List.setIfInBounds_toArray, List.set_cons_zero, List.set_cons_succ])
  have hB2 := Lib.hid (heap_gr hgx hB.out)
  have hZ2 := Lib.hid (heap_gr hgx hZ.out)
  clear hB hZ
  have hB := hB2
  have hZ := hZ2
  clear hB2 hZ2 hgx
  refine wpAnyH_take (i := 6) (oi := { dst := some 35, op := _, type := _, pos := _, after := _, guard := _ }) (v := ?v6) rfl (by kernel_rfl) (by kernel_rfl) (by kernel_rfl) (fun _ _ _ h => h) (Or.inl ⟨by rfl, ?hy6⟩) (by assumption) ?rest6
  case hy6 => (intro w hSw; (try dsimp only at hSw); go_simp <;> (with_reducible rfl))
  (try simp only [Act.put, List.setIfInBounds_toArray, List.set_cons_zero, List.set_cons_succ])
  refine wpAnyH_ready (rs := [5]) (by kernel_rfl) (by simp) ?_
  refine AllReadyH.cons (rs := []) rfl (fun K hK => ?_) AllReadyH.nil
  go_simp
  (with_reducible refine (C8.out _).mono ?_)
  rintro e v7' ⟨rfl, hgx⟩
  (go_wp2_with fail)
  refine hK.out _ _ (keepC hHeld hgx) (fun hHeld2 => ?_)
  clear hK K hHeld
  have hHeld := hHeld2
  clear hHeld2
  (try simp only [Act.put, List.setIfInBounds_toArray, List.set_cons_zero, List.set_cons_succ])
  have hB2 := Lib.hid (heap_gr hgx hB.out)
  have hZ2 := Lib.hid (heap_gr hgx hZ.out)
  clear hB hZ
  have hB := hB2
  have hZ := hZ2
  clear hB2 hZ2 hgx
  refine wpAnyH_ready (rs := [7]) (by kernel_rfl) (by simp) ?_
  refine AllReadyH.cons (rs := []) rfl (fun K hK => ?_) AllReadyH.nil
  have zc : v7'.cell? ⟨b2, 0, none⟩ = some (.string (wd s 1)) := by simp [World.cell?, hB.out]
  have fz : v7'.frozen? ⟨b2, 0, none⟩ = false := by simp [World.frozen?, hB.out]
  have hB2 : Hid ((v7'.setCell ⟨b2, 0, none⟩ (.string (wd s 1))).heap[b2]? = some (.cells #[.string (wd s 1), .int .i64 fr, .int .i64 tt, .int .i64 mo, .int .i64 k, .int .i64 d, .int .i64 n, .int .i64 at', .int .i64 by', .int .i64 sv, .string (wd s 8)] 42 (0, 0))) := heap_setCell_same v7' b2 0 #[.string (wd s 1), .int .i64 fr, .int .i64 tt, .int .i64 mo, .int .i64 k, .int .i64 d, .int .i64 n, .int .i64 at', .int .i64 by', .int .i64 sv, .string (wd s 8)] 42 (.string (wd s 1)) hB.out
  have hZ2 : Hid ((v7'.setCell ⟨b2, 0, none⟩ (.string (wd s 1))).heap[b0]? = some (.cells zrow 42 (0, 0))) := by unfold Hid; rw [heap_setCell_other v7' ⟨b2, 0, none⟩ _ (.string (wd s 1)) (by show ¬ b0 = b2; omega)]; exact hZ.out
  have hx := keepCS hB2.out (show Gr w (v7'.setCell ⟨b2, 0, none⟩ (.string (wd s 1))) from Below.setCell hHeld.2.2 hlw _)
  go_simp
  clear zc fz hB hZ
  refine hK.out _ _ (hx) (fun hHeld2 => ?_)
  clear hK K hHeld
  have hHeld := hHeld2
  clear hHeld2
  (try simp only [Act.put, List.setIfInBounds_toArray, List.set_cons_zero, List.set_cons_succ])
  clear hx
  have hB := hB2
  have hZ := hZ2
  clear hB2 hZ2
  generalize v7'.setCell ⟨b2, 0, none⟩ (.string (wd s 1)) = u8 at hB hZ hHeld ⊢
  refine wpAnyH_take (i := 8) (oi := { dst := some 36, op := _, type := _, pos := _, after := _, guard := _ }) (v := ?v9) rfl (by kernel_rfl) (by kernel_rfl) (by kernel_rfl) (fun _ _ _ h => h) (Or.inl ⟨by rfl, ?hy9⟩) (by assumption) ?rest9
  case hy9 => (intro w hSw; (try dsimp only at hSw); go_simp <;> (with_reducible rfl))
  (try simp only [Act.put, List.setIfInBounds_toArray, List.set_cons_zero, List.set_cons_succ])
  refine wpAnyH_ready (rs := [9]) (by kernel_rfl) (by simp) ?_
  refine AllReadyH.cons (rs := []) rfl (fun K hK => ?_) AllReadyH.nil
  have zc : u8.cell? ⟨b2, 10, none⟩ = some (.string (wd s 8)) := by simp [World.cell?, hB.out]
  have fz : u8.frozen? ⟨b2, 10, none⟩ = false := by simp [World.frozen?, hB.out]
  have hB2 : Hid ((u8.setCell ⟨b2, 10, none⟩ (.string (wd s 8))).heap[b2]? = some (.cells #[.string (wd s 1), .int .i64 fr, .int .i64 tt, .int .i64 mo, .int .i64 k, .int .i64 d, .int .i64 n, .int .i64 at', .int .i64 by', .int .i64 sv, .string (wd s 8)] 42 (0, 0))) := heap_setCell_same u8 b2 10 #[.string (wd s 1), .int .i64 fr, .int .i64 tt, .int .i64 mo, .int .i64 k, .int .i64 d, .int .i64 n, .int .i64 at', .int .i64 by', .int .i64 sv, .string (wd s 8)] 42 (.string (wd s 8)) hB.out
  have hZ2 : Hid ((u8.setCell ⟨b2, 10, none⟩ (.string (wd s 8))).heap[b0]? = some (.cells zrow 42 (0, 0))) := by unfold Hid; rw [heap_setCell_other u8 ⟨b2, 10, none⟩ _ (.string (wd s 8)) (by show ¬ b0 = b2; omega)]; exact hZ.out
  have hx := keepCS hB2.out (show Gr w (u8.setCell ⟨b2, 10, none⟩ (.string (wd s 8))) from Below.setCell hHeld.2.2 hlw _)
  go_simp
  clear zc fz hB hZ
  refine hK.out _ _ (hx) (fun hHeld2 => ?_)
  clear hK K hHeld
  have hHeld := hHeld2
  clear hHeld2
  (try simp only [Act.put, List.setIfInBounds_toArray, List.set_cons_zero, List.set_cons_succ])
  clear hx
  have hB := hB2
  have hZ := hZ2
  clear hB2 hZ2
  generalize u8.setCell ⟨b2, 10, none⟩ (.string (wd s 8)) = u10 at hB hZ hHeld ⊢
  refine wpAnyH_done (by kernel_rfl) ?_ _
  refine NoPanic.normal ?_
  have gF := Lib.hid hHeld.2.2
  clear hHeld
  have r0 : u10.cell? ⟨b2, 0, none⟩ = some (.string (wd s 1)) := by simp [World.cell?, hB.out]
  have r1 : u10.cell? ⟨b2, 1, none⟩ = some (.int .i64 fr) := by simp [World.cell?, hB.out]
  have r2 : u10.cell? ⟨b2, 2, none⟩ = some (.int .i64 tt) := by simp [World.cell?, hB.out]
  have r3 : u10.cell? ⟨b2, 3, none⟩ = some (.int .i64 mo) := by simp [World.cell?, hB.out]
  have r4 : u10.cell? ⟨b2, 4, none⟩ = some (.int .i64 k) := by simp [World.cell?, hB.out]
  have r5 : u10.cell? ⟨b2, 5, none⟩ = some (.int .i64 d) := by simp [World.cell?, hB.out]
  have r6 : u10.cell? ⟨b2, 6, none⟩ = some (.int .i64 n) := by simp [World.cell?, hB.out]
  have r7 : u10.cell? ⟨b2, 7, none⟩ = some (.int .i64 at') := by simp [World.cell?, hB.out]
  have r8 : u10.cell? ⟨b2, 8, none⟩ = some (.int .i64 by') := by simp [World.cell?, hB.out]
  have r9 : u10.cell? ⟨b2, 9, none⟩ = some (.int .i64 sv) := by simp [World.cell?, hB.out]
  have r10 : u10.cell? ⟨b2, 10, none⟩ = some (.string (wd s 8)) := by simp [World.cell?, hB.out]
  have z0 : u10.cell? ⟨b0, 0, none⟩ = some (.string ⟨#[]⟩) := by simp [World.cell?, hZ.out]
  have z1 : u10.cell? ⟨b0, 1, none⟩ = some (.int .i64 0) := by simp [World.cell?, hZ.out]
  have z2 : u10.cell? ⟨b0, 2, none⟩ = some (.int .i64 0) := by simp [World.cell?, hZ.out]
  have z3 : u10.cell? ⟨b0, 3, none⟩ = some (.int .i64 0) := by simp [World.cell?, hZ.out]
  have z4 : u10.cell? ⟨b0, 4, none⟩ = some (.int .i64 0) := by simp [World.cell?, hZ.out]
  have z5 : u10.cell? ⟨b0, 5, none⟩ = some (.int .i64 0) := by simp [World.cell?, hZ.out]
  have z6 : u10.cell? ⟨b0, 6, none⟩ = some (.int .i64 0) := by simp [World.cell?, hZ.out]
  have z7 : u10.cell? ⟨b0, 7, none⟩ = some (.int .i64 0) := by simp [World.cell?, hZ.out]
  have z8 : u10.cell? ⟨b0, 8, none⟩ = some (.int .i64 0) := by simp [World.cell?, hZ.out]
  have z9 : u10.cell? ⟨b0, 9, none⟩ = some (.int .i64 0) := by simp [World.cell?, hZ.out]
  have z10 : u10.cell? ⟨b0, 10, none⟩ = some (.string ⟨#[]⟩) := by simp [World.cell?, hZ.out]
  have fz : ∀ i, u10.frozen? ⟨b0, i, none⟩ = false := fun i => by simp [World.frozen?, hZ.out]
  have E := Lib.hid (store11 hZ.out (.string (wd s 1)) (.int .i64 fr) (.int .i64 tt) (.int .i64 mo) (.int .i64 k) (.int .i64 d) (.int .i64 n) (.int .i64 at') (.int .i64 by') (.int .i64 sv) (.string (wd s 8)))
  have SB := Lib.hid (store11_below (B := b0) (a := w) (p := b0) (by rw [← HB0.out]; exact gF.out) (Nat.le_refl _) (.string (wd s 1)) (.int .i64 fr) (.int .i64 tt) (.int .i64 mo) (.int .i64 k) (.int .i64 d) (.int .i64 n) (.int .i64 at') (.int .i64 by') (.int .i64 sv) (.string (wd s 8)))
  go_wp2_with fail
  generalize (((((((((((u10.setCell ⟨b0, 0, none⟩ (.string (wd s 1))).setCell ⟨b0, 1, none⟩ (.int .i64 fr)).setCell ⟨b0, 2, none⟩ (.int .i64 tt)).setCell ⟨b0, 3, none⟩ (.int .i64 mo)).setCell ⟨b0, 4, none⟩ (.int .i64 k)).setCell ⟨b0, 5, none⟩ (.int .i64 d)).setCell ⟨b0, 6, none⟩ (.int .i64 n)).setCell ⟨b0, 7, none⟩ (.int .i64 at')).setCell ⟨b0, 8, none⟩ (.int .i64 by')).setCell ⟨b0, 9, none⟩ (.int .i64 sv)).setCell ⟨b0, 10, none⟩ (.string (wd s 8))) = FF at E SB ⊢
  have y0 : FF.cell? ⟨b0, 0, none⟩ = some (.string (wd s 1)) := by simp [World.cell?, E.out]
  have y1 : FF.cell? ⟨b0, 1, none⟩ = some (.int .i64 fr) := by simp [World.cell?, E.out]
  have y2 : FF.cell? ⟨b0, 2, none⟩ = some (.int .i64 tt) := by simp [World.cell?, E.out]
  have y3 : FF.cell? ⟨b0, 3, none⟩ = some (.int .i64 mo) := by simp [World.cell?, E.out]
  have y4 : FF.cell? ⟨b0, 4, none⟩ = some (.int .i64 k) := by simp [World.cell?, E.out]
  have y5 : FF.cell? ⟨b0, 5, none⟩ = some (.int .i64 d) := by simp [World.cell?, E.out]
  have y6 : FF.cell? ⟨b0, 6, none⟩ = some (.int .i64 n) := by simp [World.cell?, E.out]
  have y7 : FF.cell? ⟨b0, 7, none⟩ = some (.int .i64 at') := by simp [World.cell?, E.out]
  have y8 : FF.cell? ⟨b0, 8, none⟩ = some (.int .i64 by') := by simp [World.cell?, E.out]
  have y9 : FF.cell? ⟨b0, 9, none⟩ = some (.int .i64 sv) := by simp [World.cell?, E.out]
  have y10 : FF.cell? ⟨b0, 10, none⟩ = some (.string (wd s 8)) := by simp [World.cell?, E.out]
  exact bodyPost_ret (v := .tuple #[ruleV (wd s 1) fr tt mo k d n at' by' sv (wd s 8), .int .i64 0]) (by simp [results, Tryz.results56, go_sem, y0, y1, y2, y3, y4, y5, y6, y7, y8, y9, y10]) rfl ⟨A.out, by unfold Gr; rw [HB0.out]; exact SB.out⟩
end Go.Proofs.YtkkilmmpmiichaaGreatDoor
