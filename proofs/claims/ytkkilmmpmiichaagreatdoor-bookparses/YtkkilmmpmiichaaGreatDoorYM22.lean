/- What the project's Text of package rule returns, for every rule. -/
import Derived.Deep.RegionHeld3
import Derived.Test.YtkkilmmpmiichaaGreatDoorYM10
import Derived.Test.YtkkilmmpmiichaaGreatDoorYM07
import Derived.Test.YtkkilmmpmiichaaGreatDoorYM21
namespace Go.Proofs.YtkkilmmpmiichaaGreatDoor
set_option linter.unusedVariables false
set_option linter.unusedSimpArgs false
open Go.RowKit
/-- the letters of the clocks lie as their initialiser lays them -/
def HasCl (w : World) : Prop := 1 < w.heap.size ∧ ∀ i : Nat, i < 3 → w.cell? ⟨1, i, none⟩ = some (.string (S (suf i)))
theorem Gr.clT {w w' : World} (h : Gr w w') (hl : HasCl w) : HasCl w' := ⟨Nat.lt_of_lt_of_le hl.1 h.size, fun i hi => (h.cell hl.1).trans (hl.2 i hi)⟩
theorem HasCl.at_ {w : World} (h : HasCl w) {d : Int} (h1 : 0 ≤ d) (h2 : d ≤ 2) : w.cell? ⟨1, d.toNat, none⟩ = some (.string (S (suf d))) := by
  have := h.2 d.toNat (by omega)
  rw [show ((d.toNat : Nat) : Int) = d by omega] at this
  exact this
/-- what Text of package rule reads -/
def RtTab (w : World) : Prop := HasLen w ∧ TxTab w ∧ HasCl w
theorem Gr.rtT {w w' : World} (h : Gr w w') (k : RtTab w) : RtTab w' := ⟨h.len k.1, h.txT k.2.1, h.clT k.2.2⟩
theorem keep13 {w W W' : World} {b g i : Nat} {x0 x1 x2 x3 x8 x10 y : Value} (h : W.cell? ⟨b, 0, none⟩ = some x0 ∧ W.cell? ⟨b, 1, none⟩ = some x1 ∧ W.cell? ⟨b, 2, none⟩ = some x2 ∧ W.cell? ⟨b, 3, none⟩ = some x3 ∧ W.cell? ⟨b, 8, none⟩ = some x8 ∧ W.cell? ⟨b, 10, none⟩ = some x10 ∧ W.cell? ⟨g, i, none⟩ = some y ∧ Gr w W) (hg : Gr W W') :
    W'.cell? ⟨b, 0, none⟩ = some x0 ∧ W'.cell? ⟨b, 1, none⟩ = some x1 ∧ W'.cell? ⟨b, 2, none⟩ = some x2 ∧ W'.cell? ⟨b, 3, none⟩ = some x3 ∧ W'.cell? ⟨b, 8, none⟩ = some x8 ∧ W'.cell? ⟨b, 10, none⟩ = some x10 ∧ W'.cell? ⟨g, i, none⟩ = some y ∧ Gr w W' :=
  ⟨hg.holds h.1, hg.holds h.2.1, hg.holds h.2.2.1, hg.holds h.2.2.2.1, hg.holds h.2.2.2.2.1, hg.holds h.2.2.2.2.2.1, hg.holds h.2.2.2.2.2.2.1, h.2.2.2.2.2.2.2.trans hg⟩

theorem keep13B {w W W' : World} {b g i B : Nat} {x0 x1 x2 x3 x8 x10 y : Value} (h : W.cell? ⟨b, 0, none⟩ = some x0 ∧ W.cell? ⟨b, 1, none⟩ = some x1 ∧ W.cell? ⟨b, 2, none⟩ = some x2 ∧ W.cell? ⟨b, 3, none⟩ = some x3 ∧ W.cell? ⟨b, 8, none⟩ = some x8 ∧ W.cell? ⟨b, 10, none⟩ = some x10 ∧ W.cell? ⟨g, i, none⟩ = some y ∧ Gr w W) (hb : b < B) (hg : g < B) (hw : w.heap.size ≤ B) (hx : Below B W W') :
    W'.cell? ⟨b, 0, none⟩ = some x0 ∧ W'.cell? ⟨b, 1, none⟩ = some x1 ∧ W'.cell? ⟨b, 2, none⟩ = some x2 ∧ W'.cell? ⟨b, 3, none⟩ = some x3 ∧ W'.cell? ⟨b, 8, none⟩ = some x8 ∧ W'.cell? ⟨b, 10, none⟩ = some x10 ∧ W'.cell? ⟨g, i, none⟩ = some y ∧ Gr w W' := by
  obtain ⟨h0, h1, h2, h3, h8, h10, hy, hg'⟩ := h
  exact ⟨(hx.cell (p := ⟨b, 0, none⟩) hb).trans h0, (hx.cell (p := ⟨b, 1, none⟩) hb).trans h1, (hx.cell (p := ⟨b, 2, none⟩) hb).trans h2, (hx.cell (p := ⟨b, 3, none⟩) hb).trans h3, (hx.cell (p := ⟨b, 8, none⟩) hb).trans h8, (hx.cell (p := ⟨b, 10, none⟩) hb).trans h10, (hx.cell (p := ⟨g, i, none⟩) hg).trans hy, Below.trans hg' (Below.mono hx hw)⟩
theorem heap_gr {W W' : World} {B : Nat} {o : Obj} (g : Gr W W') (h : W.heap[B]? = some o) : W'.heap[B]? = some o :=
  (Below.block g B (Array.getElem?_eq_some_iff.1 h).1).trans h
theorem heap_new (W : World) (o : Obj) : (W.alloc o).heap[W.heap.size]? = some o := by unfold World.alloc; simp
/-- nine cells stored one behind the other -/
theorem store9 {W : World} {p : Nat} {T : TypeId} {r0 r1 r2 r3 r4 r5 r6 r7 r8 : Value} (h : W.heap[p]? = some (.cells #[r0, r1, r2, r3, r4, r5, r6, r7, r8] T (0, 0))) (v0 v1 v2 v3 v4 v5 v6 v7 v8 : Value) :
    (((((((((W.setCell ⟨p, 0, none⟩ v0).setCell ⟨p, 1, none⟩ v1).setCell ⟨p, 2, none⟩ v2).setCell ⟨p, 3, none⟩ v3).setCell ⟨p, 4, none⟩ v4).setCell ⟨p, 5, none⟩ v5).setCell ⟨p, 6, none⟩ v6).setCell ⟨p, 7, none⟩ v7).setCell ⟨p, 8, none⟩ v8).heap[p]? = some (.cells #[v0, v1, v2, v3, v4, v5, v6, v7, v8] T (0, 0)) := by
  have e0 := h
  have e1 : (W.setCell ⟨p, 0, none⟩ v0).heap[p]? = some (.cells #[v0, r1, r2, r3, r4, r5, r6, r7, r8] T (0, 0)) := heap_setCell_same W p 0 #[r0, r1, r2, r3, r4, r5, r6, r7, r8] T v0 e0
  have e2 : ((W.setCell ⟨p, 0, none⟩ v0).setCell ⟨p, 1, none⟩ v1).heap[p]? = some (.cells #[v0, v1, r2, r3, r4, r5, r6, r7, r8] T (0, 0)) := heap_setCell_same (W.setCell ⟨p, 0, none⟩ v0) p 1 #[v0, r1, r2, r3, r4, r5, r6, r7, r8] T v1 e1
  have e3 : (((W.setCell ⟨p, 0, none⟩ v0).setCell ⟨p, 1, none⟩ v1).setCell ⟨p, 2, none⟩ v2).heap[p]? = some (.cells #[v0, v1, v2, r3, r4, r5, r6, r7, r8] T (0, 0)) := heap_setCell_same ((W.setCell ⟨p, 0, none⟩ v0).setCell ⟨p, 1, none⟩ v1) p 2 #[v0, v1, r2, r3, r4, r5, r6, r7, r8] T v2 e2
  have e4 : ((((W.setCell ⟨p, 0, none⟩ v0).setCell ⟨p, 1, none⟩ v1).setCell ⟨p, 2, none⟩ v2).setCell ⟨p, 3, none⟩ v3).heap[p]? = some (.cells #[v0, v1, v2, v3, r4, r5, r6, r7, r8] T (0, 0)) := heap_setCell_same (((W.setCell ⟨p, 0, none⟩ v0).setCell ⟨p, 1, none⟩ v1).setCell ⟨p, 2, none⟩ v2) p 3 #[v0, v1, v2, r3, r4, r5, r6, r7, r8] T v3 e3
  have e5 : (((((W.setCell ⟨p, 0, none⟩ v0).setCell ⟨p, 1, none⟩ v1).setCell ⟨p, 2, none⟩ v2).setCell ⟨p, 3, none⟩ v3).setCell ⟨p, 4, none⟩ v4).heap[p]? = some (.cells #[v0, v1, v2, v3, v4, r5, r6, r7, r8] T (0, 0)) := heap_setCell_same ((((W.setCell ⟨p, 0, none⟩ v0).setCell ⟨p, 1, none⟩ v1).setCell ⟨p, 2, none⟩ v2).setCell ⟨p, 3, none⟩ v3) p 4 #[v0, v1, v2, v3, r4, r5, r6, r7, r8] T v4 e4
  have e6 : ((((((W.setCell ⟨p, 0, none⟩ v0).setCell ⟨p, 1, none⟩ v1).setCell ⟨p, 2, none⟩ v2).setCell ⟨p, 3, none⟩ v3).setCell ⟨p, 4, none⟩ v4).setCell ⟨p, 5, none⟩ v5).heap[p]? = some (.cells #[v0, v1, v2, v3, v4, v5, r6, r7, r8] T (0, 0)) := heap_setCell_same (((((W.setCell ⟨p, 0, none⟩ v0).setCell ⟨p, 1, none⟩ v1).setCell ⟨p, 2, none⟩ v2).setCell ⟨p, 3, none⟩ v3).setCell ⟨p, 4, none⟩ v4) p 5 #[v0, v1, v2, v3, v4, r5, r6, r7, r8] T v5 e5
  have e7 : (((((((W.setCell ⟨p, 0, none⟩ v0).setCell ⟨p, 1, none⟩ v1).setCell ⟨p, 2, none⟩ v2).setCell ⟨p, 3, none⟩ v3).setCell ⟨p, 4, none⟩ v4).setCell ⟨p, 5, none⟩ v5).setCell ⟨p, 6, none⟩ v6).heap[p]? = some (.cells #[v0, v1, v2, v3, v4, v5, v6, r7, r8] T (0, 0)) := heap_setCell_same ((((((W.setCell ⟨p, 0, none⟩ v0).setCell ⟨p, 1, none⟩ v1).setCell ⟨p, 2, none⟩ v2).setCell ⟨p, 3, none⟩ v3).setCell ⟨p, 4, none⟩ v4).setCell ⟨p, 5, none⟩ v5) p 6 #[v0, v1, v2, v3, v4, v5, r6, r7, r8] T v6 e6
  have e8 : ((((((((W.setCell ⟨p, 0, none⟩ v0).setCell ⟨p, 1, none⟩ v1).setCell ⟨p, 2, none⟩ v2).setCell ⟨p, 3, none⟩ v3).setCell ⟨p, 4, none⟩ v4).setCell ⟨p, 5, none⟩ v5).setCell ⟨p, 6, none⟩ v6).setCell ⟨p, 7, none⟩ v7).heap[p]? = some (.cells #[v0, v1, v2, v3, v4, v5, v6, v7, r8] T (0, 0)) := heap_setCell_same (((((((W.setCell ⟨p, 0, none⟩ v0).setCell ⟨p, 1, none⟩ v1).setCell ⟨p, 2, none⟩ v2).setCell ⟨p, 3, none⟩ v3).setCell ⟨p, 4, none⟩ v4).setCell ⟨p, 5, none⟩ v5).setCell ⟨p, 6, none⟩ v6) p 7 #[v0, v1, v2, v3, v4, v5, v6, r7, r8] T v7 e7
  have e9 : (((((((((W.setCell ⟨p, 0, none⟩ v0).setCell ⟨p, 1, none⟩ v1).setCell ⟨p, 2, none⟩ v2).setCell ⟨p, 3, none⟩ v3).setCell ⟨p, 4, none⟩ v4).setCell ⟨p, 5, none⟩ v5).setCell ⟨p, 6, none⟩ v6).setCell ⟨p, 7, none⟩ v7).setCell ⟨p, 8, none⟩ v8).heap[p]? = some (.cells #[v0, v1, v2, v3, v4, v5, v6, v7, v8] T (0, 0)) := heap_setCell_same ((((((((W.setCell ⟨p, 0, none⟩ v0).setCell ⟨p, 1, none⟩ v1).setCell ⟨p, 2, none⟩ v2).setCell ⟨p, 3, none⟩ v3).setCell ⟨p, 4, none⟩ v4).setCell ⟨p, 5, none⟩ v5).setCell ⟨p, 6, none⟩ v6).setCell ⟨p, 7, none⟩ v7) p 8 #[v0, v1, v2, v3, v4, v5, v6, v7, r8] T v8 e8
  exact e9
theorem store9_below {W a : World} {p B : Nat} (h : Below B a W) (hB : B ≤ p) (v0 v1 v2 v3 v4 v5 v6 v7 v8 : Value) : Below B a (((((((((W.setCell ⟨p, 0, none⟩ v0).setCell ⟨p, 1, none⟩ v1).setCell ⟨p, 2, none⟩ v2).setCell ⟨p, 3, none⟩ v3).setCell ⟨p, 4, none⟩ v4).setCell ⟨p, 5, none⟩ v5).setCell ⟨p, 6, none⟩ v6).setCell ⟨p, 7, none⟩ v7).setCell ⟨p, 8, none⟩ v8) :=
  (Below.setCell (Below.setCell (Below.setCell (Below.setCell (Below.setCell (Below.setCell (Below.setCell (Below.setCell (Below.setCell h hB _) hB _) hB _) hB _) hB _) hB _) hB _) hB _) hB _)
theorem join_nine (a0 a1 a2 a3 a4 a5 a6 a7 a8 : List UInt8) : Lib.join [a0, a1, a2, a3, a4, a5, a6, a7, a8] [32] = a0 ++ 32 :: (a1 ++ 32 :: (a2 ++ 32 :: (a3 ++ 32 :: (a4 ++ 32 :: (a5 ++ 32 :: (a6 ++ 32 :: (a7 ++ 32 :: a8))))))) := by
  rw [Lib.join_cons]; simp [Lib.joinTail]
theorem join9 (B : Nat) (a0 a1 a2 a3 a4 a5 a6 a7 a8 : List UInt8) (W : World) {T : TypeId} (hE : W.heap[B]? = some (.cells #[.string (S a0), .string (S a1), .string (S a2), .string (S a3), .string (S a4), .string (S a5), .string (S a6), .string (S a7), .string (S a8)] T (0, 0)))
    (hlen : a0.length + a1.length + a2.length + a3.length + a4.length + a5.length + a6.length + a7.length + a8.length ≤ 1000) :
    Calls Tryz.prog 117 #[.slice (some ⟨B, 0, none⟩) 9 9, .string ⟨#[32]⟩] W fun e w' => e = .returned (.string (S (a0 ++ 32 :: (a1 ++ 32 :: (a2 ++ 32 :: (a3 ++ 32 :: (a4 ++ 32 :: (a5 ++ 32 :: (a6 ++ 32 :: (a7 ++ 32 :: a8)))))))))) ∧ Gr W w' := by
  have sd : ∀ l : List UInt8, (S l).data.toList = l := fun l => by simp [S]
  have e : ([S a0, S a1, S a2, S a3, S a4, S a5, S a6, S a7, S a8].map (·.data.toList)) = [a0, a1, a2, a3, a4, a5, a6, a7, a8] := by simp [sd]
  have e2 : (ByteArray.mk #[32]).data.toList = [32] := rfl
  have hc : ∀ (j : Nat) x, [S a0, S a1, S a2, S a3, S a4, S a5, S a6, S a7, S a8][j]? = some x → W.cell? ⟨B, 0 + j, none⟩ = some (.string x) := fun j x hx => by
    have hj : j < 9 := by have := (List.getElem?_eq_some_iff.1 hx).1; simpa using this
    have : j = 0 ∨ j = 1 ∨ j = 2 ∨ j = 3 ∨ j = 4 ∨ j = 5 ∨ j = 6 ∨ j = 7 ∨ j = 8 := by omega
    rcases this with rfl | rfl | rfl | rfl | rfl | rfl | rfl | rfl | rfl <;> (simp at hx; subst hx; simp [World.cell?, hE])
  have := Tryz.strings_Join B 0 9 [S a0, S a1, S a2, S a3, S a4, S a5, S a6, S a7, S a8] ⟨#[32]⟩ W hc (Array.getElem?_eq_some_iff.1 hE).1 (by simp) (by simp) (by rw [e, e2, join_nine]; simp only [List.length_append, List.length_cons]; omega)
  rw [e, e2, join_nine] at this
  exact this

set_option maxHeartbeats 1000000 in
theorem pruleText_bad (nm : ByteArray) (fr tt mo k d n at' by' sv : Int) (lt : ByteArray) (w : World) (hl : HasLen w) (hn : nm.size ≤ maxLen) (ht : lt.size ≤ maxLen) (h : ¬ ruleC nm.toList lt.toList fr tt mo k d n at' by' sv = 0) :
    Calls Tryz.prog 89 #[ruleV nm fr tt mo k d n at' by' sv lt] w fun e w' => e = strInt (S []) (ruleC nm.toList lt.toList fr tt mo k d n at' by' sv) ∧ Gr w w' := by
  have R0 := Lib.hid (RuleAt.new w 42 nm fr tt mo k d n at' by' sv lt)
  have KC := Lib.hid (fun w hl => pruleCheck nm fr tt mo k d n at' by' sv lt w hl hn ht)
  have HL := Lib.hid hl
  generalize ruleC nm.toList lt.toList fr tt mo k d n at' by' sv = c at KC h ⊢
  have t := bneT h
  clear hn ht h hl
  go_enter Tryz.func89, Tryz.ntmps89
  go_wp2_with fail
  generalize w.alloc (.cells #[.string nm, .int .i64 fr, .int .i64 tt, .int .i64 mo, .int .i64 k, .int .i64 d, .int .i64 n, .int .i64 at', .int .i64 by', .int .i64 sv, .string lt] 42) = w0 at R0 ⊢
  generalize w.heap.size = b at R0 ⊢
  have G := Lib.hid (R0.out.2.2.2.2.2.2.2.2.2.2.2)
  refine (KC.out w0 (G.out.len HL.out)).mono ?_
  rintro e w1 ⟨rfl, g1⟩
  go_wp2_with fail
  go_ret2
  exact ⟨rfl, G.out.trans g1⟩

set_option maxRecDepth 100000 in
set_option maxHeartbeats 8000000 in
theorem pruleText_yes (nl : List UInt8) (fr tt mo k d n at' by' sv : Int) (ll : List UInt8) (w : World) (htab : RtTab w)
    (hy : RuleSyn nl ll) (hm : RuleNum fr tt mo) (hd : DayOk k d n) (hr : RuleRest mo n at' by' sv) :
    Calls Tryz.prog 89 #[ruleV (S nl) fr tt mo k d n at' by' sv (S ll)] w fun e w' => e = strInt (S (ruleL nl ll fr tt mo k d n at' by' sv)) 0 ∧ Gr w w' := by
  have nlen := name_len hy.1
  have llen : ll.length ≤ 8 := by rcases hy.2 with h | h; (rw [h]; simp); exact abbr_len h
  have R0 := Lib.hid (RuleAt.new w 42 (S nl) fr tt mo k d n at' by' sv (S ll))
  have KC0 := fun w hl => pruleCheck (S nl) fr tt mo k d n at' by' sv (S ll) w hl (by rw [S_size]; unfold maxLen; omega) (by rw [S_size]; unfold maxLen; omega)
  rw [S_toList, S_toList, show ruleC nl ll fr tt mo k d n at' by' sv = 0 by unfold ruleC; rw [if_pos hy, if_pos hm, if_pos hd, if_pos hr]] at KC0
  have KC := Lib.hid KC0
  have KD0 := fun w h => dayText k d n w h
  unfold dayTextA at KD0
  rw [if_pos hd] at KD0
  have dl := dayL_len hd
  obtain ⟨⟨f1, f2⟩, ⟨t1, t2⟩, ft, o1, o2⟩ := hm
  obtain ⟨_, ⟨a1, a2⟩, ⟨b1, b2⟩, s1, s2⟩ := hr
  have al := spanL_len a1 a2
  have sl := spanL_len (n := sv) (by omega) (by omega)
  have ul := suf_len by'
  have fl := dz_len 8 fr (by omega) (by omega)
  have tl := dz_len 8 tt (by omega) (by omega)
  have ol := dz_len 8 mo (by omega) (by omega)
  have KA0 := fun w hp => span_yes at' w hp a1 a2
  have KS0 := fun w hp => span_yes sv w hp (by omega) (by omega)
  have CF0 := fun w hp => itoa_any fr w (by omega) (by omega) hp
  have CT0 := fun w hp => itoa_any tt w (by omega) (by omega) hp
  have CM0 := fun w hp => itoa_any mo w (by omega) (by omega) hp
  have CL0 := fun (w : World) (h : HasCl w) => h.at_ b1 b2
  have fin : Hid (strInt (S (114 :: 117 :: 108 :: 101 :: 32 :: (nl ++ 32 :: (dz fr ++ 32 :: (dz tt ++ 32 :: (dz mo ++ 32 :: (dayL k d n ++ 32 :: (spanL at' ++ (suf by' ++ 32 :: (spanL sv ++ 32 :: ll)))))))))) 0 = strInt (S (ruleL nl ll fr tt mo k d n at' by' sv)) 0) := by
    unfold Hid ruleL; simp
  generalize ruleL nl ll fr tt mo k d n at' by' sv = RT at fin ⊢
  generalize dayL k d n = Ld at KD0 dl fin
  generalize spanL at' = La at KA0 al fin
  generalize spanL sv = Ls at KS0 sl fin
  generalize suf by' = sf at CL0 ul fin
  generalize dz fr = Lf at CF0 fl fin
  generalize dz tt = Lt at CT0 tl fin
  generalize dz mo = Lm at CM0 ol fin
  have KD := Lib.hid KD0
  have KA := Lib.hid KA0
  have KS := Lib.hid KS0
  have CF := Lib.hid CF0
  have CT := Lib.hid CT0
  have CM := Lib.hid CM0
  have CL := Lib.hid CL0
  have HT := Lib.hid htab
  have HP := Lib.hid htab.2.1.1
  clear KC0 KD0 KA0 KS0 CF0 CT0 CM0 CL0 htab hy hd
  go_enter Tryz.func89, Tryz.ntmps89
  go_wp2_with fail
  generalize w.alloc (.cells #[.string (S nl), .int .i64 fr, .int .i64 tt, .int .i64 mo, .int .i64 k, .int .i64 d, .int .i64 n, .int .i64 at', .int .i64 by', .int .i64 sv, .string (S ll)] 42) = w0 at R0 ⊢
  generalize w.heap.size = b at R0 ⊢
  refine (KC.out w0 (Gr.len (R0.out.2.2.2.2.2.2.2.2.2.2.2) HT.out.1)).mono ?_
  rintro e w1 ⟨rfl, g1⟩
  have R1 := Lib.hid (R0.out.gr g1)
  clear R0 g1
  have c4 := R1.out.2.2.2.2.1
  have c5 := R1.out.2.2.2.2.2.1
  have c6 := R1.out.2.2.2.2.2.2.1
  go_wp2_with fail
  refine (KD.out w1 (Gr.txT (R1.out.2.2.2.2.2.2.2.2.2.2.2) HT.out.2.1)).mono ?_
  rintro e w2 ⟨rfl, g2⟩
  have R2 := Lib.hid (R1.out.gr g2)
  clear R1 g2 c4 c5 c6
  have c7 := R2.out.2.2.2.2.2.2.2.1
  go_wp2_with fail
  refine (KA.out w2 (Gr.pow (R2.out.2.2.2.2.2.2.2.2.2.2.2) HT.out.2.1.1)).mono ?_
  rintro e w3 ⟨rfl, g3⟩
  have R3 := Lib.hid (R2.out.gr g3)
  clear R2 g3 c7
  have c9 := R3.out.2.2.2.2.2.2.2.2.2.1
  go_wp2_with fail
  refine (KS.out w3 (Gr.pow (R3.out.2.2.2.2.2.2.2.2.2.2.2) HT.out.2.1.1)).mono ?_
  rintro e w4 ⟨rfl, g4⟩
  have R4 := R3.out.gr g4
  unfold RuleAt at R4
  obtain ⟨c0, c1, c2, c3, y4, y5, y6, y7, c8, y9, c10, G4⟩ := R4
  clear y4 y5 y6 y7 y9
  have c11 := CL.out _ (G4.clT HT.out.2.2)
  clear R3 g4 c9
  go_wp2_with fail
  have b3 : by' < 3 := by omega
  have fl2 := fl.2
  have tl2 := tl.2
  have ol2 := ol.2
  clear fl tl ol KC KD KA KS
  refine wp_region_noPanic ?_
  refine wp_region_held_drew (S := fun wx => wx.cell? ⟨b, 0, none⟩ = some (.string (S nl)) ∧ wx.cell? ⟨b, 1, none⟩ = some (.int .i64 fr) ∧ wx.cell? ⟨b, 2, none⟩ = some (.int .i64 tt) ∧ wx.cell? ⟨b, 3, none⟩ = some (.int .i64 mo) ∧ wx.cell? ⟨b, 8, none⟩ = some (.int .i64 by') ∧ wx.cell? ⟨b, 10, none⟩ = some (.string (S ll)) ∧ wx.cell? ⟨1, by'.toNat, none⟩ = some (.string (S sf)) ∧ Gr w wx) (by kernel_rfl) ⟨c0, c1, c2, c3, c8, c10, c11, G4.drew'⟩ (fun hHeld => ?_)
  clear c0 c1 c2 c3 c8 c10 c11 G4
  generalize w4.drew = v0 at hHeld ⊢
  refine wpAnyH_take (i := 0) (oi := { dst := some 35, op := _, type := _, pos := _, after := _, guard := _ }) (v := ?v1) rfl (by kernel_rfl) (by kernel_rfl) (by kernel_rfl) (fun _ _ _ h => h) (Or.inl ⟨by rfl, ?hy1⟩) (by assumption) ?rest1
  case hy1 => (intro w hSw; (try dsimp only at hSw); go_simp <;> (first | (with_reducible rfl) | (rw [if_neg (by (try simp only [List.length_append, List.length_cons, List.length_nil]); omega)])))
  (try simp only [Act.put, List.setIfInBounds_toArray, List.set_cons_zero, List.set_cons_succ])
  refine wpAnyH_take (i := 2) (oi := { dst := some 37, op := _, type := _, pos := _, after := _, guard := _ }) (v := ?v2) rfl (by kernel_rfl) (by kernel_rfl) (by kernel_rfl) (fun _ _ _ h => h) (Or.inl ⟨by rfl, ?hy2⟩) (by assumption) ?rest2
  case hy2 => (intro w hSw; (try dsimp only at hSw); go_simp <;> (first | (with_reducible rfl) | (rw [if_neg (by (try simp only [List.length_append, List.length_cons, List.length_nil]); omega)])))
  (try simp only [Act.put, List.setIfInBounds_toArray, List.set_cons_zero, List.set_cons_succ])
  refine wpAnyH_take (i := 5) (oi := { dst := some 40, op := _, type := _, pos := _, after := _, guard := _ }) (v := ?v3) rfl (by kernel_rfl) (by kernel_rfl) (by kernel_rfl) (fun _ _ _ h => h) (Or.inl ⟨by rfl, ?hy3⟩) (by assumption) ?rest3
  case hy3 => (intro w hSw; (try dsimp only at hSw); go_simp <;> (first | (with_reducible rfl) | (rw [if_neg (by (try simp only [List.length_append, List.length_cons, List.length_nil]); omega)])))
  (try simp only [Act.put, List.setIfInBounds_toArray, List.set_cons_zero, List.set_cons_succ])
  refine wpAnyH_take (i := 8) (oi := { dst := some 43, op := _, type := _, pos := _, after := _, guard := _ }) (v := ?v4) rfl (by kernel_rfl) (by kernel_rfl) (by kernel_rfl) (fun _ _ _ h => h) (Or.inl ⟨by rfl, ?hy4⟩) (by assumption) ?rest4
  case hy4 => (intro w hSw; (try dsimp only at hSw); go_simp <;> (first | (with_reducible rfl) | (rw [if_neg (by (try simp only [List.length_append, List.length_cons, List.length_nil]); omega)])))
  (try simp only [Act.put, List.setIfInBounds_toArray, List.set_cons_zero, List.set_cons_succ])
  refine wpAnyH_take (i := 11) (oi := { dst := some 46, op := _, type := _, pos := _, after := _, guard := _ }) (v := ?v5) rfl (by kernel_rfl) (by kernel_rfl) (by kernel_rfl) (fun _ _ _ h => h) (Or.inl ⟨by rfl, ?hy5⟩) (by assumption) ?rest5
  case hy5 => (intro w hSw; (try dsimp only at hSw); go_simp <;> (first | (with_reducible rfl) | (rw [if_neg (by (try simp only [List.length_append, List.length_cons, List.length_nil]); omega)])))
  (try simp only [Act.put, List.setIfInBounds_toArray, List.set_cons_zero, List.set_cons_succ])
  refine wpAnyH_take (i := 12) (oi := { dst := some 47, op := _, type := _, pos := _, after := _, guard := _ }) (v := ?v6) rfl (by kernel_rfl) (by kernel_rfl) (by kernel_rfl) (fun _ _ _ h => h) (Or.inl ⟨by rfl, ?hy6⟩) (by assumption) ?rest6
  case hy6 => (intro w hSw; (try dsimp only at hSw); go_simp <;> (first | (with_reducible rfl) | (rw [if_neg (by (try simp only [List.length_append, List.length_cons, List.length_nil]); omega)])))
  (try simp only [Act.put, List.setIfInBounds_toArray, List.set_cons_zero, List.set_cons_succ])
  refine wpAnyH_take (i := 13) (oi := { dst := some 48, op := _, type := _, pos := _, after := _, guard := _ }) (v := ?v7) rfl (by kernel_rfl) (by kernel_rfl) (by kernel_rfl) (fun _ _ _ h => h) (Or.inl ⟨by rfl, ?hy7⟩) (by assumption) ?rest7
  case hy7 => (intro w hSw; (try dsimp only at hSw); go_simp <;> (first | (with_reducible rfl) | (rw [if_neg (by (try simp only [List.length_append, List.length_cons, List.length_nil]); omega)])))
  (try simp only [Act.put, List.setIfInBounds_toArray, List.set_cons_zero, List.set_cons_succ])
  refine wpAnyH_take (i := 18) (oi := { dst := some 53, op := _, type := _, pos := _, after := _, guard := _ }) (v := ?v8) rfl (by kernel_rfl) (by kernel_rfl) (by kernel_rfl) (fun _ _ _ h => h) (Or.inl ⟨by rfl, ?hy8⟩) (by assumption) ?rest8
  case hy8 => (intro w hSw; (try dsimp only at hSw); go_simp <;> (first | (with_reducible rfl) | (rw [if_neg (by (try simp only [List.length_append, List.length_cons, List.length_nil]); omega)])))
  (try simp only [Act.put, List.setIfInBounds_toArray, List.set_cons_zero, List.set_cons_succ])
  refine wpAnyH_take (i := 19) (oi := { dst := some 54, op := _, type := _, pos := _, after := _, guard := _ }) (v := ?v9) rfl (by kernel_rfl) (by kernel_rfl) (by kernel_rfl) (fun _ _ _ h => h) (Or.inl ⟨by rfl, ?hy9⟩) (by assumption) ?rest9
  case hy9 => (intro w hSw; (try dsimp only at hSw); go_simp <;> (first | (with_reducible rfl) | (rw [if_neg (by (try simp only [List.length_append, List.length_cons, List.length_nil]); omega)])))
  (try simp only [Act.put, List.setIfInBounds_toArray, List.set_cons_zero, List.set_cons_succ])
  refine wpAnyH_take (i := 1) (oi := { dst := some 36, op := _, type := _, pos := _, after := _, guard := _ }) (v := ?v10) rfl (by kernel_rfl) (by kernel_rfl) (by kernel_rfl) (fun _ _ _ h => h) (Or.inl ⟨by rfl, ?hy10⟩) (by assumption) ?rest10
  case hy10 => (intro w hSw; (try dsimp only at hSw); go_simp <;> (first | (with_reducible rfl) | (rw [if_neg (by (try simp only [List.length_append, List.length_cons, List.length_nil]); omega)])))
  (try simp only [Act.put, List.setIfInBounds_toArray, List.set_cons_zero, List.set_cons_succ])
  refine wpAnyH_take (i := 3) (oi := { dst := some 38, op := _, type := _, pos := _, after := _, guard := _ }) (v := ?v11) rfl (by kernel_rfl) (by kernel_rfl) (by kernel_rfl) (fun _ _ _ h => h) (Or.inl ⟨by rfl, ?hy11⟩) (by assumption) ?rest11
  case hy11 => (intro w hSw; (try dsimp only at hSw); go_simp <;> (first | (with_reducible rfl) | (rw [if_neg (by (try simp only [List.length_append, List.length_cons, List.length_nil]); omega)])))
  (try simp only [Act.put, List.setIfInBounds_toArray, List.set_cons_zero, List.set_cons_succ])
  refine wpAnyH_take (i := 6) (oi := { dst := some 41, op := _, type := _, pos := _, after := _, guard := _ }) (v := ?v12) rfl (by kernel_rfl) (by kernel_rfl) (by kernel_rfl) (fun _ _ _ h => h) (Or.inl ⟨by rfl, ?hy12⟩) (by assumption) ?rest12
  case hy12 => (intro w hSw; (try dsimp only at hSw); go_simp <;> (first | (with_reducible rfl) | (rw [if_neg (by (try simp only [List.length_append, List.length_cons, List.length_nil]); omega)])))
  (try simp only [Act.put, List.setIfInBounds_toArray, List.set_cons_zero, List.set_cons_succ])
  refine wpAnyH_take (i := 9) (oi := { dst := some 44, op := _, type := _, pos := _, after := _, guard := _ }) (v := ?v13) rfl (by kernel_rfl) (by kernel_rfl) (by kernel_rfl) (fun _ _ _ h => h) (Or.inl ⟨by rfl, ?hy13⟩) (by assumption) ?rest13
  case hy13 => (intro w hSw; (try dsimp only at hSw); go_simp <;> (first | (with_reducible rfl) | (rw [if_neg (by (try simp only [List.length_append, List.length_cons, List.length_nil]); omega)])))
  (try simp only [Act.put, List.setIfInBounds_toArray, List.set_cons_zero, List.set_cons_succ])
  refine wpAnyH_take (i := 14) (oi := { dst := some 49, op := _, type := _, pos := _, after := _, guard := _ }) (v := ?v14) rfl (by kernel_rfl) (by kernel_rfl) (by kernel_rfl) (fun _ _ _ h => h) (Or.inl ⟨by rfl, ?hy14⟩) (by assumption) ?rest14
  case hy14 => (intro w hSw; (try dsimp only at hSw); go_simp <;> (first | (with_reducible rfl) | (rw [if_neg (by (try simp only [List.length_append, List.length_cons, List.length_nil]); omega)])))
  (try simp only [Act.put, List.setIfInBounds_toArray, List.set_cons_zero, List.set_cons_succ])
  refine wpAnyH_take (i := 20) (oi := { dst := some 55, op := _, type := _, pos := _, after := _, guard := _ }) (v := ?v15) rfl (by kernel_rfl) (by kernel_rfl) (by kernel_rfl) (fun _ _ _ h => h) (Or.inl ⟨by rfl, ?hy15⟩) (by assumption) ?rest15
  case hy15 => (intro w hSw; (try dsimp only at hSw); go_simp <;> (first | (with_reducible rfl) | (rw [if_neg (by (try simp only [List.length_append, List.length_cons, List.length_nil]); omega)])))
  (try simp only [Act.put, List.setIfInBounds_toArray, List.set_cons_zero, List.set_cons_succ])
  refine wpAnyH_take (i := 15) (oi := { dst := some 50, op := _, type := _, pos := _, after := _, guard := _ }) (v := ?v16) rfl (by kernel_rfl) (by kernel_rfl) (by kernel_rfl) (fun _ _ _ h => h) (Or.inl ⟨by rfl, ?hy16⟩) (by assumption) ?rest16
  case hy16 => (intro w hSw; (try dsimp only at hSw); go_simp <;> (first | (with_reducible rfl) | (rw [if_neg (by (try simp only [List.length_append, List.length_cons, List.length_nil]); omega)])))
  (try simp only [Act.put, List.setIfInBounds_toArray, List.set_cons_zero, List.set_cons_succ])
  refine wpAnyH_take (i := 16) (oi := { dst := some 51, op := _, type := _, pos := _, after := _, guard := _ }) (v := ?v17) rfl (by kernel_rfl) (by kernel_rfl) (by kernel_rfl) (fun _ _ _ h => h) (Or.inl ⟨by rfl, ?hy17⟩) (by assumption) ?rest17
  case hy17 => (intro w hSw; (try dsimp only at hSw); go_simp <;> (first | (with_reducible rfl) | (rw [if_neg (by (try simp only [List.length_append, List.length_cons, List.length_nil]); omega)])))
  (try simp only [Act.put, List.setIfInBounds_toArray, List.set_cons_zero, List.set_cons_succ])
  refine wpAnyH_take (i := 17) (oi := { dst := some 52, op := _, type := _, pos := _, after := _, guard := _ }) (v := ?v18) rfl (by kernel_rfl) (by kernel_rfl) (by kernel_rfl) (fun _ _ _ h => h) (Or.inl ⟨by rfl, ?hy18⟩) (by assumption) ?rest18
  case hy18 => (intro w hSw; (try dsimp only at hSw); go_simp <;> (first | (with_reducible rfl) | (rw [if_neg (by (try simp only [List.length_append, List.length_cons, List.length_nil]); omega)])))
  (try simp only [Act.put, List.setIfInBounds_toArray, List.set_cons_zero, List.set_cons_succ])
  refine wpAnyH_ready (rs := [4, 22]) (by kernel_rfl) (by simp) ?_
  refine AllReadyH.cons (rs := [22]) rfl (fun K hK => ?_) (AllReadyH.cons (rs := []) rfl (fun K hK => ?_) AllReadyH.nil)
  · go_simp
    (with_reducible refine (CF.out _ (Gr.pow hHeld.2.2.2.2.2.2.2 HP.out)).mono ?_)
    rintro e v19' ⟨rfl, hgx⟩
    (go_wp2_with fail)
    refine hK.out _ _ (keep13 hHeld hgx) (fun hHeld2 => ?_)
    clear hK K hHeld
    have hHeld := hHeld2
    clear hHeld2
    (try simp only [Act.put, List.setIfInBounds_toArray, List.set_cons_zero, List.set_cons_succ])
    clear hgx
    refine wpAnyH_ready (rs := [7, 22]) (by kernel_rfl) (by simp) ?_
    refine AllReadyH.cons (rs := [22]) rfl (fun K hK => ?_) (AllReadyH.cons (rs := []) rfl (fun K hK => ?_) AllReadyH.nil)
    · go_simp
      (with_reducible refine (CT.out _ (Gr.pow hHeld.2.2.2.2.2.2.2 HP.out)).mono ?_)
      rintro e v20' ⟨rfl, hgx⟩
      (go_wp2_with fail)
      refine hK.out _ _ (keep13 hHeld hgx) (fun hHeld2 => ?_)
      clear hK K hHeld
      have hHeld := hHeld2
      clear hHeld2
      (try simp only [Act.put, List.setIfInBounds_toArray, List.set_cons_zero, List.set_cons_succ])
      clear hgx
      refine wpAnyH_ready (rs := [10, 22]) (by kernel_rfl) (by simp) ?_
      refine AllReadyH.cons (rs := [22]) rfl (fun K hK => ?_) (AllReadyH.cons (rs := []) rfl (fun K hK => ?_) AllReadyH.nil)
      · go_simp
        (with_reducible refine (CM.out _ (Gr.pow hHeld.2.2.2.2.2.2.2 HP.out)).mono ?_)
        rintro e v21' ⟨rfl, hgx⟩
        (go_wp2_with fail)
        refine hK.out _ _ (keep13 hHeld hgx) (fun hHeld2 => ?_)
        clear hK K hHeld
        have hHeld := hHeld2
        clear hHeld2
        (try simp only [Act.put, List.setIfInBounds_toArray, List.set_cons_zero, List.set_cons_succ])
        clear hgx
        refine wpAnyH_take (i := 21) (oi := { dst := some 56, op := _, type := _, pos := _, after := _, guard := _ }) (v := ?v22) rfl (by kernel_rfl) (by kernel_rfl) (by kernel_rfl) (fun _ _ _ h => h) (Or.inl ⟨by rfl, ?hy22⟩) (by assumption) ?rest22
        case hy22 => (intro w hSw; (try dsimp only at hSw); go_simp <;> (first | (with_reducible rfl) | (rw [if_neg (by (try simp only [List.length_append, List.length_cons, List.length_nil]); omega)])))
        (try simp only [Act.put, List.setIfInBounds_toArray, List.set_cons_zero, List.set_cons_succ])
        refine wpAnyH_ready (rs := [22]) (by kernel_rfl) (by simp) ?_
        refine AllReadyH.cons (rs := []) rfl (fun K hK => ?_) AllReadyH.nil
        go_simp
        have hlb := World.block_lt_of_cell? _ ⟨b, 0, none⟩ hHeld.1
        have hlg := World.block_lt_of_cell? _ ⟨1, by'.toNat, none⟩ hHeld.2.2.2.2.2.2.1
        have hlw := Gr.size hHeld.2.2.2.2.2.2.2
        refine hK.out _ _ (keep13 hHeld (Gr.alloc _ _)) (fun hHeld2 => ?_)
        clear hK K hHeld
        have hHeld := hHeld2
        clear hHeld2
        (try simp only [Act.put, List.setIfInBounds_toArray, List.set_cons_zero, List.set_cons_succ])
        have hB := Lib.hid (heap_new v21' (.cells #[.string ⟨#[]⟩, .string ⟨#[]⟩, .string ⟨#[]⟩, .string ⟨#[]⟩, .string ⟨#[]⟩, .string ⟨#[]⟩, .string ⟨#[]⟩, .string ⟨#[]⟩, .string ⟨#[]⟩] 132))
        generalize v21'.alloc (.cells #[.string ⟨#[]⟩, .string ⟨#[]⟩, .string ⟨#[]⟩, .string ⟨#[]⟩, .string ⟨#[]⟩, .string ⟨#[]⟩, .string ⟨#[]⟩, .string ⟨#[]⟩, .string ⟨#[]⟩] 132) = u23 at hHeld hB ⊢
        generalize v21'.heap.size = B at hB hlb hlg hlw ⊢
        refine wpAnyH_ready (rs := [23]) (by kernel_rfl) (by simp) ?_
        refine AllReadyH.cons (rs := []) rfl (fun K hK => ?_) AllReadyH.nil
        have z0 : u23.cell? ⟨B, 0, none⟩ = some (.string ⟨#[]⟩) := by simp [World.cell?, hB.out]
        have z1 : u23.cell? ⟨B, 1, none⟩ = some (.string ⟨#[]⟩) := by simp [World.cell?, hB.out]
        have z2 : u23.cell? ⟨B, 2, none⟩ = some (.string ⟨#[]⟩) := by simp [World.cell?, hB.out]
        have z3 : u23.cell? ⟨B, 3, none⟩ = some (.string ⟨#[]⟩) := by simp [World.cell?, hB.out]
        have z4 : u23.cell? ⟨B, 4, none⟩ = some (.string ⟨#[]⟩) := by simp [World.cell?, hB.out]
        have z5 : u23.cell? ⟨B, 5, none⟩ = some (.string ⟨#[]⟩) := by simp [World.cell?, hB.out]
        have z6 : u23.cell? ⟨B, 6, none⟩ = some (.string ⟨#[]⟩) := by simp [World.cell?, hB.out]
        have z7 : u23.cell? ⟨B, 7, none⟩ = some (.string ⟨#[]⟩) := by simp [World.cell?, hB.out]
        have z8 : u23.cell? ⟨B, 8, none⟩ = some (.string ⟨#[]⟩) := by simp [World.cell?, hB.out]
        have fz : ∀ i, u23.frozen? ⟨B, i, none⟩ = false := fun i => by simp [World.frozen?, hB.out]
        have E := Lib.hid (store9 hB.out (.string ⟨#[114, 117, 108, 101]⟩) (.string (S nl)) (.string (S Lf)) (.string (S Lt)) (.string (S Lm)) (.string (S Ld)) (.string (S (La ++ sf))) (.string (S Ls)) (.string (S ll)))
        have SB := store9_below (B := B) (p := B) (Below.refl B u23) (Nat.le_refl _) (.string ⟨#[114, 117, 108, 101]⟩) (.string (S nl)) (.string (S Lf)) (.string (S Lt)) (.string (S Lm)) (.string (S Ld)) (.string (S (La ++ sf))) (.string (S Ls)) (.string (S ll))
        go_simp
        have hx := keep13B hHeld hlb hlg hlw SB
        clear z0 z1 z2 z3 z4 z5 z6 z7 z8 fz
        refine hK.out _ _ (hx) (fun hHeld2 => ?_)
        clear hK K hHeld
        have hHeld := hHeld2
        clear hHeld2
        (try simp only [Act.put, List.setIfInBounds_toArray, List.set_cons_zero, List.set_cons_succ])
        clear hx SB hB
        generalize (((((((((u23.setCell ⟨B, 0, none⟩ (.string ⟨#[114, 117, 108, 101]⟩)).setCell ⟨B, 1, none⟩ (.string (S nl))).setCell ⟨B, 2, none⟩ (.string (S Lf))).setCell ⟨B, 3, none⟩ (.string (S Lt))).setCell ⟨B, 4, none⟩ (.string (S Lm))).setCell ⟨B, 5, none⟩ (.string (S Ld))).setCell ⟨B, 6, none⟩ (.string (S (La ++ sf)))).setCell ⟨B, 7, none⟩ (.string (S Ls))).setCell ⟨B, 8, none⟩ (.string (S ll))) = F at E hHeld ⊢
        refine wpAnyH_done (by kernel_rfl) ?_ _
        refine NoPanic.normal ?_
        have gF := Lib.hid (hHeld.2.2.2.2.2.2.2)
        clear hHeld
        go_wp2_with fail
        refine (join9 B [114, 117, 108, 101] nl Lf Lt Lm Ld (La ++ sf) Ls ll F E.out (by simp only [List.length_append, List.length_cons, List.length_nil]; omega)).mono ?_
        rintro e wj ⟨rfl, gj⟩
        go_wp2_with fail
        go_ret2
        exact ⟨fin.out, gF.out.trans gj⟩
      · go_simp
        have hlb := World.block_lt_of_cell? _ ⟨b, 0, none⟩ hHeld.1
        have hlg := World.block_lt_of_cell? _ ⟨1, by'.toNat, none⟩ hHeld.2.2.2.2.2.2.1
        have hlw := Gr.size hHeld.2.2.2.2.2.2.2
        refine hK.out _ _ (keep13 hHeld (Gr.alloc _ _)) (fun hHeld2 => ?_)
        clear hK K hHeld
        have hHeld := hHeld2
        clear hHeld2
        (try simp only [Act.put, List.setIfInBounds_toArray, List.set_cons_zero, List.set_cons_succ])
        have hB := Lib.hid (heap_new v20' (.cells #[.string ⟨#[]⟩, .string ⟨#[]⟩, .string ⟨#[]⟩, .string ⟨#[]⟩, .string ⟨#[]⟩, .string ⟨#[]⟩, .string ⟨#[]⟩, .string ⟨#[]⟩, .string ⟨#[]⟩] 132))
        generalize v20'.alloc (.cells #[.string ⟨#[]⟩, .string ⟨#[]⟩, .string ⟨#[]⟩, .string ⟨#[]⟩, .string ⟨#[]⟩, .string ⟨#[]⟩, .string ⟨#[]⟩, .string ⟨#[]⟩, .string ⟨#[]⟩] 132) = u24 at hHeld hB ⊢
        generalize v20'.heap.size = B at hB hlb hlg hlw ⊢
        refine wpAnyH_ready (rs := [10]) (by kernel_rfl) (by simp) ?_
        refine AllReadyH.cons (rs := []) rfl (fun K hK => ?_) AllReadyH.nil
        go_simp
        (with_reducible refine (CM.out _ (Gr.pow hHeld.2.2.2.2.2.2.2 HP.out)).mono ?_)
        rintro e v25' ⟨rfl, hgx⟩
        (go_wp2_with fail)
        refine hK.out _ _ (keep13 hHeld hgx) (fun hHeld2 => ?_)
        clear hK K hHeld
        have hHeld := hHeld2
        clear hHeld2
        (try simp only [Act.put, List.setIfInBounds_toArray, List.set_cons_zero, List.set_cons_succ])
        have hB2 := Lib.hid (heap_gr hgx hB.out)
        clear hB
        have hB := hB2
        clear hB2
        clear hgx
        refine wpAnyH_take (i := 21) (oi := { dst := some 56, op := _, type := _, pos := _, after := _, guard := _ }) (v := ?v26) rfl (by kernel_rfl) (by kernel_rfl) (by kernel_rfl) (fun _ _ _ h => h) (Or.inl ⟨by rfl, ?hy26⟩) (by assumption) ?rest26
        case hy26 => (intro w hSw; (try dsimp only at hSw); go_simp <;> (first | (with_reducible rfl) | (rw [if_neg (by (try simp only [List.length_append, List.length_cons, List.length_nil]); omega)])))
        (try simp only [Act.put, List.setIfInBounds_toArray, List.set_cons_zero, List.set_cons_succ])
        refine wpAnyH_ready (rs := [23]) (by kernel_rfl) (by simp) ?_
        refine AllReadyH.cons (rs := []) rfl (fun K hK => ?_) AllReadyH.nil
        have z0 : v25'.cell? ⟨B, 0, none⟩ = some (.string ⟨#[]⟩) := by simp [World.cell?, hB.out]
        have z1 : v25'.cell? ⟨B, 1, none⟩ = some (.string ⟨#[]⟩) := by simp [World.cell?, hB.out]
        have z2 : v25'.cell? ⟨B, 2, none⟩ = some (.string ⟨#[]⟩) := by simp [World.cell?, hB.out]
        have z3 : v25'.cell? ⟨B, 3, none⟩ = some (.string ⟨#[]⟩) := by simp [World.cell?, hB.out]
        have z4 : v25'.cell? ⟨B, 4, none⟩ = some (.string ⟨#[]⟩) := by simp [World.cell?, hB.out]
        have z5 : v25'.cell? ⟨B, 5, none⟩ = some (.string ⟨#[]⟩) := by simp [World.cell?, hB.out]
        have z6 : v25'.cell? ⟨B, 6, none⟩ = some (.string ⟨#[]⟩) := by simp [World.cell?, hB.out]
        have z7 : v25'.cell? ⟨B, 7, none⟩ = some (.string ⟨#[]⟩) := by simp [World.cell?, hB.out]
        have z8 : v25'.cell? ⟨B, 8, none⟩ = some (.string ⟨#[]⟩) := by simp [World.cell?, hB.out]
        have fz : ∀ i, v25'.frozen? ⟨B, i, none⟩ = false := fun i => by simp [World.frozen?, hB.out]
        have E := Lib.hid (store9 hB.out (.string ⟨#[114, 117, 108, 101]⟩) (.string (S nl)) (.string (S Lf)) (.string (S Lt)) (.string (S Lm)) (.string (S Ld)) (.string (S (La ++ sf))) (.string (S Ls)) (.string (S ll)))
        have SB := store9_below (B := B) (p := B) (Below.refl B v25') (Nat.le_refl _) (.string ⟨#[114, 117, 108, 101]⟩) (.string (S nl)) (.string (S Lf)) (.string (S Lt)) (.string (S Lm)) (.string (S Ld)) (.string (S (La ++ sf))) (.string (S Ls)) (.string (S ll))
        go_simp
        have hx := keep13B hHeld hlb hlg hlw SB
        clear z0 z1 z2 z3 z4 z5 z6 z7 z8 fz
        refine hK.out _ _ (hx) (fun hHeld2 => ?_)
        clear hK K hHeld
        have hHeld := hHeld2
        clear hHeld2
        (try simp only [Act.put, List.setIfInBounds_toArray, List.set_cons_zero, List.set_cons_succ])
        clear hx SB hB
        generalize (((((((((v25'.setCell ⟨B, 0, none⟩ (.string ⟨#[114, 117, 108, 101]⟩)).setCell ⟨B, 1, none⟩ (.string (S nl))).setCell ⟨B, 2, none⟩ (.string (S Lf))).setCell ⟨B, 3, none⟩ (.string (S Lt))).setCell ⟨B, 4, none⟩ (.string (S Lm))).setCell ⟨B, 5, none⟩ (.string (S Ld))).setCell ⟨B, 6, none⟩ (.string (S (La ++ sf)))).setCell ⟨B, 7, none⟩ (.string (S Ls))).setCell ⟨B, 8, none⟩ (.string (S ll))) = F at E hHeld ⊢
        refine wpAnyH_done (by kernel_rfl) ?_ _
        refine NoPanic.normal ?_
        have gF := Lib.hid (hHeld.2.2.2.2.2.2.2)
        clear hHeld
        go_wp2_with fail
        refine (join9 B [114, 117, 108, 101] nl Lf Lt Lm Ld (La ++ sf) Ls ll F E.out (by simp only [List.length_append, List.length_cons, List.length_nil]; omega)).mono ?_
        rintro e wj ⟨rfl, gj⟩
        go_wp2_with fail
        go_ret2
        exact ⟨fin.out, gF.out.trans gj⟩
    · go_simp
      have hlb := World.block_lt_of_cell? _ ⟨b, 0, none⟩ hHeld.1
      have hlg := World.block_lt_of_cell? _ ⟨1, by'.toNat, none⟩ hHeld.2.2.2.2.2.2.1
      have hlw := Gr.size hHeld.2.2.2.2.2.2.2
      refine hK.out _ _ (keep13 hHeld (Gr.alloc _ _)) (fun hHeld2 => ?_)
      clear hK K hHeld
      have hHeld := hHeld2
      clear hHeld2
      (try simp only [Act.put, List.setIfInBounds_toArray, List.set_cons_zero, List.set_cons_succ])
      have hB := Lib.hid (heap_new v19' (.cells #[.string ⟨#[]⟩, .string ⟨#[]⟩, .string ⟨#[]⟩, .string ⟨#[]⟩, .string ⟨#[]⟩, .string ⟨#[]⟩, .string ⟨#[]⟩, .string ⟨#[]⟩, .string ⟨#[]⟩] 132))
      generalize v19'.alloc (.cells #[.string ⟨#[]⟩, .string ⟨#[]⟩, .string ⟨#[]⟩, .string ⟨#[]⟩, .string ⟨#[]⟩, .string ⟨#[]⟩, .string ⟨#[]⟩, .string ⟨#[]⟩, .string ⟨#[]⟩] 132) = u27 at hHeld hB ⊢
      generalize v19'.heap.size = B at hB hlb hlg hlw ⊢
      refine wpAnyH_ready (rs := [7]) (by kernel_rfl) (by simp) ?_
      refine AllReadyH.cons (rs := []) rfl (fun K hK => ?_) AllReadyH.nil
      go_simp
      (with_reducible refine (CT.out _ (Gr.pow hHeld.2.2.2.2.2.2.2 HP.out)).mono ?_)
      rintro e v28' ⟨rfl, hgx⟩
      (go_wp2_with fail)
      refine hK.out _ _ (keep13 hHeld hgx) (fun hHeld2 => ?_)
      clear hK K hHeld
      have hHeld := hHeld2
      clear hHeld2
      (try simp only [Act.put, List.setIfInBounds_toArray, List.set_cons_zero, List.set_cons_succ])
      have hB2 := Lib.hid (heap_gr hgx hB.out)
      clear hB
      have hB := hB2
      clear hB2
      clear hgx
      refine wpAnyH_ready (rs := [10]) (by kernel_rfl) (by simp) ?_
      refine AllReadyH.cons (rs := []) rfl (fun K hK => ?_) AllReadyH.nil
      go_simp
      (with_reducible refine (CM.out _ (Gr.pow hHeld.2.2.2.2.2.2.2 HP.out)).mono ?_)
      rintro e v29' ⟨rfl, hgx⟩
      (go_wp2_with fail)
      refine hK.out _ _ (keep13 hHeld hgx) (fun hHeld2 => ?_)
      clear hK K hHeld
      have hHeld := hHeld2
      clear hHeld2
      (try simp only [Act.put, List.setIfInBounds_toArray, List.set_cons_zero, List.set_cons_succ])
      have hB2 := Lib.hid (heap_gr hgx hB.out)
      clear hB
      have hB := hB2
      clear hB2
      clear hgx
      refine wpAnyH_take (i := 21) (oi := { dst := some 56, op := _, type := _, pos := _, after := _, guard := _ }) (v := ?v30) rfl (by kernel_rfl) (by kernel_rfl) (by kernel_rfl) (fun _ _ _ h => h) (Or.inl ⟨by rfl, ?hy30⟩) (by assumption) ?rest30
      case hy30 => (intro w hSw; (try dsimp only at hSw); go_simp <;> (first | (with_reducible rfl) | (rw [if_neg (by (try simp only [List.length_append, List.length_cons, List.length_nil]); omega)])))
      (try simp only [Act.put, List.setIfInBounds_toArray, List.set_cons_zero, List.set_cons_succ])
      refine wpAnyH_ready (rs := [23]) (by kernel_rfl) (by simp) ?_
      refine AllReadyH.cons (rs := []) rfl (fun K hK => ?_) AllReadyH.nil
      have z0 : v29'.cell? ⟨B, 0, none⟩ = some (.string ⟨#[]⟩) := by simp [World.cell?, hB.out]
      have z1 : v29'.cell? ⟨B, 1, none⟩ = some (.string ⟨#[]⟩) := by simp [World.cell?, hB.out]
      have z2 : v29'.cell? ⟨B, 2, none⟩ = some (.string ⟨#[]⟩) := by simp [World.cell?, hB.out]
      have z3 : v29'.cell? ⟨B, 3, none⟩ = some (.string ⟨#[]⟩) := by simp [World.cell?, hB.out]
      have z4 : v29'.cell? ⟨B, 4, none⟩ = some (.string ⟨#[]⟩) := by simp [World.cell?, hB.out]
      have z5 : v29'.cell? ⟨B, 5, none⟩ = some (.string ⟨#[]⟩) := by simp [World.cell?, hB.out]
      have z6 : v29'.cell? ⟨B, 6, none⟩ = some (.string ⟨#[]⟩) := by simp [World.cell?, hB.out]
      have z7 : v29'.cell? ⟨B, 7, none⟩ = some (.string ⟨#[]⟩) := by simp [World.cell?, hB.out]
      have z8 : v29'.cell? ⟨B, 8, none⟩ = some (.string ⟨#[]⟩) := by simp [World.cell?, hB.out]
      have fz : ∀ i, v29'.frozen? ⟨B, i, none⟩ = false := fun i => by simp [World.frozen?, hB.out]
      have E := Lib.hid (store9 hB.out (.string ⟨#[114, 117, 108, 101]⟩) (.string (S nl)) (.string (S Lf)) (.string (S Lt)) (.string (S Lm)) (.string (S Ld)) (.string (S (La ++ sf))) (.string (S Ls)) (.string (S ll)))
      have SB := store9_below (B := B) (p := B) (Below.refl B v29') (Nat.le_refl _) (.string ⟨#[114, 117, 108, 101]⟩) (.string (S nl)) (.string (S Lf)) (.string (S Lt)) (.string (S Lm)) (.string (S Ld)) (.string (S (La ++ sf))) (.string (S Ls)) (.string (S ll))
      go_simp
      have hx := keep13B hHeld hlb hlg hlw SB
      clear z0 z1 z2 z3 z4 z5 z6 z7 z8 fz
      refine hK.out _ _ (hx) (fun hHeld2 => ?_)
      clear hK K hHeld
      have hHeld := hHeld2
      clear hHeld2
      (try simp only [Act.put, List.setIfInBounds_toArray, List.set_cons_zero, List.set_cons_succ])
      clear hx SB hB
      generalize (((((((((v29'.setCell ⟨B, 0, none⟩ (.string ⟨#[114, 117, 108, 101]⟩)).setCell ⟨B, 1, none⟩ (.string (S nl))).setCell ⟨B, 2, none⟩ (.string (S Lf))).setCell ⟨B, 3, none⟩ (.string (S Lt))).setCell ⟨B, 4, none⟩ (.string (S Lm))).setCell ⟨B, 5, none⟩ (.string (S Ld))).setCell ⟨B, 6, none⟩ (.string (S (La ++ sf)))).setCell ⟨B, 7, none⟩ (.string (S Ls))).setCell ⟨B, 8, none⟩ (.string (S ll))) = F at E hHeld ⊢
      refine wpAnyH_done (by kernel_rfl) ?_ _
      refine NoPanic.normal ?_
      have gF := Lib.hid (hHeld.2.2.2.2.2.2.2)
      clear hHeld
      go_wp2_with fail
      refine (join9 B [114, 117, 108, 101] nl Lf Lt Lm Ld (La ++ sf) Ls ll F E.out (by simp only [List.length_append, List.length_cons, List.length_nil]; omega)).mono ?_
      rintro e wj ⟨rfl, gj⟩
      go_wp2_with fail
      go_ret2
      exact ⟨fin.out, gF.out.trans gj⟩
  · go_simp
    have hlb := World.block_lt_of_cell? _ ⟨b, 0, none⟩ hHeld.1
    have hlg := World.block_lt_of_cell? _ ⟨1, by'.toNat, none⟩ hHeld.2.2.2.2.2.2.1
    have hlw := Gr.size hHeld.2.2.2.2.2.2.2
    refine hK.out _ _ (keep13 hHeld (Gr.alloc _ _)) (fun hHeld2 => ?_)
    clear hK K hHeld
    have hHeld := hHeld2
    clear hHeld2
    (try simp only [Act.put, List.setIfInBounds_toArray, List.set_cons_zero, List.set_cons_succ])
    have hB := Lib.hid (heap_new v0 (.cells #[.string ⟨#[]⟩, .string ⟨#[]⟩, .string ⟨#[]⟩, .string ⟨#[]⟩, .string ⟨#[]⟩, .string ⟨#[]⟩, .string ⟨#[]⟩, .string ⟨#[]⟩, .string ⟨#[]⟩] 132))
    generalize v0.alloc (.cells #[.string ⟨#[]⟩, .string ⟨#[]⟩, .string ⟨#[]⟩, .string ⟨#[]⟩, .string ⟨#[]⟩, .string ⟨#[]⟩, .string ⟨#[]⟩, .string ⟨#[]⟩, .string ⟨#[]⟩] 132) = u31 at hHeld hB ⊢
    generalize v0.heap.size = B at hB hlb hlg hlw ⊢
    refine wpAnyH_ready (rs := [4]) (by kernel_rfl) (by simp) ?_
    refine AllReadyH.cons (rs := []) rfl (fun K hK => ?_) AllReadyH.nil
    go_simp
    (with_reducible refine (CF.out _ (Gr.pow hHeld.2.2.2.2.2.2.2 HP.out)).mono ?_)
    rintro e v32' ⟨rfl, hgx⟩
    (go_wp2_with fail)
    refine hK.out _ _ (keep13 hHeld hgx) (fun hHeld2 => ?_)
    clear hK K hHeld
    have hHeld := hHeld2
    clear hHeld2
    (try simp only [Act.put, List.setIfInBounds_toArray, List.set_cons_zero, List.set_cons_succ])
    have hB2 := Lib.hid (heap_gr hgx hB.out)
    clear hB
    have hB := hB2
    clear hB2
    clear hgx
    refine wpAnyH_ready (rs := [7]) (by kernel_rfl) (by simp) ?_
    refine AllReadyH.cons (rs := []) rfl (fun K hK => ?_) AllReadyH.nil
    go_simp
    (with_reducible refine (CT.out _ (Gr.pow hHeld.2.2.2.2.2.2.2 HP.out)).mono ?_)
    rintro e v33' ⟨rfl, hgx⟩
    (go_wp2_with fail)
    refine hK.out _ _ (keep13 hHeld hgx) (fun hHeld2 => ?_)
    clear hK K hHeld
    have hHeld := hHeld2
    clear hHeld2
    (try simp only [Act.put, List.setIfInBounds_toArray, List.set_cons_zero, List.set_cons_succ])
    have hB2 := Lib.hid (heap_gr hgx hB.out)
    clear hB
    have hB := hB2
    clear hB2
    clear hgx
    refine wpAnyH_ready (rs := [10]) (by kernel_rfl) (by simp) ?_
    refine AllReadyH.cons (rs := []) rfl (fun K hK => ?_) AllReadyH.nil
    go_simp
    (with_reducible refine (CM.out _ (Gr.pow hHeld.2.2.2.2.2.2.2 HP.out)).mono ?_)
    rintro e v34' ⟨rfl, hgx⟩
    (go_wp2_with fail)
    refine hK.out _ _ (keep13 hHeld hgx) (fun hHeld2 => ?_)
    clear hK K hHeld
    have hHeld := hHeld2
    clear hHeld2
    (try simp only [Act.put, List.setIfInBounds_toArray, List.set_cons_zero, List.set_cons_succ])
    have hB2 := Lib.hid (heap_gr hgx hB.out)
    clear hB
    have hB := hB2
    clear hB2
    clear hgx
    refine wpAnyH_take (i := 21) (oi := { dst := some 56, op := _, type := _, pos := _, after := _, guard := _ }) (v := ?v35) rfl (by kernel_rfl) (by kernel_rfl) (by kernel_rfl) (fun _ _ _ h => h) (Or.inl ⟨by rfl, ?hy35⟩) (by assumption) ?rest35
    case hy35 => (intro w hSw; (try dsimp only at hSw); go_simp <;> (first | (with_reducible rfl) | (rw [if_neg (by (try simp only [List.length_append, List.length_cons, List.length_nil]); omega)])))
    (try simp only [Act.put, List.setIfInBounds_toArray, List.set_cons_zero, List.set_cons_succ])
    refine wpAnyH_ready (rs := [23]) (by kernel_rfl) (by simp) ?_
    refine AllReadyH.cons (rs := []) rfl (fun K hK => ?_) AllReadyH.nil
    have z0 : v34'.cell? ⟨B, 0, none⟩ = some (.string ⟨#[]⟩) := by simp [World.cell?, hB.out]
    have z1 : v34'.cell? ⟨B, 1, none⟩ = some (.string ⟨#[]⟩) := by simp [World.cell?, hB.out]
    have z2 : v34'.cell? ⟨B, 2, none⟩ = some (.string ⟨#[]⟩) := by simp [World.cell?, hB.out]
    have z3 : v34'.cell? ⟨B, 3, none⟩ = some (.string ⟨#[]⟩) := by simp [World.cell?, hB.out]
    have z4 : v34'.cell? ⟨B, 4, none⟩ = some (.string ⟨#[]⟩) := by simp [World.cell?, hB.out]
    have z5 : v34'.cell? ⟨B, 5, none⟩ = some (.string ⟨#[]⟩) := by simp [World.cell?, hB.out]
    have z6 : v34'.cell? ⟨B, 6, none⟩ = some (.string ⟨#[]⟩) := by simp [World.cell?, hB.out]
    have z7 : v34'.cell? ⟨B, 7, none⟩ = some (.string ⟨#[]⟩) := by simp [World.cell?, hB.out]
    have z8 : v34'.cell? ⟨B, 8, none⟩ = some (.string ⟨#[]⟩) := by simp [World.cell?, hB.out]
    have fz : ∀ i, v34'.frozen? ⟨B, i, none⟩ = false := fun i => by simp [World.frozen?, hB.out]
    have E := Lib.hid (store9 hB.out (.string ⟨#[114, 117, 108, 101]⟩) (.string (S nl)) (.string (S Lf)) (.string (S Lt)) (.string (S Lm)) (.string (S Ld)) (.string (S (La ++ sf))) (.string (S Ls)) (.string (S ll)))
    have SB := store9_below (B := B) (p := B) (Below.refl B v34') (Nat.le_refl _) (.string ⟨#[114, 117, 108, 101]⟩) (.string (S nl)) (.string (S Lf)) (.string (S Lt)) (.string (S Lm)) (.string (S Ld)) (.string (S (La ++ sf))) (.string (S Ls)) (.string (S ll))
    go_simp
    have hx := keep13B hHeld hlb hlg hlw SB
    clear z0 z1 z2 z3 z4 z5 z6 z7 z8 fz
    refine hK.out _ _ (hx) (fun hHeld2 => ?_)
    clear hK K hHeld
    have hHeld := hHeld2
    clear hHeld2
    (try simp only [Act.put, List.setIfInBounds_toArray, List.set_cons_zero, List.set_cons_succ])
    clear hx SB hB
    generalize (((((((((v34'.setCell ⟨B, 0, none⟩ (.string ⟨#[114, 117, 108, 101]⟩)).setCell ⟨B, 1, none⟩ (.string (S nl))).setCell ⟨B, 2, none⟩ (.string (S Lf))).setCell ⟨B, 3, none⟩ (.string (S Lt))).setCell ⟨B, 4, none⟩ (.string (S Lm))).setCell ⟨B, 5, none⟩ (.string (S Ld))).setCell ⟨B, 6, none⟩ (.string (S (La ++ sf)))).setCell ⟨B, 7, none⟩ (.string (S Ls))).setCell ⟨B, 8, none⟩ (.string (S ll))) = F at E hHeld ⊢
    refine wpAnyH_done (by kernel_rfl) ?_ _
    refine NoPanic.normal ?_
    have gF := Lib.hid (hHeld.2.2.2.2.2.2.2)
    clear hHeld
    go_wp2_with fail
    refine (join9 B [114, 117, 108, 101] nl Lf Lt Lm Ld (La ++ sf) Ls ll F E.out (by simp only [List.length_append, List.length_cons, List.length_nil]; omega)).mono ?_
    rintro e wj ⟨rfl, gj⟩
    go_wp2_with fail
    go_ret2
    exact ⟨fin.out, gF.out.trans gj⟩

theorem pruleText (nm : ByteArray) (fr tt mo k d n at' by' sv : Int) (lt : ByteArray) (w : World) (htab : RtTab w) (hn : nm.size ≤ maxLen) (ht : lt.size ≤ maxLen) :
    Calls Tryz.prog 89 #[ruleV nm fr tt mo k d n at' by' sv lt] w fun e w' => e = ruleTextA nm.toList lt.toList fr tt mo k d n at' by' sv ∧ Gr w w' := by
  unfold ruleTextA
  by_cases h : ruleC nm.toList lt.toList fr tt mo k d n at' by' sv = 0
  · rw [if_pos h]
    obtain ⟨a, b, c, d'⟩ := ruleC_zero.1 h
    have := pruleText_yes nm.toList fr tt mo k d n at' by' sv lt.toList w htab a b c d'
    rw [← S_of nm, ← S_of lt] at this
    exact this
  · rw [if_neg h]
    exact pruleText_bad nm fr tt mo k d n at' by' sv lt w htab.1 hn ht h
end Go.Proofs.YtkkilmmpmiichaaGreatDoor
