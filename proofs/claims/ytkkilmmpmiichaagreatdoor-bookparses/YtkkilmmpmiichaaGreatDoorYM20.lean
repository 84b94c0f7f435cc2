/- What the reference's RuleParse returns: the walk. A rule's text and its words: what RuleParse must answer. No walk in it. -/
import Derived.Deep.QuietTactic
import Derived.BigQuiet
import Derived.Test.YtkkilmmpmiichaaGreatDoorYM19
namespace Go.Proofs.YtkkilmmpmiichaaGreatDoor
set_option linter.unusedVariables false
set_option linter.unusedSimpArgs false
open Go.RowKit
/-- a rule and an error -/
abbrev ruleInt (nm : ByteArray) (fr tt mo k d n at' by' sv : Int) (lt : ByteArray) (e : Int) : Ending := .returned (.tuple #[ruleV nm fr tt mo k d n at' by' sv lt, .int .i64 e])
/-- no rule -/
abbrev noRule : Ending := ruleInt ⟨#[]⟩ 0 0 0 0 0 0 0 0 0 ⟨#[]⟩ 3

/-- a rule stored cell by cell -/
theorem store11 {W : World} {p : Nat} {T : TypeId} {r0 r1 r2 r3 r4 r5 r6 r7 r8 r9 r10 : Value} (h : W.heap[p]? = some (.cells #[r0, r1, r2, r3, r4, r5, r6, r7, r8, r9, r10] T (0, 0))) (v0 v1 v2 v3 v4 v5 v6 v7 v8 v9 v10 : Value) :
    (((((((((((W.setCell ⟨p, 0, none⟩ v0).setCell ⟨p, 1, none⟩ v1).setCell ⟨p, 2, none⟩ v2).setCell ⟨p, 3, none⟩ v3).setCell ⟨p, 4, none⟩ v4).setCell ⟨p, 5, none⟩ v5).setCell ⟨p, 6, none⟩ v6).setCell ⟨p, 7, none⟩ v7).setCell ⟨p, 8, none⟩ v8).setCell ⟨p, 9, none⟩ v9).setCell ⟨p, 10, none⟩ v10).heap[p]? = some (.cells #[v0, v1, v2, v3, v4, v5, v6, v7, v8, v9, v10] T (0, 0)) := by
  have e0 : (W.setCell ⟨p, 0, none⟩ v0).heap[p]? = some (.cells #[v0, r1, r2, r3, r4, r5, r6, r7, r8, r9, r10] T (0, 0)) := heap_setCell_same W p 0 #[r0, r1, r2, r3, r4, r5, r6, r7, r8, r9, r10] T v0 h
  have e1 : ((W.setCell ⟨p, 0, none⟩ v0).setCell ⟨p, 1, none⟩ v1).heap[p]? = some (.cells #[v0, v1, r2, r3, r4, r5, r6, r7, r8, r9, r10] T (0, 0)) := heap_setCell_same (W.setCell ⟨p, 0, none⟩ v0) p 1 #[v0, r1, r2, r3, r4, r5, r6, r7, r8, r9, r10] T v1 e0
  have e2 : (((W.setCell ⟨p, 0, none⟩ v0).setCell ⟨p, 1, none⟩ v1).setCell ⟨p, 2, none⟩ v2).heap[p]? = some (.cells #[v0, v1, v2, r3, r4, r5, r6, r7, r8, r9, r10] T (0, 0)) := heap_setCell_same ((W.setCell ⟨p, 0, none⟩ v0).setCell ⟨p, 1, none⟩ v1) p 2 #[v0, v1, r2, r3, r4, r5, r6, r7, r8, r9, r10] T v2 e1
  have e3 : ((((W.setCell ⟨p, 0, none⟩ v0).setCell ⟨p, 1, none⟩ v1).setCell ⟨p, 2, none⟩ v2).setCell ⟨p, 3, none⟩ v3).heap[p]? = some (.cells #[v0, v1, v2, v3, r4, r5, r6, r7, r8, r9, r10] T (0, 0)) := heap_setCell_same (((W.setCell ⟨p, 0, none⟩ v0).setCell ⟨p, 1, none⟩ v1).setCell ⟨p, 2, none⟩ v2) p 3 #[v0, v1, v2, r3, r4, r5, r6, r7, r8, r9, r10] T v3 e2
  have e4 : (((((W.setCell ⟨p, 0, none⟩ v0).setCell ⟨p, 1, none⟩ v1).setCell ⟨p, 2, none⟩ v2).setCell ⟨p, 3, none⟩ v3).setCell ⟨p, 4, none⟩ v4).heap[p]? = some (.cells #[v0, v1, v2, v3, v4, r5, r6, r7, r8, r9, r10] T (0, 0)) := heap_setCell_same ((((W.setCell ⟨p, 0, none⟩ v0).setCell ⟨p, 1, none⟩ v1).setCell ⟨p, 2, none⟩ v2).setCell ⟨p, 3, none⟩ v3) p 4 #[v0, v1, v2, v3, r4, r5, r6, r7, r8, r9, r10] T v4 e3
  have e5 : ((((((W.setCell ⟨p, 0, none⟩ v0).setCell ⟨p, 1, none⟩ v1).setCell ⟨p, 2, none⟩ v2).setCell ⟨p, 3, none⟩ v3).setCell ⟨p, 4, none⟩ v4).setCell ⟨p, 5, none⟩ v5).heap[p]? = some (.cells #[v0, v1, v2, v3, v4, v5, r6, r7, r8, r9, r10] T (0, 0)) := heap_setCell_same (((((W.setCell ⟨p, 0, none⟩ v0).setCell ⟨p, 1, none⟩ v1).setCell ⟨p, 2, none⟩ v2).setCell ⟨p, 3, none⟩ v3).setCell ⟨p, 4, none⟩ v4) p 5 #[v0, v1, v2, v3, v4, r5, r6, r7, r8, r9, r10] T v5 e4
  have e6 : (((((((W.setCell ⟨p, 0, none⟩ v0).setCell ⟨p, 1, none⟩ v1).setCell ⟨p, 2, none⟩ v2).setCell ⟨p, 3, none⟩ v3).setCell ⟨p, 4, none⟩ v4).setCell ⟨p, 5, none⟩ v5).setCell ⟨p, 6, none⟩ v6).heap[p]? = some (.cells #[v0, v1, v2, v3, v4, v5, v6, r7, r8, r9, r10] T (0, 0)) := heap_setCell_same ((((((W.setCell ⟨p, 0, none⟩ v0).setCell ⟨p, 1, none⟩ v1).setCell ⟨p, 2, none⟩ v2).setCell ⟨p, 3, none⟩ v3).setCell ⟨p, 4, none⟩ v4).setCell ⟨p, 5, none⟩ v5) p 6 #[v0, v1, v2, v3, v4, v5, r6, r7, r8, r9, r10] T v6 e5
  have e7 : ((((((((W.setCell ⟨p, 0, none⟩ v0).setCell ⟨p, 1, none⟩ v1).setCell ⟨p, 2, none⟩ v2).setCell ⟨p, 3, none⟩ v3).setCell ⟨p, 4, none⟩ v4).setCell ⟨p, 5, none⟩ v5).setCell ⟨p, 6, none⟩ v6).setCell ⟨p, 7, none⟩ v7).heap[p]? = some (.cells #[v0, v1, v2, v3, v4, v5, v6, v7, r8, r9, r10] T (0, 0)) := heap_setCell_same (((((((W.setCell ⟨p, 0, none⟩ v0).setCell ⟨p, 1, none⟩ v1).setCell ⟨p, 2, none⟩ v2).setCell ⟨p, 3, none⟩ v3).setCell ⟨p, 4, none⟩ v4).setCell ⟨p, 5, none⟩ v5).setCell ⟨p, 6, none⟩ v6) p 7 #[v0, v1, v2, v3, v4, v5, v6, r7, r8, r9, r10] T v7 e6
  have e8 : (((((((((W.setCell ⟨p, 0, none⟩ v0).setCell ⟨p, 1, none⟩ v1).setCell ⟨p, 2, none⟩ v2).setCell ⟨p, 3, none⟩ v3).setCell ⟨p, 4, none⟩ v4).setCell ⟨p, 5, none⟩ v5).setCell ⟨p, 6, none⟩ v6).setCell ⟨p, 7, none⟩ v7).setCell ⟨p, 8, none⟩ v8).heap[p]? = some (.cells #[v0, v1, v2, v3, v4, v5, v6, v7, v8, r9, r10] T (0, 0)) := heap_setCell_same ((((((((W.setCell ⟨p, 0, none⟩ v0).setCell ⟨p, 1, none⟩ v1).setCell ⟨p, 2, none⟩ v2).setCell ⟨p, 3, none⟩ v3).setCell ⟨p, 4, none⟩ v4).setCell ⟨p, 5, none⟩ v5).setCell ⟨p, 6, none⟩ v6).setCell ⟨p, 7, none⟩ v7) p 8 #[v0, v1, v2, v3, v4, v5, v6, v7, r8, r9, r10] T v8 e7
  have e9 : ((((((((((W.setCell ⟨p, 0, none⟩ v0).setCell ⟨p, 1, none⟩ v1).setCell ⟨p, 2, none⟩ v2).setCell ⟨p, 3, none⟩ v3).setCell ⟨p, 4, none⟩ v4).setCell ⟨p, 5, none⟩ v5).setCell ⟨p, 6, none⟩ v6).setCell ⟨p, 7, none⟩ v7).setCell ⟨p, 8, none⟩ v8).setCell ⟨p, 9, none⟩ v9).heap[p]? = some (.cells #[v0, v1, v2, v3, v4, v5, v6, v7, v8, v9, r10] T (0, 0)) := heap_setCell_same (((((((((W.setCell ⟨p, 0, none⟩ v0).setCell ⟨p, 1, none⟩ v1).setCell ⟨p, 2, none⟩ v2).setCell ⟨p, 3, none⟩ v3).setCell ⟨p, 4, none⟩ v4).setCell ⟨p, 5, none⟩ v5).setCell ⟨p, 6, none⟩ v6).setCell ⟨p, 7, none⟩ v7).setCell ⟨p, 8, none⟩ v8) p 9 #[v0, v1, v2, v3, v4, v5, v6, v7, v8, r9, r10] T v9 e8
  have e10 : (((((((((((W.setCell ⟨p, 0, none⟩ v0).setCell ⟨p, 1, none⟩ v1).setCell ⟨p, 2, none⟩ v2).setCell ⟨p, 3, none⟩ v3).setCell ⟨p, 4, none⟩ v4).setCell ⟨p, 5, none⟩ v5).setCell ⟨p, 6, none⟩ v6).setCell ⟨p, 7, none⟩ v7).setCell ⟨p, 8, none⟩ v8).setCell ⟨p, 9, none⟩ v9).setCell ⟨p, 10, none⟩ v10).heap[p]? = some (.cells #[v0, v1, v2, v3, v4, v5, v6, v7, v8, v9, v10] T (0, 0)) := heap_setCell_same ((((((((((W.setCell ⟨p, 0, none⟩ v0).setCell ⟨p, 1, none⟩ v1).setCell ⟨p, 2, none⟩ v2).setCell ⟨p, 3, none⟩ v3).setCell ⟨p, 4, none⟩ v4).setCell ⟨p, 5, none⟩ v5).setCell ⟨p, 6, none⟩ v6).setCell ⟨p, 7, none⟩ v7).setCell ⟨p, 8, none⟩ v8).setCell ⟨p, 9, none⟩ v9) p 10 #[v0, v1, v2, v3, v4, v5, v6, v7, v8, v9, r10] T v10 e9
  exact e10
theorem store11_below {W a : World} {p : Nat} {B : Nat} (h : Below B a W) (hB : B ≤ p) (v0 v1 v2 v3 v4 v5 v6 v7 v8 v9 v10 : Value) : Below B a (((((((((((W.setCell ⟨p, 0, none⟩ v0).setCell ⟨p, 1, none⟩ v1).setCell ⟨p, 2, none⟩ v2).setCell ⟨p, 3, none⟩ v3).setCell ⟨p, 4, none⟩ v4).setCell ⟨p, 5, none⟩ v5).setCell ⟨p, 6, none⟩ v6).setCell ⟨p, 7, none⟩ v7).setCell ⟨p, 8, none⟩ v8).setCell ⟨p, 9, none⟩ v9).setCell ⟨p, 10, none⟩ v10) :=
  (Below.setCell (Below.setCell (Below.setCell (Below.setCell (Below.setCell (Below.setCell (Below.setCell (Below.setCell (Below.setCell (Below.setCell (Below.setCell h hB _) hB _) hB _) hB _) hB _) hB _) hB _) hB _) hB _) hB _) hB _)

set_option maxRecDepth 100000 in
set_option maxHeartbeats 4000000 in
theorem rparse_len (s : ByteArray) (mx : Int) (w : World) (hs : s.size ≤ 1048576) (hm : w.cell? ⟨0, 0, none⟩ = some (.int .i64 mx)) (h9 : ¬ ((bl s).length = 9 ∧ (wd s 0).toList = [114, 117, 108, 101])) :
    Calls Tryz.prog 11 #[.string s] w fun e w' => e = noRule ∧ Gr w w' := by
  have hz : (w.alloc (.cells zrow 42)).heap[w.heap.size]? = some (.cells zrow 42 (0, 0)) := by unfold World.alloc; simp
  have g0 := Gr.alloc w (.cells zrow 42)
  have KS := Lib.hid (fun W hm => split32 s mx W hs hm)
  have HM := Lib.hid hm
  have sz := bl_len s
  have szb : (bl s).length ≤ 1048577 := by
    have := Lib.countB_le ⟨#[32]⟩ (by decide) s.size s (Nat.le_refl _); omega
  clear hm hs sz
  go_enter Tryz.func11, Tryz.ntmps11
  go_wp2_with fail
  generalize w.alloc (.cells zrow 42) = w0 at hz g0 ⊢
  refine (KS.out w0 (g0.holds HM.out)).mono ?_
  rintro e w1 ⟨g, hg, rfl, g1, hc⟩
  clear KS
  have hp : w1.heap[w.heap.size]? = some (.cells zrow 42 (0, 0)) := by rw [Below.block g1 _ (heap_lt hz)]; exact hz
  have gw := Lib.hid (g0.trans g1)
  have z0 : w1.cell? ⟨w.heap.size, 0, none⟩ = some (.string ⟨#[]⟩) := by simp [World.cell?, hp]
  have z1 : w1.cell? ⟨w.heap.size, 1, none⟩ = some (.int .i64 0) := by simp [World.cell?, hp]
  have z2 : w1.cell? ⟨w.heap.size, 2, none⟩ = some (.int .i64 0) := by simp [World.cell?, hp]
  have z3 : w1.cell? ⟨w.heap.size, 3, none⟩ = some (.int .i64 0) := by simp [World.cell?, hp]
  have z4 : w1.cell? ⟨w.heap.size, 4, none⟩ = some (.int .i64 0) := by simp [World.cell?, hp]
  have z5 : w1.cell? ⟨w.heap.size, 5, none⟩ = some (.int .i64 0) := by simp [World.cell?, hp]
  have z6 : w1.cell? ⟨w.heap.size, 6, none⟩ = some (.int .i64 0) := by simp [World.cell?, hp]
  have z7 : w1.cell? ⟨w.heap.size, 7, none⟩ = some (.int .i64 0) := by simp [World.cell?, hp]
  have z8 : w1.cell? ⟨w.heap.size, 8, none⟩ = some (.int .i64 0) := by simp [World.cell?, hp]
  have z9 : w1.cell? ⟨w.heap.size, 9, none⟩ = some (.int .i64 0) := by simp [World.cell?, hp]
  have z10 : w1.cell? ⟨w.heap.size, 10, none⟩ = some (.string ⟨#[]⟩) := by simp [World.cell?, hp]
  have fz : ∀ i, w1.frozen? ⟨w.heap.size, i, none⟩ = false := fun i => by simp [World.frozen?, hp]
  have HP := Lib.hid hp
  clear hp hz g0 g1
  generalize hb : w.heap.size = p at z0 z1 z2 z3 z4 z5 z6 z7 z8 z9 z10 fz HP ⊢
  by_cases l9 : (bl s).length = 9
  · have t0 : (((bl s).length : Nat) : Int) = 9 := by omega
    have c0 := hc 0 (by omega)
    have t1 : ((wd s 0).toList == [114, 117, 108, 101]) = false := by
      have : ¬ (wd s 0).toList = [114, 117, 108, 101] := fun e => h9 ⟨l9, e⟩
      simpa using this
    clear h9 hc
    rw [l9]
    go_wp2_with fail
    have E := store11 HP.out (.string ⟨#[]⟩) (.int .i64 0) (.int .i64 0) (.int .i64 0) (.int .i64 0) (.int .i64 0) (.int .i64 0) (.int .i64 0) (.int .i64 0) (.int .i64 0) (.string ⟨#[]⟩)
    have G := Lib.hid (store11_below (B := p) (a := w) (p := p) (by rw [← hb]; exact gw.out) (Nat.le_refl _) (.string ⟨#[]⟩) (.int .i64 0) (.int .i64 0) (.int .i64 0) (.int .i64 0) (.int .i64 0) (.int .i64 0) (.int .i64 0) (.int .i64 0) (.int .i64 0) (.string ⟨#[]⟩))
    generalize (((((((((((w1.setCell ⟨p, 0, none⟩ (.string ⟨#[]⟩)).setCell ⟨p, 1, none⟩ (.int .i64 0)).setCell ⟨p, 2, none⟩ (.int .i64 0)).setCell ⟨p, 3, none⟩ (.int .i64 0)).setCell ⟨p, 4, none⟩ (.int .i64 0)).setCell ⟨p, 5, none⟩ (.int .i64 0)).setCell ⟨p, 6, none⟩ (.int .i64 0)).setCell ⟨p, 7, none⟩ (.int .i64 0)).setCell ⟨p, 8, none⟩ (.int .i64 0)).setCell ⟨p, 9, none⟩ (.int .i64 0)).setCell ⟨p, 10, none⟩ (.string ⟨#[]⟩)) = F at E G ⊢
    have y0 : F.cell? ⟨p, 0, none⟩ = some (.string ⟨#[]⟩) := by simp [World.cell?, E]
    have y1 : F.cell? ⟨p, 1, none⟩ = some (.int .i64 0) := by simp [World.cell?, E]
    have y2 : F.cell? ⟨p, 2, none⟩ = some (.int .i64 0) := by simp [World.cell?, E]
    have y3 : F.cell? ⟨p, 3, none⟩ = some (.int .i64 0) := by simp [World.cell?, E]
    have y4 : F.cell? ⟨p, 4, none⟩ = some (.int .i64 0) := by simp [World.cell?, E]
    have y5 : F.cell? ⟨p, 5, none⟩ = some (.int .i64 0) := by simp [World.cell?, E]
    have y6 : F.cell? ⟨p, 6, none⟩ = some (.int .i64 0) := by simp [World.cell?, E]
    have y7 : F.cell? ⟨p, 7, none⟩ = some (.int .i64 0) := by simp [World.cell?, E]
    have y8 : F.cell? ⟨p, 8, none⟩ = some (.int .i64 0) := by simp [World.cell?, E]
    have y9 : F.cell? ⟨p, 9, none⟩ = some (.int .i64 0) := by simp [World.cell?, E]
    have y10 : F.cell? ⟨p, 10, none⟩ = some (.string ⟨#[]⟩) := by simp [World.cell?, E]
    exact bodyPost_ret (v := .tuple #[ruleV ⟨#[]⟩ 0 0 0 0 0 0 0 0 0 ⟨#[]⟩, .int .i64 3]) (by simp [results, Tryz.results11, go_sem, y0, y1, y2, y3, y4, y5, y6, y7, y8, y9, y10]) rfl ⟨rfl, by unfold Gr; rw [hb]; exact G.out⟩
  · have t0 : ((((bl s).length : Nat) : Int) != 9) = true := by simp; omega
    clear h9 hc
    generalize (bl s).length = L at t0 szb ⊢
    go_wp2_with fail
    have E := store11 HP.out (.string ⟨#[]⟩) (.int .i64 0) (.int .i64 0) (.int .i64 0) (.int .i64 0) (.int .i64 0) (.int .i64 0) (.int .i64 0) (.int .i64 0) (.int .i64 0) (.string ⟨#[]⟩)
    have G := Lib.hid (store11_below (B := p) (a := w) (p := p) (by rw [← hb]; exact gw.out) (Nat.le_refl _) (.string ⟨#[]⟩) (.int .i64 0) (.int .i64 0) (.int .i64 0) (.int .i64 0) (.int .i64 0) (.int .i64 0) (.int .i64 0) (.int .i64 0) (.int .i64 0) (.string ⟨#[]⟩))
    generalize (((((((((((w1.setCell ⟨p, 0, none⟩ (.string ⟨#[]⟩)).setCell ⟨p, 1, none⟩ (.int .i64 0)).setCell ⟨p, 2, none⟩ (.int .i64 0)).setCell ⟨p, 3, none⟩ (.int .i64 0)).setCell ⟨p, 4, none⟩ (.int .i64 0)).setCell ⟨p, 5, none⟩ (.int .i64 0)).setCell ⟨p, 6, none⟩ (.int .i64 0)).setCell ⟨p, 7, none⟩ (.int .i64 0)).setCell ⟨p, 8, none⟩ (.int .i64 0)).setCell ⟨p, 9, none⟩ (.int .i64 0)).setCell ⟨p, 10, none⟩ (.string ⟨#[]⟩)) = F at E G ⊢
    have y0 : F.cell? ⟨p, 0, none⟩ = some (.string ⟨#[]⟩) := by simp [World.cell?, E]
    have y1 : F.cell? ⟨p, 1, none⟩ = some (.int .i64 0) := by simp [World.cell?, E]
    have y2 : F.cell? ⟨p, 2, none⟩ = some (.int .i64 0) := by simp [World.cell?, E]
    have y3 : F.cell? ⟨p, 3, none⟩ = some (.int .i64 0) := by simp [World.cell?, E]
    have y4 : F.cell? ⟨p, 4, none⟩ = some (.int .i64 0) := by simp [World.cell?, E]
    have y5 : F.cell? ⟨p, 5, none⟩ = some (.int .i64 0) := by simp [World.cell?, E]
    have y6 : F.cell? ⟨p, 6, none⟩ = some (.int .i64 0) := by simp [World.cell?, E]
    have y7 : F.cell? ⟨p, 7, none⟩ = some (.int .i64 0) := by simp [World.cell?, E]
    have y8 : F.cell? ⟨p, 8, none⟩ = some (.int .i64 0) := by simp [World.cell?, E]
    have y9 : F.cell? ⟨p, 9, none⟩ = some (.int .i64 0) := by simp [World.cell?, E]
    have y10 : F.cell? ⟨p, 10, none⟩ = some (.string ⟨#[]⟩) := by simp [World.cell?, E]
    exact bodyPost_ret (v := .tuple #[ruleV ⟨#[]⟩ 0 0 0 0 0 0 0 0 0 ⟨#[]⟩, .int .i64 3]) (by simp [results, Tryz.results11, go_sem, y0, y1, y2, y3, y4, y5, y6, y7, y8, y9, y10]) rfl ⟨rfl, by unfold Gr; rw [hb]; exact G.out⟩
end Go.Proofs.YtkkilmmpmiichaaGreatDoor
namespace Go.Proofs.YtkkilmmpmiichaaGreatDoor
set_option linter.unusedVariables false
set_option linter.unusedSimpArgs false
open Go.RowKit
theorem numA_cases {l : List UInt8} {e : Ending} (h : NumA l e) : ∃ (v : Int) (b : Bool), e = numE v b ∧ (0 ≤ v ∧ v < 1000000000) ∧ ((b = true ∧ IsNum l v) ∨ (b = false ∧ ¬ ∃ n, IsNum l n)) := by
  rcases h with ⟨n, hn, rfl⟩ | ⟨no, x, x1, x2, rfl⟩
  · exact ⟨n, true, rfl, hn.1, Or.inl ⟨rfl, hn⟩⟩
  · exact ⟨x, false, rfl, ⟨x1, x2⟩, Or.inr ⟨rfl, no⟩⟩
theorem dayA_cases {l : List UInt8} {e : Ending} (h : DayReadA l e) : ∃ k d n c : Int, e = dayInt k d n c ∧ ((c = 0 ∧ DayOk k d n ∧ dayL k d n = l) ∨ (c = 3 ∧ ¬ ∃ k d n, DayOk k d n ∧ dayL k d n = l)) := by
  rcases h with ⟨k, d, n, ok, hl, rfl⟩ | ⟨no, rfl⟩
  · exact ⟨k, d, n, 0, rfl, Or.inl ⟨rfl, ok, hl⟩⟩
  · exact ⟨0, 0, 0, 3, rfl, Or.inr ⟨rfl, no⟩⟩
theorem spanA_cases {l : List UInt8} {e : Ending} (h : SpanAns l e) : ∃ v c : Int, e = two v c ∧ (-604800 ≤ v ∧ v ≤ 604800) ∧ ((c = 0 ∧ IsSpan l v) ∨ (c = 3 ∧ ¬ ∃ n, IsSpan l n)) := by
  by_cases x : ∃ n, IsSpan l n
  · obtain ⟨n, hn⟩ := x
    exact ⟨n, 0, h.1 n hn, hn.1, Or.inl ⟨rfl, hn⟩⟩
  · exact ⟨0, 3, h.2 x, ⟨by omega, by omega⟩, Or.inr ⟨rfl, x⟩⟩
/-- there is a rule with this text -/
def Good (l : List UInt8) : Prop := ∃ (nm lt : List UInt8) (fr tt mo k d n at' by' sv : Int), ruleC nm lt fr tt mo k d n at' by' sv = 0 ∧ ruleL nm lt fr tt mo k d n at' by' sv = l
/-- what RuleParse answers -/
def RuleReadA (l : List UInt8) (e : Ending) : Prop :=
  (∃ (nm lt : List UInt8) (fr tt mo k d n at' by' sv : Int), ruleC nm lt fr tt mo k d n at' by' sv = 0 ∧ ruleL nm lt fr tt mo k d n at' by' sv = l ∧ e = ruleInt (S nm) fr tt mo k d n at' by' sv (S lt) 0) ∨ (¬ Good l ∧ e = noRule)
/-- the words of the text are these -/
def Words (s : ByteArray) (nm lt : List UInt8) (fr tt mo k d n at' by' sv : Int) : Prop :=
  (wd s 1).toList = nm ∧ (wd s 2).toList = dz fr ∧ (wd s 3).toList = dz tt ∧ (wd s 4).toList = dz mo ∧ (wd s 5).toList = dayL k d n ∧ (wd s 6).toList = spanL at' ++ suf by' ∧ (wd s 7).toList = spanL sv ∧ (wd s 8).toList = lt
theorem good_words {s : ByteArray} {nm lt : List UInt8} {fr tt mo k d n at' by' sv : Int} (h : ruleC nm lt fr tt mo k d n at' by' sv = 0) (hl : ruleL nm lt fr tt mo k d n at' by' sv = s.toList) :
    (bl s).length = 9 ∧ (wd s 0).toList = [114, 117, 108, 101] ∧ Words s nm lt fr tt mo k d n at' by' sv := by
  obtain ⟨a, b, c, d'⟩ := ruleC_zero.1 h
  have sp := rule_split a b c d'
  rw [hl, ← bl_split] at sp
  have len : (bl s).length = 9 := by have := congrArg List.length sp; simpa [ruleW] using this
  have at_ : ∀ i (hi : i < (bl s).length), (wd s i).toList = (ruleW nm lt fr tt mo k d n at' by' sv).getD i [] := fun i hi => by
    rw [← sp]; unfold wd; simp [List.getD, List.getElem?_eq_getElem hi]
  exact ⟨len, at_ 0 (by omega), at_ 1 (by omega), at_ 2 (by omega), at_ 3 (by omega), at_ 4 (by omega), at_ 5 (by omega), at_ 6 (by omega), at_ 7 (by omega), at_ 8 (by omega)⟩
theorem words_text {s : ByteArray} {nm lt : List UInt8} {fr tt mo k d n at' by' sv : Int} (h9 : (bl s).length = 9) (h0 : (wd s 0).toList = [114, 117, 108, 101]) (hw : Words s nm lt fr tt mo k d n at' by' sv) :
    ruleL nm lt fr tt mo k d n at' by' sv = s.toList := by
  obtain ⟨w1, w2, w3, w4, w5, w6, w7, w8⟩ := hw
  rw [ruleL_jn, ← jn_split 32 _ s.toList (Nat.le_refl _), ← bl_split]
  congr 1
  apply List.ext_getElem?
  intro i
  by_cases hi : i < 9
  · have e : ((bl s).map (·.toList))[i]? = some (wd s i).toList := by
      unfold wd; simp [List.getD, List.getElem?_eq_getElem (show i < (bl s).length by omega)]
    rw [e]
    have x : i = 0 ∨ i = 1 ∨ i = 2 ∨ i = 3 ∨ i = 4 ∨ i = 5 ∨ i = 6 ∨ i = 7 ∨ i = 8 := by omega
    rcases x with rfl | rfl | rfl | rfl | rfl | rfl | rfl | rfl | rfl
    · rw [h0]; rfl
    · rw [w1]; rfl
    · rw [w2]; rfl
    · rw [w3]; rfl
    · rw [w4]; rfl
    · rw [w5]; rfl
    · rw [w6]; rfl
    · rw [w7]; rfl
    · rw [w8]; rfl
  · rw [List.getElem?_eq_none (by simp [ruleW]; omega), List.getElem?_eq_none (by simp; omega)]
/-- the last sign of a text -/
theorem suffix_last {l : List UInt8} (a c : UInt8) : Lib.hasSuffix (l ++ [a]) [c] = (c == a) := by
  unfold Lib.hasSuffix List.isSuffixOf
  simp [List.isPrefixOf]
theorem spanL_last {n : Int} (h1 : -604800 ≤ n) (h2 : n ≤ 604800) : ∃ (l : List UInt8) (c : UInt8), spanL n = l ++ [c] ∧ (c.toNat : Int) ≤ 57 := by
  have d2l : ∀ x : Int, 0 ≤ x → x < 100 → ∃ (l : List UInt8) (c : UInt8), d2 x = l ++ [c] ∧ (c.toNat : Int) ≤ 57 := fun x x1 x2 =>
    ⟨[u (48 + x / 10)], u (48 + x % 10), rfl, by rw [u_toNat (by omega) (by omega)]; omega⟩
  have s0 : ∀ m : Int, 0 ≤ m → m ≤ 604800 → ∃ (l : List UInt8) (c : UInt8), spanL0 m = l ++ [c] ∧ (c.toNat : Int) ≤ 57 := fun m m1 m2 => by
    unfold spanL0
    split
    · obtain ⟨l, c, e, hc⟩ := d2l (m / 60 % 60) (by omega) (by omega)
      exact ⟨dz (m / 3600) ++ 58 :: l, c, by rw [e]; simp, hc⟩
    · obtain ⟨l, c, e, hc⟩ := d2l (m % 60) (by omega) (by omega)
      exact ⟨dz (m / 3600) ++ 58 :: (d2 (m / 60 % 60) ++ 58 :: l), c, by rw [e]; simp, hc⟩
  unfold spanL
  split
  · obtain ⟨l, c, e, hc⟩ := s0 (-n) (by omega) (by omega)
    exact ⟨45 :: l, c, by rw [e]; simp, hc⟩
  · exact s0 n (by omega) h2
/-- which clock the word of the time tells, and what is left of it -/
theorem clock_word {n by' : Int} (h1 : -604800 ≤ n) (h2 : n ≤ 604800) (b1 : 0 ≤ by') (b2 : by' ≤ 2) :
    Lib.hasSuffix (spanL n ++ suf by') [115] = decide (by' = 1) ∧ Lib.hasSuffix (spanL n ++ suf by') [117] = decide (by' = 2) := by
  obtain ⟨l, c, e, hc⟩ := spanL_last h1 h2
  have c115 : (115 == c) = false := by
    have : ¬ (115 : UInt8) = c := fun e => by subst e; revert hc; decide
    simpa using this
  have c117 : (117 == c) = false := by
    have : ¬ (117 : UInt8) = c := fun e => by subst e; revert hc; decide
    simpa using this
  have x : by' = 0 ∨ by' = 1 ∨ by' = 2 := by omega
  rcases x with rfl | rfl | rfl
  · have e0 : suf 0 = [] := rfl
    rw [e0, List.append_nil, e, suffix_last, suffix_last, c115, c117]
    exact ⟨rfl, rfl⟩
  · have e1 : suf 1 = [115] := rfl
    rw [e1, suffix_last, suffix_last]
    exact ⟨rfl, rfl⟩
  · have e2 : suf 2 = [117] := rfl
    rw [e2, suffix_last, suffix_last]
    exact ⟨rfl, rfl⟩
end Go.Proofs.YtkkilmmpmiichaaGreatDoor
