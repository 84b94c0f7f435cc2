/- What the reference's DayRead returns, for every text. -/
import Derived.Test.YtkkilmmpmiichaaGreatDoorYM06
namespace Go.Proofs.YtkkilmmpmiichaaGreatDoor
set_option linter.unusedVariables false
set_option linter.unusedSimpArgs false
open Go.RowKit
theorem Gr.frozen {w w' : World} (h : Gr w w') {b o : Nat} (hb : b < w.heap.size) : w'.frozen? ⟨b, o, none⟩ = w.frozen? ⟨b, o, none⟩ := Below.frozen (p := ⟨b, o, none⟩) h hb
/-- no day that stands before this one in the order of the search has this text -/
def NM (l : List UInt8) (k d n : Int) : Prop := ∀ k' d' n', DayOk k' d' n' → dayL k' d' n' = l → ¬ (k' < k ∨ k' = k ∧ (d' < d ∨ d' = d ∧ n' < n))
theorem NM.start (l : List UInt8) : NM l 1 0 0 := fun k' d' n' h _ hh => by unfold DayOk at h; omega
theorem NM.step {l : List UInt8} {k d n : Int} (h : NM l k d n) (hn : ¬ (DayOk k d n ∧ dayL k d n = l)) : NM l k d (n + 1) := fun k' d' n' ho hl hh => by
  by_cases e : k' = k ∧ d' = d ∧ n' = n
  · obtain ⟨rfl, rfl, rfl⟩ := e
    exact hn ⟨ho, hl⟩
  · exact h k' d' n' ho hl (by omega)
theorem NM.next {l : List UInt8} {k d : Int} (h : NM l k d 32) : NM l k (d + 1) 0 := fun k' d' n' ho hl hh => h k' d' n' ho hl (by
  have := dayOk_bd ho
  omega)
theorem NM.kind {l : List UInt8} {k : Int} (h : NM l k 7 0) : NM l (k + 1) 0 0 := fun k' d' n' ho hl hh => h k' d' n' ho hl (by
  have := dayOk_bd ho
  omega)
theorem NM.none {l : List UInt8} (h : NM l 5 0 0) : ¬ ∃ k d n, DayOk k d n ∧ dayL k d n = l := fun ⟨k, d, n, ho, hl⟩ => h k d n ho hl (by have := ho.1; omega)

/-- a day and an error -/
abbrev dayInt (k d n e : Int) : Ending := .returned (.tuple #[dayV k d n, .int .i64 e])
/-- what DayRead answers: the first day of the search that has this text -/
def DayReadA (l : List UInt8) (e : Ending) : Prop := (∃ k d n, DayOk k d n ∧ dayL k d n = l ∧ e = dayInt k d n 0) ∨ ((¬ ∃ k d n, DayOk k d n ∧ dayL k d n = l) ∧ e = dayInt 0 0 0 3)
/-- the result's own block -/
def ResAt (w wr : World) (b : Nat) : Prop := Gr w wr ∧ w.heap.size ≤ b ∧ b < wr.heap.size ∧ (∀ i, i < 3 → wr.cell? ⟨b, i, none⟩ = some (.int .i64 0)) ∧ ∀ i, i < 3 → wr.frozen? ⟨b, i, none⟩ = false
theorem ResAt.grow {w wr w' : World} {b : Nat} (h : ResAt w wr b) (hg : Gr wr w') : ResAt w w' b :=
  ⟨h.1.trans hg, h.2.1, Nat.lt_of_lt_of_le h.2.2.1 hg.size, fun i hi => (hg.cell h.2.2.1).trans (h.2.2.2.1 i hi), fun i hi => (hg.frozen h.2.2.1).trans (h.2.2.2.2 i hi)⟩

theorem set_at0 {W : World} {b : Nat} {u x : Value} (h : W.cell? ⟨b, 0, none⟩ = some u) : (W.setCell ⟨b, 0, none⟩ x).cell? ⟨b, 0, none⟩ = some x := World.cell?_setCell_same W _ _ h
theorem set_at1 {W : World} {b : Nat} {u x y : Value} (h : W.cell? ⟨b, 1, none⟩ = some u) : ((W.setCell ⟨b, 0, none⟩ x).setCell ⟨b, 1, none⟩ y).cell? ⟨b, 1, none⟩ = some y :=
  World.cell?_setCell_same _ _ _ ((World.cell?_setCell_other W _ _ _ (by simp)).trans h)
theorem set_at2 {W : World} {b : Nat} {u x y z : Value} (h : W.cell? ⟨b, 2, none⟩ = some u) : (((W.setCell ⟨b, 0, none⟩ x).setCell ⟨b, 1, none⟩ y).setCell ⟨b, 2, none⟩ z).cell? ⟨b, 2, none⟩ = some z :=
  World.cell?_setCell_same _ _ _ ((World.cell?_setCell_other _ _ _ _ (by simp)).trans ((World.cell?_setCell_other W _ _ _ (by simp)).trans h))
theorem ResAt.set {w wr : World} {b : Nat} (h : ResAt w wr b) (x y z : Value) : Gr w (((wr.setCell ⟨b, 0, none⟩ x).setCell ⟨b, 1, none⟩ y).setCell ⟨b, 2, none⟩ z) :=
  Below.setCell (Below.setCell (Below.setCell h.1 h.2.1 _) h.2.1 _) h.2.1 _

set_option maxHeartbeats 4000000 in
theorem rdayRead (s : ByteArray) (w : World) :
    Calls Tryz.prog 36 #[.string s] w fun e w' => DayReadA s.toList e ∧ Gr w w' := by
  have hres : ResAt w (w.alloc (.cells #[.int .i64 0, .int .i64 0, .int .i64 0] 40)) w.heap.size := by
    refine ⟨Gr.alloc _ _, Nat.le_refl _, by simp, fun i hi => ?_, fun i hi => ?_⟩
    · rw [World.cell?_alloc_new]
      have : i = 0 ∨ i = 1 ∨ i = 2 := by omega
      rcases this with e | e | e <;> subst e <;> rfl
    · go_simp
  go_enter Tryz.func36, Tryz.ntmps36
  go_wp2_with fail
  generalize w.alloc (.cells #[.int .i64 0, .int .i64 0, .int .i64 0] 40) = w1 at hres ⊢
  generalize w.heap.size = b at hres ⊢
  have HR := Lib.hid hres
  clear hres
  go_loopw [4] (fun i wr => ∃ k : Int, 1 ≤ k ∧ k ≤ 5 ∧ i = .int .i64 k ∧ NM s.toList k 0 0 ∧ ResAt w wr b) (fun i _ => (5 - intOf i).toNat)
  case atStart => exact ⟨1, by omega, by omega, rfl, NM.start _, HR.out⟩
  case round =>
    obtain ⟨k, k1, k5, rfl, hnm, hra⟩ := hrel
    obtain ⟨wo, rfl⟩ : ∃ wo : World, wo = wr := ⟨_, rfl⟩
    have HN := Lib.hid hnm
    have HO := Lib.hid hra
    clear hnm hra HR
    by_cases hk : k ≤ 4
    · go_wp2_with fail
      go_loopw [14] (fun i wr => ∃ d : Int, 0 ≤ d ∧ d ≤ 7 ∧ i = .int .i64 d ∧ NM s.toList k d 0 ∧ ResAt w wr b) (fun i _ => (7 - intOf i).toNat)
      case atStart => exact ⟨0, by omega, by omega, rfl, HN.out, HO.out⟩
      case round =>
        obtain ⟨d, d0, d7, rfl, hnm, hra⟩ := hrel
        obtain ⟨wm, rfl⟩ : ∃ wm : World, wm = wr := ⟨_, rfl⟩
        have HN2 := Lib.hid hnm
        have HM := Lib.hid hra
        clear hnm hra HN HO
        by_cases hd : d < 7
        · go_wp2_with fail
          go_loopw [17] (fun i wr => ∃ n : Int, 0 ≤ n ∧ n ≤ 32 ∧ i = .int .i64 n ∧ NM s.toList k d n ∧ ResAt w wr b) (fun i _ => (32 - intOf i).toNat)
          case atStart => exact ⟨0, by omega, by omega, rfl, HN2.out, HM.out⟩
          case round =>
            obtain ⟨n, n0, n32, rfl, hnm, hra⟩ := hrel
            have HN3 := Lib.hid hnm
            have HI := Lib.hid hra
            clear hnm hra HN2 HM
            by_cases hn : n < 32
            · go_wp2_with fail
              have c := rdayText k d n (wr.alloc (.cells #[.int .i64 k, .int .i64 d, .int .i64 n] 40))
              have q0 : (wr.alloc (.cells #[.int .i64 k, .int .i64 d, .int .i64 n] 40)).cell? ⟨wr.heap.size, 0, none⟩ = some (.int .i64 k) := by rw [World.cell?_alloc_new]; rfl
              have q1 : (wr.alloc (.cells #[.int .i64 k, .int .i64 d, .int .i64 n] 40)).cell? ⟨wr.heap.size, 1, none⟩ = some (.int .i64 d) := by rw [World.cell?_alloc_new]; rfl
              have q2 : (wr.alloc (.cells #[.int .i64 k, .int .i64 d, .int .i64 n] 40)).cell? ⟨wr.heap.size, 2, none⟩ = some (.int .i64 n) := by rw [World.cell?_alloc_new]; rfl
              have ne : ¬ wr.heap.size = b := by have := HI.out.2.2.1; omega
              by_cases ok : DayOk k d n
              · unfold dayTextA at c
                rw [if_pos ok] at c
                by_cases eq : dayL k d n = s.toList
                · have eq' : (dayL k d n == s.toList) = true := by simpa using eq
                  have A := Lib.hid (show DayReadA s.toList (dayInt k d n 0) from Or.inl ⟨k, d, n, ok, eq, rfl⟩)
                  clear ok eq
                  generalize dayL k d n = l at c eq'
                  refine c.mono ?_
                  rintro e w4 ⟨rfl, hg4⟩
                  have r0 := hg4.holds q0
                  have r1 := hg4.holds q1
                  have r2 := hg4.holds q2
                  have R4 := (HI.out.grow (Gr.alloc wr _)).grow hg4
                  have HR4 := Lib.hid R4
                  have c0 := R4.2.2.2.1 0 (by omega)
                  have c1 := R4.2.2.2.1 1 (by omega)
                  have c2 := R4.2.2.2.1 2 (by omega)
                  have f0 := R4.2.2.2.2 0 (by omega)
                  have f1 := R4.2.2.2.2 1 (by omega)
                  have f2 := R4.2.2.2.2 2 (by omega)
                  clear q0 q1 q2 R4 c hg4
                  generalize wr.heap.size = g at r0 r1 r2 ne ⊢
                  go_wp2_with fail
                  exact bodyPost_ret (v := .tuple #[dayV k d n, .int .i64 0]) (by simp [results, Tryz.results36, go_sem, set_at0 c0, set_at1 c1, set_at2 c2]) rfl ⟨A.out, HR4.out.set _ _ _⟩
                · have eq' : (dayL k d n == s.toList) = false := by simpa using eq
                  have NX := Lib.hid (NM.step HN3.out (fun hh => eq hh.2))
                  clear ok eq
                  generalize dayL k d n = l at c eq'
                  refine c.mono ?_
                  rintro e w4 ⟨rfl, hg4⟩
                  have HR4 := Lib.hid ((HI.out.grow (Gr.alloc wr _)).grow hg4)
                  clear q0 q1 q2 c hg4
                  generalize wr.heap.size = g at ne ⊢
                  go_wp2_with fail
                  go_roundw
                  case rel => exact ⟨n + 1, by omega, by omega, by go_num, NX.out, HR4.out⟩
                  case measure => simp [intOf]; omega
              · unfold dayTextA at c
                rw [if_neg ok] at c
                have NX := Lib.hid (NM.step HN3.out (fun hh => ok hh.1))
                clear ok
                refine c.mono ?_
                rintro e w4 ⟨rfl, hg4⟩
                have HR4 := Lib.hid ((HI.out.grow (Gr.alloc wr _)).grow hg4)
                clear q0 q1 q2 c hg4
                generalize wr.heap.size = g at ne ⊢
                go_wp2_with fail
                go_roundw
                case rel => exact ⟨n + 1, by omega, by omega, by go_num, NX.out, HR4.out⟩
                case measure => simp [intOf]; omega
            · obtain rfl : n = 32 := by omega
              go_wp2_with fail
              go_roundw
              case rel => exact ⟨d + 1, by omega, by omega, by go_num, NM.next HN3.out, HI.out⟩
              case measure => simp [intOf]; omega
        · obtain rfl : d = 7 := by omega
          go_wp2_with fail
          go_roundw
          case rel => exact ⟨k + 1, by omega, by omega, by go_num, NM.kind HN2.out, HM.out⟩
          case measure => simp [intOf]; omega
    · obtain rfl : k = 5 := by omega
      have A := Lib.hid (show DayReadA s.toList (dayInt 0 0 0 3) from Or.inr ⟨NM.none HN.out, rfl⟩)
      have R4 := HO.out
      have c0 := R4.2.2.2.1 0 (by omega)
      have c1 := R4.2.2.2.1 1 (by omega)
      have c2 := R4.2.2.2.1 2 (by omega)
      have f0 := R4.2.2.2.2 0 (by omega)
      have f1 := R4.2.2.2.2 1 (by omega)
      have f2 := R4.2.2.2.2 2 (by omega)
      clear R4
      go_wp2_with fail
      exact bodyPost_ret (v := .tuple #[dayV 0 0 0, .int .i64 3]) (by simp [results, Tryz.results36, go_sem, set_at0 c0, set_at1 c1, set_at2 c2]) rfl ⟨A.out, HO.out.set _ _ _⟩
end Go.Proofs.YtkkilmmpmiichaaGreatDoor
