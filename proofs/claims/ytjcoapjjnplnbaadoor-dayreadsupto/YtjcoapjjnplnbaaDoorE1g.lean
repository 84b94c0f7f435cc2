/- What the project's Read of package day returns, for every text of a length up to 1048576. -/
import Derived.Test.YtjcoapjjnplnbaaDoorE1f
namespace Go.Proofs.YtjcoapjjnplnbaaDoor
set_option linter.unusedVariables false
set_option linter.unusedSimpArgs false
open Go.RowKit

theorem guess_any (s : ByteArray) (w : World) (hm : s.size ≤ 1048576) (ht : RdTab w) :
    Calls Tryd.prog 36 #[.string s] w (GuessA s.toList w) := by
  cases h : Lib.hasPrefix s.toList last4 with
  | true => exact guess_last s w ht h
  | false => exact guess_rest s w hm ht h
theorem read_no {l : List UInt8} {k d n : Int} (hp : GuessP l k d n) (h : ¬ (DayOk k d n ∧ dayL k d n = l)) : DayReadA l (dayInt 0 0 0 3) :=
  Or.inr ⟨fun ⟨k0, d0, n0, ok, e⟩ => by
    obtain ⟨rfl, rfl, rfl⟩ := hp k0 d0 n0 ok e
    exact h ⟨ok, e⟩, rfl⟩

set_option maxHeartbeats 2000000 in
theorem dayRead (s : ByteArray) (w : World) (ht : RdTab w) (hm : s.size ≤ 1048576) :
    Calls Tryd.prog 18 #[.string s] w fun e w' => DayReadA s.toList e ∧ Gr w w' := by
  have hres := res_new w
  have KG := Lib.hid (fun w h => guess_any s w hm h)
  have HT := Lib.hid ht
  clear ht hm
  go_enter Tryd.func18, Tryd.ntmps18
  go_wp2_with fail
  generalize w.alloc (.cells #[.int .i64 0, .int .i64 0, .int .i64 0] 23) = w1 at hres ⊢
  generalize w.heap.size = b at hres ⊢
  have HR := Lib.hid hres
  clear hres
  refine (KG.out _ (HR.out.1.rdT HT.out)).mono ?_
  rintro e w2 ⟨k, d, n, rfl, hp, hg⟩
  have HP := Lib.hid hp
  have R2 := Lib.hid (HR.out.grow hg)
  clear hp hg HR
  go_wp2_with fail
  have c := dayText k d n (w2.alloc (.cells #[.int .i64 k, .int .i64 d, .int .i64 n] 23)) (((R2.out.grow (Gr.alloc w2 _)).1.rdT HT.out).1)
  have q0 : (w2.alloc (.cells #[.int .i64 k, .int .i64 d, .int .i64 n] 23)).cell? ⟨w2.heap.size, 0, none⟩ = some (.int .i64 k) := by rw [World.cell?_alloc_new]; rfl
  have q1 : (w2.alloc (.cells #[.int .i64 k, .int .i64 d, .int .i64 n] 23)).cell? ⟨w2.heap.size, 1, none⟩ = some (.int .i64 d) := by rw [World.cell?_alloc_new]; rfl
  have q2 : (w2.alloc (.cells #[.int .i64 k, .int .i64 d, .int .i64 n] 23)).cell? ⟨w2.heap.size, 2, none⟩ = some (.int .i64 n) := by rw [World.cell?_alloc_new]; rfl
  have ne : ¬ w2.heap.size = b := by have := R2.out.2.2.1; omega
  by_cases ok : DayOk k d n
  · unfold dayTextA at c
    rw [if_pos ok] at c
    by_cases eq : dayL k d n = s.toList
    · have eq' : (dayL k d n == s.toList) = true := by simpa using eq
      have eq2 : (dayL k d n != s.toList) = false := by simp [eq]
      have A := Lib.hid (show DayReadA s.toList (dayInt k d n 0) from Or.inl ⟨k, d, n, ok, eq, rfl⟩)
      clear ok eq
      generalize dayL k d n = l at c eq' eq2
      refine c.mono ?_
      rintro e w4 ⟨rfl, hg4⟩
      have R4 := (R2.out.grow (Gr.alloc w2 (.cells #[.int .i64 k, .int .i64 d, .int .i64 n] 23))).grow hg4
      have HR4 := Lib.hid R4
      have r0 := hg4.holds q0
      have r1 := hg4.holds q1
      have r2 := hg4.holds q2
      have c0 := R4.2.2.2.1 0 (by omega)
      have c1 := R4.2.2.2.1 1 (by omega)
      have c2 := R4.2.2.2.1 2 (by omega)
      have f0 := R4.2.2.2.2 0 (by omega)
      have f1 := R4.2.2.2.2 1 (by omega)
      have f2 := R4.2.2.2.2 2 (by omega)
      clear R4 c hg4 q0 q1 q2
      generalize w2.heap.size = g at r0 r1 r2 ne ⊢
      go_wp2_with fail
      exact bodyPost_ret (v := .tuple #[dayV k d n, .int .i64 0]) (by simp [results, Tryd.results18, go_sem, set_at0 c0, set_at1 c1, set_at2 c2]) rfl ⟨A.out, HR4.out.set _ _ _⟩
    · have eq' : (dayL k d n == s.toList) = false := by simpa using eq
      have eq2 : (dayL k d n != s.toList) = true := by simp [eq]
      have A := Lib.hid (read_no HP.out (fun x => eq x.2))
      clear ok eq
      generalize dayL k d n = l at c eq' eq2
      refine c.mono ?_
      rintro e w4 ⟨rfl, hg4⟩
      have R4 := (R2.out.grow (Gr.alloc w2 (.cells #[.int .i64 k, .int .i64 d, .int .i64 n] 23))).grow hg4
      have HR4 := Lib.hid R4
      have r0 := hg4.holds q0
      have r1 := hg4.holds q1
      have r2 := hg4.holds q2
      have c0 := R4.2.2.2.1 0 (by omega)
      have c1 := R4.2.2.2.1 1 (by omega)
      have c2 := R4.2.2.2.1 2 (by omega)
      have f0 := R4.2.2.2.2 0 (by omega)
      have f1 := R4.2.2.2.2 1 (by omega)
      have f2 := R4.2.2.2.2 2 (by omega)
      clear R4 c hg4 q0 q1 q2
      generalize w2.heap.size = g at r0 r1 r2 ne ⊢
      go_wp2_with fail
      exact bodyPost_ret (v := .tuple #[dayV 0 0 0, .int .i64 3]) (by simp [results, Tryd.results18, go_sem, set_at0 c0, set_at1 c1, set_at2 c2]) rfl ⟨A.out, HR4.out.set _ _ _⟩
  · unfold dayTextA at c
    rw [if_neg ok] at c
    have A := Lib.hid (read_no HP.out (fun x => ok x.1))
    clear ok
    refine c.mono ?_
    rintro e w4 ⟨rfl, hg4⟩
    have R4 := (R2.out.grow (Gr.alloc w2 (.cells #[.int .i64 k, .int .i64 d, .int .i64 n] 23))).grow hg4
    have HR4 := Lib.hid R4
    have r0 := hg4.holds q0
    have r1 := hg4.holds q1
    have r2 := hg4.holds q2
    have c0 := R4.2.2.2.1 0 (by omega)
    have c1 := R4.2.2.2.1 1 (by omega)
    have c2 := R4.2.2.2.1 2 (by omega)
    have f0 := R4.2.2.2.2 0 (by omega)
    have f1 := R4.2.2.2.2 1 (by omega)
    have f2 := R4.2.2.2.2 2 (by omega)
    clear R4 c hg4 q0 q1 q2
    generalize w2.heap.size = g at r0 r1 r2 ne ⊢
    go_wp2_with fail
    exact bodyPost_ret (v := .tuple #[dayV 0 0 0, .int .i64 3]) (by simp [results, Tryd.results18, go_sem, set_at0 c0, set_at1 c1, set_at2 c2]) rfl ⟨A.out, HR4.out.set _ _ _⟩
end Go.Proofs.YtjcoapjjnplnbaaDoor
