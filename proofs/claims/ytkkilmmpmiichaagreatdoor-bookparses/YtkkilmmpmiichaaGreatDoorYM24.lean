/- What the project's guess of package day returns. What the project's Read of package day returns, for every text of a length up tto 1048576. strings.Cut at a colon, for texts of every length; the width of a number. -/
import Derived.Test.YtkkilmmpmiichaaGreatDoorYM23
import Derived.Lib.CutLaws
import Derived.Lib.IndexBytes
import Derived.Test.YtkkilmmpmiichaaGreatDoorYM11
import Derived.Test.YtkkilmmpmiichaaGreatDoorYM16
namespace Go.Proofs.YtkkilmmpmiichaaGreatDoor
set_option linter.unusedVariables false
set_option linter.unusedSimpArgs false
open Go.RowKit
theorem pre_yes (s : ByteArray) (h : Lib.hasPrefix s.toList last4 = true) (w : World) :
    Calls Tryz.prog 92 #[.string s, .string ⟨#[108, 97, 115, 116]⟩] w fun e w' => e = .returned (.tuple #[.string (S (s.toList.drop 4)), .bool true]) ∧ w = w' := by
  refine (Tryz.strings_CutPrefix s ⟨#[108, 97, 115, 116]⟩ w).mono ?_
  rintro e w1 ⟨rfl, rfl⟩
  rw [ByteArray.toList_eq] at h ⊢
  have h' : Lib.hasPrefix s.data.toList (⟨#[108, 97, 115, 116]⟩ : ByteArray).data.toList = true := h
  refine ⟨?_, rfl⟩
  rw [h']
  unfold Lib.trimPrefix
  rw [if_pos h']
  rfl
theorem pre_no (s : ByteArray) (h : Lib.hasPrefix s.toList last4 = false) (w : World) :
    Calls Tryz.prog 92 #[.string s, .string ⟨#[108, 97, 115, 116]⟩] w fun e w' => e = .returned (.tuple #[.string s, .bool false]) ∧ w = w' := by
  refine (Tryz.strings_CutPrefix s ⟨#[108, 97, 115, 116]⟩ w).mono ?_
  rintro e w1 ⟨rfl, rfl⟩
  rw [ByteArray.toList_eq] at h
  have h' : Lib.hasPrefix s.data.toList (⟨#[108, 97, 115, 116]⟩ : ByteArray).data.toList = false := h
  refine ⟨?_, rfl⟩
  rw [h']
  unfold Lib.trimPrefix
  rw [if_neg (by rw [h']; decide)]

theorem cut_at (c : UInt8) (s : ByteArray) (w : World) (hs : s.size ≤ 1048576) (ht : ErrTab w) :
    Calls Tryz.prog 47 #[.string s, .string ⟨#[c, 61]⟩] w fun e w' => e = .returned (.tuple #[.string (S (Lib.cut s.toList [c, 61]).1), .string (S (Lib.cut s.toList [c, 61]).2.1), .bool (Lib.cut s.toList [c, 61]).2.2]) ∧ Gr w w' := by
  obtain ⟨_, _, m, hm⟩ := ht
  refine (Tryz.strings_Cut s ⟨#[c, 61]⟩ m w (by omega) hm).mono ?_
  rintro e w1 ⟨rfl, n, rfl⟩
  rw [ByteArray.toList_eq]
  exact ⟨rfl, (Gr.refl _).drewN _⟩

theorem res_new (w : World) : ResAt w (w.alloc (.cells #[.int .i64 0, .int .i64 0, .int .i64 0] 40)) w.heap.size := by
  refine ⟨Gr.alloc _ _, Nat.le_refl _, by simp, fun i hi => ?_, fun i hi => ?_⟩
  · rw [World.cell?_alloc_new]
    have : i = 0 ∨ i = 1 ∨ i = 2 := by omega
    rcases this with e | e | e <;> subst e <;> rfl
  · go_simp

set_option maxHeartbeats 1000000 in
theorem guess_last (s : ByteArray) (w : World) (ht : RdTab w) (h : Lib.hasPrefix s.toList last4 = true) :
    Calls Tryz.prog 135 #[.string s] w (GuessA s.toList w) := by
  have hres := res_new w
  have KP := Lib.hid (pre_yes s h)
  have A := Lib.hid (fun d => g_last (d := d) h)
  have HT := Lib.hid ht
  clear h ht
  have KW := Lib.hid (fun w h => wdOf_any (S (s.toList.drop 4)) w h)
  go_enter Tryz.func135, Tryz.ntmps135
  go_wp2_with fail
  generalize w.alloc (.cells #[.int .i64 0, .int .i64 0, .int .i64 0] 40) = w1 at hres ⊢
  generalize w.heap.size = b at hres ⊢
  have HR := Lib.hid hres
  clear hres
  refine (KP.out _).mono ?_
  rintro e w2 ⟨rfl, rfl⟩
  go_wp2_with fail
  refine (KW.out _ (HR.out.1.wkT HT.out.1.2)).mono ?_
  rintro e w3 ⟨d, rfl, hd, hg⟩
  have HD := Lib.hid hd
  have R4 := HR.out.grow hg
  have HR4 := Lib.hid R4
  have c0 := R4.2.2.2.1 0 (by omega)
  have c1 := R4.2.2.2.1 1 (by omega)
  have c2 := R4.2.2.2.1 2 (by omega)
  have f0 := R4.2.2.2.2 0 (by omega)
  have f1 := R4.2.2.2.2 1 (by omega)
  have f2 := R4.2.2.2.2 2 (by omega)
  clear R4 hd hg
  go_wp2_with fail
  exact bodyPost_ret (v := dayV 2 d 0) (by simp [results, Tryz.results135, go_sem, set_at0 c0, set_at1 c1, set_at2 c2]) rfl ⟨2, d, 0, rfl, A.out d (by have := HD.out; rwa [S_toList] at this), HR4.out.set _ _ _⟩

/-- the two kinds lie in their slice -/
def TwoAt (w : World) (b : Nat) : Prop := b < w.heap.size ∧ w.cell? ⟨b, 0, none⟩ = some (.int .i64 3) ∧ w.cell? ⟨b, 1, none⟩ = some (.int .i64 4)
theorem TwoAt.gr {w w' : World} {b : Nat} (h : TwoAt w b) (g : Gr w w') : TwoAt w' b := ⟨Nat.lt_of_lt_of_le h.1 g.size, g.holds h.2.1, g.holds h.2.2⟩
/-- no cut before round k -/
def NoCut (l : List UInt8) (k : Nat) : Prop := (1 ≤ k → (Lib.cut l [62, 61]).2.2 = false) ∧ (2 ≤ k → (Lib.cut l [60, 61]).2.2 = false)
theorem cut_split {l sep : List UInt8} (h : (Lib.cut l sep).2.2 = true) : Lib.cut l sep = ((Lib.cut l sep).1, (Lib.cut l sep).2.1, true) := by rw [← h]

set_option maxHeartbeats 2000000 in
theorem guess_rest (s : ByteArray) (w : World) (hm : s.size ≤ 1048576) (ht : RdTab w) (h : Lib.hasPrefix s.toList last4 = false) :
    Calls Tryz.prog 135 #[.string s] w (GuessA s.toList w) := by
  have hres := res_new w
  have KP := Lib.hid (pre_no s h)
  have HP := Lib.hid h
  have HT := Lib.hid ht
  have HM := Lib.hid hm
  clear h ht hm
  go_enter Tryz.func135, Tryz.ntmps135
  go_wp2_with fail
  generalize w.alloc (.cells #[.int .i64 0, .int .i64 0, .int .i64 0] 40) = w1 at hres ⊢
  generalize w.heap.size = b at hres ⊢
  have HR := Lib.hid hres
  clear hres
  refine (KP.out _).mono ?_
  rintro e w2 ⟨rfl, rfl⟩
  go_wp2_with fail
  refine (operators_any _).mono ?_
  rintro e w3 ⟨mb, rfl, hops, hg⟩
  have R3 := Lib.hid (HR.out.grow hg)
  have HO := Lib.hid hops
  clear hops hg
  go_wp2_with fail
  have hT : TwoAt (w3.alloc (.cells #[.int .i64 3, .int .i64 4] 3)) w3.heap.size := ⟨by simp, by rw [World.cell?_alloc_new]; rfl, by rw [World.cell?_alloc_new]; rfl⟩
  have hR := R3.out.grow (Gr.alloc w3 (.cells #[.int .i64 3, .int .i64 4] 3))
  have hO := HO.out.gr (Gr.alloc w3 (.cells #[.int .i64 3, .int .i64 4] 3))
  clear R3 HO HR
  generalize w3.alloc (.cells #[.int .i64 3, .int .i64 4] 3) = w4 at hT hR hO ⊢
  generalize w3.heap.size = sb at hT ⊢
  have HT0 := Lib.hid hT
  have HR0 := Lib.hid hR
  have HO0 := Lib.hid hO
  clear hT hR hO
  go_loopw [23] (fun i wr => ∃ k : Nat, k ≤ 2 ∧ i = .int .i64 k ∧ NoCut s.toList k ∧ ResAt w wr b ∧ OpsAt wr mb ∧ TwoAt wr sb) (fun i _ => 2 - (intOf i).toNat)
  case atStart => exact ⟨0, by omega, rfl, ⟨fun x => absurd x (by omega), fun x => absurd x (by omega)⟩, HR0.out, HO0.out, HT0.out⟩
  case round =>
    obtain ⟨k, hk, rfl, hnc, hrr, hoo, htt⟩ := hrel
    have HNC := Lib.hid hnc
    have HRR := Lib.hid hrr
    have HOO := Lib.hid hoo
    have HTT := Lib.hid htt
    clear hnc hrr hoo htt HT0 HR0 HO0
    have : k = 0 ∨ k = 1 ∨ k = 2 := by omega
    rcases this with rfl | rfl | rfl
    · have ho := HOO.out.ask3
      have ht0 := HTT.out.2.1
      by_cases hf : (Lib.cut s.toList [62, 61]).2.2 = true
      · have CC := Lib.hid (cut_split hf)
        have KC0 := fun w h => cut_at 62 s w HM.out h
        rw [hf] at KC0
        have LN := cut_len2 s.toList [62, 61]
        rw [toList_len] at LN
        have LB : (Lib.cut s.toList [62, 61]).2.1.length ≤ 1048576 := by have := HM.out; omega
        have GP := Lib.hid (fun d n hc => g_from (a := (Lib.cut s.toList [62, 61]).1) (b := (Lib.cut s.toList [62, 61]).2.1) (d := d) (n := n) HP.out hc)
        generalize (Lib.cut s.toList [62, 61]).1 = ta at KC0 CC GP
        generalize (Lib.cut s.toList [62, 61]).2.1 = tb at KC0 CC GP LB
        have KC := Lib.hid KC0
        have LBH := Lib.hid LB
        clear KC0 hf LN LB
        go_wp2_with fail
        refine (KC.out _ (HRR.out.1.errT HT.out.2)).mono ?_
        rintro e w5 ⟨rfl, hg5⟩
        have R5 := Lib.hid (HRR.out.grow hg5)
        clear ho ht0 hg5
        go_wp2_with fail
        refine (wdOf_any (S ta) _ (R5.out.1.wkT HT.out.1.2)).mono ?_
        rintro e w6 ⟨d, rfl, hd, hg6⟩
        have HD := Lib.hid hd
        have R6 := Lib.hid (R5.out.grow hg6)
        clear hd hg6
        go_wp2_with fail
        refine (dnum_any (S tb) _ (by rw [S_size]; exact LBH.out) (R6.out.1.errT HT.out.2)).mono ?_
        rintro e w7 ⟨n, rfl, hn, hg7⟩
        have HN := Lib.hid hn
        have R4 := R6.out.grow hg7
        have HR4 := Lib.hid R4
        have c0 := R4.2.2.2.1 0 (by omega)
        have c1 := R4.2.2.2.1 1 (by omega)
        have c2 := R4.2.2.2.1 2 (by omega)
        have f0 := R4.2.2.2.2 0 (by omega)
        have f1 := R4.2.2.2.2 1 (by omega)
        have f2 := R4.2.2.2.2 2 (by omega)
        clear R4 hn hg7
        go_wp2_with fail
        exact bodyPost_ret (v := dayV 3 d n) (by simp [results, Tryz.results135, go_sem, set_at0 c0, set_at1 c1, set_at2 c2]) rfl ⟨3, d, n, rfl, GP.out d n CC.out (by have := HD.out; rwa [S_toList] at this) (by have := HN.out; rwa [S_toList] at this), HR4.out.set _ _ _⟩
      · have hf' : (Lib.cut s.toList [62, 61]).2.2 = false := by simpa using hf
        have HF := Lib.hid hf'
        have KC0 := fun w h => cut_at 62 s w HM.out h
        rw [hf'] at KC0
        generalize (Lib.cut s.toList [62, 61]).1 = ta at KC0
        generalize (Lib.cut s.toList [62, 61]).2.1 = tb at KC0
        have KC := Lib.hid KC0
        clear KC0 hf hf'
        go_wp2_with fail
        refine (KC.out _ (HRR.out.1.errT HT.out.2)).mono ?_
        rintro e w5 ⟨rfl, hg5⟩
        have R5 := Lib.hid (HRR.out.grow hg5)
        have O5 := Lib.hid (HOO.out.gr hg5)
        have T5 := Lib.hid (HTT.out.gr hg5)
        clear ho ht0 hg5
        go_wp2_with fail
        go_roundw
        case rel => exact ⟨1, by omega, by go_num, ⟨fun _ => HF.out, fun x => absurd x (by omega)⟩, R5.out, O5.out, T5.out⟩
        case measure => simp [intOf]
    · have ho := HOO.out.ask4
      have ht0 := HTT.out.2.2
      by_cases hf : (Lib.cut s.toList [60, 61]).2.2 = true
      · have CC := Lib.hid (cut_split hf)
        have KC0 := fun w h => cut_at 60 s w HM.out h
        rw [hf] at KC0
        have LN := cut_len2 s.toList [60, 61]
        rw [toList_len] at LN
        have LB : (Lib.cut s.toList [60, 61]).2.1.length ≤ 1048576 := by have := HM.out; omega
        have GP := Lib.hid (fun d n hc => g_till (a := (Lib.cut s.toList [60, 61]).1) (b := (Lib.cut s.toList [60, 61]).2.1) (d := d) (n := n) HP.out (HNC.out.1 (by omega)) hc)
        generalize (Lib.cut s.toList [60, 61]).1 = ta at KC0 CC GP
        generalize (Lib.cut s.toList [60, 61]).2.1 = tb at KC0 CC GP LB
        have KC := Lib.hid KC0
        have LBH := Lib.hid LB
        clear KC0 hf LN LB
        go_wp2_with fail
        refine (KC.out _ (HRR.out.1.errT HT.out.2)).mono ?_
        rintro e w5 ⟨rfl, hg5⟩
        have R5 := Lib.hid (HRR.out.grow hg5)
        clear ho ht0 hg5
        go_wp2_with fail
        refine (wdOf_any (S ta) _ (R5.out.1.wkT HT.out.1.2)).mono ?_
        rintro e w6 ⟨d, rfl, hd, hg6⟩
        have HD := Lib.hid hd
        have R6 := Lib.hid (R5.out.grow hg6)
        clear hd hg6
        go_wp2_with fail
        refine (dnum_any (S tb) _ (by rw [S_size]; exact LBH.out) (R6.out.1.errT HT.out.2)).mono ?_
        rintro e w7 ⟨n, rfl, hn, hg7⟩
        have HN := Lib.hid hn
        have R4 := R6.out.grow hg7
        have HR4 := Lib.hid R4
        have c0 := R4.2.2.2.1 0 (by omega)
        have c1 := R4.2.2.2.1 1 (by omega)
        have c2 := R4.2.2.2.1 2 (by omega)
        have f0 := R4.2.2.2.2 0 (by omega)
        have f1 := R4.2.2.2.2 1 (by omega)
        have f2 := R4.2.2.2.2 2 (by omega)
        clear R4 hn hg7
        go_wp2_with fail
        exact bodyPost_ret (v := dayV 4 d n) (by simp [results, Tryz.results135, go_sem, set_at0 c0, set_at1 c1, set_at2 c2]) rfl ⟨4, d, n, rfl, GP.out d n CC.out (by have := HD.out; rwa [S_toList] at this) (by have := HN.out; rwa [S_toList] at this), HR4.out.set _ _ _⟩
      · have hf' : (Lib.cut s.toList [60, 61]).2.2 = false := by simpa using hf
        have HF := Lib.hid hf'
        have KC0 := fun w h => cut_at 60 s w HM.out h
        rw [hf'] at KC0
        generalize (Lib.cut s.toList [60, 61]).1 = ta at KC0
        generalize (Lib.cut s.toList [60, 61]).2.1 = tb at KC0
        have KC := Lib.hid KC0
        clear KC0 hf hf'
        go_wp2_with fail
        refine (KC.out _ (HRR.out.1.errT HT.out.2)).mono ?_
        rintro e w5 ⟨rfl, hg5⟩
        have R5 := Lib.hid (HRR.out.grow hg5)
        have O5 := Lib.hid (HOO.out.gr hg5)
        have T5 := Lib.hid (HTT.out.gr hg5)
        clear ho ht0 hg5
        go_wp2_with fail
        go_roundw
        case rel => exact ⟨2, by omega, by go_num, ⟨fun _ => HNC.out.1 (by omega), fun _ => HF.out⟩, R5.out, O5.out, T5.out⟩
        case measure => simp [intOf]
    · go_wp2_with fail
      refine (dnum_any s _ HM.out (HRR.out.1.errT HT.out.2)).mono ?_
      rintro e w7 ⟨n, rfl, hn, hg7⟩
      have HN := Lib.hid hn
      have R4 := HRR.out.grow hg7
      have HR4 := Lib.hid R4
      have c0 := R4.2.2.2.1 0 (by omega)
      have c1 := R4.2.2.2.1 1 (by omega)
      have c2 := R4.2.2.2.1 2 (by omega)
      have f0 := R4.2.2.2.2 0 (by omega)
      have f1 := R4.2.2.2.2 1 (by omega)
      have f2 := R4.2.2.2.2 2 (by omega)
      clear R4 hn hg7
      go_wp2_with fail
      exact bodyPost_ret (v := dayV 1 0 n) (by simp [results, Tryz.results135, go_sem, set_at0 c0, set_at1 c1, set_at2 c2]) rfl ⟨1, 0, n, rfl, g_num HP.out (HNC.out.1 (by omega)) (HNC.out.2 (by omega)) HN.out, HR4.out.set _ _ _⟩
end Go.Proofs.YtkkilmmpmiichaaGreatDoor
namespace Go.Proofs.YtkkilmmpmiichaaGreatDoor
set_option linter.unusedVariables false
set_option linter.unusedSimpArgs false
open Go.RowKit
theorem guess_any (s : ByteArray) (w : World) (hm : s.size ≤ 1048576) (ht : RdTab w) :
    Calls Tryz.prog 135 #[.string s] w (GuessA s.toList w) := by
  cases h : Lib.hasPrefix s.toList last4 with
  | true => exact guess_last s w ht h
  | false => exact guess_rest s w hm ht h
theorem read_no {l : List UInt8} {k d n : Int} (hp : GuessP l k d n) (h : ¬ (DayOk k d n ∧ dayL k d n = l)) : DayReadA l (dayInt 0 0 0 3) :=
  Or.inr ⟨fun ⟨k0, d0, n0, ok, e⟩ => by
    obtain ⟨rfl, rfl, rfl⟩ := hp k0 d0 n0 ok e
    exact h ⟨ok, e⟩, rfl⟩

set_option maxHeartbeats 2000000 in
theorem dayRead (s : ByteArray) (w : World) (ht : RdTab w) (hm : s.size ≤ 1048576) :
    Calls Tryz.prog 111 #[.string s] w fun e w' => DayReadA s.toList e ∧ Gr w w' := by
  have hres := res_new w
  have KG := Lib.hid (fun w h => guess_any s w hm h)
  have HT := Lib.hid ht
  clear ht hm
  go_enter Tryz.func111, Tryz.ntmps111
  go_wp2_with fail
  generalize w.alloc (.cells #[.int .i64 0, .int .i64 0, .int .i64 0] 40) = w1 at hres ⊢
  generalize w.heap.size = b at hres ⊢
  have HR := Lib.hid hres
  clear hres
  refine (KG.out _ (HR.out.1.rdT HT.out)).mono ?_
  rintro e w2 ⟨k, d, n, rfl, hp, hg⟩
  have HP := Lib.hid hp
  have R2 := Lib.hid (HR.out.grow hg)
  clear hp hg HR
  go_wp2_with fail
  have c := dayText k d n (w2.alloc (.cells #[.int .i64 k, .int .i64 d, .int .i64 n] 40)) (((R2.out.grow (Gr.alloc w2 _)).1.rdT HT.out).1)
  have q0 : (w2.alloc (.cells #[.int .i64 k, .int .i64 d, .int .i64 n] 40)).cell? ⟨w2.heap.size, 0, none⟩ = some (.int .i64 k) := by rw [World.cell?_alloc_new]; rfl
  have q1 : (w2.alloc (.cells #[.int .i64 k, .int .i64 d, .int .i64 n] 40)).cell? ⟨w2.heap.size, 1, none⟩ = some (.int .i64 d) := by rw [World.cell?_alloc_new]; rfl
  have q2 : (w2.alloc (.cells #[.int .i64 k, .int .i64 d, .int .i64 n] 40)).cell? ⟨w2.heap.size, 2, none⟩ = some (.int .i64 n) := by rw [World.cell?_alloc_new]; rfl
  have ne : ¬ w2.heap.size = b := by have := R2.out.2.2.1; omega
  by_cases ok : DayOk k d n
  · unfold dayTextA at c
    rw [if_pos ok] at c
    by_cases eq : dayL k d n = s.toList
    · have eq' : (dayL k d n == s.toList) = true := by simpa using eq
      have eq2 : (dayL k d n != s.toList) = false := by simp [eq]
      have A := Lib.hid (show DayReadA s.toList (dayInt k d n 0) from Or.inl ⟨k, d, n, ok, eq, rfl⟩)
      clear ok eq
      generalize dayL k d n = l at c eq' eq2
      refine c.mono ?_
      rintro e w4 ⟨rfl, hg4⟩
      have R4 := (R2.out.grow (Gr.alloc w2 (.cells #[.int .i64 k, .int .i64 d, .int .i64 n] 40))).grow hg4
      have HR4 := Lib.hid R4
      have r0 := hg4.holds q0
      have r1 := hg4.holds q1
      have r2 := hg4.holds q2
      have c0 := R4.2.2.2.1 0 (by omega)
      have c1 := R4.2.2.2.1 1 (by omega)
      have c2 := R4.2.2.2.1 2 (by omega)
      have f0 := R4.2.2.2.2 0 (by omega)
      have f1 := R4.2.2.2.2 1 (by omega)
      have f2 := R4.2.2.2.2 2 (by omega)
      clear R4 c hg4 q0 q1 q2
      generalize w2.heap.size = g at r0 r1 r2 ne ⊢
      go_wp2_with fail
      exact bodyPost_ret (v := .tuple #[dayV k d n, .int .i64 0]) (by simp [results, Tryz.results111, go_sem, set_at0 c0, set_at1 c1, set_at2 c2]) rfl ⟨A.out, HR4.out.set _ _ _⟩
    · have eq' : (dayL k d n == s.toList) = false := by simpa using eq
      have eq2 : (dayL k d n != s.toList) = true := by simp [eq]
      have A := Lib.hid (read_no HP.out (fun x => eq x.2))
      clear ok eq
      generalize dayL k d n = l at c eq' eq2
      refine c.mono ?_
      rintro e w4 ⟨rfl, hg4⟩
      have R4 := (R2.out.grow (Gr.alloc w2 (.cells #[.int .i64 k, .int .i64 d, .int .i64 n] 40))).grow hg4
      have HR4 := Lib.hid R4
      have r0 := hg4.holds q0
      have r1 := hg4.holds q1
      have r2 := hg4.holds q2
      have c0 := R4.2.2.2.1 0 (by omega)
      have c1 := R4.2.2.2.1 1 (by omega)
      have c2 := R4.2.2.2.1 2 (by omega)
      have f0 := R4.2.2.2.2 0 (by omega)
      have f1 := R4.2.2.2.2 1 (by omega)
      have f2 := R4.2.2.2.2 2 (by omega)
      clear R4 c hg4 q0 q1 q2
      generalize w2.heap.size = g at r0 r1 r2 ne ⊢
      go_wp2_with fail
      exact bodyPost_ret (v := .tuple #[dayV 0 0 0, .int .i64 3]) (by simp [results, Tryz.results111, go_sem, set_at0 c0, set_at1 c1, set_at2 c2]) rfl ⟨A.out, HR4.out.set _ _ _⟩
  · unfold dayTextA at c
    rw [if_neg ok] at c
    have A := Lib.hid (read_no HP.out (fun x => ok x.1))
    clear ok
    refine c.mono ?_
    rintro e w4 ⟨rfl, hg4⟩
    have R4 := (R2.out.grow (Gr.alloc w2 (.cells #[.int .i64 k, .int .i64 d, .int .i64 n] 40))).grow hg4
    have HR4 := Lib.hid R4
    have r0 := hg4.holds q0
    have r1 := hg4.holds q1
    have r2 := hg4.holds q2
    have c0 := R4.2.2.2.1 0 (by omega)
    have c1 := R4.2.2.2.1 1 (by omega)
    have c2 := R4.2.2.2.1 2 (by omega)
    have f0 := R4.2.2.2.2 0 (by omega)
    have f1 := R4.2.2.2.2 1 (by omega)
    have f2 := R4.2.2.2.2 2 (by omega)
    clear R4 c hg4 q0 q1 q2
    generalize w2.heap.size = g at r0 r1 r2 ne ⊢
    go_wp2_with fail
    exact bodyPost_ret (v := .tuple #[dayV 0 0 0, .int .i64 3]) (by simp [results, Tryz.results111, go_sem, set_at0 c0, set_at1 c1, set_at2 c2]) rfl ⟨A.out, HR4.out.set _ _ _⟩
end Go.Proofs.YtkkilmmpmiichaaGreatDoor
namespace Go.Proofs.YtkkilmmpmiichaaGreatDoor
set_option linter.unusedVariables false
set_option linter.unusedSimpArgs false
open Go.RowKit
set_option maxHeartbeats 1000000 in
set_option maxRecDepth 100000 in
theorem colon_index (s : ByteArray) (w : World) :
    Calls Tryz.prog 87 #[.string s, .string ⟨#[58]⟩] w fun e w' => e = .returned (.int .i64 (Lib.index s.data.toList [58])) ∧ w = w' := by
  by_cases h : s = ⟨#[58]⟩
  · subst h
    have E : Hid (Lib.index (⟨#[58]⟩ : ByteArray).data.toList [58] = 0) := by unfold Hid; decide
    generalize Lib.index (⟨#[58]⟩ : ByteArray).data.toList [58] = q at E ⊢
    go_enter Tryz.func87, Tryz.ntmps87
    go_wp2_with fail
    go_ret
    exact ⟨ret_int E.out.symm, rfl⟩
  · have e1 : (([58] : List UInt8) == s.toList) = false := by
      cases hq : ([58] : List UInt8) == s.toList with
      | false => rfl
      | true =>
        have := eq_of_beq hq
        exact absurd (by rw [S_of s, ← this]; rfl) h
    have e3 : ¬ (⟨#[58]⟩ : ByteArray) = s := fun x => h x.symm
    have E := Lib.hid (Lib.index_one s.data.toList 58)
    clear h
    go_enter Tryz.func87, Tryz.ntmps87
    go_wp2_with fail
    refine (Tryz.stringslite_IndexByte s 58 w).mono ?_
    rintro e w1 ⟨rfl, rfl⟩
    go_wp2_with fail
    go_ret
    exact ⟨by rw [E.out]; rfl, rfl⟩

/-- what Cut returns -/
abbrev cut3 (a b : List UInt8) (f : Bool) : Ending := .returned (.tuple #[.string (S a), .string (S b), .bool f])
def cutL (l : List UInt8) : List UInt8 × List UInt8 × Bool := Lib.cut l [58]
theorem tup3 {a a' b b' : ByteArray} {c c' : Bool} (h1 : a' = a) (h2 : b' = b) (h3 : c' = c) : Ending.returned (.tuple #[.string a, .string b, .bool c]) = .returned (.tuple #[.string a', .string b', .bool c']) := by rw [h1, h2, h3]

set_option maxHeartbeats 1000000 in
theorem cut_lite (s : ByteArray) (w : World) (hm : s.size ≤ maxLen) :
    Calls Tryz.prog 80 #[.string s, .string ⟨#[58]⟩] w fun e w' => e = cut3 (cutL s.toList).1 (cutL s.toList).2.1 (cutL s.toList).2.2 ∧ Gr w w' := by
  unfold maxLen at hm
  have K := Lib.hid (colon_index s w)
  rcases Lib.indexB_cases s ⟨#[58]⟩ with hix | ⟨i, hix, hroom⟩
  · obtain ⟨e1, e2, e3⟩ := Lib.cutB_miss s ⟨#[58]⟩ hix
    have hix' : Lib.index s.data.toList [58] = -1 := hix
    rw [hix'] at K
    have E1 : Hid (S (cutL s.toList).1 = s) := by unfold Hid cutL; rw [ByteArray.toList_eq]; exact e1
    have E2 : Hid (S (cutL s.toList).2.1 = ⟨#[]⟩) := by unfold Hid cutL; rw [ByteArray.toList_eq]; exact e2
    have E3 : Hid ((cutL s.toList).2.2 = false) := by unfold Hid cutL; rw [ByteArray.toList_eq]; exact e3
    clear e1 e2 e3 hix hix'
    go_enter Tryz.func80, Tryz.ntmps80
    go_wp2_with fail
    refine K.out.mono ?_
    rintro e w1 ⟨rfl, rfl⟩
    go_wp2_with fail
    go_ret3
    exact ⟨tup3 E1.out E2.out E3.out, Gr.refl _⟩
  · obtain ⟨e1, e2, e3⟩ := Lib.cutB_hit s ⟨#[58]⟩ i hix
    have hix' : Lib.index s.data.toList [58] = i := hix
    rw [hix'] at K
    have E1 : Hid (S (cutL s.toList).1 = s.extract 0 i) := by unfold Hid cutL; rw [ByteArray.toList_eq]; exact e1
    have E2 : Hid (S (cutL s.toList).2.1 = s.extract (i + 1) s.size) := by unfold Hid cutL; rw [ByteArray.toList_eq]; exact e2
    have E3 : Hid ((cutL s.toList).2.2 = true) := by unfold Hid cutL; rw [ByteArray.toList_eq]; exact e3
    have hr : i + 1 ≤ s.size := hroom
    clear e1 e2 e3 hix hix' hroom
    have c1 : (0 : Int) ≤ ↑i := by omega
    have c2 : (↑i : Int) ≤ ↑s.size := by omega
    have c3 : (0 : Int) ≤ ↑i + 1 := by omega
    have c4 : (↑i + 1 : Int) ≤ ↑s.size := by omega
    go_enter Tryz.func80, Tryz.ntmps80
    go_wp2_with fail
    refine K.out.mono ?_
    rintro e w1 ⟨rfl, rfl⟩
    go_wp2_with fail
    go_quiet (fail)
    go_wp2
    go_ret3
    exact ⟨tup3 E1.out E2.out E3.out, (Gr.refl _).drewN _⟩

set_option maxHeartbeats 400000 in
theorem cut_any (s : ByteArray) (w : World) (hm : s.size ≤ maxLen) :
    Calls Tryz.prog 47 #[.string s, .string ⟨#[58]⟩] w fun e w' => e = cut3 (cutL s.toList).1 (cutL s.toList).2.1 (cutL s.toList).2.2 ∧ Gr w w' := by
  have K := Lib.hid (cut_lite s w hm)
  generalize (cutL s.toList).2.2 = c at K ⊢
  generalize (cutL s.toList).2.1 = b at K ⊢
  generalize (cutL s.toList).1 = a at K ⊢
  go_enter Tryz.func47, Tryz.ntmps47
  go_wp2_with fail
  refine K.out.mono ?_
  rintro e w1 ⟨rfl, hg⟩
  go_wp2_with fail
  go_ret3
  exact ⟨rfl, hg⟩

/-- how many digits are left when the leading zeros are dropped, at least one -/
def wid (l : List UInt8) : Int := max 1 ((l.dropWhile (· == 48)).length : Int)

set_option maxHeartbeats 400000 in
theorem width_any (s : ByteArray) (w : World) (hm : s.size ≤ maxLen) :
    Calls Tryz.prog 120 #[.string s] w fun e w' => e = .returned (.int .i64 (wid s.toList)) ∧ Gr w w' := by
  unfold maxLen at hm
  have K := Tryz.strings_TrimLeft_one s 48 (by decide) w
  have e0 : (⟨(Lib.trimLeftB s.data.toList 48).toArray⟩ : ByteArray) = S (s.toList.dropWhile (· == 48)) := by rw [ByteArray.toList_eq]; rfl
  rw [e0] at K
  have hle : (s.toList.dropWhile (· == 48)).length ≤ s.size := by rw [← toList_len s]; exact (List.dropWhile_suffix _).length_le
  have K' := Lib.hid K
  clear K e0
  unfold wid
  generalize s.toList.dropWhile (· == 48) = l at K' hle ⊢
  go_enter Tryz.func120, Tryz.ntmps120
  go_wp2_with fail
  refine K'.out.mono ?_
  rintro e w1 ⟨rfl, rfl⟩
  go_wp2_with fail
  go_ret
  exact ⟨rfl, Gr.refl _⟩
end Go.Proofs.YtkkilmmpmiichaaGreatDoor
