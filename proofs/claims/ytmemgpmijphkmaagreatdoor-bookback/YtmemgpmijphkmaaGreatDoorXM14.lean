/- The project's weekdayOf and number of package day; texts cut at an operator. -/
import Derived.Lib.CutLaws
import Derived.Lib.IndexBytes
import Derived.Test.YtmemgpmijphkmaaGreatDoorXM11
import Derived.Test.YtmemgpmijphkmaaGreatDoorXM13
namespace Go.Proofs.YtmemgpmijphkmaaGreatDoor
set_option linter.unusedVariables false
set_option linter.unusedSimpArgs false
open Go.RowKit
/-- what weekdayOf returns: the weekday of that name, if there is one -/
def WdA (l : List UInt8) (w : World) (e : Ending) (w' : World) : Prop := ∃ d : Int, e = .returned (.int .i64 d) ∧ (∀ d0 : Int, 0 ≤ d0 → d0 ≤ 6 → l = wk d0 → d = d0) ∧ Gr w w'

/-- the cells of the table -/
def WkCells (w : World) : Prop := w.cell? ⟨2, 0, none⟩ = some (.string ⟨#[83, 117, 110]⟩) ∧ w.cell? ⟨2, 1, none⟩ = some (.string ⟨#[77, 111, 110]⟩) ∧ w.cell? ⟨2, 2, none⟩ = some (.string ⟨#[84, 117, 101]⟩) ∧ w.cell? ⟨2, 3, none⟩ = some (.string ⟨#[87, 101, 100]⟩) ∧ w.cell? ⟨2, 4, none⟩ = some (.string ⟨#[84, 104, 117]⟩) ∧ w.cell? ⟨2, 5, none⟩ = some (.string ⟨#[70, 114, 105]⟩) ∧ w.cell? ⟨2, 6, none⟩ = some (.string ⟨#[83, 97, 116]⟩)
theorem HasWk.cells {w : World} (h : HasWk w) : WkCells w :=
  ⟨h.2 0 (by omega), h.2 1 (by omega), h.2 2 (by omega), h.2 3 (by omega), h.2 4 (by omega), h.2 5 (by omega), h.2 6 (by omega)⟩
theorem ne_facts {s : ByteArray} {l : List UInt8} (h : ¬ s.toList = l) : (l == s.toList) = false ∧ ¬ (⟨l.toArray⟩ : ByteArray) = s :=
  ⟨by simp; exact fun e => h e.symm, fun e => h (by rw [← e]; exact S_toList l)⟩

def NoWk (l : List UInt8) (k : Nat) : Prop := ∀ j : Nat, j < k → ∀ d : Int, d = j → ¬ l = wk d
theorem NoWk.start (l : List UInt8) : NoWk l 0 := fun j hj => absurd hj (by omega)
theorem NoWk.step {l : List UInt8} {k : Nat} (h : NoWk l k) (hk : ¬ l = wk (k : Int)) : NoWk l (k + 1) := fun j hj d e => by
  by_cases c : j = k
  · subst c; rw [e]; exact hk
  · exact h j (by omega) d e
theorem wdA_yes {w : World} {l : List UInt8} {d : Int} (h1 : 0 ≤ d) (h2 : d ≤ 6) (h : l = wk d) : WdA l w (.returned (.int .i64 d)) w :=
  ⟨d, rfl, fun d0 a b e => wk_inj h1 h2 a b (h.symm.trans e), Gr.refl _⟩

theorem wk_index0 (wx : World) : (Instr.index 132 (.agg #[.string ⟨#[83, 117, 110]⟩, .string ⟨#[77, 111, 110]⟩, .string ⟨#[84, 117, 101]⟩, .string ⟨#[87, 101, 100]⟩, .string ⟨#[84, 104, 117]⟩, .string ⟨#[70, 114, 105]⟩, .string ⟨#[83, 97, 116]⟩]) (.int .i64 0)).run Tryz.prog wx = .ok (.string ⟨#[83, 117, 110]⟩) wx := by kernel_rfl
theorem wk_index1 (wx : World) : (Instr.index 132 (.agg #[.string ⟨#[83, 117, 110]⟩, .string ⟨#[77, 111, 110]⟩, .string ⟨#[84, 117, 101]⟩, .string ⟨#[87, 101, 100]⟩, .string ⟨#[84, 104, 117]⟩, .string ⟨#[70, 114, 105]⟩, .string ⟨#[83, 97, 116]⟩]) (.int .i64 1)).run Tryz.prog wx = .ok (.string ⟨#[77, 111, 110]⟩) wx := by kernel_rfl
theorem wk_index2 (wx : World) : (Instr.index 132 (.agg #[.string ⟨#[83, 117, 110]⟩, .string ⟨#[77, 111, 110]⟩, .string ⟨#[84, 117, 101]⟩, .string ⟨#[87, 101, 100]⟩, .string ⟨#[84, 104, 117]⟩, .string ⟨#[70, 114, 105]⟩, .string ⟨#[83, 97, 116]⟩]) (.int .i64 2)).run Tryz.prog wx = .ok (.string ⟨#[84, 117, 101]⟩) wx := by kernel_rfl
theorem wk_index3 (wx : World) : (Instr.index 132 (.agg #[.string ⟨#[83, 117, 110]⟩, .string ⟨#[77, 111, 110]⟩, .string ⟨#[84, 117, 101]⟩, .string ⟨#[87, 101, 100]⟩, .string ⟨#[84, 104, 117]⟩, .string ⟨#[70, 114, 105]⟩, .string ⟨#[83, 97, 116]⟩]) (.int .i64 3)).run Tryz.prog wx = .ok (.string ⟨#[87, 101, 100]⟩) wx := by kernel_rfl
theorem wk_index4 (wx : World) : (Instr.index 132 (.agg #[.string ⟨#[83, 117, 110]⟩, .string ⟨#[77, 111, 110]⟩, .string ⟨#[84, 117, 101]⟩, .string ⟨#[87, 101, 100]⟩, .string ⟨#[84, 104, 117]⟩, .string ⟨#[70, 114, 105]⟩, .string ⟨#[83, 97, 116]⟩]) (.int .i64 4)).run Tryz.prog wx = .ok (.string ⟨#[84, 104, 117]⟩) wx := by kernel_rfl
theorem wk_index5 (wx : World) : (Instr.index 132 (.agg #[.string ⟨#[83, 117, 110]⟩, .string ⟨#[77, 111, 110]⟩, .string ⟨#[84, 117, 101]⟩, .string ⟨#[87, 101, 100]⟩, .string ⟨#[84, 104, 117]⟩, .string ⟨#[70, 114, 105]⟩, .string ⟨#[83, 97, 116]⟩]) (.int .i64 5)).run Tryz.prog wx = .ok (.string ⟨#[70, 114, 105]⟩) wx := by kernel_rfl
theorem wk_index6 (wx : World) : (Instr.index 132 (.agg #[.string ⟨#[83, 117, 110]⟩, .string ⟨#[77, 111, 110]⟩, .string ⟨#[84, 117, 101]⟩, .string ⟨#[87, 101, 100]⟩, .string ⟨#[84, 104, 117]⟩, .string ⟨#[70, 114, 105]⟩, .string ⟨#[83, 97, 116]⟩]) (.int .i64 6)).run Tryz.prog wx = .ok (.string ⟨#[83, 97, 116]⟩) wx := by kernel_rfl

set_option maxHeartbeats 1000000 in
set_option maxRecDepth 100000 in
theorem wdOf_any (s : ByteArray) (w : World) (ht : HasWk w) : Calls Tryz.prog 174 #[.string s] w (WdA s.toList w) := by
  obtain ⟨h0, h1, h2, h3, h4, h5, h6⟩ := ht.cells
  clear ht
  go_enter Tryz.func174, Tryz.ntmps174
  go_wp2_with fail
  go_loop [6] (fun i => ∃ k : Nat, k ≤ 7 ∧ i = .int .i64 k ∧ NoWk s.toList k) (fun i => 7 - (intOf i).toNat)
  case atStart => exact ⟨0, by omega, rfl, NoWk.start _⟩
  case round =>
    obtain ⟨k, hk, rfl, hn⟩ := hrel
    have HN := Lib.hid hn
    clear hn
    by_cases hlt : k < 7
    · by_cases he : s.toList = wk k
      · have E := S_of s
        rw [he] at E
        clear he
        have : k = 0 ∨ k = 1 ∨ k = 2 ∨ k = 3 ∨ k = 4 ∨ k = 5 ∨ k = 6 := by omega
        rcases this with rfl | rfl | rfl | rfl | rfl | rfl | rfl
        · obtain rfl : s = ⟨#[83, 117, 110]⟩ := E
          have X := wk_index0
          go_wp2
          go_ret
          exact wdA_yes (d := 0) (by decide) (by decide) (by decide)
        · obtain rfl : s = ⟨#[77, 111, 110]⟩ := E
          have X := wk_index1
          go_wp2
          go_ret
          exact wdA_yes (d := 1) (by decide) (by decide) (by decide)
        · obtain rfl : s = ⟨#[84, 117, 101]⟩ := E
          have X := wk_index2
          go_wp2
          go_ret
          exact wdA_yes (d := 2) (by decide) (by decide) (by decide)
        · obtain rfl : s = ⟨#[87, 101, 100]⟩ := E
          have X := wk_index3
          go_wp2
          go_ret
          exact wdA_yes (d := 3) (by decide) (by decide) (by decide)
        · obtain rfl : s = ⟨#[84, 104, 117]⟩ := E
          have X := wk_index4
          go_wp2
          go_ret
          exact wdA_yes (d := 4) (by decide) (by decide) (by decide)
        · obtain rfl : s = ⟨#[70, 114, 105]⟩ := E
          have X := wk_index5
          go_wp2
          go_ret
          exact wdA_yes (d := 5) (by decide) (by decide) (by decide)
        · obtain rfl : s = ⟨#[83, 97, 116]⟩ := E
          have X := wk_index6
          go_wp2
          go_ret
          exact wdA_yes (d := 6) (by decide) (by decide) (by decide)
      · have HE := Lib.hid he
        clear he
        have : k = 0 ∨ k = 1 ∨ k = 2 ∨ k = 3 ∨ k = 4 ∨ k = 5 ∨ k = 6 := by omega
        rcases this with rfl | rfl | rfl | rfl | rfl | rfl | rfl
        · obtain ⟨e1, e3⟩ := ne_facts (l := [83, 117, 110]) HE.out
          have X := wk_index0
          go_wp2
          go_round
          case rel => exact ⟨1, by omega, by go_num, HN.out.step HE.out⟩
          case measure => simp [intOf]
        · obtain ⟨e1, e3⟩ := ne_facts (l := [77, 111, 110]) HE.out
          have X := wk_index1
          go_wp2
          go_round
          case rel => exact ⟨2, by omega, by go_num, HN.out.step HE.out⟩
          case measure => simp [intOf]
        · obtain ⟨e1, e3⟩ := ne_facts (l := [84, 117, 101]) HE.out
          have X := wk_index2
          go_wp2
          go_round
          case rel => exact ⟨3, by omega, by go_num, HN.out.step HE.out⟩
          case measure => simp [intOf]
        · obtain ⟨e1, e3⟩ := ne_facts (l := [87, 101, 100]) HE.out
          have X := wk_index3
          go_wp2
          go_round
          case rel => exact ⟨4, by omega, by go_num, HN.out.step HE.out⟩
          case measure => simp [intOf]
        · obtain ⟨e1, e3⟩ := ne_facts (l := [84, 104, 117]) HE.out
          have X := wk_index4
          go_wp2
          go_round
          case rel => exact ⟨5, by omega, by go_num, HN.out.step HE.out⟩
          case measure => simp [intOf]
        · obtain ⟨e1, e3⟩ := ne_facts (l := [70, 114, 105]) HE.out
          have X := wk_index5
          go_wp2
          go_round
          case rel => exact ⟨6, by omega, by go_num, HN.out.step HE.out⟩
          case measure => simp [intOf]
        · obtain ⟨e1, e3⟩ := ne_facts (l := [83, 97, 116]) HE.out
          have X := wk_index6
          go_wp2
          go_round
          case rel => exact ⟨7, by omega, by go_num, HN.out.step HE.out⟩
          case measure => simp [intOf]
    · obtain rfl : k = 7 := by omega
      go_wp2
      go_ret
      exact ⟨-1, rfl, fun d0 a b e => absurd e (HN.out d0.toNat (by omega) d0 (by omega)), Gr.refl _⟩
/-- what Atoi needs of the two errors, and Cut of the longest needle -/
def ErrTab (w : World) : Prop := (∃ t p, w.cell? ⟨9, 0, none⟩ = some (.iface t p)) ∧ (∃ t p, w.cell? ⟨10, 0, none⟩ = some (.iface t p)) ∧ ∃ m, w.cell? ⟨1, 0, none⟩ = some (.int .i64 m)
theorem Gr.errT {w w' : World} (h : Gr w w') (k : ErrTab w) : ErrTab w' := by
  obtain ⟨⟨a, b, h1⟩, ⟨c, d, h2⟩, m, h3⟩ := k
  exact ⟨⟨a, b, h.holds h1⟩, ⟨c, d, h.holds h2⟩, m, h.holds h3⟩
/-- what number returns: the number that is told, if it is one of a day -/
def NbA (l : List UInt8) (w : World) (e : Ending) (w' : World) : Prop := ∃ n : Int, e = .returned (.int .i64 n) ∧ (∀ v : Int, 1 ≤ v → v ≤ 31 → l = dz v → n = v) ∧ Gr w w'
theorem atoi_dz {v : Int} (h1 : 1 ≤ v) (h2 : v ≤ 31) : Lib.atoiAll (dz v) = .ok v := by
  have : v = 1 ∨ v = 2 ∨ v = 3 ∨ v = 4 ∨ v = 5 ∨ v = 6 ∨ v = 7 ∨ v = 8 ∨ v = 9 ∨ v = 10 ∨ v = 11 ∨ v = 12 ∨ v = 13 ∨ v = 14 ∨ v = 15 ∨ v = 16 ∨ v = 17 ∨ v = 18 ∨ v = 19 ∨ v = 20 ∨ v = 21 ∨ v = 22 ∨ v = 23 ∨ v = 24 ∨ v = 25 ∨ v = 26 ∨ v = 27 ∨ v = 28 ∨ v = 29 ∨ v = 30 ∨ v = 31 := by omega
  by_cases c : v < 10
  · rw [dz_small (by omega) c]
    rcases this with e | e | e | e | e | e | e | e | e | e | e | e | e | e | e | e | e | e | e | e | e | e | e | e | e | e | e | e | e | e | e <;> first | (exfalso; omega) | (subst e; decide)
  · rw [dz_d2 (by omega) (by omega)]
    rcases this with e | e | e | e | e | e | e | e | e | e | e | e | e | e | e | e | e | e | e | e | e | e | e | e | e | e | e | e | e | e | e <;> first | (exfalso; omega) | (subst e; decide)
theorem gr_bytes {w : World} {t : ByteArray} {T : TypeId} : Gr w (Lib.bytesWorld w T t) := Lib.bytesWorld_below _ _ _
theorem nbA_ok {s : ByteArray} {w : World} {v : Int} (hc : Lib.atoiAll s.data.toList = .ok v) (w' : World) (g : Gr w w') : NbA s.toList w (.returned (.int .i64 v)) w' :=
  ⟨v, rfl, fun v0 a b e => by rw [ByteArray.toList_eq] at e; rw [e, atoi_dz a b] at hc; injection hc with x; exact x.symm, g⟩
theorem nbA_no {s : ByteArray} {w : World} (hc : ∀ v, ¬ Lib.atoiAll s.data.toList = .ok v) (w' : World) (g : Gr w w') : NbA s.toList w (.returned (.int .i64 0)) w' :=
  ⟨0, rfl, fun v0 a b e => by rw [ByteArray.toList_eq] at e; rw [e] at hc; exact absurd (atoi_dz a b) (hc v0), g⟩

set_option maxHeartbeats 1000000 in
theorem dnum_any (s : ByteArray) (w : World) (hm : s.size ≤ 1048576) (ht : ErrTab w) : Calls Tryz.prog 175 #[.string s] w (NbA s.toList w) := by
  cases hc : Lib.atoiAll s.data.toList with
  | ok v =>
    have K := Tryz.strconv_Atoi_ok s (by omega) v hc w
    have A := Lib.hid (nbA_ok (w := w) hc)
    clear hc
    go_enter Tryz.func175, Tryz.ntmps175
    go_wp2_with fail
    refine K.mono ?_
    rintro e w1 ⟨rfl, hw⟩
    have hg : Gr w w1 := by
      rcases hw with rfl | ⟨t, rfl⟩
      · exact Gr.refl _
      · exact gr_bytes
    clear K hw
    go_wp2_with fail
    go_ret
    exact A.out _ hg
  | «syntax» =>
    obtain ⟨⟨tp, p, hv⟩, _⟩ := ht
    have K := Tryz.strconv_Atoi_syntax s (by omega) hc _ w hv (Or.inr ⟨_, _, rfl⟩)
    have A := Lib.hid (nbA_no (s := s) (w := w) (fun v e => by rw [hc] at e; cases e))
    clear hc hv
    go_enter Tryz.func175, Tryz.ntmps175
    go_wp2_with fail
    refine K.mono ?_
    rintro e w1 ⟨N, rfl, _, _, hg⟩
    clear K
    go_wp2_with fail
    go_ret
    exact A.out _ hg
  | range =>
    obtain ⟨_, ⟨tp, p, hv⟩, _⟩ := ht
    have K := Tryz.strconv_Atoi_range s (by omega) hc _ w hv (Or.inr ⟨_, _, rfl⟩)
    have A := Lib.hid (nbA_no (s := s) (w := w) (fun v e => by rw [hc] at e; cases e))
    clear hc hv
    generalize Lib.atoiSat s.data.toList = z at K
    go_enter Tryz.func175, Tryz.ntmps175
    go_wp2_with fail
    refine K.mono ?_
    rintro e w1 ⟨N, rfl, _, _, hg⟩
    clear K
    go_wp2_with fail
    go_ret
    exact A.out _ hg
end Go.Proofs.YtmemgpmijphkmaaGreatDoor
