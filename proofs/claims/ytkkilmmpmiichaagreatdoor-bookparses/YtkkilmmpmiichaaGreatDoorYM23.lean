/- The project's weekdayOf and number of package day; texts cut at an operator. What the project's guess and Read of package day return, for every text of a length up tto 1048576. -/
import Derived.Lib.CutLaws
import Derived.Lib.IndexBytes
import Derived.Test.YtkkilmmpmiichaaGreatDoorYM21
import Derived.Test.YtkkilmmpmiichaaGreatDoorYM10
namespace Go.Proofs.YtkkilmmpmiichaaGreatDoor
set_option linter.unusedVariables false
set_option linter.unusedSimpArgs false
open Go.RowKit
/-- what weekdayOf returns: the weekday of that name, if there is one -/
def WdA (l : List UInt8) (w : World) (e : Ending) (w' : World) : Prop := ∃ d : Int, e = .returned (.int .i64 d) ∧ (∀ d0 : Int, 0 ≤ d0 → d0 ≤ 6 → l = wk d0 → d = d0) ∧ Gr w w'

/-- the cells of the table -/
def WkCells (w : World) : Prop := w.cell? ⟨5, 0, none⟩ = some (.string ⟨#[83, 117, 110]⟩) ∧ w.cell? ⟨5, 1, none⟩ = some (.string ⟨#[77, 111, 110]⟩) ∧ w.cell? ⟨5, 2, none⟩ = some (.string ⟨#[84, 117, 101]⟩) ∧ w.cell? ⟨5, 3, none⟩ = some (.string ⟨#[87, 101, 100]⟩) ∧ w.cell? ⟨5, 4, none⟩ = some (.string ⟨#[84, 104, 117]⟩) ∧ w.cell? ⟨5, 5, none⟩ = some (.string ⟨#[70, 114, 105]⟩) ∧ w.cell? ⟨5, 6, none⟩ = some (.string ⟨#[83, 97, 116]⟩)
theorem HasWk.cells {w : World} (h : HasWk w) : WkCells w :=
  ⟨h.2 0 (by omega), h.2 1 (by omega), h.2 2 (by omega), h.2 3 (by omega), h.2 4 (by omega), h.2 5 (by omega), h.2 6 (by omega)⟩
theorem ne_facts {s : ByteArray} {l : List UInt8} (h : ¬ s.toList = l) : (l == s.toList) = false ∧ ¬ (⟨l.toArray⟩ : ByteArray) = s :=
  ⟨by simp; exact fun e => h e.symm, fun e => h (by rw [← e]; exact S_toList l)⟩

def NoWk (l : List UInt8) (k : Nat) : Prop := ∀ j : Nat, j < k → ∀ d : Int, d = j → ¬ l = wk d
theorem NoWk.start (l : List UInt8) : NoWk l 0 := fun j hj => absurd hj (by omega)
theorem NoWk.step {l : List UInt8} {k : Nat} (h : NoWk l k) (hk : ¬ l = wk (k : Int)) : NoWk l (k + 1) := fun j hj d e => by
  by_cases c : j = k
  · subst c; rw [e]; exact hk
  · exact h j (by omega) d e
theorem wdA_yes {w : World} {l : List UInt8} {d : Int} (h1 : 0 ≤ d) (h2 : d ≤ 6) (h : l = wk d) : WdA l w (.returned (.int .i64 d)) w :=
  ⟨d, rfl, fun d0 a b e => wk_inj h1 h2 a b (h.symm.trans e), Gr.refl _⟩

theorem wk_index0 (wx : World) : (Instr.index 153 (.agg #[.string ⟨#[83, 117, 110]⟩, .string ⟨#[77, 111, 110]⟩, .string ⟨#[84, 117, 101]⟩, .string ⟨#[87, 101, 100]⟩, .string ⟨#[84, 104, 117]⟩, .string ⟨#[70, 114, 105]⟩, .string ⟨#[83, 97, 116]⟩]) (.int .i64 0)).run Tryz.prog wx = .ok (.string ⟨#[83, 117, 110]⟩) wx := by kernel_rfl
theorem wk_index1 (wx : World) : (Instr.index 153 (.agg #[.string ⟨#[83, 117, 110]⟩, .string ⟨#[77, 111, 110]⟩, .string ⟨#[84, 117, 101]⟩, .string ⟨#[87, 101, 100]⟩, .string ⟨#[84, 104, 117]⟩, .string ⟨#[70, 114, 105]⟩, .string ⟨#[83, 97, 116]⟩]) (.int .i64 1)).run Tryz.prog wx = .ok (.string ⟨#[77, 111, 110]⟩) wx := by kernel_rfl
theorem wk_index2 (wx : World) : (Instr.index 153 (.agg #[.string ⟨#[83, 117, 110]⟩, .string ⟨#[77, 111, 110]⟩, .string ⟨#[84, 117, 101]⟩, .string ⟨#[87, 101, 100]⟩, .string ⟨#[84, 104, 117]⟩, .string ⟨#[70, 114, 105]⟩, .string ⟨#[83, 97, 116]⟩]) (.int .i64 2)).run Tryz.prog wx = .ok (.string ⟨#[84, 117, 101]⟩) wx := by kernel_rfl
theorem wk_index3 (wx : World) : (Instr.index 153 (.agg #[.string ⟨#[83, 117, 110]⟩, .string ⟨#[77, 111, 110]⟩, .string ⟨#[84, 117, 101]⟩, .string ⟨#[87, 101, 100]⟩, .string ⟨#[84, 104, 117]⟩, .string ⟨#[70, 114, 105]⟩, .string ⟨#[83, 97, 116]⟩]) (.int .i64 3)).run Tryz.prog wx = .ok (.string ⟨#[87, 101, 100]⟩) wx := by kernel_rfl
theorem wk_index4 (wx : World) : (Instr.index 153 (.agg #[.string ⟨#[83, 117, 110]⟩, .string ⟨#[77, 111, 110]⟩, .string ⟨#[84, 117, 101]⟩, .string ⟨#[87, 101, 100]⟩, .string ⟨#[84, 104, 117]⟩, .string ⟨#[70, 114, 105]⟩, .string ⟨#[83, 97, 116]⟩]) (.int .i64 4)).run Tryz.prog wx = .ok (.string ⟨#[84, 104, 117]⟩) wx := by kernel_rfl
theorem wk_index5 (wx : World) : (Instr.index 153 (.agg #[.string ⟨#[83, 117, 110]⟩, .string ⟨#[77, 111, 110]⟩, .string ⟨#[84, 117, 101]⟩, .string ⟨#[87, 101, 100]⟩, .string ⟨#[84, 104, 117]⟩, .string ⟨#[70, 114, 105]⟩, .string ⟨#[83, 97, 116]⟩]) (.int .i64 5)).run Tryz.prog wx = .ok (.string ⟨#[70, 114, 105]⟩) wx := by kernel_rfl
theorem wk_index6 (wx : World) : (Instr.index 153 (.agg #[.string ⟨#[83, 117, 110]⟩, .string ⟨#[77, 111, 110]⟩, .string ⟨#[84, 117, 101]⟩, .string ⟨#[87, 101, 100]⟩, .string ⟨#[84, 104, 117]⟩, .string ⟨#[70, 114, 105]⟩, .string ⟨#[83, 97, 116]⟩]) (.int .i64 6)).run Tryz.prog wx = .ok (.string ⟨#[83, 97, 116]⟩) wx := by kernel_rfl

set_option maxHeartbeats 1000000 in
set_option maxRecDepth 100000 in
theorem wdOf_any (s : ByteArray) (w : World) (ht : HasWk w) : Calls Tryz.prog 146 #[.string s] w (WdA s.toList w) := by
  obtain ⟨h0, h1, h2, h3, h4, h5, h6⟩ := ht.cells
  clear ht
  go_enter Tryz.func146, Tryz.ntmps146
  go_wp2_with fail
  go_loop [6] (fun i => ∃ k : Nat, k ≤ 7 ∧ i = .int .i64 k ∧ NoWk s.toList k) (fun i => 7 - (intOf i).toNat)
  case atStart => exact ⟨0, by omega, rfl, NoWk.start _⟩
  case round =>
    obtain ⟨k, hk, rfl, hn⟩ := hrel
    have HN := Lib.hid hn
    clear hn
    by_cases hlt : k < 7
    · by_cases he : s.toList = wk k
      · have E := S_of s
        rw [he] at E
        clear he
        have : k = 0 ∨ k = 1 ∨ k = 2 ∨ k = 3 ∨ k = 4 ∨ k = 5 ∨ k = 6 := by omega
        rcases this with rfl | rfl | rfl | rfl | rfl | rfl | rfl
        · obtain rfl : s = ⟨#[83, 117, 110]⟩ := E
          have X := wk_index0
          go_wp2
          go_ret
          exact wdA_yes (d := 0) (by decide) (by decide) (by decide)
        · obtain rfl : s = ⟨#[77, 111, 110]⟩ := E
          have X := wk_index1
          go_wp2
          go_ret
          exact wdA_yes (d := 1) (by decide) (by decide) (by decide)
        · obtain rfl : s = ⟨#[84, 117, 101]⟩ := E
          have X := wk_index2
          go_wp2
          go_ret
          exact wdA_yes (d := 2) (by decide) (by decide) (by decide)
        · obtain rfl : s = ⟨#[87, 101, 100]⟩ := E
          have X := wk_index3
          go_wp2
          go_ret
          exact wdA_yes (d := 3) (by decide) (by decide) (by decide)
        · obtain rfl : s = ⟨#[84, 104, 117]⟩ := E
          have X := wk_index4
          go_wp2
          go_ret
          exact wdA_yes (d := 4) (by decide) (by decide) (by decide)
        · obtain rfl : s = ⟨#[70, 114, 105]⟩ := E
          have X := wk_index5
          go_wp2
          go_ret
          exact wdA_yes (d := 5) (by decide) (by decide) (by decide)
        · obtain rfl : s = ⟨#[83, 97, 116]⟩ := E
          have X := wk_index6
          go_wp2
          go_ret
          exact wdA_yes (d := 6) (by decide) (by decide) (by decide)
      · have HE := Lib.hid he
        clear he
        have : k = 0 ∨ k = 1 ∨ k = 2 ∨ k = 3 ∨ k = 4 ∨ k = 5 ∨ k = 6 := by omega
        rcases this with rfl | rfl | rfl | rfl | rfl | rfl | rfl
        · obtain ⟨e1, e3⟩ := ne_facts (l := [83, 117, 110]) HE.out
          have X := wk_index0
          go_wp2
          go_round
          case rel => exact ⟨1, by omega, by go_num, HN.out.step HE.out⟩
          case measure => simp [intOf]
        · obtain ⟨e1, e3⟩ := ne_facts (l := [77, 111, 110]) HE.out
          have X := wk_index1
          go_wp2
          go_round
          case rel => exact ⟨2, by omega, by go_num, HN.out.step HE.out⟩
          case measure => simp [intOf]
        · obtain ⟨e1, e3⟩ := ne_facts (l := [84, 117, 101]) HE.out
          have X := wk_index2
          go_wp2
          go_round
          case rel => exact ⟨3, by omega, by go_num, HN.out.step HE.out⟩
          case measure => simp [intOf]
        · obtain ⟨e1, e3⟩ := ne_facts (l := [87, 101, 100]) HE.out
          have X := wk_index3
          go_wp2
          go_round
          case rel => exact ⟨4, by omega, by go_num, HN.out.step HE.out⟩
          case measure => simp [intOf]
        · obtain ⟨e1, e3⟩ := ne_facts (l := [84, 104, 117]) HE.out
          have X := wk_index4
          go_wp2
          go_round
          case rel => exact ⟨5, by omega, by go_num, HN.out.step HE.out⟩
          case measure => simp [intOf]
        · obtain ⟨e1, e3⟩ := ne_facts (l := [70, 114, 105]) HE.out
          have X := wk_index5
          go_wp2
          go_round
          case rel => exact ⟨6, by omega, by go_num, HN.out.step HE.out⟩
          case measure => simp [intOf]
        · obtain ⟨e1, e3⟩ := ne_facts (l := [83, 97, 116]) HE.out
          have X := wk_index6
          go_wp2
          go_round
          case rel => exact ⟨7, by omega, by go_num, HN.out.step HE.out⟩
          case measure => simp [intOf]
    · obtain rfl : k = 7 := by omega
      go_wp2
      go_ret
      exact ⟨-1, rfl, fun d0 a b e => absurd e (HN.out d0.toNat (by omega) d0 (by omega)), Gr.refl _⟩
/-- what Atoi needs of the two errors, and Cut of the longest needle -/
def ErrTab (w : World) : Prop := (∃ t p, w.cell? ⟨6, 0, none⟩ = some (.iface t p)) ∧ (∃ t p, w.cell? ⟨7, 0, none⟩ = some (.iface t p)) ∧ ∃ m, w.cell? ⟨0, 0, none⟩ = some (.int .i64 m)
theorem Gr.errT {w w' : World} (h : Gr w w') (k : ErrTab w) : ErrTab w' := by
  obtain ⟨⟨a, b, h1⟩, ⟨c, d, h2⟩, m, h3⟩ := k
  exact ⟨⟨a, b, h.holds h1⟩, ⟨c, d, h.holds h2⟩, m, h.holds h3⟩
/-- what number returns: the number that is told, if it is one of a day -/
def NbA (l : List UInt8) (w : World) (e : Ending) (w' : World) : Prop := ∃ n : Int, e = .returned (.int .i64 n) ∧ (∀ v : Int, 1 ≤ v → v ≤ 31 → l = dz v → n = v) ∧ Gr w w'
theorem atoi_dz {v : Int} (h1 : 1 ≤ v) (h2 : v ≤ 31) : Lib.atoiAll (dz v) = .ok v := by
  have : v = 1 ∨ v = 2 ∨ v = 3 ∨ v = 4 ∨ v = 5 ∨ v = 6 ∨ v = 7 ∨ v = 8 ∨ v = 9 ∨ v = 10 ∨ v = 11 ∨ v = 12 ∨ v = 13 ∨ v = 14 ∨ v = 15 ∨ v = 16 ∨ v = 17 ∨ v = 18 ∨ v = 19 ∨ v = 20 ∨ v = 21 ∨ v = 22 ∨ v = 23 ∨ v = 24 ∨ v = 25 ∨ v = 26 ∨ v = 27 ∨ v = 28 ∨ v = 29 ∨ v = 30 ∨ v = 31 := by omega
  by_cases c : v < 10
  · rw [dz_small (by omega) c]
    rcases this with e | e | e | e | e | e | e | e | e | e | e | e | e | e | e | e | e | e | e | e | e | e | e | e | e | e | e | e | e | e | e <;> first | (exfalso; omega) | (subst e; decide)
  · rw [dz_d2 (by omega) (by omega)]
    rcases this with e | e | e | e | e | e | e | e | e | e | e | e | e | e | e | e | e | e | e | e | e | e | e | e | e | e | e | e | e | e | e <;> first | (exfalso; omega) | (subst e; decide)
theorem gr_bytes {w : World} {t : ByteArray} {T : TypeId} : Gr w (Lib.bytesWorld w T t) := Lib.bytesWorld_below _ _ _
theorem nbA_ok {s : ByteArray} {w : World} {v : Int} (hc : Lib.atoiAll s.data.toList = .ok v) (w' : World) (g : Gr w w') : NbA s.toList w (.returned (.int .i64 v)) w' :=
  ⟨v, rfl, fun v0 a b e => by rw [ByteArray.toList_eq] at e; rw [e, atoi_dz a b] at hc; injection hc with x; exact x.symm, g⟩
theorem nbA_no {s : ByteArray} {w : World} (hc : ∀ v, ¬ Lib.atoiAll s.data.toList = .ok v) (w' : World) (g : Gr w w') : NbA s.toList w (.returned (.int .i64 0)) w' :=
  ⟨0, rfl, fun v0 a b e => by rw [ByteArray.toList_eq] at e; rw [e] at hc; exact absurd (atoi_dz a b) (hc v0), g⟩

set_option maxHeartbeats 1000000 in
theorem dnum_any (s : ByteArray) (w : World) (hm : s.size ≤ 1048576) (ht : ErrTab w) : Calls Tryz.prog 147 #[.string s] w (NbA s.toList w) := by
  cases hc : Lib.atoiAll s.data.toList with
  | ok v =>
    have K := Tryz.strconv_Atoi_ok s (by omega) v hc w
    have A := Lib.hid (nbA_ok (w := w) hc)
    clear hc
    go_enter Tryz.func147, Tryz.ntmps147
    go_wp2_with fail
    refine K.mono ?_
    rintro e w1 ⟨rfl, hw⟩
    have hg : Gr w w1 := by
      rcases hw with rfl | ⟨t, rfl⟩
      · exact Gr.refl _
      · exact gr_bytes
    clear K hw
    go_wp2_with fail
    go_ret
    exact A.out _ hg
  | «syntax» =>
    obtain ⟨⟨tp, p, hv⟩, _⟩ := ht
    have K := Tryz.strconv_Atoi_syntax s (by omega) hc _ w hv (Or.inr ⟨_, _, rfl⟩)
    have A := Lib.hid (nbA_no (s := s) (w := w) (fun v e => by rw [hc] at e; cases e))
    clear hc hv
    go_enter Tryz.func147, Tryz.ntmps147
    go_wp2_with fail
    refine K.mono ?_
    rintro e w1 ⟨N, rfl, _, _, hg⟩
    clear K
    go_wp2_with fail
    go_ret
    exact A.out _ hg
  | range =>
    obtain ⟨_, ⟨tp, p, hv⟩, _⟩ := ht
    have K := Tryz.strconv_Atoi_range s (by omega) hc _ w hv (Or.inr ⟨_, _, rfl⟩)
    have A := Lib.hid (nbA_no (s := s) (w := w) (fun v e => by rw [hc] at e; cases e))
    clear hc hv
    generalize Lib.atoiSat s.data.toList = z at K
    go_enter Tryz.func147, Tryz.ntmps147
    go_wp2_with fail
    refine K.mono ?_
    rintro e w1 ⟨N, rfl, _, _, hg⟩
    clear K
    go_wp2_with fail
    go_ret
    exact A.out _ hg
end Go.Proofs.YtkkilmmpmiichaaGreatDoor
namespace Go.Proofs.YtkkilmmpmiichaaGreatDoor
set_option linter.unusedVariables false
set_option linter.unusedSimpArgs false
open Go.RowKit
def last4 : List UInt8 := [108, 97, 115, 116]
/-- what guess returns: the day that has this text, if there is one -/
def GuessP (l : List UInt8) (k d n : Int) : Prop := ∀ k0 d0 n0 : Int, DayOk k0 d0 n0 → dayL k0 d0 n0 = l → k = k0 ∧ d = d0 ∧ n = n0
def GuessA (l : List UInt8) (w : World) (e : Ending) (w' : World) : Prop := ∃ k d n : Int, e = .returned (dayV k d n) ∧ GuessP l k d n ∧ Gr w w'
/-- what Read reads -/
def RdTab (w : World) : Prop := TxTab w ∧ ErrTab w
theorem Gr.rdT {w w' : World} (h : Gr w w') (k : RdTab w) : RdTab w' := ⟨h.txT k.1, h.errT k.2⟩

theorem index_no {c : UInt8} {r : List UInt8} : ∀ {l : List UInt8}, c ∉ l → Lib.index l (c :: r) = -1
  | [], _ => rfl
  | b :: l, h => by
    have h1 : ¬ c = b := fun e => h (by simp [e])
    have h2 := index_no (c := c) (r := r) (l := l) (fun e => h (by simp [e]))
    unfold Lib.index
    rw [h2]
    simp [List.isPrefixOf, h1]
theorem cut_no {c : UInt8} {r l : List UInt8} (h : c ∉ l) : (Lib.cut l (c :: r)).2.2 = false := by
  unfold Lib.cut
  rw [index_no h]
  rfl
theorem cut_len2 (l sep : List UInt8) : (Lib.cut l sep).2.1.length ≤ l.length := by
  unfold Lib.cut
  split
  · simp
  · simp
theorem cut_62 {d : Int} (h1 : 0 ≤ d) (h2 : d ≤ 6) (t : List UInt8) : Lib.cut (wk d ++ 62 :: 61 :: t) [62, 61] = (wk d, t, true) := by
  have x : d = 0 ∨ d = 1 ∨ d = 2 ∨ d = 3 ∨ d = 4 ∨ d = 5 ∨ d = 6 := by omega
  rcases x with rfl | rfl | rfl | rfl | rfl | rfl | rfl <;> simp [wk, Lib.cut, Lib.index, List.isPrefixOf]
theorem cut_60 {d : Int} (h1 : 0 ≤ d) (h2 : d ≤ 6) (t : List UInt8) : Lib.cut (wk d ++ 60 :: 61 :: t) [60, 61] = (wk d, t, true) := by
  have x : d = 0 ∨ d = 1 ∨ d = 2 ∨ d = 3 ∨ d = 4 ∨ d = 5 ∨ d = 6 := by omega
  rcases x with rfl | rfl | rfl | rfl | rfl | rfl | rfl <;> simp [wk, Lib.cut, Lib.index, List.isPrefixOf]
theorem dz_not {c : UInt8} (hc : (57 : Int) < c.toNat) {n : Int} (h1 : 0 ≤ n) (h2 : n < 1000) : c ∉ dz n := fun e => by
  obtain ⟨i, hi, he⟩ := List.mem_iff_getElem.1 e
  have := (tells_dz h1 h2).1.1 i hi
  unfold bt at this
  rw [List.getD_eq_getElem?_getD, List.getElem?_eq_getElem hi, he] at this
  simp at this
  omega
theorem wk_not {c : UInt8} (hc : (c.toNat : Int) < 65) {d : Int} (h1 : 0 ≤ d) (h2 : d ≤ 6) : c ∉ wk d := fun e => by
  have x : d = 0 ∨ d = 1 ∨ d = 2 ∨ d = 3 ∨ d = 4 ∨ d = 5 ∨ d = 6 := by omega
  rcases x with rfl | rfl | rfl | rfl | rfl | rfl | rfl <;> simp [wk] at e <;> rcases e with rfl | rfl | rfl <;> revert hc <;> decide
theorem pre_last (d : Int) : Lib.hasPrefix ([108, 97, 115, 116] ++ wk d) last4 = true := by simp [Lib.hasPrefix, last4, List.isPrefixOf]
theorem pre_head {c : UInt8} {r : List UInt8} (h : ¬ c = 108) : Lib.hasPrefix (c :: r) last4 = false := by
  have : ¬ (108 : UInt8) = c := fun e => h e.symm
  simp [Lib.hasPrefix, last4, List.isPrefixOf, this]
theorem kinds {k0 d0 n0 : Int} (h : DayOk k0 d0 n0) : (k0 = 1 ∧ d0 = 0 ∧ 1 ≤ n0 ∧ n0 ≤ 31) ∨ (k0 = 2 ∧ 0 ≤ d0 ∧ d0 ≤ 6 ∧ n0 = 0) ∨ (k0 = 3 ∧ 0 ≤ d0 ∧ d0 ≤ 6 ∧ 1 ≤ n0 ∧ n0 ≤ 31) ∨ (k0 = 4 ∧ 0 ≤ d0 ∧ d0 ≤ 6 ∧ 1 ≤ n0 ∧ n0 ≤ 31) := by
  unfold DayOk at h
  omega
theorem pre_of {k0 d0 n0 : Int} (h : DayOk k0 d0 n0) : Lib.hasPrefix (dayL k0 d0 n0) last4 = decide (k0 = 2) := by
  rcases kinds h with ⟨rfl, rfl, a, b⟩ | ⟨rfl, a, b, rfl⟩ | ⟨rfl, a, b, _⟩ | ⟨rfl, a, b, _⟩
  · obtain ⟨c, r, e, x⟩ := dz_head (n := n0) (by omega) (by omega)
    simp only [dayL, if_true]
    rw [e, pre_head (by rintro rfl; revert x; decide)]
    rfl
  · simp only [dayL]
    exact pre_last d0
  · obtain ⟨c, r, e, _, x⟩ := wk_head a b
    simp only [dayL]
    simp only [if_true, if_false, Int.reduceEq]
    rw [e]
    exact pre_head x
  · obtain ⟨c, r, e, _, x⟩ := wk_head a b
    simp only [dayL]
    simp only [if_true, if_false, Int.reduceEq]
    rw [e]
    exact pre_head x
theorem cut3_of {k0 d0 n0 : Int} (h : DayOk k0 d0 n0) (h2 : ¬ k0 = 2) : (k0 = 3 ∧ Lib.cut (dayL k0 d0 n0) [62, 61] = (wk d0, dz n0, true)) ∨ (¬ k0 = 3 ∧ (Lib.cut (dayL k0 d0 n0) [62, 61]).2.2 = false) := by
  rcases kinds h with ⟨rfl, rfl, a, b⟩ | ⟨rfl, a, b, rfl⟩ | ⟨rfl, a, b, _⟩ | ⟨rfl, a, b, c, d⟩
  · exact Or.inr ⟨by omega, cut_no (by simp only [dayL, if_true]; exact dz_not (by decide) (by omega) (by omega))⟩
  · exact absurd rfl h2
  · exact Or.inl ⟨rfl, cut_62 a b _⟩
  · refine Or.inr ⟨by omega, cut_no ?_⟩
    simp only [dayL, if_true, if_false, Int.reduceEq, List.mem_append, List.mem_cons, not_or]
    exact ⟨wk_not (by decide) a b, by decide, by decide, dz_not (by decide) (by omega) (by omega)⟩
theorem cut4_of {k0 d0 n0 : Int} (h : DayOk k0 d0 n0) (h2 : ¬ k0 = 2) (h3 : ¬ k0 = 3) : (k0 = 4 ∧ Lib.cut (dayL k0 d0 n0) [60, 61] = (wk d0, dz n0, true)) ∨ (¬ k0 = 4 ∧ (Lib.cut (dayL k0 d0 n0) [60, 61]).2.2 = false) := by
  rcases kinds h with ⟨rfl, rfl, a, b⟩ | ⟨rfl, a, b, rfl⟩ | ⟨rfl, a, b, _⟩ | ⟨rfl, a, b, c, d⟩
  · exact Or.inr ⟨by omega, cut_no (by simp only [dayL, if_true]; exact dz_not (by decide) (by omega) (by omega))⟩
  · exact absurd rfl h2
  · exact absurd rfl h3
  · exact Or.inl ⟨rfl, cut_60 a b _⟩

def WdP (l : List UInt8) (d : Int) : Prop := ∀ d0 : Int, 0 ≤ d0 → d0 ≤ 6 → l = wk d0 → d = d0
def NbP (l : List UInt8) (n : Int) : Prop := ∀ v : Int, 1 ≤ v → v ≤ 31 → l = dz v → n = v
theorem g_last {l : List UInt8} {d : Int} (h : Lib.hasPrefix l last4 = true) (hd : WdP (l.drop 4) d) : GuessP l 2 d 0 := fun k0 d0 n0 ok e => by
  have p := pre_of ok
  rw [e, h] at p
  have k2 : k0 = 2 := by simpa using p.symm
  subst k2
  rcases kinds ok with ⟨x, _⟩ | ⟨_, a, b, rfl⟩ | ⟨x, _⟩ | ⟨x, _⟩
  · omega
  · refine ⟨rfl, hd d0 a b ?_, rfl⟩
    rw [← e]
    simp [dayL]
  · omega
  · omega
theorem not2 {l : List UInt8} (h : Lib.hasPrefix l last4 = false) {k0 d0 n0 : Int} (ok : DayOk k0 d0 n0) (e : dayL k0 d0 n0 = l) : ¬ k0 = 2 := fun k2 => by
  have p := pre_of ok
  rw [e, h] at p
  simp [k2] at p
theorem g_from {l a b : List UInt8} {d n : Int} (h : Lib.hasPrefix l last4 = false) (hc : Lib.cut l [62, 61] = (a, b, true)) (hd : WdP a d) (hn : NbP b n) : GuessP l 3 d n := fun k0 d0 n0 ok e => by
  have k2 := not2 h ok e
  rcases cut3_of ok k2 with ⟨k3, c⟩ | ⟨k3, c⟩
  · rw [e, hc] at c
    injection c with c1 c2
    injection c2 with c2 _
    rcases kinds ok with ⟨x, _⟩ | ⟨x, _⟩ | ⟨_, p, q, r, s⟩ | ⟨x, _⟩ <;> first | (exfalso; omega) | exact ⟨k3.symm, hd d0 p q c1, hn n0 r s c2⟩
  · rw [e, hc] at c
    cases c
theorem g_till {l a b : List UInt8} {d n : Int} (h : Lib.hasPrefix l last4 = false) (h3 : (Lib.cut l [62, 61]).2.2 = false) (hc : Lib.cut l [60, 61] = (a, b, true)) (hd : WdP a d) (hn : NbP b n) : GuessP l 4 d n := fun k0 d0 n0 ok e => by
  have k2 := not2 h ok e
  rcases cut3_of ok k2 with ⟨k3, c⟩ | ⟨k3, _⟩
  · rw [e] at c
    rw [c] at h3
    cases h3
  · rcases cut4_of ok k2 k3 with ⟨k4, c⟩ | ⟨k4, c⟩
    · rw [e, hc] at c
      injection c with c1 c2
      injection c2 with c2 _
      rcases kinds ok with ⟨x, _⟩ | ⟨x, _⟩ | ⟨x, _⟩ | ⟨_, p, q, r, s⟩ <;> first | (exfalso; omega) | exact ⟨k4.symm, hd d0 p q c1, hn n0 r s c2⟩
    · rw [e, hc] at c
      cases c
theorem g_num {l : List UInt8} {n : Int} (h : Lib.hasPrefix l last4 = false) (h3 : (Lib.cut l [62, 61]).2.2 = false) (h4 : (Lib.cut l [60, 61]).2.2 = false) (hn : NbP l n) : GuessP l 1 0 n := fun k0 d0 n0 ok e => by
  have k2 := not2 h ok e
  rcases cut3_of ok k2 with ⟨k3, c⟩ | ⟨k3, _⟩
  · rw [e] at c
    rw [c] at h3
    cases h3
  · rcases cut4_of ok k2 k3 with ⟨k4, c⟩ | ⟨k4, c⟩
    · rw [e] at c
      rw [c] at h4
      cases h4
    · rcases kinds ok with ⟨rfl, rfl, r, s⟩ | ⟨x, _⟩ | ⟨x, _⟩ | ⟨x, _⟩ <;> first | (exfalso; omega) | exact ⟨rfl, rfl, hn n0 r s (by rw [← e]; simp [dayL])⟩
end Go.Proofs.YtkkilmmpmiichaaGreatDoor
