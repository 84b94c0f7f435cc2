/- What the reference's Days, Date and Weekday return, for every input, and the statements' own small helpers dated, date and some. What the reference's functions on days of months return: DayCheck, IsTime, DayOf. Bytes of texts as numbers; a text turned into bytes; the number that digits tell. -/
import Derived.Test.YtkkilmmpmiichaaGreatDoorYM02
import Derived.Lib.Strings
import Derived.Test.YtkkilmmpmiichaaGreatDoorProg
import Derived.Test.YtkkilmmpmiichaaGreatDoorYM01
namespace Go.Proofs.YtkkilmmpmiichaaGreatDoor
set_option linter.unusedVariables false
set_option linter.unusedSimpArgs false
open Go.RowKit
set_option maxHeartbeats 1000000 in
theorem rdays_yes (y m d : Int) (w : World) (hv : Cal.Valid y m d) :
    Calls Tryz.prog 43 #[.int .i64 y, .int .i64 m, .int .i64 d] w fun e w' => e = two (Cal.days y m d) 0 ∧ Gr w w' := by
  obtain ⟨h1, h2, h3, h4, h5, h6⟩ := hv
  have h7 := Cal.ml_bd y h3 h4
  have h8 := Cal.ys_bd h1 (by omega : y ≤ 2400)
  go_enter Tryz.func43, Tryz.ntmps43
  go_wp2_with fail
  refine (rlength_yes y m w h1 h2 h3 h4).mono ?_
  rintro e w1 ⟨rfl, hg⟩
  go_wp2_with (first | (go_at_call 76; refine (yearDay_any _ _ (by omega) (by omega)).mono ?_; rintro e w' ⟨rfl, rfl⟩) | go_in)
  go_loopw [10, 11] (fun n i wr => ∃ k : Int, 1 ≤ k ∧ k ≤ m ∧ i = .int .i64 k ∧ n = .int .i64 (Cal.ys y + d - 1 + Cal.cum y k) ∧ Gr w wr) (fun _ i _ => (m - intOf i).toNat)
  case atStart => exact ⟨1, by omega, by omega, rfl, by rw [Cal.cum_one]; simp, hg⟩
  case round =>
    obtain ⟨k, hk1, hk2, rfl, rfl, hgr⟩ := hrel
    have hb := Cal.cum_bd y hk1 (by omega : k ≤ 13)
    have hm := Cal.ml_bd y hk1 (by omega : k ≤ 12)
    by_cases hlt : k < m
    · go_wp2_with (go_at_call 74; refine (rlength_yes _ _ _ (by omega) (by omega) (by omega) (by omega)).mono ?_; rintro e w2 ⟨rfl, hg2⟩)
      go_roundw
      case rel => exact ⟨k + 1, by omega, by omega, by go_num, by rw [Cal.cum_succ y hk1 (by omega)]; go_num, hgr.trans hg2⟩
      case measure => simp [intOf]; omega
    · obtain rfl : k = m := by omega
      go_wp2
      go_ret2
      exact ⟨two_eq (by unfold Cal.days; omega) rfl, hgr⟩

set_option maxHeartbeats 1000000 in
theorem rdays_no (y m d : Int) (w : World) (h : ¬ Cal.Valid y m d) :
    Calls Tryz.prog 43 #[.int .i64 y, .int .i64 m, .int .i64 d] w fun e w' => e = two 0 1 ∧ Gr w w' := by
  unfold Cal.Valid at h
  by_cases hlen : 1600 ≤ y ∧ y ≤ 2399 ∧ 1 ≤ m ∧ m ≤ 12
  · obtain ⟨h1, h2, h3, h4⟩ := hlen
    by_cases h5 : d < 1
    · clear h
      go_enter Tryz.func43, Tryz.ntmps43
      go_wp2_with fail
      refine (rlength_yes y m w h1 h2 h3 h4).mono ?_
      rintro e w1 ⟨rfl, hg⟩
      go_wp2
      go_ret2
      exact ⟨rfl, hg⟩
    · have h6 : Cal.ml y m < d := by omega
      clear h
      go_enter Tryz.func43, Tryz.ntmps43
      go_wp2_with fail
      refine (rlength_yes y m w h1 h2 h3 h4).mono ?_
      rintro e w1 ⟨rfl, hg⟩
      go_wp2
      go_ret2
      exact ⟨rfl, hg⟩
  · clear h
    go_enter Tryz.func43, Tryz.ntmps43
    go_wp2_with fail
    refine (rlength_no y m w hlen).mono ?_
    rintro e w1 ⟨rfl, rfl⟩
    go_wp2
    go_ret2
    exact ⟨rfl, Gr.refl _⟩

end Go.Proofs.YtkkilmmpmiichaaGreatDoor
namespace Go.Proofs.YtkkilmmpmiichaaGreatDoor
set_option linter.unusedVariables false
set_option linter.unusedSimpArgs false
open Go.RowKit
/-- a day of a month as a value -/
abbrev dayV (k d n : Int) : Value := .agg #[.int .i64 k, .int .i64 d, .int .i64 n]
def DayOk (k d n : Int) : Prop := (1 ≤ k ∧ k ≤ 4) ∧ (0 ≤ d ∧ d ≤ 6) ∧ (k = 1 → d = 0) ∧ (k = 2 → n = 0) ∧ (k ≠ 2 → 1 ≤ n ∧ n ≤ 31)
instance (k d n : Int) : Decidable (DayOk k d n) := by unfold DayOk; infer_instance
/-- what DayCheck answers -/
def dchk (k d n : Int) : Int := if DayOk k d n then 0 else 1

theorem dchk_yes {k d n : Int} (h : DayOk k d n) : dchk k d n = 0 := by unfold dchk; exact if_pos h
theorem dchk_no {k d n : Int} (h : ¬ DayOk k d n) : dchk k d n = 1 := by unfold dchk; exact if_neg h

set_option maxHeartbeats 4000000 in
theorem rdayCheck (k d n : Int) (w : World) :
    Calls Tryz.prog 73 #[dayV k d n] w fun e w' => e = .returned (.int .i64 (dchk k d n)) ∧ Gr w w' := by
  by_cases k1 : k < 1
  · have k1' : decide (k < 1) = true := ltT k1
    have E := Lib.hid (dchk_no (k := k) (d := d) (n := n) (by unfold DayOk; omega))
    go_enter Tryz.func73, Tryz.ntmps73
    go_wp2
    go_ret
    exact ⟨ret_int E.out.symm, Gr.alloc _ _⟩
  · have k1' : decide (k < 1) = false := ltF k1
    by_cases k4 : 4 < k
    · have k4' : decide (4 < k) = true := ltT k4
      have E := Lib.hid (dchk_no (k := k) (d := d) (n := n) (by unfold DayOk; omega))
      go_enter Tryz.func73, Tryz.ntmps73
      go_wp2
      go_ret
      exact ⟨ret_int E.out.symm, Gr.alloc _ _⟩
    · have k4' : decide (4 < k) = false := ltF k4
      by_cases d0 : d < 0
      · have d0' : decide (d < 0) = true := ltT d0
        have E := Lib.hid (dchk_no (k := k) (d := d) (n := n) (by unfold DayOk; omega))
        go_enter Tryz.func73, Tryz.ntmps73
        go_wp2
        go_ret
        exact ⟨ret_int E.out.symm, Gr.alloc _ _⟩
      · have d0' : decide (d < 0) = false := ltF d0
        by_cases d6 : 6 < d
        · have d6' : decide (6 < d) = true := ltT d6
          have E := Lib.hid (dchk_no (k := k) (d := d) (n := n) (by unfold DayOk; omega))
          go_enter Tryz.func73, Tryz.ntmps73
          go_wp2
          go_ret
          exact ⟨ret_int E.out.symm, Gr.alloc _ _⟩
        · have d6' : decide (6 < d) = false := ltF d6
          by_cases e1 : k = 1
          · have e1' : (k == 1) = true := beqT e1
            by_cases z : d = 0
            · have z' : (d != 0) = false := bneF z
              have e2' : (k == 2) = false := beqF (by omega)
              have e3' : (k != 2) = true := bneT (by omega)
              by_cases n1 : n < 1
              · have n1' : decide (n < 1) = true := ltT n1
                have E := Lib.hid (dchk_no (k := k) (d := d) (n := n) (by unfold DayOk; omega))
                clear e1 z
                go_enter Tryz.func73, Tryz.ntmps73
                go_wp2
                go_ret
                exact ⟨ret_int E.out.symm, Gr.alloc _ _⟩
              · have n1' : decide (n < 1) = false := ltF n1
                by_cases n31 : 31 < n
                · have n31' : decide (31 < n) = true := ltT n31
                  have E := Lib.hid (dchk_no (k := k) (d := d) (n := n) (by unfold DayOk; omega))
                  clear e1 z
                  go_enter Tryz.func73, Tryz.ntmps73
                  go_wp2
                  go_ret
                  exact ⟨ret_int E.out.symm, Gr.alloc _ _⟩
                · have n31' : decide (31 < n) = false := ltF n31
                  have E := Lib.hid (dchk_yes (k := k) (d := d) (n := n) (by unfold DayOk; omega))
                  clear e1 z
                  go_enter Tryz.func73, Tryz.ntmps73
                  go_wp2
                  go_ret
                  exact ⟨ret_int E.out.symm, Gr.alloc _ _⟩
            · have z' : (d != 0) = true := bneT z
              have E := Lib.hid (dchk_no (k := k) (d := d) (n := n) (by unfold DayOk; omega))
              clear e1 z
              go_enter Tryz.func73, Tryz.ntmps73
              go_wp2
              go_ret
              exact ⟨ret_int E.out.symm, Gr.alloc _ _⟩
          · have e1' : (k == 1) = false := beqF e1
            by_cases e2 : k = 2
            · have e2' : (k == 2) = true := beqT e2
              have e3' : (k != 2) = false := bneF e2
              by_cases z : n = 0
              · have z' : (n != 0) = false := bneF z
                have E := Lib.hid (dchk_yes (k := k) (d := d) (n := n) (by unfold DayOk; omega))
                clear e1 e2 z
                go_enter Tryz.func73, Tryz.ntmps73
                go_wp2
                go_ret
                exact ⟨ret_int E.out.symm, Gr.alloc _ _⟩
              · have z' : (n != 0) = true := bneT z
                have E := Lib.hid (dchk_no (k := k) (d := d) (n := n) (by unfold DayOk; omega))
                clear e1 e2 z
                go_enter Tryz.func73, Tryz.ntmps73
                go_wp2
                go_ret
                exact ⟨ret_int E.out.symm, Gr.alloc _ _⟩
            · have e2' : (k == 2) = false := beqF e2
              have e3' : (k != 2) = true := bneT e2
              by_cases n1 : n < 1
              · have n1' : decide (n < 1) = true := ltT n1
                have E := Lib.hid (dchk_no (k := k) (d := d) (n := n) (by unfold DayOk; omega))
                clear e1 e2
                go_enter Tryz.func73, Tryz.ntmps73
                go_wp2
                go_ret
                exact ⟨ret_int E.out.symm, Gr.alloc _ _⟩
              · have n1' : decide (n < 1) = false := ltF n1
                by_cases n31 : 31 < n
                · have n31' : decide (31 < n) = true := ltT n31
                  have E := Lib.hid (dchk_no (k := k) (d := d) (n := n) (by unfold DayOk; omega))
                  clear e1 e2
                  go_enter Tryz.func73, Tryz.ntmps73
                  go_wp2
                  go_ret
                  exact ⟨ret_int E.out.symm, Gr.alloc _ _⟩
                · have n31' : decide (31 < n) = false := ltF n31
                  have E := Lib.hid (dchk_yes (k := k) (d := d) (n := n) (by unfold DayOk; omega))
                  clear e1 e2
                  go_enter Tryz.func73, Tryz.ntmps73
                  go_wp2
                  go_ret
                  exact ⟨ret_int E.out.symm, Gr.alloc _ _⟩

end Go.Proofs.YtkkilmmpmiichaaGreatDoor
namespace Go.Proofs.YtkkilmmpmiichaaGreatDoor
set_option linter.unusedVariables false
set_option linter.unusedSimpArgs false
open Go.RowKit
/-- the k-th byte of a text, as a number -/
def bt (l : List UInt8) (k : Nat) : Int := ((l.getD k 0).toNat : Int)
theorem bt_bd (l : List UInt8) (k : Nat) : 0 ≤ bt l k ∧ bt l k ≤ 255 := by
  unfold bt; have := (l.getD k 0).toNat_lt; omega
theorem idx (s : ByteArray) (k : Nat) (h : k < s.size) (w : World) :
    (Instr.index 9 (.string s) (.int .i64 (k : Int))).run Tryz.prog w = .ok (.int .u8 (bt s.toList k)) w := by
  rw [run_index_string w 9 s .i64 k Tryz.underlying9, dif_pos ⟨by omega, by omega⟩]
  congr 2
  unfold bt
  rw [ByteArray.toList_eq]
  have h2 : k < s.data.size := h
  have e : s.data.toList.getD k 0 = s.data[k] := by simp [List.getD, Array.getElem?_eq_getElem h2]
  rw [e]
  rfl
theorem to_bytes (x : ByteArray) (w : World) : ∃ (cap : Nat) (w2 : World), (convert 9 76 (.string x)).run Tryz.prog w = .ok (.slice (some ⟨w.heap.size, 0, none⟩) x.size cap) w2 ∧ Gr w w2 ∧
    ∀ j, j < x.size → w2.cell? ⟨w.heap.size, j, none⟩ = some (.int .u8 (bt x.toList j)) := by
  refine ⟨_, _, run_bytes_of_string (P := Tryz.prog) w 9 76 5 x Tryz.underlying9 Tryz.underlying76 Tryz.underlying5, (Gr.drew w).alloc' _, fun j hj => ?_⟩
  have h1 := World.cell?_alloc_mark w.drew (bytesRow x (grownCap w x.size 0 5)) 5 ((bytesRow x (grownCap w x.size 0 5)).size, (bytesRow x (grownCap w x.size 0 5)).size + 1) j
  have h2 : j < x.data.size := hj
  rw [bytesRow_at x _ j h2] at h1
  have e : bt x.toList j = (x.data[j].toNat : Int) := by
    unfold bt; rw [ByteArray.toList_eq]; simp [List.getD, Array.getElem?_eq_getElem h2]
  rw [e]; exact h1
theorem bt_extract (s : ByteArray) (i n j : Nat) (h : i + n ≤ s.size) (hj : j < n) : bt (s.extract i (i + n)).toList j = bt s.toList (i + j) := by
  unfold bt
  rw [ByteArray.toList_eq, ByteArray.toList_eq, Lib.extract_data]
  have e : i + n - i = n := by omega
  rw [e]
  simp [List.getD, List.getElem?_take, List.getElem?_drop, hj]
theorem size_extract (s : ByteArray) (i n : Nat) (h : i + n ≤ s.size) : (s.extract i (i + n)).size = n := by
  rw [ByteArray.size_extract]; omega

/-- the number that n digits of a text tell, from place i on -/
def numv (l : List UInt8) (i : Nat) : Nat → Int
  | 0 => 0
  | k + 1 => 10 * numv l i k + (bt l (i + k) - 48)
theorem numv_bd (l : List UInt8) (i n : Nat) (h : ∀ j, j < n → 48 ≤ bt l (i + j) ∧ bt l (i + j) ≤ 57) : ∀ k, k ≤ n → 0 ≤ numv l i k ∧ numv l i k < 10 ^ k := by
  intro k
  induction k with
  | zero => intro _; simp [numv]
  | succ k ih =>
    intro hk
    have h1 := ih (by omega)
    have h2 := h k (by omega)
    unfold numv
    rw [Int.pow_succ]
    omega
end Go.Proofs.YtkkilmmpmiichaaGreatDoor
