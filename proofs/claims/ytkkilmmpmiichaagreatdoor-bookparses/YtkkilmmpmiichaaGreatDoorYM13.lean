/- What the reference's StampRead returns, for every input. -/
import Derived.Deep.QuietTactic
import Derived.BigQuiet
import Derived.Lib.Strings
import Derived.Test.YtkkilmmpmiichaaGreatDoorYM01
import Derived.Test.YtkkilmmpmiichaaGreatDoorYM03
namespace Go.Proofs.YtkkilmmpmiichaaGreatDoor
set_option linter.unusedVariables false
set_option linter.unusedSimpArgs false
open Go.RowKit
set_option maxHeartbeats 1000000 in
theorem stampAt (s : ByteArray) (b i n : Nat) (w : World) (hs : s.size ≤ 1000) (hc : w.cell? ⟨b, 0, none⟩ = some (.string s)) (h : i + n ≤ s.size) (hn : n ≤ 4) (hd : ∀ j, j < n → 48 ≤ bt s.toList (i + j) ∧ bt s.toList (i + j) ≤ 57) :
    Calls Tryz.prog 42 #[.int .i64 i, .int .i64 n, .pointer (some ⟨b, 0, none⟩)] w fun e w' => e = .returned (.int .i64 (numv s.toList i n)) ∧ Gr w w' := by
  have hx := size_extract s i n h
  have hbt := bt_extract s i n
  have HB : Hid (∀ j, j < n → bt (s.extract i (i + n)).toList j = bt s.toList (i + j)) := fun j hj => hbt j h hj
  have HD := Lib.hid hd
  have HN := Lib.hid (numv_bd s.toList i n hd)
  clear hbt hd
  obtain ⟨cap, w2, hconv, hg, hcells⟩ := to_bytes (s.extract i (i + n)) w
  rw [hx] at hconv hcells
  have HC := Lib.hid hcells
  have HX := Lib.hid hx
  clear hcells hx
  generalize w.heap.size = g at hconv HC
  go_enter Tryz.func42, Tryz.ntmps42
  go_wp2
  go_loop [6, 17] (fun v i' => ∃ k : Nat, k ≤ n ∧ i' = .int .i64 k ∧ v = .int .i64 (numv s.toList i k)) (fun _ i' => n - (intOf i').toNat)
  case atStart => exact ⟨0, Nat.zero_le _, rfl, rfl⟩
  case round =>
    obtain ⟨k, hk, rfl, rfl⟩ := hrel
    have nb := HN.out k hk
    have p4 : (10 : Int) ^ k ≤ 10000 := by
      have : k = 0 ∨ k = 1 ∨ k = 2 ∨ k = 3 ∨ k = 4 := by omega
      rcases this with e | e | e | e | e <;> subst e <;> decide
    have nb1 := nb.1
    have nb2 : numv s.toList i k < 10000 := by omega
    clear nb p4
    by_cases hlt : k < n
    · have hcell := HC.out k hlt
      rw [HB.out k hlt] at hcell
      have d1 := (HD.out k hlt).1
      have d2 := (HD.out k hlt).2
      have E : Hid (numv s.toList i (k + 1) = 10 * numv s.toList i k + (bt s.toList (i + k) - 48)) := by simp [Hid, numv]
      generalize bt s.toList (i + k) = c at hcell d1 d2 E
      go_wp2
      go_round
      case rel => exact ⟨k + 1, by omega, by go_num, by rw [E.out]⟩
      case measure => simp [intOf]; omega
    · obtain rfl : k = n := by omega
      go_wp2
      go_ret
      exact ⟨rfl, hg⟩

/-- the form of a timestamp -/
def stampForm : List UInt8 := [48, 48, 48, 48, 45, 48, 48, 45, 48, 48, 84, 48, 48, 58, 48, 48, 58, 48, 48]
/-- does the text fit the form at this place? -/
def fits (l : List UInt8) (k : Nat) : Prop := if bt stampForm k = 48 then 48 ≤ bt l k ∧ bt l k ≤ 57 else bt l k = bt stampForm k

theorem fits_digit {l : List UInt8} {k : Nat} (f : bt stampForm k = 48) (h1 : ¬ bt l k < 48) (h2 : ¬ 57 < bt l k) : fits l k := by
  unfold fits; rw [if_pos f]; omega
theorem fits_sign {l : List UInt8} {k : Nat} (f : ¬ bt stampForm k = 48) (h : bt l k = bt stampForm k) : fits l k := by
  unfold fits; rw [if_neg f]; exact h
theorem all_succ {p : Nat → Prop} {k : Nat} (h : ∀ j, j < k → p j) (hk : p k) : ∀ j, j < k + 1 → p j := fun j hj => by
  by_cases e : j = k
  · rw [e]; exact hk
  · exact h j (by omega)

theorem stampAtZ (s : ByteArray) (b i n : Nat) (iz nz : Int) (hi : (i : Int) = iz) (hz : (n : Int) = nz) (hs : s.size ≤ 1000) (h : i + n ≤ s.size) (hn : n ≤ 4) (hd : ∀ j, j < n → 48 ≤ bt s.toList (i + j) ∧ bt s.toList (i + j) ≤ 57) (w : World) (hc : w.cell? ⟨b, 0, none⟩ = some (.string s)) :
    Calls Tryz.prog 42 #[.int .i64 iz, .int .i64 nz, .pointer (some ⟨b, 0, none⟩)] w fun e w' => e = .returned (.int .i64 (numv s.toList i n)) ∧ Gr w w' := by
  subst hi; subst hz; exact stampAt s b i n w hs hc h hn hd

theorem digit_of {l : List UInt8} {k : Nat} (h : fits l k) (f : bt stampForm k = 48) : 48 ≤ bt l k ∧ bt l k ≤ 57 := by
  unfold fits at h; rw [if_pos f] at h; exact h
theorem sign_of {l : List UInt8} {k : Nat} (h : fits l k) (f : ¬ bt stampForm k = 48) : bt l k = bt stampForm k := by
  unfold fits at h; rw [if_neg f] at h; exact h
/-- Is the text a timestamp? place by place -/
def Stamped (l : List UInt8) : Prop := l.length = 19 ∧ (∀ j, j < 19 → fits l j) ∧ Cal.Valid (numv l 0 4) (numv l 5 2) (numv l 8 2) ∧ numv l 11 2 ≤ 23 ∧ numv l 14 2 ≤ 59 ∧ numv l 17 2 ≤ 59
/-- the time that it tells -/
def stampV (l : List UInt8) : Int := 86400 * Cal.days (numv l 0 4) (numv l 5 2) (numv l 8 2) + 3600 * numv l 11 2 + 60 * numv l 14 2 + numv l 17 2
open Classical in
/-- what reading it answers -/
noncomputable def stampAns (l : List UInt8) : Ending := if Stamped l then two (stampV l) 0 else two 0 3
theorem stampAns_yes {l : List UInt8} (h : Stamped l) : two (stampV l) 0 = stampAns l := by unfold stampAns; rw [if_pos h]
theorem stampAns_no {l : List UInt8} (h : ¬ Stamped l) : two 0 3 = stampAns l := by unfold stampAns; rw [if_neg h]
theorem digits_in {l : List UInt8} (h : ∀ j, j < 19 → fits l j) (i n : Nat) (hin : i + n ≤ 19) (hf : ∀ j, j < n → bt stampForm (i + j) = 48) : ∀ j, j < n → 48 ≤ bt l (i + j) ∧ bt l (i + j) ≤ 57 :=
  fun j hj => digit_of (h (i + j) (by omega)) (hf j hj)
theorem form0 : ∀ j, j < 4 → bt stampForm (0 + j) = 48 := by decide
theorem form5 : ∀ j, j < 2 → bt stampForm (5 + j) = 48 := by decide
theorem form8 : ∀ j, j < 2 → bt stampForm (8 + j) = 48 := by decide
theorem form11 : ∀ j, j < 2 → bt stampForm (11 + j) = 48 := by decide
theorem form14 : ∀ j, j < 2 → bt stampForm (14 + j) = 48 := by decide
theorem form17 : ∀ j, j < 2 → bt stampForm (17 + j) = 48 := by decide

set_option maxHeartbeats 2000000 in
theorem rstampRead_any (s : ByteArray) (w : World) (hs : s.size = 19) (hl : s.toList.length = 19) :
    Calls Tryz.prog 16 #[.string s] w fun e w' => e = stampAns s.toList ∧ Gr w w' := by
  go_enter Tryz.func16, Tryz.ntmps16
  go_wp2
  have hc0 : (w.alloc (.cells #[.string s] 9)).cell? ⟨w.heap.size, 0, none⟩ = some (.string s) := by rw [World.cell?_alloc_new]; rfl
  have hg0 := Gr.alloc w (.cells #[.string s] 9)
  generalize w.alloc (.cells #[.string s] 9) = w1 at hc0 hg0 ⊢
  generalize w.heap.size = b at hc0 ⊢
  have HS := Lib.hid hs
  have HL := Lib.hid hl
  clear hl
  go_loopw [13] (fun i wr => ∃ k : Nat, k ≤ 19 ∧ (∀ j, j < k → fits s.toList j) ∧ i = .int .i64 k ∧ Gr w wr ∧ wr.cell? ⟨b, 0, none⟩ = some (.string s)) (fun i _ => 19 - (intOf i).toNat)
  case atStart => exact ⟨0, Nat.zero_le _, fun j hj => absurd hj (by omega), rfl, hg0, hc0⟩
  case round =>
    obtain ⟨k, hk, hall, rfl, hg, hc⟩ := hrel
    have HA := Lib.hid hall
    clear hall hc0 hg0
    by_cases hlt : k < 19
    · have gS : ∀ w, (Instr.index 9 (.string s) (.int .i64 (k : Int))).run Tryz.prog w = .ok (.int .u8 (bt s.toList k)) w := fun w => idx s k (by omega) w
      have gF : ∀ w, (Instr.index 9 (.string ⟨#[48, 48, 48, 48, 45, 48, 48, 45, 48, 48, 84, 48, 48, 58, 48, 48, 58, 48, 48]⟩) (.int .i64 (k : Int))).run Tryz.prog w = .ok (.int .u8 (bt stampForm k)) w := fun w => by
        have := idx (S stampForm) k (by rw [S_size]; exact hlt) w
        rw [S_toList] at this; exact this
      clear hs
      by_cases f1 : bt stampForm k = 48
      · have f2 : (bt stampForm k != 48) = false := by simp [f1]
        have f3 : (bt stampForm k == 48) = true := by simp [f1]
        by_cases c1 : bt s.toList k < 48
        · have NB : Hid (¬ Stamped s.toList) := fun hh => by have := digit_of (hh.2.1 k hlt) f1; omega
          generalize bt s.toList k = c at gS c1 ⊢
          generalize bt stampForm k = f at gF f2 f3 ⊢
          clear f1
          go_wp2_with fail
          go_quiet (fail)
          go_wp2
          go_ret2
          exact ⟨stampAns_no NB.out, hg.drewN _⟩
        · by_cases c2 : 57 < bt s.toList k
          · have c1' : decide (bt s.toList k < 48) = false := by simpa using c1
            have NB : Hid (¬ Stamped s.toList) := fun hh => by have := digit_of (hh.2.1 k hlt) f1; omega
            generalize bt s.toList k = c at gS c1 c1' c2 ⊢
            generalize bt stampForm k = f at gF f2 f3 ⊢
            clear f1
            go_wp2_with fail
            go_quiet (fail)
            go_wp2
            go_ret2
            exact ⟨stampAns_no NB.out, hg.drewN _⟩
          · have c1' : decide (bt s.toList k < 48) = false := by simpa using c1
            have c2' : decide (57 < bt s.toList k) = false := by simpa using c2
            have FK := Lib.hid (fits_digit f1 c1 c2)
            clear f1
            generalize bt s.toList k = c at gS c1 c1' c2 c2' ⊢
            generalize bt stampForm k = f at gF f2 f3 ⊢
            go_wp2_with fail
            go_quiet (fail)
            go_wp2
            go_roundw
            case rel => exact ⟨k + 1, by omega, all_succ HA.out FK.out, by go_num, hg.drewN _, hc⟩
            case measure => simp [intOf]; omega
      · have f2 : (bt stampForm k != 48) = true := by simp [f1]
        have f3 : (bt stampForm k == 48) = false := by simp [f1]
        by_cases c1 : bt s.toList k = bt stampForm k
        · have c1' : (bt s.toList k != bt stampForm k) = false := by simp [c1]
          have FK := Lib.hid (fits_sign f1 c1)
          clear f1 c1
          generalize bt s.toList k = c at gS c1' ⊢
          generalize bt stampForm k = f at gF f2 f3 c1' ⊢
          go_wp2_with fail
          go_quiet (fail)
          go_wp2
          go_roundw
          case rel => exact ⟨k + 1, by omega, all_succ HA.out FK.out, by go_num, hg.drewN _, hc⟩
          case measure => simp [intOf]; omega
        · have c1' : (bt s.toList k != bt stampForm k) = true := by simp [c1]
          have NB : Hid (¬ Stamped s.toList) := fun hh => c1 (sign_of (hh.2.1 k hlt) f1)
          clear f1 c1
          generalize bt s.toList k = c at gS c1' ⊢
          generalize bt stampForm k = f at gF f2 f3 c1' ⊢
          go_wp2_with fail
          go_quiet (fail)
          go_wp2
          go_ret2
          exact ⟨stampAns_no NB.out, hg.drewN _⟩
    · obtain rfl : k = 19 := by omega
      have FA := HA
      have s1 : s.size ≤ 1000 := by omega
      have s2 : 19 ≤ s.size := by omega
      have e1 : 0 + 4 ≤ s.size := by omega
      have e2 : 5 + 2 ≤ s.size := by omega
      have e3 : 8 + 2 ≤ s.size := by omega
      have e4 : 11 + 2 ≤ s.size := by omega
      have e5 : 14 + 2 ≤ s.size := by omega
      have e6 : 17 + 2 ≤ s.size := by omega
      have N0 := numv_bd s.toList 0 4 (digits_in FA.out 0 4 (by omega) form0) 4 (by omega)
      have N5 := numv_bd s.toList 5 2 (digits_in FA.out 5 2 (by omega) form5) 2 (by omega)
      have N8 := numv_bd s.toList 8 2 (digits_in FA.out 8 2 (by omega) form8) 2 (by omega)
      have N11 := numv_bd s.toList 11 2 (digits_in FA.out 11 2 (by omega) form11) 2 (by omega)
      have N14 := numv_bd s.toList 14 2 (digits_in FA.out 14 2 (by omega) form14) 2 (by omega)
      have N17 := numv_bd s.toList 17 2 (digits_in FA.out 17 2 (by omega) form17) 2 (by omega)
      have A0 := Lib.hid (stampAtZ s b 0 4 0 4 rfl rfl s1 e1 (by omega) (digits_in FA.out 0 4 (by omega) form0))
      have A5 := Lib.hid (stampAtZ s b 5 2 5 2 rfl rfl s1 e2 (by omega) (digits_in FA.out 5 2 (by omega) form5))
      have A8 := Lib.hid (stampAtZ s b 8 2 8 2 rfl rfl s1 e3 (by omega) (digits_in FA.out 8 2 (by omega) form8))
      have A11 := Lib.hid (stampAtZ s b 11 2 11 2 rfl rfl s1 e4 (by omega) (digits_in FA.out 11 2 (by omega) form11))
      have A14 := Lib.hid (stampAtZ s b 14 2 14 2 rfl rfl s1 e5 (by omega) (digits_in FA.out 14 2 (by omega) form14))
      have A17 := Lib.hid (stampAtZ s b 17 2 17 2 rfl rfl s1 e6 (by omega) (digits_in FA.out 17 2 (by omega) form17))
      have SY : Hid (∀ (_ : Cal.Valid (numv s.toList 0 4) (numv s.toList 5 2) (numv s.toList 8 2)) (_ : numv s.toList 11 2 ≤ 23) (_ : numv s.toList 14 2 ≤ 59) (_ : numv s.toList 17 2 ≤ 59), two (stampV s.toList) 0 = stampAns s.toList) :=
        fun a b c d => stampAns_yes ⟨HL.out, FA.out, a, b, c, d⟩
      have SN : Hid (¬ (Cal.Valid (numv s.toList 0 4) (numv s.toList 5 2) (numv s.toList 8 2) ∧ numv s.toList 11 2 ≤ 23 ∧ numv s.toList 14 2 ≤ 59 ∧ numv s.toList 17 2 ≤ 59) → two 0 3 = stampAns s.toList) :=
        fun hn => stampAns_no fun hh => hn hh.2.2
      have SV : Hid (stampV s.toList = 86400 * Cal.days (numv s.toList 0 4) (numv s.toList 5 2) (numv s.toList 8 2) + 3600 * numv s.toList 11 2 + 60 * numv s.toList 14 2 + numv s.toList 17 2) := by simp [Hid, stampV]
      generalize numv s.toList 0 4 = yy at N0 A0 SY SN SV
      generalize numv s.toList 5 2 = mm at N5 A5 SY SN SV
      generalize numv s.toList 8 2 = dd at N8 A8 SY SN SV
      generalize numv s.toList 11 2 = ho at N11 A11 SY SN SV
      generalize numv s.toList 14 2 = mi at N14 A14 SY SN SV
      generalize numv s.toList 17 2 = se at N17 A17 SY SN SV
      have n01 := N0.1
      have n02 : yy < 10000 := by have := N0.2; omega
      clear N0
      have n51 := N5.1
      have n52 : mm < 100 := by have := N5.2; omega
      clear N5
      have n81 := N8.1
      have n82 : dd < 100 := by have := N8.2; omega
      clear N8
      have n111 := N11.1
      have n112 : ho < 100 := by have := N11.2; omega
      clear N11
      have n141 := N14.1
      have n142 : mi < 100 := by have := N14.2; omega
      clear N14
      have n171 := N17.1
      have n172 : se < 100 := by have := N17.2; omega
      clear N17
      clear hs e1 e2 e3 e4 e5 e6
      go_wp2_with fail
      refine (A0.out wr hc).mono ?_
      rintro e w2 ⟨rfl, hg2⟩
      have hc2 := hg2.holds hc
      go_wp2_with fail
      refine (A5.out w2 hc2).mono ?_
      rintro e w3 ⟨rfl, hg3⟩
      have hc3 := hg3.holds hc2
      go_wp2_with fail
      refine (A8.out w3 hc3).mono ?_
      rintro e w4 ⟨rfl, hg4⟩
      have hc4 := hg4.holds hc3
      have hg14 := ((hg.trans hg2).trans hg3).trans hg4
      clear hg hg2 hg3 hg4 hc hc2 hc3
      go_wp2_with fail
      by_cases hv : Cal.Valid yy mm dd
      · have db := Cal.days_bd hv
        obtain ⟨db1, db2⟩ := db
        refine (rdays_yes yy mm dd w4 hv).mono ?_
        rintro e w5 ⟨rfl, hg5⟩
        have hc5 := hg5.holds hc4
        have hg15 := hg14.trans hg5
        clear hg14 hg5 hc4
        go_wp2_with fail
        refine (A11.out w5 hc5).mono ?_
        rintro e w6 ⟨rfl, hg6⟩
        have hc6 := hg6.holds hc5
        have hg16 := hg15.trans hg6
        clear hg15 hg6 hc5
        by_cases h23 : 23 < ho
        · go_wp2_with fail
          go_ret2
          exact ⟨SN.out (by omega), hg16⟩
        · have h23' : decide (23 < ho) = false := by simpa using h23
          go_wp2_with fail
          refine (A14.out w6 hc6).mono ?_
          rintro e w7 ⟨rfl, hg7⟩
          have hc7 := hg7.holds hc6
          have hg17 := hg16.trans hg7
          clear hg16 hg7 hc6
          by_cases h59 : 59 < mi
          · go_wp2_with fail
            go_ret2
            exact ⟨SN.out (by omega), hg17⟩
          · have h59' : decide (59 < mi) = false := by simpa using h59
            go_wp2_with fail
            refine (A17.out w7 hc7).mono ?_
            rintro e w8 ⟨rfl, hg8⟩
            have hc8 := hg8.holds hc7
            have hg18 := hg17.trans hg8
            clear hg17 hg8 hc7
            by_cases hse : 59 < se
            · go_wp2_with fail
              go_ret2
              exact ⟨SN.out (by omega), hg18⟩
            · have hse' : decide (59 < se) = false := by simpa using hse
              have E := Lib.hid (SY.out hv (by omega) (by omega) (by omega))
              clear SY SN hv
              generalize Cal.days yy mm dd = q at db1 db2 SV ⊢
              go_wp2_with fail
              refine (A11.out w8 hc8).mono ?_
              rintro e w9 ⟨rfl, hg9⟩
              have hc9 := hg9.holds hc8
              go_wp2_with fail
              refine (A14.out w9 hc9).mono ?_
              rintro e w10 ⟨rfl, hg10⟩
              have hc10 := hg10.holds hc9
              go_wp2_with fail
              refine (A17.out w10 hc10).mono ?_
              rintro e w11 ⟨rfl, hg11⟩
              go_wp2_with fail
              go_ret2
              exact ⟨(two_eq SV.out.symm rfl).trans E.out, ((hg18.trans hg9).trans hg10).trans hg11⟩
      · refine (rdays_no yy mm dd w4 hv).mono ?_
        rintro e w5 ⟨rfl, hg5⟩
        go_wp2_with fail
        go_ret2
        exact ⟨SN.out (fun hh => hv hh.1), hg14.trans hg5⟩

set_option maxHeartbeats 400000 in
theorem rstampRead_short (s : ByteArray) (w : World) (hs : ¬ s.size = 19) (hm : s.size ≤ maxLen) (hl : ¬ s.toList.length = 19) :
    Calls Tryz.prog 16 #[.string s] w fun e w' => e = stampAns s.toList ∧ Gr w w' := by
  unfold maxLen at hm
  have N := Lib.hid (stampAns_no (l := s.toList) fun hh => hl hh.1)
  have t : ((s.size : Int) != 19) = true := by simp; omega
  clear hl
  go_enter Tryz.func16, Tryz.ntmps16
  go_wp2
  go_ret2
  exact ⟨N.out, Gr.alloc _ _⟩

theorem toList_length (s : ByteArray) : s.toList.length = s.size := by rw [ByteArray.toList_eq]; exact Array.length_toList
theorem rstampRead (s : ByteArray) (w : World) (hm : s.size ≤ maxLen) :
    Calls Tryz.prog 16 #[.string s] w fun e w' => e = stampAns s.toList ∧ Gr w w' := by
  by_cases h : s.size = 19
  · exact rstampRead_any s w h (by rw [toList_length]; exact h)
  · exact rstampRead_short s w h hm (by rw [toList_length]; exact h)
end Go.Proofs.YtkkilmmpmiichaaGreatDoor
