/- A region that draws its order and ends in a store: what it reads may be taken first, though the store turns what was read. No program in it. What the project's ReadStamp returns, for every input. What the project's ReadStamp returns, for every input: the walk. -/
import Derived.Deep.RegionHeld3
import Derived.Test.YtkkilmmpmiichaaGreatDoorYM10
import Derived.Test.YtkkilmmpmiichaaGreatDoorYM13
import Derived.Test.YtkkilmmpmiichaaGreatDoorYM02
namespace Go.Proofs.YtkkilmmpmiichaaGreatDoor
open Go
set_option linter.unusedVariables false
section
variable {P : Program} {ops : Array Oper} {Q : Exit → Act → World → Prop} {md : Region.Mode} {T : World → Prop} {k : Nat}
/-- the last one has come up, or the world is as it is tto be -/
def Till (k : Nat) (T : World → Prop) (L : Array Bool) (w : World) : Prop := L.getD k true = true ∨ T w
/-- whatever order is picked from here on; behind each operation, but the last one, T is so -/
def wpTill (P : Program) (md : Region.Mode) (ops : Array Oper) (Q : Exit → Act → World → Prop) (k : Nat) (T : World → Prop) : Nat → Array Bool → Act → World → Prop
  | 0, L, a, w => Region.ready md ops L = [] ∧ Q .normal a w
  | n + 1, L, a, w => (Region.ready md ops L = [] → Q .normal a w) ∧
    ∀ i ∈ Region.ready md ops L, wpOp P ops Q i (fun a' w' => Till k T (L.setIfInBounds i true) w' ∧ wpTill P md ops Q k T n (L.setIfInBounds i true) a' w') a w
theorem till_any : ∀ (n : Nat) (L : Array Bool) (a : Act) (w : World), wpTill P md ops Q k T n L a w → wpAny P md ops Q n L a w
  | 0, _, _, _, h => h
  | n + 1, _, _, _, h => ⟨h.1, fun i hi => wpOp_mono (fun a' w' q => till_any n _ a' w' q.2) (h.2 i hi)⟩
/-- does the last one wait for i? -/
def waits (md : Region.Mode) (ops : Array Oper) (k i : Nat) : Bool := match ops[k]? with
  | some o => o.after.any fun e => Region.binds md e && e.on == i
  | none => false
theorem till_first {i : Nat} {oi : Oper} {v : Value} (hi : ops[i]? = some oi) (hsel : ∀ (j : Nat) (o : Oper) cs b, ops[j]? = some o → o.op ≠ .select cs b)
    (hQ : ∀ c a w, Q (.panic c) (a.put oi.dst v) w → Q (.panic c) a w) (hki : k ≠ i) (hw : waits md ops k i = true) :
    ∀ (n : Nat) (L : Array Bool) (a : Act) (w : World), L.getD k true = false →
      (∀ j oj, ops[j]? = some oj → j ≠ i → L.getD j true = false → (∀ e ∈ oj.after, Region.binds md e = true → e.on ≠ i) → oi.apart ops oj = true) →
      i ∈ Region.ready md ops L → YieldsIf P ops T oi v a → T w →
      wpTill P md ops Q k T n (L.setIfInBounds i true) (a.put oi.dst v) w → wpTill P md ops Q k T (n + 1) L a w := by
  intro n
  induction n with
  | zero =>
    intro L a w hk _ hr hy hT H
    refine ⟨fun h => (by rw [h] at hr; cases hr), fun j hj => ?_⟩
    by_cases hji : j = i
    · subst hji; exact hy.wpOp hi hT ⟨Or.inr hT, H⟩
    · have := ready_mono hj hji
      rw [H.1] at this
      cases this
  | succ n ih =>
    intro L a w hk hfree hr hy hT H
    refine ⟨fun h => (by rw [h] at hr; cases hr), fun j hj => ?_⟩
    by_cases hji : j = i
    · subst hji; exact hy.wpOp hi hT ⟨Or.inr hT, H⟩
    · have h1 := H.2 j (ready_mono hj hji)
      obtain ⟨hjun, oj, hoj, hall⟩ := mem_ready.1 hj
      have hnot : ∀ e ∈ oj.after, Region.binds md e = true → e.on ≠ i := fun e he hb heq => by
        have g1 := hall e he hb
        have g0 := (mem_ready.1 hr).1
        rw [heq] at g1
        rcases Nat.lt_or_ge i L.size with h' | h'
        · simp [h'] at g0 g1; rw [g0] at g1; cases g1
        · simp [Array.getElem?_eq_none h'] at g1
      have hjk : j ≠ k := fun e => by
        subst e
        unfold waits at hw
        rw [hoj] at hw
        simp only [Array.any_eq_true', Bool.and_eq_true, beq_iff_eq] at hw
        obtain ⟨e, he, hb, ho⟩ := hw
        exact hnot e he hb ho
      have hk' : (L.setIfInBounds j true).getD k true = false := by rw [getD_set_ne true hjk]; exact hk
      have hk2 : ((L.setIfInBounds i true).setIfInBounds j true).getD k true = false := by rw [getD_set_ne true hjk, getD_set_ne true (Ne.symm hki)]; exact hk
      have h1' := wpOp_mono (K' := fun a' w' => T w' ∧ wpTill P md ops Q k T n ((L.setIfInBounds i true).setIfInBounds j true) a' w') (fun a' w' q => ⟨q.1.resolve_left (by rw [hk2]; simp), q.2⟩) h1
      have h2 := wpOp_putIf hoj (hfree j oj hoj hji hjun hnot) (fun cs b => hsel i oi cs b hi) (fun cs b => hsel j oj cs b hoj) hQ hy h1'
      have hfree' : ∀ m om, ops[m]? = some om → m ≠ i → (L.setIfInBounds j true).getD m true = false → (∀ e ∈ om.after, Region.binds md e = true → e.on ≠ i) → oi.apart ops om = true := fun m om hm hmi hun hno => by
        refine hfree m om hm hmi ?_ hno
        by_cases hjm : j = m
        · subst hjm; exact hjun
        · rw [getD_set_ne true hjm] at hun; exact hun
      refine wpOp_mono (fun a' w' h3 => ⟨Or.inr h3.2.1, ih (L.setIfInBounds j true) a' w' hk' hfree' (ready_mono hr (Ne.symm hji)) h3.1 h3.2.1 ?_⟩) h2
      rw [Array.setIfInBounds_comm _ _ hji]
      exact h3.2.2
/-- take number i first -/
theorem till_take {i : Nat} {oi : Oper} {v : Value} {n : Nat} {L : Array Bool} {a : Act} {w : World} (hi : ops[i]? = some oi) (hs : Region.noSelect ops = true) (hf : Region.free md ops L i = true) (hr : (Region.ready md ops L).contains i = true)
    (hki : (L.getD k true == false && k != i && waits md ops k i) = true) (hQ : ∀ c a w, Q (.panic c) (a.put oi.dst v) w → Q (.panic c) a w) (hy : YieldsIf P ops T oi v a) (hT : T w)
    (h : wpTill P md ops Q k T n (L.setIfInBounds i true) (a.put oi.dst v) w) : wpTill P md ops Q k T (n + 1) L a w := by
  simp only [Bool.and_eq_true, bne_iff_ne, beq_iff_eq] at hki
  exact till_first hi (Region.noSelect_spec hs) hQ hki.1.2 hki.2 n L a w hki.1.1 (Region.free_spec hi hf) (by simpa using hr) hy hT h
/-- one of those that may come up comes up; the step is handed over behind a letter -/
theorem till_one {i : Nat} {o : Oper} {n : Nat} {L : Array Bool} {a : Act} {w : World} (hr : Region.ready md ops L = [i]) (ho : ops[i]? = some o)
    (h : ∀ K' : Act → World → Prop, Shut (∀ a w, Till k T (L.setIfInBounds i true) w → wpTill P md ops Q k T n (L.setIfInBounds i true) a w → K' a w) → if Region.wanted o (yielded ops a.tmps) = true then Oper.wp P o a w K' Q else K' (a.put o.dst undef) w) :
    wpTill P md ops Q k T (n + 1) L a w :=
  ⟨(fun h0 => by rw [hr] at h0; cases h0), fun j hj => by
    rw [hr] at hj
    obtain rfl : j = i := by simpa using hj
    exact wpOp_step ho (fun K' hK => h K' (fun a w hS hW => hK a w ⟨hS, hW⟩))⟩
/-- one of two comes up -/
theorem till_two {i j : Nat} {o o' : Oper} {n : Nat} {L : Array Bool} {a : Act} {w : World} (hr : Region.ready md ops L = [i, j]) (ho : ops[i]? = some o) (ho' : ops[j]? = some o')
    (h : ∀ K' : Act → World → Prop, Shut (∀ a w, Till k T (L.setIfInBounds i true) w → wpTill P md ops Q k T n (L.setIfInBounds i true) a w → K' a w) → if Region.wanted o (yielded ops a.tmps) = true then Oper.wp P o a w K' Q else K' (a.put o.dst undef) w)
    (h' : ∀ K' : Act → World → Prop, Shut (∀ a w, Till k T (L.setIfInBounds j true) w → wpTill P md ops Q k T n (L.setIfInBounds j true) a w → K' a w) → if Region.wanted o' (yielded ops a.tmps) = true then Oper.wp P o' a w K' Q else K' (a.put o'.dst undef) w) :
    wpTill P md ops Q k T (n + 1) L a w :=
  ⟨(fun h0 => by rw [hr] at h0; cases h0), fun m hm => by
    rw [hr] at hm
    have hm' : m = i ∨ m = j := by simpa using hm
    rcases hm' with rfl | rfl
    · exact wpOp_step ho (fun K' hK => h K' (fun a w hS hW => hK a w ⟨hS, hW⟩))
    · exact wpOp_step ho' (fun K' hK => h' K' (fun a w hS hW => hK a w ⟨hS, hW⟩))⟩
/-- all have come up -/
theorem till_done {L : Array Bool} {a : Act} {w : World} (hr : Region.ready md ops L = []) (h : Q .normal a w) : ∀ n, wpTill P md ops Q k T n L a w
  | 0 => ⟨hr, h⟩
  | _ + 1 => ⟨fun _ => h, by rw [hr]; simp⟩
/-- the beginning -/
theorem till_start {id : Nat} {a : Act} {w : World} (k : Nat) (T : World → Prop) (hm : P.follows .mixedOrders = true) (hT : T w.drew)
    (h : T w.drew → wpTill P .any ops Q k T ops.size (Array.replicate ops.size false) a w.drew) : (Code.region id ops true).wp P Q a w :=
  wp_region_any hm (till_any _ _ _ _ (h hT))
end
end Go.Proofs.YtkkilmmpmiichaaGreatDoor
namespace Go.Proofs.YtkkilmmpmiichaaGreatDoor
set_option linter.unusedVariables false
set_option linter.unusedSimpArgs false
open Go.RowKit
/-- does the text have the form of a timestamp? -/
def formed (l : List UInt8) : Prop := l.length = 19 ∧ ∀ j, j < 19 → fits l j
open Classical in
noncomputable def formB (l : List UInt8) : Bool := decide (formed l)
theorem form_yes {l : List UInt8} (h : formed l) : true = formB l := by unfold formB; simp [h]
theorem form_no {l : List UInt8} (h : ¬ formed l) : false = formB l := by unfold formB; simp [h]

set_option maxHeartbeats 2000000 in
theorem hasForm_19 (s : ByteArray) (w : World) (hs : s.size = 19) :
    Calls Tryz.prog 122 #[.string s] w fun e w' => e = .returned (.bool (formB s.toList)) ∧ Gr w w' := by
  have HS := Lib.hid hs
  have HL : Hid (s.toList.length = 19) := by unfold Hid; rw [toList_len]; exact hs
  go_enter Tryz.func122, Tryz.ntmps122
  go_wp2
  go_loopw [9] (fun i wr => ∃ k : Nat, k ≤ 19 ∧ (∀ j, j < k → fits s.toList j) ∧ i = .int .i64 k ∧ Gr w wr) (fun i _ => 19 - (intOf i).toNat)
  case atStart => exact ⟨0, Nat.zero_le _, fun j hj => absurd hj (by omega), rfl, by first | exact Gr.refl _ | exact (Gr.refl _).drewN _⟩
  case round =>
    obtain ⟨k, hk, hall, rfl, hg⟩ := hrel
    have HA := Lib.hid hall
    clear hall
    by_cases hlt : k < 19
    · have gS : ∀ w, (Instr.index 9 (.string s) (.int .i64 (k : Int))).run Tryz.prog w = .ok (.int .u8 (bt s.toList k)) w := fun w => idx s k (by omega) w
      have gF : ∀ w, (Instr.index 9 (.string ⟨#[48, 48, 48, 48, 45, 48, 48, 45, 48, 48, 84, 48, 48, 58, 48, 48, 58, 48, 48]⟩) (.int .i64 (k : Int))).run Tryz.prog w = .ok (.int .u8 (bt stampForm k)) w := fun w => by
        have := idx (S stampForm) k (by rw [S_size]; exact hlt) w
        rw [S_toList] at this; exact this
      clear hs
      by_cases f1 : bt stampForm k = 48
      · have f2 : (bt stampForm k != 48) = false := by simp [f1]
        have f3 : (bt stampForm k == 48) = true := by simp [f1]
        have cb := bt_bd s.toList k
        have I := fun w => isDigit_any (bt s.toList k) w cb.1 cb.2
        by_cases c : 48 ≤ bt s.toList k ∧ bt s.toList k ≤ 57
        · have D : decide (48 ≤ bt s.toList k ∧ bt s.toList k ≤ 57) = true := by simp; omega
          rw [D] at I
          have I' := Lib.hid I
          have FIT : Hid (∀ j, j < k + 1 → fits s.toList j) := all_succ2 HA.out (fits_digit f1 (by omega) (by omega))
          clear c D I cb f1
          generalize bt s.toList k = c at gS I' ⊢
          generalize bt stampForm k = f at gF f2 f3 ⊢
          go_wp2_with fail
          go_quiet (fail)
          go_wp2_with fail
          refine (I'.out _).mono ?_
          rintro e w2 ⟨rfl, hg2⟩
          go_wp2_with fail
          go_roundw
          case rel => exact ⟨k + 1, by omega, FIT.out, by go_num, (hg.drewN _).trans hg2⟩
          case measure => simp [intOf]; omega
        · have D : decide (48 ≤ bt s.toList k ∧ bt s.toList k ≤ 57) = false := by simp; omega
          rw [D] at I
          have I' := Lib.hid I
          have NB : Hid (¬ formed s.toList) := fun hh => c (digit_of (hh.2 k hlt) f1)
          clear c D I cb f1
          generalize bt s.toList k = c at gS I' ⊢
          generalize bt stampForm k = f at gF f2 f3 ⊢
          go_wp2_with fail
          go_quiet (fail)
          go_wp2_with fail
          refine (I'.out _).mono ?_
          rintro e w2 ⟨rfl, hg2⟩
          go_wp2_with fail
          go_ret
          exact ⟨ret_bool (form_no NB.out), (hg.drewN _).trans hg2⟩
      · have f2 : (bt stampForm k != 48) = true := by simp [f1]
        have f3 : (bt stampForm k == 48) = false := by simp [f1]
        by_cases c : bt s.toList k = bt stampForm k
        · have c' : (bt s.toList k != bt stampForm k) = false := by simp [c]
          have FIT : Hid (∀ j, j < k + 1 → fits s.toList j) := all_succ2 HA.out (fits_sign f1 c)
          clear c f1
          generalize bt s.toList k = c at gS c' ⊢
          generalize bt stampForm k = f at gF f2 f3 c' ⊢
          go_wp2_with fail
          go_quiet (fail)
          go_wp2
          go_roundw
          case rel => exact ⟨k + 1, by omega, FIT.out, by go_num, by first | exact hg.drewN _ | exact (hg.drewN _).drewN _⟩
          case measure => simp [intOf]; omega
        · have c' : (bt s.toList k != bt stampForm k) = true := by simp [c]
          have NB : Hid (¬ formed s.toList) := fun hh => c (sign_of (hh.2 k hlt) f1)
          clear c f1
          generalize bt s.toList k = c at gS c' ⊢
          generalize bt stampForm k = f at gF f2 f3 c' ⊢
          go_wp2_with fail
          go_quiet (fail)
          go_wp2
          go_ret
          exact ⟨ret_bool (form_no NB.out), by first | exact hg.drewN _ | exact (hg.drewN _).drewN _⟩
    · obtain rfl : k = 19 := by omega
      have OK : Hid (formed s.toList) := ⟨HL.out, HA.out⟩
      clear hs
      go_wp2
      go_ret
      exact ⟨ret_bool (form_yes OK.out), hg⟩

set_option maxHeartbeats 400000 in
theorem hasForm_other (s : ByteArray) (w : World) (hs : ¬ s.size = 19) (hm : s.size ≤ maxLen) :
    Calls Tryz.prog 122 #[.string s] w fun e w' => e = .returned (.bool (formB s.toList)) ∧ Gr w w' := by
  unfold maxLen at hm
  have NB : Hid (¬ formed s.toList) := fun hh => hs (by rw [← toList_len]; exact hh.1)
  have t : ((s.size : Int) != 19) = true := by simp; omega
  go_enter Tryz.func122, Tryz.ntmps122
  go_wp2
  go_ret
  exact ⟨ret_bool (form_no NB.out), Gr.refl _⟩

theorem hasForm_any (s : ByteArray) (w : World) (hm : s.size ≤ maxLen) :
    Calls Tryz.prog 122 #[.string s] w fun e w' => e = .returned (.bool (formB s.toList)) ∧ Gr w w' := by
  by_cases h : s.size = 19
  · exact hasForm_19 s w h
  · exact hasForm_other s w h hm

theorem numv_extract (s : ByteArray) (i n : Nat) (h : i + n ≤ s.size) : ∀ k, k ≤ n → numv (s.extract i (i + n)).toList 0 k = numv s.toList i k := by
  intro k
  induction k with
  | zero => intro _; rfl
  | succ k ih =>
    intro hk
    unfold numv
    rw [ih (by omega), Nat.zero_add, bt_extract s i n k h (by omega)]

set_option maxHeartbeats 400000 in
theorem part_any (s : ByteArray) (b i n : Nat) (iz jz : Int) (hi : (i : Int) = iz) (hj : ((i + n : Nat) : Int) = jz) (w : World) (hs : s.size ≤ 1000) (hc : w.cell? ⟨b, 0, none⟩ = some (.string s)) (h : i + n ≤ s.size) (h1 : 1 ≤ n) (hn : n ≤ 4) (hd : ∀ j, j < n → 48 ≤ bt s.toList (i + j) ∧ bt s.toList (i + j) ≤ 57) :
    Calls Tryz.prog 123 #[.int .i64 iz, .int .i64 jz, .pointer (some ⟨b, 0, none⟩)] w fun e w' => e = .returned (.int .i64 (numv s.toList i n)) ∧ Gr w w' := by
  have hx := size_extract s i n h
  have ok : okN (s.extract i (i + n)).toList := by
    refine ⟨by rw [toList_len, hx]; exact h1, by rw [toList_len, hx]; exact hn, fun j hj => ?_⟩
    rw [toList_len, hx] at hj
    rw [bt_extract s i n j h hj]; exact hd j hj
  have K := fun w => number_any (s.extract i (i + n)) w (by rw [hx]; unfold maxLen; omega)
  rw [nv_yes ok, nok_yes ok, toList_len, hx, numv_extract s i n h n (Nat.le_refl _)] at K
  subst hi hj
  generalize numv s.toList i n = x at K ⊢
  have K' := Lib.hid K
  clear K ok hx hd
  have c1 : (0 : Int) ≤ ↑i := by omega
  have c2 : (↑i : Int) ≤ ↑(i + n) := by omega
  have c3 : (↑(i + n) : Int) ≤ ↑s.size := by omega
  go_enter Tryz.func123, Tryz.ntmps123
  go_wp2_with fail
  refine (K'.out w).mono ?_
  rintro e w2 ⟨rfl, hg2⟩
  go_wp2_with fail
  go_ret
  exact ⟨rfl, hg2⟩
end Go.Proofs.YtkkilmmpmiichaaGreatDoor
namespace Go.Proofs.YtkkilmmpmiichaaGreatDoor
set_option linter.unusedVariables false
set_option linter.unusedSimpArgs false
open Go.RowKit
set_option maxRecDepth 100000 in
set_option maxHeartbeats 4000000 in
theorem readStamp_formed (s : ByteArray) (w : World) (hl : HasLen w) (hf : formed s.toList) :
    Calls Tryz.prog 93 #[.string s] w fun e w' => e = stampAns s.toList ∧ Gr w w' := by
  have hs : s.size = 19 := by rw [← toList_len]; exact hf.1
  have HL : Hid (s.toList.length = 19) := hf.1
  have FA := Lib.hid hf.2
  have HF := Lib.hid (form_yes hf)
  have s1 : s.size ≤ 1000 := by omega
  have e1 : 0 + 4 ≤ s.size := by omega
  have e2 : 5 + 2 ≤ s.size := by omega
  have e3 : 8 + 2 ≤ s.size := by omega
  have e4 : 11 + 2 ≤ s.size := by omega
  have e5 : 14 + 2 ≤ s.size := by omega
  have e6 : 17 + 2 ≤ s.size := by omega
  have N0 := numv_bd s.toList 0 4 (digits_in FA.out 0 4 (by omega) form0) 4 (by omega)
  have N5 := numv_bd s.toList 5 2 (digits_in FA.out 5 2 (by omega) form5) 2 (by omega)
  have N8 := numv_bd s.toList 8 2 (digits_in FA.out 8 2 (by omega) form8) 2 (by omega)
  have N11 := numv_bd s.toList 11 2 (digits_in FA.out 11 2 (by omega) form11) 2 (by omega)
  have N14 := numv_bd s.toList 14 2 (digits_in FA.out 14 2 (by omega) form14) 2 (by omega)
  have N17 := numv_bd s.toList 17 2 (digits_in FA.out 17 2 (by omega) form17) 2 (by omega)
  have A0 := Lib.hid (fun b w hc => part_any s b 0 4 0 4 rfl rfl w s1 hc e1 (by omega) (by omega) (digits_in FA.out 0 4 (by omega) form0))
  have A5 := Lib.hid (fun b w hc => part_any s b 5 2 5 7 rfl rfl w s1 hc e2 (by omega) (by omega) (digits_in FA.out 5 2 (by omega) form5))
  have A8 := Lib.hid (fun b w hc => part_any s b 8 2 8 10 rfl rfl w s1 hc e3 (by omega) (by omega) (digits_in FA.out 8 2 (by omega) form8))
  have A11 := Lib.hid (fun b w hc => part_any s b 11 2 11 13 rfl rfl w s1 hc e4 (by omega) (by omega) (digits_in FA.out 11 2 (by omega) form11))
  have A14 := Lib.hid (fun b w hc => part_any s b 14 2 14 16 rfl rfl w s1 hc e5 (by omega) (by omega) (digits_in FA.out 14 2 (by omega) form14))
  have A17 := Lib.hid (fun b w hc => part_any s b 17 2 17 19 rfl rfl w s1 hc e6 (by omega) (by omega) (digits_in FA.out 17 2 (by omega) form17))
  have SY : Hid (∀ (_ : Cal.Valid (numv s.toList 0 4) (numv s.toList 5 2) (numv s.toList 8 2)) (_ : numv s.toList 11 2 ≤ 23) (_ : numv s.toList 14 2 ≤ 59) (_ : numv s.toList 17 2 ≤ 59), two (stampV s.toList) 0 = stampAns s.toList) :=
    fun a b c d => stampAns_yes ⟨HL.out, FA.out, a, b, c, d⟩
  have SN : Hid (¬ (Cal.Valid (numv s.toList 0 4) (numv s.toList 5 2) (numv s.toList 8 2) ∧ numv s.toList 11 2 ≤ 23 ∧ numv s.toList 14 2 ≤ 59 ∧ numv s.toList 17 2 ≤ 59) → two 0 3 = stampAns s.toList) :=
    fun hn => stampAns_no fun hh => hn hh.2.2
  have SV : Hid (stampV s.toList = 86400 * Cal.days (numv s.toList 0 4) (numv s.toList 5 2) (numv s.toList 8 2) + 3600 * numv s.toList 11 2 + 60 * numv s.toList 14 2 + numv s.toList 17 2) := by simp [Hid, stampV]
  have HB := Lib.hid (fun w => hasForm_19 s w hs)
  generalize numv s.toList 0 4 = yy at N0 A0 SY SN SV
  generalize numv s.toList 5 2 = mm at N5 A5 SY SN SV
  generalize numv s.toList 8 2 = dd at N8 A8 SY SN SV
  generalize numv s.toList 11 2 = ho at N11 A11 SY SN SV
  generalize numv s.toList 14 2 = mi at N14 A14 SY SN SV
  generalize numv s.toList 17 2 = se at N17 A17 SY SN SV
  have n01 := N0.1
  have n02 : yy < 10000 := by have := N0.2; omega
  clear N0
  have n51 := N5.1
  have n52 : mm < 100 := by have := N5.2; omega
  clear N5
  have n81 := N8.1
  have n82 : dd < 100 := by have := N8.2; omega
  clear N8
  have n111 := N11.1
  have n112 : ho < 100 := by have := N11.2; omega
  clear N11
  have n141 := N14.1
  have n142 : mi < 100 := by have := N14.2; omega
  clear N14
  have n171 := N17.1
  have n172 : se < 100 := by have := N17.2; omega
  clear N17
  clear hs e1 e2 e3 e4 e5 e6 hf s1 FA HL
  rw [← HF.out] at HB
  clear HF
  have hc0 : (w.alloc (.cells #[.string s] 9)).cell? ⟨w.heap.size, 0, none⟩ = some (.string s) := by rw [World.cell?_alloc_new]; rfl
  have hg0 := Gr.alloc w (.cells #[.string s] 9)
  have HLEN := Lib.hid hl
  clear hl
  go_enter Tryz.func93, Tryz.ntmps93
  go_wp2_with fail
  generalize w.alloc (.cells #[.string s] 9) = w1 at hc0 hg0 ⊢
  generalize w.heap.size = b at hc0 ⊢
  refine (HB.out w1).mono ?_
  rintro e w2 ⟨rfl, hg2⟩
  have hc2 := hg2.holds hc0
  have hg12 := hg0.trans hg2
  clear hc0 hg0 hg2 HB
  go_wp2_with fail
  refine (A0.out b w2 hc2).mono ?_
  rintro e w3 ⟨rfl, hg3⟩
  have hc3 := hg3.holds hc2
  have hg13 := hg12.trans hg3
  clear hg12 hg3 hc2
  go_wp2_with fail
  refine (A5.out b w3 hc3).mono ?_
  rintro e w4 ⟨rfl, hg4⟩
  have hc4 := hg4.holds hc3
  have hg14 := hg13.trans hg4
  clear hg13 hg4 hc3
  go_wp2_with fail
  refine (A8.out b w4 hc4).mono ?_
  rintro e w5 ⟨rfl, hg5⟩
  have hc5 := hg5.holds hc4
  have hg15 := hg14.trans hg5
  clear hg14 hg5 hc4
  go_wp2_with fail
  by_cases hv : Cal.Valid yy mm dd
  · have db := Cal.days_bd hv
    obtain ⟨db1, db2⟩ := db
    refine (days_yes yy mm dd w5 (hg15.len HLEN.out) hv).mono ?_
    rintro e w6 ⟨rfl, rfl⟩
    go_wp2_with fail
    refine (A11.out b w5 hc5).mono ?_
    rintro e w7 ⟨rfl, hg7⟩
    have hc7 := hg7.holds hc5
    have hg17 := hg15.trans hg7
    clear hg15 hg7 hc5
    go_wp2_with fail
    refine (A14.out b w7 hc7).mono ?_
    rintro e w8 ⟨rfl, hg8⟩
    have hc8 := hg8.holds hc7
    have hg18 := hg17.trans hg8
    clear hg17 hg8 hc7
    go_wp2_with fail
    refine (A17.out b w8 hc8).mono ?_
    rintro e w9 ⟨rfl, hg9⟩
    have hg19 := hg18.trans hg9
    clear hg18 hg9 hc8
    by_cases h23 : 23 < ho
    · go_wp2_with fail
      go_ret2
      exact ⟨SN.out (by omega), hg19⟩
    · have h23' := ltF h23
      by_cases h59 : 59 < mi
      · go_wp2_with fail
        go_ret2
        exact ⟨SN.out (by omega), hg19⟩
      · have h59' := ltF h59
        by_cases hse : 59 < se
        · go_wp2_with fail
          go_ret2
          exact ⟨SN.out (by omega), hg19⟩
        · have hse' := ltF hse
          have E := Lib.hid (SY.out hv (by omega) (by omega) (by omega))
          clear SY SN hv
          generalize Cal.days yy mm dd = q at db1 db2 SV ⊢
          have EV : Hid (q * 86400 + ho * 3600 + mi * 60 + se = stampV s.toList) := by rw [SV.out]; unfold Hid; omega
          clear SV
          go_wp2_with fail
          go_ret2
          exact ⟨(two_eq EV.out rfl).trans E.out, hg19⟩
  · refine (days_no yy mm dd w5 (hg15.len HLEN.out) hv).mono ?_
    rintro e w6 ⟨rfl, rfl⟩
    go_wp2_with fail
    refine (A11.out b w5 hc5).mono ?_
    rintro e w7 ⟨rfl, hg7⟩
    have hc7 := hg7.holds hc5
    have hg17 := hg15.trans hg7
    clear hg15 hg7 hc5
    go_wp2_with fail
    refine (A14.out b w7 hc7).mono ?_
    rintro e w8 ⟨rfl, hg8⟩
    have hc8 := hg8.holds hc7
    have hg18 := hg17.trans hg8
    clear hg17 hg8 hc7
    go_wp2_with fail
    refine (A17.out b w8 hc8).mono ?_
    rintro e w9 ⟨rfl, hg9⟩
    go_wp2_with fail
    go_ret2
    exact ⟨SN.out (fun hh => hv hh.1), hg18.trans hg9⟩

set_option maxHeartbeats 400000 in
theorem readStamp_none (s : ByteArray) (w : World) (hm : s.size ≤ maxLen) (hf : ¬ formed s.toList) :
    Calls Tryz.prog 93 #[.string s] w fun e w' => e = stampAns s.toList ∧ Gr w w' := by
  have HB := fun w => hasForm_any s w hm
  rw [← form_no hf] at HB
  have HB' := Lib.hid HB
  have N := Lib.hid (stampAns_no (l := s.toList) fun hh => hf ⟨hh.1, hh.2.1⟩)
  clear HB hf
  have hg0 := Gr.alloc w (.cells #[.string s] 9)
  have hc0 : (w.alloc (.cells #[.string s] 9)).cell? ⟨w.heap.size, 0, none⟩ = some (.string s) := by rw [World.cell?_alloc_new]; rfl
  go_enter Tryz.func93, Tryz.ntmps93
  go_wp2_with fail
  generalize w.alloc (.cells #[.string s] 9) = w1 at hg0 hc0 ⊢
  refine (HB'.out w1).mono ?_
  rintro e w2 ⟨rfl, hg2⟩
  go_wp2_with fail
  go_ret2
  exact ⟨N.out, hg0.trans hg2⟩
theorem readStamp_any (s : ByteArray) (w : World) (hl : HasLen w) (hm : s.size ≤ maxLen) :
    Calls Tryz.prog 93 #[.string s] w fun e w' => e = stampAns s.toList ∧ Gr w w' := by
  by_cases h : formed s.toList
  · exact readStamp_formed s w hl h
  · exact readStamp_none s w hm h
end Go.Proofs.YtkkilmmpmiichaaGreatDoor
