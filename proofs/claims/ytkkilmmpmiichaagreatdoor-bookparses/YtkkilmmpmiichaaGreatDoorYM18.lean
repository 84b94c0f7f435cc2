/- What the reference's SpanRead returns, for every text that is not too long. -/
import Derived.Lib.SplitLaws
import Derived.Deep.QuietTactic
import Derived.BigQuiet
import Derived.Test.YtkkilmmpmiichaaGreatDoorYM01
import Derived.Test.YtkkilmmpmiichaaGreatDoorYM03
import Derived.Test.YtkkilmmpmiichaaGreatDoorYM16
namespace Go.Proofs.YtkkilmmpmiichaaGreatDoor
set_option linter.unusedVariables false
set_option linter.unusedSimpArgs false
open Go.RowKit
/-- the pieces of a text between its colons -/
def pieces (t : ByteArray) : List ByteArray := Lib.splitB ⟨#[58]⟩ 0 (Lib.countB t ⟨#[58]⟩) t
theorem pieces_len (t : ByteArray) : (pieces t).length = Lib.countB t ⟨#[58]⟩ + 1 := Lib.splitB_all ⟨#[58]⟩ (by decide) 0 _ t rfl
theorem pieces_pos (t : ByteArray) : 1 ≤ (pieces t).length := by rw [pieces_len]; omega

/-- what Split leaves -/
def Split (t : ByteArray) (w : World) (e : Ending) (w' : World) : Prop := ∃ g : Nat, e = .returned (.slice (some ⟨g, 0, none⟩) (pieces t).length (pieces t).length) ∧ Gr w w' ∧ ∀ j, j < (pieces t).length → w'.cell? ⟨g, j, none⟩ = some (.string ((pieces t).getD j ByteArray.empty))
theorem split_any (t : ByteArray) (m : Int) (w : World) (hs : t.size ≤ 1048576) (hm : w.cell? ⟨0, 0, none⟩ = some (.int .i64 m)) :
    Calls Tryz.prog 8 #[.string t, .string ⟨#[58]⟩] w (Split t w) := by
  refine (Tryz.strings_Split t ⟨#[58]⟩ m w (by omega) hm (by decide)).mono ?_
  rintro e w' ⟨rfl, rfl⟩
  refine ⟨w.heap.size, by rw [pieces_len], Gr.alloc _ _, fun j hj => ?_⟩
  rw [World.cell?_alloc_new]
  show ((pieces t).map Value.string).toArray[j]? = _
  simp [List.getD, List.getElem?_eq_getElem hj]
theorem prefix_any (s p : ByteArray) (w : World) :
    Calls Tryz.prog 14 #[.string s, .string p] w fun e w' => e = .returned (.bool (Lib.hasPrefix s.data.toList p.data.toList)) ∧ w = w' :=
  (Tryz.strings_HasPrefix s p w).mono fun _ _ ⟨he, hw⟩ => ⟨he, hw.symm⟩

/-- a piece that may stand at place k -/
def gp (k : Nat) (x : ByteArray) : Prop := (0 < k → x.size = 2) ∧ 1 ≤ x.size ∧ x.size ≤ 3 ∧ ∀ j, j < x.size → 48 ≤ bt x.toList j ∧ bt x.toList j ≤ 57
def wt : Nat → Int
  | 0 => 3600
  | 1 => 60
  | _ => 1
theorem wt_bd (k : Nat) : 1 ≤ wt k ∧ wt k ≤ 3600 := by
  unfold wt; split <;> omega
/-- what the first k pieces tell -/
def tot (ps : List ByteArray) : Nat → Int
  | 0 => 0
  | k + 1 => tot ps k + numv (ps.getD k ByteArray.empty).toList 0 (ps.getD k ByteArray.empty).size * wt k
theorem num_bd {x : ByteArray} (h : x.size ≤ 3) (hd : ∀ j, j < x.size → 48 ≤ bt x.toList j ∧ bt x.toList j ≤ 57) (k : Nat) (hk : k ≤ x.size) : 0 ≤ numv x.toList 0 k ∧ numv x.toList 0 k ≤ 999 := by
  have b := numv_bd x.toList 0 x.size (fun j hj => by simpa using hd j hj) k hk
  have p : (10 : Int) ^ k ≤ 1000 := by
    have : k = 0 ∨ k = 1 ∨ k = 2 ∨ k = 3 := by omega
    rcases this with e | e | e | e <;> subst e <;> decide
  omega
theorem tot_bd (ps : List ByteArray) : ∀ k, (∀ i, i < k → gp i (ps.getD i ByteArray.empty)) → 0 ≤ tot ps k ∧ tot ps k ≤ 3596400 * k := by
  intro k
  induction k with
  | zero => intro _; simp [tot]
  | succ k ih =>
    intro h
    have h1 := ih (fun i hi => h i (by omega))
    have hg := h k (by omega)
    have h2 := num_bd hg.2.2.1 hg.2.2.2 _ (Nat.le_refl _)
    have h3 := wt_bd k
    have h4 : 0 ≤ numv (ps.getD k ByteArray.empty).toList 0 (ps.getD k ByteArray.empty).size * wt k := Int.mul_nonneg h2.1 (by omega)
    have h5 : numv (ps.getD k ByteArray.empty).toList 0 (ps.getD k ByteArray.empty).size * wt k ≤ 999 * 3600 := Int.mul_le_mul h2.2 h3.2 (by omega) (by omega)
    unfold tot
    omega
def SpanOk (s : List UInt8) (sg : Int) (ps : List ByteArray) : Prop := ps.length ≤ 3 ∧ (∀ k, k < ps.length → gp k (ps.getD k ByteArray.empty)) ∧ (-604800 ≤ sg * tot ps ps.length ∧ sg * tot ps ps.length ≤ 604800) ∧ spanL (sg * tot ps ps.length) = s
open Classical in
noncomputable def spanRd (s : List UInt8) (sg : Int) (ps : List ByteArray) : Ending := if SpanOk s sg ps then two (sg * tot ps ps.length) 0 else two 0 3
theorem spanRd_yes {s : List UInt8} {sg : Int} {ps : List ByteArray} (h : SpanOk s sg ps) : two (sg * tot ps ps.length) 0 = spanRd s sg ps := by unfold spanRd; rw [if_pos h]
theorem spanRd_no {s : List UInt8} {sg : Int} {ps : List ByteArray} (h : ¬ SpanOk s sg ps) : two 0 3 = spanRd s sg ps := by unfold spanRd; rw [if_neg h]
theorem all_succ {p : Nat → Prop} {k : Nat} (h : ∀ j, j < k → p j) (hk : p k) : ∀ j, j < k + 1 → p j := fun j hj => by
  by_cases e : j = k
  · rw [e]; exact hk
  · exact h j (by omega)

theorem neg_one (v : Int) : -1 * v = -v := by omega

set_option maxRecDepth 100000 in
set_option maxHeartbeats 4000000 in
theorem rspanRead_pos (s : ByteArray) (mx : Int) (w : World) (hs : s.size ≤ 1048576) (hm : w.cell? ⟨0, 0, none⟩ = some (.int .i64 mx)) (hp : Lib.hasPrefix s.data.toList [45] = false) :
    Calls Tryz.prog 13 #[.string s] w fun e w' => e = spanRd s.toList 1 (pieces s) ∧ Gr w w' := by
  go_enter Tryz.func13, Tryz.ntmps13
  go_wp2_with fail
  refine (prefix_any s ⟨#[45]⟩ w).mono ?_
  rintro e w' ⟨rfl, rfl⟩
  go_wp2_with fail
  refine (split_any s mx w (by omega) hm).mono ?_
  rintro e w1 ⟨g, rfl, hg1, hcells⟩
  have hpos := pieces_pos s
  obtain ⟨ps, hP⟩ : ∃ ps, pieces s = ps := ⟨_, rfl⟩
  rw [hP] at hcells hpos ⊢
  have HP := Lib.hid hP
  clear hP
  have HC1 := Lib.hid hcells
  have hgw := (Gr.refl w).trans hg1
  clear hcells hg1
  by_cases h3 : 3 < ps.length
  · have NB : Hid (¬ SpanOk s.toList 1 ps) := fun hh => by have := hh.1; omega
    have h3' : decide (3 < (ps.length : Int)) = true := by simp; omega
    go_wp2_with fail
    go_ret2
    exact ⟨(spanRd_no NB.out).trans (congrArg _ HP.out.symm), hgw⟩
  · have h3' : decide (3 < (ps.length : Int)) = false := by simp; omega
    go_wp2_with fail
    go_loopw [7, 27] (fun n i wr => ∃ k : Nat, k ≤ ps.length ∧ (∀ i, i < k → gp i (ps.getD i ByteArray.empty)) ∧ i = .int .i64 k ∧ n = .int .i64 (tot ps k) ∧ Gr w wr ∧ ∀ j, j < ps.length → wr.cell? ⟨g, j, none⟩ = some (.string (ps.getD j ByteArray.empty))) (fun _ i _ => ps.length - (intOf i).toNat)
    case atStart => exact ⟨0, Nat.zero_le _, fun j hj => absurd hj (by omega), rfl, rfl, hgw, HC1.out⟩
    case round =>
      obtain ⟨k, hk, hall, rfl, rfl, hg, hcl⟩ := hrel
      have HC := Lib.hid hcl
      have tb := tot_bd ps k hall
      have tb1 := tb.1
      have tb2 : tot ps k ≤ 10789200 := by omega
      have HA := Lib.hid hall
      clear hall hcl HC1 tb hgw
      by_cases hlt : k < ps.length
      · have h012 : k = 0 ∨ k = 1 ∨ k = 2 := by omega
        rcases h012 with hk0 | hk0 | hk0
        · subst hk0
          obtain ⟨x, hx⟩ : ∃ x, ps.getD 0 ByteArray.empty = x := ⟨_, rfl⟩
          have HX := Lib.hid hx
          clear hx
          have hcell := HC.out 0 hlt
          have GP : Hid (gp 0 (ps.getD 0 ByteArray.empty) → gp 0 x) := fun h => by rw [← HX.out]; exact h
          have FIN0 : Hid (x.size ≤ 3 → 1 ≤ x.size → ((0 : Nat) < 0 → x.size = 2) → (∀ i, i < x.size → 48 ≤ bt x.toList i ∧ bt x.toList i ≤ 57) → gp 0 (ps.getD 0 ByteArray.empty)) := fun a b c d => by rw [HX.out]; exact ⟨c, b, a, d⟩
          have TOT : Hid (tot ps (0 + 1) = tot ps 0 + numv x.toList 0 x.size * 3600) := by show tot ps (0 + 1) = _; rw [← HX.out]; rfl
          rw [HX.out] at hcell
          generalize tot ps 0 = tk at tb1 tb2 TOT ⊢
          by_cases z0 : x.size = 0
          · have NB : Hid (¬ SpanOk s.toList 1 ps) := fun hh => by have := (GP.out (hh.2.1 0 hlt)).2.1; omega
            have z0' : ((x.size : Int) == 0) = true := beqT (by omega)
            clear z0
            go_wp2_with fail
            go_ret2
            exact ⟨(spanRd_no NB.out).trans (congrArg _ HP.out.symm), hg⟩
          · have z0' : ((x.size : Int) == 0) = false := beqF (by omega)
            by_cases b3 : 3 < x.size
            · have NB : Hid (¬ SpanOk s.toList 1 ps) := fun hh => by have := (GP.out (hh.2.1 0 hlt)).2.2.1; omega
              have b3' : decide (3 < (x.size : Int)) = true := ltT (by omega)
              go_wp2_with fail
              go_ret2
              exact ⟨(spanRd_no NB.out).trans (congrArg _ HP.out.symm), hg⟩
            · have b3' : decide (3 < (x.size : Int)) = false := ltF (by omega)
              have sz3 : x.size ≤ 3 := by omega
              have FIN : Hid ((∀ i, i < x.size → 48 ≤ bt x.toList i ∧ bt x.toList i ≤ 57) → gp 0 (ps.getD 0 ByteArray.empty)) := fun d => FIN0.out sz3 (by omega) (fun h => absurd h (by omega)) d
              clear FIN0
              obtain ⟨cap, w2, hconv, hg2, hcb⟩ := to_bytes x wr
              have HB := Lib.hid hcb
              clear hcb
              generalize wr.heap.size = gb at hconv HB
              go_wp2_with fail
              go_loop [10, 52] (fun v j' => ∃ j : Nat, j ≤ x.size ∧ (∀ i, i < j → 48 ≤ bt x.toList i ∧ bt x.toList i ≤ 57) ∧ j' = .int .i64 j ∧ v = .int .i64 (numv x.toList 0 j)) (fun _ j' => x.size - (intOf j').toNat)
              case atStart => exact ⟨0, Nat.zero_le _, fun i hi => absurd hi (by omega), rfl, rfl⟩
              case round =>
                obtain ⟨j, hj, hdg, rfl, rfl⟩ := hrel
                have HD := Lib.hid hdg
                clear hdg
                by_cases hjt : j < x.size
                · have hcell := HB.out j hjt
                  have E := Lib.hid (show numv x.toList 0 (j + 1) = 10 * numv x.toList 0 j + (bt x.toList j - 48) by simp [numv])
                  have nb : 0 ≤ numv x.toList 0 j ∧ numv x.toList 0 j < 10 ^ j := numv_bd x.toList 0 j (fun i hi => by simpa using HD.out i hi) j (Nat.le_refl _)
                  have p3 : (10 : Int) ^ j ≤ 1000 := by
                    have : j = 0 ∨ j = 1 ∨ j = 2 ∨ j = 3 := by omega
                    rcases this with e | e | e | e <;> subst e <;> decide
                  have nb1 := nb.1
                  have nb2 : numv x.toList 0 j < 1000 := by omega
                  clear nb p3
                  by_cases d1 : bt x.toList j < 48
                  · have NB : Hid (¬ SpanOk s.toList 1 ps) := fun hh => by have := (GP.out (hh.2.1 0 hlt)).2.2.2 j hjt; omega
                    generalize bt x.toList j = c at hcell d1 E
                    go_wp2_with fail
                    go_ret2
                    exact ⟨(spanRd_no NB.out).trans (congrArg _ HP.out.symm), hg.trans hg2⟩
                  · have d1' : decide (bt x.toList j < 48) = false := by simpa using d1
                    by_cases d2 : 57 < bt x.toList j
                    · have NB : Hid (¬ SpanOk s.toList 1 ps) := fun hh => by have := (GP.out (hh.2.1 0 hlt)).2.2.2 j hjt; omega
                      generalize bt x.toList j = c at hcell d1 d1' d2 E
                      go_wp2_with fail
                      go_ret2
                      exact ⟨(spanRd_no NB.out).trans (congrArg _ HP.out.symm), hg.trans hg2⟩
                    · have d2' : decide (57 < bt x.toList j) = false := by simpa using d2
                      have F := Lib.hid (all_succ HD.out (show 48 ≤ bt x.toList j ∧ bt x.toList j ≤ 57 by omega))
                      clear HD
                      generalize bt x.toList j = c at hcell d1 d1' d2 d2' E
                      go_wp2_with fail
                      go_round
                      case rel => exact ⟨j + 1, by omega, F.out, by go_num, by rw [E.out]⟩
                      case measure => simp [intOf]; omega
                · obtain rfl : j = x.size := by omega
                  have G := Lib.hid (FIN.out HD.out)
                  have nb := num_bd sz3 HD.out _ (Nat.le_refl _)
                  obtain ⟨nb1, nb2⟩ := nb
                  have TS := Lib.hid (TOT.out)
                  clear HD
                  generalize numv x.toList 0 x.size = v at nb1 nb2 TS
                  go_wp2_with fail
                  go_roundw
                  case rel => exact ⟨0 + 1, by omega, all_succ HA.out G.out, by first | rfl | go_num, by rw [TS.out] <;> first | rfl | go_num, (hg.trans hg2).alloc' _, fun i hi => ((hg2.alloc' _).holds (HC.out i hi))⟩
                  case measure => simp [intOf]; omega
        · subst hk0
          obtain ⟨x, hx⟩ : ∃ x, ps.getD 1 ByteArray.empty = x := ⟨_, rfl⟩
          have HX := Lib.hid hx
          clear hx
          have hcell := HC.out 1 hlt
          have GP : Hid (gp 1 (ps.getD 1 ByteArray.empty) → gp 1 x) := fun h => by rw [← HX.out]; exact h
          have FIN0 : Hid (x.size ≤ 3 → 1 ≤ x.size → ((0 : Nat) < 1 → x.size = 2) → (∀ i, i < x.size → 48 ≤ bt x.toList i ∧ bt x.toList i ≤ 57) → gp 1 (ps.getD 1 ByteArray.empty)) := fun a b c d => by rw [HX.out]; exact ⟨c, b, a, d⟩
          have TOT : Hid (tot ps (1 + 1) = tot ps 1 + numv x.toList 0 x.size * 60) := by show tot ps (1 + 1) = _; rw [← HX.out]; rfl
          rw [HX.out] at hcell
          generalize tot ps 1 = tk at tb1 tb2 TOT ⊢
          by_cases z2 : x.size = 2
          · have z2' : ((x.size : Int) != 2) = false := bneF (by omega)
            have z0' : ((x.size : Int) == 0) = false := beqF (by omega)
            have b3' : decide (3 < (x.size : Int)) = false := ltF (by omega)
            have sz3 : x.size ≤ 3 := by omega
            have FIN : Hid ((∀ i, i < x.size → 48 ≤ bt x.toList i ∧ bt x.toList i ≤ 57) → gp 1 (ps.getD 1 ByteArray.empty)) := fun d => FIN0.out sz3 (by omega) (fun _ => z2) d
            have Z2 := Lib.hid z2
            clear FIN0 z2
            obtain ⟨cap, w2, hconv, hg2, hcb⟩ := to_bytes x wr
            have HB := Lib.hid hcb
            clear hcb
            generalize wr.heap.size = gb at hconv HB
            go_wp2_with fail
            go_loop [10, 52] (fun v j' => ∃ j : Nat, j ≤ x.size ∧ (∀ i, i < j → 48 ≤ bt x.toList i ∧ bt x.toList i ≤ 57) ∧ j' = .int .i64 j ∧ v = .int .i64 (numv x.toList 0 j)) (fun _ j' => x.size - (intOf j').toNat)
            case atStart => exact ⟨0, Nat.zero_le _, fun i hi => absurd hi (by omega), rfl, rfl⟩
            case round =>
              obtain ⟨j, hj, hdg, rfl, rfl⟩ := hrel
              have HD := Lib.hid hdg
              clear hdg
              by_cases hjt : j < x.size
              · have hcell := HB.out j hjt
                have E := Lib.hid (show numv x.toList 0 (j + 1) = 10 * numv x.toList 0 j + (bt x.toList j - 48) by simp [numv])
                have nb : 0 ≤ numv x.toList 0 j ∧ numv x.toList 0 j < 10 ^ j := numv_bd x.toList 0 j (fun i hi => by simpa using HD.out i hi) j (Nat.le_refl _)
                have p3 : (10 : Int) ^ j ≤ 1000 := by
                  have : j = 0 ∨ j = 1 ∨ j = 2 ∨ j = 3 := by omega
                  rcases this with e | e | e | e <;> subst e <;> decide
                have nb1 := nb.1
                have nb2 : numv x.toList 0 j < 1000 := by omega
                clear nb p3
                by_cases d1 : bt x.toList j < 48
                · have NB : Hid (¬ SpanOk s.toList 1 ps) := fun hh => by have := (GP.out (hh.2.1 1 hlt)).2.2.2 j hjt; omega
                  generalize bt x.toList j = c at hcell d1 E
                  go_wp2_with fail
                  go_ret2
                  exact ⟨(spanRd_no NB.out).trans (congrArg _ HP.out.symm), hg.trans hg2⟩
                · have d1' : decide (bt x.toList j < 48) = false := by simpa using d1
                  by_cases d2 : 57 < bt x.toList j
                  · have NB : Hid (¬ SpanOk s.toList 1 ps) := fun hh => by have := (GP.out (hh.2.1 1 hlt)).2.2.2 j hjt; omega
                    generalize bt x.toList j = c at hcell d1 d1' d2 E
                    go_wp2_with fail
                    go_ret2
                    exact ⟨(spanRd_no NB.out).trans (congrArg _ HP.out.symm), hg.trans hg2⟩
                  · have d2' : decide (57 < bt x.toList j) = false := by simpa using d2
                    have F := Lib.hid (all_succ HD.out (show 48 ≤ bt x.toList j ∧ bt x.toList j ≤ 57 by omega))
                    clear HD
                    generalize bt x.toList j = c at hcell d1 d1' d2 d2' E
                    go_wp2_with fail
                    go_round
                    case rel => exact ⟨j + 1, by omega, F.out, by go_num, by rw [E.out]⟩
                    case measure => simp [intOf]; omega
              · obtain rfl : j = x.size := by omega
                have G := Lib.hid (FIN.out HD.out)
                have nb := num_bd sz3 HD.out _ (Nat.le_refl _)
                obtain ⟨nb1, nb2⟩ := nb
                have TS := Lib.hid (TOT.out)
                clear HD
                generalize numv x.toList 0 x.size = v at nb1 nb2 TS
                go_wp2_with fail
                go_roundw
                case rel => exact ⟨1 + 1, by omega, all_succ HA.out G.out, by first | rfl | go_num, by rw [TS.out] <;> first | rfl | go_num, (hg.trans hg2).alloc' _, fun i hi => ((hg2.alloc' _).holds (HC.out i hi))⟩
                case measure => simp [intOf]; omega
          · have NB : Hid (¬ SpanOk s.toList 1 ps) := fun hh => by have := (GP.out (hh.2.1 1 hlt)).1 (by omega); omega
            have z2' : ((x.size : Int) != 2) = true := bneT (by omega)
            clear z2
            go_wp2_with fail
            go_ret2
            exact ⟨(spanRd_no NB.out).trans (congrArg _ HP.out.symm), hg⟩
        · subst hk0
          obtain ⟨x, hx⟩ : ∃ x, ps.getD 2 ByteArray.empty = x := ⟨_, rfl⟩
          have HX := Lib.hid hx
          clear hx
          have hcell := HC.out 2 hlt
          have GP : Hid (gp 2 (ps.getD 2 ByteArray.empty) → gp 2 x) := fun h => by rw [← HX.out]; exact h
          have FIN0 : Hid (x.size ≤ 3 → 1 ≤ x.size → ((0 : Nat) < 2 → x.size = 2) → (∀ i, i < x.size → 48 ≤ bt x.toList i ∧ bt x.toList i ≤ 57) → gp 2 (ps.getD 2 ByteArray.empty)) := fun a b c d => by rw [HX.out]; exact ⟨c, b, a, d⟩
          have TOT : Hid (tot ps (2 + 1) = tot ps 2 + numv x.toList 0 x.size * 1) := by show tot ps (2 + 1) = _; rw [← HX.out]; rfl
          rw [HX.out] at hcell
          generalize tot ps 2 = tk at tb1 tb2 TOT ⊢
          by_cases z2 : x.size = 2
          · have z2' : ((x.size : Int) != 2) = false := bneF (by omega)
            have z0' : ((x.size : Int) == 0) = false := beqF (by omega)
            have b3' : decide (3 < (x.size : Int)) = false := ltF (by omega)
            have sz3 : x.size ≤ 3 := by omega
            have FIN : Hid ((∀ i, i < x.size → 48 ≤ bt x.toList i ∧ bt x.toList i ≤ 57) → gp 2 (ps.getD 2 ByteArray.empty)) := fun d => FIN0.out sz3 (by omega) (fun _ => z2) d
            have Z2 := Lib.hid z2
            clear FIN0 z2
            obtain ⟨cap, w2, hconv, hg2, hcb⟩ := to_bytes x wr
            have HB := Lib.hid hcb
            clear hcb
            generalize wr.heap.size = gb at hconv HB
            go_wp2_with fail
            go_loop [10, 52] (fun v j' => ∃ j : Nat, j ≤ x.size ∧ (∀ i, i < j → 48 ≤ bt x.toList i ∧ bt x.toList i ≤ 57) ∧ j' = .int .i64 j ∧ v = .int .i64 (numv x.toList 0 j)) (fun _ j' => x.size - (intOf j').toNat)
            case atStart => exact ⟨0, Nat.zero_le _, fun i hi => absurd hi (by omega), rfl, rfl⟩
            case round =>
              obtain ⟨j, hj, hdg, rfl, rfl⟩ := hrel
              have HD := Lib.hid hdg
              clear hdg
              by_cases hjt : j < x.size
              · have hcell := HB.out j hjt
                have E := Lib.hid (show numv x.toList 0 (j + 1) = 10 * numv x.toList 0 j + (bt x.toList j - 48) by simp [numv])
                have nb : 0 ≤ numv x.toList 0 j ∧ numv x.toList 0 j < 10 ^ j := numv_bd x.toList 0 j (fun i hi => by simpa using HD.out i hi) j (Nat.le_refl _)
                have p3 : (10 : Int) ^ j ≤ 1000 := by
                  have : j = 0 ∨ j = 1 ∨ j = 2 ∨ j = 3 := by omega
                  rcases this with e | e | e | e <;> subst e <;> decide
                have nb1 := nb.1
                have nb2 : numv x.toList 0 j < 1000 := by omega
                clear nb p3
                by_cases d1 : bt x.toList j < 48
                · have NB : Hid (¬ SpanOk s.toList 1 ps) := fun hh => by have := (GP.out (hh.2.1 2 hlt)).2.2.2 j hjt; omega
                  generalize bt x.toList j = c at hcell d1 E
                  go_wp2_with fail
                  go_ret2
                  exact ⟨(spanRd_no NB.out).trans (congrArg _ HP.out.symm), hg.trans hg2⟩
                · have d1' : decide (bt x.toList j < 48) = false := by simpa using d1
                  by_cases d2 : 57 < bt x.toList j
                  · have NB : Hid (¬ SpanOk s.toList 1 ps) := fun hh => by have := (GP.out (hh.2.1 2 hlt)).2.2.2 j hjt; omega
                    generalize bt x.toList j = c at hcell d1 d1' d2 E
                    go_wp2_with fail
                    go_ret2
                    exact ⟨(spanRd_no NB.out).trans (congrArg _ HP.out.symm), hg.trans hg2⟩
                  · have d2' : decide (57 < bt x.toList j) = false := by simpa using d2
                    have F := Lib.hid (all_succ HD.out (show 48 ≤ bt x.toList j ∧ bt x.toList j ≤ 57 by omega))
                    clear HD
                    generalize bt x.toList j = c at hcell d1 d1' d2 d2' E
                    go_wp2_with fail
                    go_round
                    case rel => exact ⟨j + 1, by omega, F.out, by go_num, by rw [E.out]⟩
                    case measure => simp [intOf]; omega
              · obtain rfl : j = x.size := by omega
                have G := Lib.hid (FIN.out HD.out)
                have nb := num_bd sz3 HD.out _ (Nat.le_refl _)
                obtain ⟨nb1, nb2⟩ := nb
                have TS := Lib.hid (TOT.out)
                clear HD
                generalize numv x.toList 0 x.size = v at nb1 nb2 TS
                go_wp2_with fail
                go_roundw
                case rel => exact ⟨2 + 1, by omega, all_succ HA.out G.out, by first | rfl | go_num, by rw [TS.out] <;> first | rfl | go_num, (hg.trans hg2).alloc' _, fun i hi => ((hg2.alloc' _).holds (HC.out i hi))⟩
                case measure => simp [intOf]; omega
          · have NB : Hid (¬ SpanOk s.toList 1 ps) := fun hh => by have := (GP.out (hh.2.1 2 hlt)).1 (by omega); omega
            have z2' : ((x.size : Int) != 2) = true := bneT (by omega)
            clear z2
            go_wp2_with fail
            go_ret2
            exact ⟨(spanRd_no NB.out).trans (congrArg _ HP.out.symm), hg⟩
      · obtain rfl : k = ps.length := by omega
        have t3 : tot ps ps.length ≤ 10789200 := tb2
        by_cases hr : -604800 ≤ tot ps ps.length ∧ tot ps ps.length ≤ 604800
        · by_cases he : spanL (tot ps ps.length) = s.toList
          · have Y := Lib.hid (spanRd_yes (s := s.toList) (sg := 1) (ps := ps) ⟨by omega, HA.out, by rw [Int.one_mul]; exact hr, by rw [Int.one_mul]; exact he⟩)
            have he' : (spanL (tot ps ps.length) == s.toList) = true := by simpa using he
            clear he
            obtain ⟨hr1, hr2⟩ := hr
            generalize tot ps ps.length = v at tb1 tb2 t3 hr1 hr2 Y he'
            go_wp2_with fail
            refine (rspan_yes v wr hr1 hr2).mono ?_
            rintro e w2 ⟨rfl, hg2⟩
            generalize spanL v = sp at he'
            go_wp2_with fail
            go_ret2
            exact ⟨((two_eq (Int.one_mul v).symm rfl).trans Y.out).trans (congrArg _ HP.out.symm), hg.trans hg2⟩
          · have NB : Hid (¬ SpanOk s.toList 1 ps) := fun hh => he (by have := hh.2.2.2; rw [Int.one_mul] at this; exact this)
            have he' : (spanL (tot ps ps.length) == s.toList) = false := by simpa using he
            clear he
            obtain ⟨hr1, hr2⟩ := hr
            generalize tot ps ps.length = v at tb1 tb2 t3 hr1 hr2 he'
            go_wp2_with fail
            refine (rspan_yes v wr hr1 hr2).mono ?_
            rintro e w2 ⟨rfl, hg2⟩
            generalize spanL v = sp at he'
            go_wp2_with fail
            go_ret2
            exact ⟨(spanRd_no NB.out).trans (congrArg _ HP.out.symm), hg.trans hg2⟩
        · have NB : Hid (¬ SpanOk s.toList 1 ps) := fun hh => hr (by have := hh.2.2.1; rw [Int.one_mul] at this; exact this)
          generalize tot ps ps.length = v at tb1 tb2 t3 hr
          go_wp2_with fail
          refine (rspan_no v wr hr).mono ?_
          rintro e w2 ⟨rfl, rfl⟩
          clear hr
          go_wp2_with fail
          go_ret2
          exact ⟨(spanRd_no NB.out).trans (congrArg _ HP.out.symm), hg⟩

set_option maxRecDepth 100000 in
set_option maxHeartbeats 4000000 in
theorem rspanRead_neg (s : ByteArray) (mx : Int) (w : World) (hs : s.size ≤ 1048576) (hm : w.cell? ⟨0, 0, none⟩ = some (.int .i64 mx)) (hp : Lib.hasPrefix s.data.toList [45] = true) (h1 : 1 ≤ s.size) :
    Calls Tryz.prog 13 #[.string s] w fun e w' => e = spanRd s.toList (-1) (pieces (s.extract 1 s.size)) ∧ Gr w w' := by
  go_enter Tryz.func13, Tryz.ntmps13
  go_wp2_with fail
  refine (prefix_any s ⟨#[45]⟩ w).mono ?_
  rintro e w' ⟨rfl, rfl⟩
  go_wp2_with fail
  go_quiet (fail)
  go_wp2_with fail
  refine (split_any (s.extract 1 s.size) mx _ (by rw [ByteArray.size_extract]; omega) (by exact hm)).mono ?_
  rintro e w1 ⟨g, rfl, hg1, hcells⟩
  have hpos := pieces_pos (s.extract 1 s.size)
  obtain ⟨ps, hP⟩ : ∃ ps, pieces (s.extract 1 s.size) = ps := ⟨_, rfl⟩
  rw [hP] at hcells hpos ⊢
  have HP := Lib.hid hP
  clear hP
  have HC1 := Lib.hid hcells
  have hgw := ((Gr.refl w).drewN _).trans hg1
  clear hcells hg1
  by_cases h3 : 3 < ps.length
  · have NB : Hid (¬ SpanOk s.toList (-1) ps) := fun hh => by have := hh.1; omega
    have h3' : decide (3 < (ps.length : Int)) = true := by simp; omega
    go_wp2_with fail
    go_ret2
    exact ⟨(spanRd_no NB.out).trans (congrArg _ HP.out.symm), hgw⟩
  · have h3' : decide (3 < (ps.length : Int)) = false := by simp; omega
    go_wp2_with fail
    go_loopw [7, 27] (fun n i wr => ∃ k : Nat, k ≤ ps.length ∧ (∀ i, i < k → gp i (ps.getD i ByteArray.empty)) ∧ i = .int .i64 k ∧ n = .int .i64 (tot ps k) ∧ Gr w wr ∧ ∀ j, j < ps.length → wr.cell? ⟨g, j, none⟩ = some (.string (ps.getD j ByteArray.empty))) (fun _ i _ => ps.length - (intOf i).toNat)
    case atStart => exact ⟨0, Nat.zero_le _, fun j hj => absurd hj (by omega), rfl, rfl, hgw, HC1.out⟩
    case round =>
      obtain ⟨k, hk, hall, rfl, rfl, hg, hcl⟩ := hrel
      have HC := Lib.hid hcl
      have tb := tot_bd ps k hall
      have tb1 := tb.1
      have tb2 : tot ps k ≤ 10789200 := by omega
      have HA := Lib.hid hall
      clear hall hcl HC1 tb hgw
      by_cases hlt : k < ps.length
      · have h012 : k = 0 ∨ k = 1 ∨ k = 2 := by omega
        rcases h012 with hk0 | hk0 | hk0
        · subst hk0
          obtain ⟨x, hx⟩ : ∃ x, ps.getD 0 ByteArray.empty = x := ⟨_, rfl⟩
          have HX := Lib.hid hx
          clear hx
          have hcell := HC.out 0 hlt
          have GP : Hid (gp 0 (ps.getD 0 ByteArray.empty) → gp 0 x) := fun h => by rw [← HX.out]; exact h
          have FIN0 : Hid (x.size ≤ 3 → 1 ≤ x.size → ((0 : Nat) < 0 → x.size = 2) → (∀ i, i < x.size → 48 ≤ bt x.toList i ∧ bt x.toList i ≤ 57) → gp 0 (ps.getD 0 ByteArray.empty)) := fun a b c d => by rw [HX.out]; exact ⟨c, b, a, d⟩
          have TOT : Hid (tot ps (0 + 1) = tot ps 0 + numv x.toList 0 x.size * 3600) := by show tot ps (0 + 1) = _; rw [← HX.out]; rfl
          rw [HX.out] at hcell
          generalize tot ps 0 = tk at tb1 tb2 TOT ⊢
          by_cases z0 : x.size = 0
          · have NB : Hid (¬ SpanOk s.toList (-1) ps) := fun hh => by have := (GP.out (hh.2.1 0 hlt)).2.1; omega
            have z0' : ((x.size : Int) == 0) = true := beqT (by omega)
            clear z0
            go_wp2_with fail
            go_ret2
            exact ⟨(spanRd_no NB.out).trans (congrArg _ HP.out.symm), hg⟩
          · have z0' : ((x.size : Int) == 0) = false := beqF (by omega)
            by_cases b3 : 3 < x.size
            · have NB : Hid (¬ SpanOk s.toList (-1) ps) := fun hh => by have := (GP.out (hh.2.1 0 hlt)).2.2.1; omega
              have b3' : decide (3 < (x.size : Int)) = true := ltT (by omega)
              go_wp2_with fail
              go_ret2
              exact ⟨(spanRd_no NB.out).trans (congrArg _ HP.out.symm), hg⟩
            · have b3' : decide (3 < (x.size : Int)) = false := ltF (by omega)
              have sz3 : x.size ≤ 3 := by omega
              have FIN : Hid ((∀ i, i < x.size → 48 ≤ bt x.toList i ∧ bt x.toList i ≤ 57) → gp 0 (ps.getD 0 ByteArray.empty)) := fun d => FIN0.out sz3 (by omega) (fun h => absurd h (by omega)) d
              clear FIN0
              obtain ⟨cap, w2, hconv, hg2, hcb⟩ := to_bytes x wr
              have HB := Lib.hid hcb
              clear hcb
              generalize wr.heap.size = gb at hconv HB
              go_wp2_with fail
              go_loop [10, 52] (fun v j' => ∃ j : Nat, j ≤ x.size ∧ (∀ i, i < j → 48 ≤ bt x.toList i ∧ bt x.toList i ≤ 57) ∧ j' = .int .i64 j ∧ v = .int .i64 (numv x.toList 0 j)) (fun _ j' => x.size - (intOf j').toNat)
              case atStart => exact ⟨0, Nat.zero_le _, fun i hi => absurd hi (by omega), rfl, rfl⟩
              case round =>
                obtain ⟨j, hj, hdg, rfl, rfl⟩ := hrel
                have HD := Lib.hid hdg
                clear hdg
                by_cases hjt : j < x.size
                · have hcell := HB.out j hjt
                  have E := Lib.hid (show numv x.toList 0 (j + 1) = 10 * numv x.toList 0 j + (bt x.toList j - 48) by simp [numv])
                  have nb : 0 ≤ numv x.toList 0 j ∧ numv x.toList 0 j < 10 ^ j := numv_bd x.toList 0 j (fun i hi => by simpa using HD.out i hi) j (Nat.le_refl _)
                  have p3 : (10 : Int) ^ j ≤ 1000 := by
                    have : j = 0 ∨ j = 1 ∨ j = 2 ∨ j = 3 := by omega
                    rcases this with e | e | e | e <;> subst e <;> decide
                  have nb1 := nb.1
                  have nb2 : numv x.toList 0 j < 1000 := by omega
                  clear nb p3
                  by_cases d1 : bt x.toList j < 48
                  · have NB : Hid (¬ SpanOk s.toList (-1) ps) := fun hh => by have := (GP.out (hh.2.1 0 hlt)).2.2.2 j hjt; omega
                    generalize bt x.toList j = c at hcell d1 E
                    go_wp2_with fail
                    go_ret2
                    exact ⟨(spanRd_no NB.out).trans (congrArg _ HP.out.symm), hg.trans hg2⟩
                  · have d1' : decide (bt x.toList j < 48) = false := by simpa using d1
                    by_cases d2 : 57 < bt x.toList j
                    · have NB : Hid (¬ SpanOk s.toList (-1) ps) := fun hh => by have := (GP.out (hh.2.1 0 hlt)).2.2.2 j hjt; omega
                      generalize bt x.toList j = c at hcell d1 d1' d2 E
                      go_wp2_with fail
                      go_ret2
                      exact ⟨(spanRd_no NB.out).trans (congrArg _ HP.out.symm), hg.trans hg2⟩
                    · have d2' : decide (57 < bt x.toList j) = false := by simpa using d2
                      have F := Lib.hid (all_succ HD.out (show 48 ≤ bt x.toList j ∧ bt x.toList j ≤ 57 by omega))
                      clear HD
                      generalize bt x.toList j = c at hcell d1 d1' d2 d2' E
                      go_wp2_with fail
                      go_round
                      case rel => exact ⟨j + 1, by omega, F.out, by go_num, by rw [E.out]⟩
                      case measure => simp [intOf]; omega
                · obtain rfl : j = x.size := by omega
                  have G := Lib.hid (FIN.out HD.out)
                  have nb := num_bd sz3 HD.out _ (Nat.le_refl _)
                  obtain ⟨nb1, nb2⟩ := nb
                  have TS := Lib.hid (TOT.out)
                  clear HD
                  generalize numv x.toList 0 x.size = v at nb1 nb2 TS
                  go_wp2_with fail
                  go_roundw
                  case rel => exact ⟨0 + 1, by omega, all_succ HA.out G.out, by first | rfl | go_num, by rw [TS.out] <;> first | rfl | go_num, (hg.trans hg2).alloc' _, fun i hi => ((hg2.alloc' _).holds (HC.out i hi))⟩
                  case measure => simp [intOf]; omega
        · subst hk0
          obtain ⟨x, hx⟩ : ∃ x, ps.getD 1 ByteArray.empty = x := ⟨_, rfl⟩
          have HX := Lib.hid hx
          clear hx
          have hcell := HC.out 1 hlt
          have GP : Hid (gp 1 (ps.getD 1 ByteArray.empty) → gp 1 x) := fun h => by rw [← HX.out]; exact h
          have FIN0 : Hid (x.size ≤ 3 → 1 ≤ x.size → ((0 : Nat) < 1 → x.size = 2) → (∀ i, i < x.size → 48 ≤ bt x.toList i ∧ bt x.toList i ≤ 57) → gp 1 (ps.getD 1 ByteArray.empty)) := fun a b c d => by rw [HX.out]; exact ⟨c, b, a, d⟩
          have TOT : Hid (tot ps (1 + 1) = tot ps 1 + numv x.toList 0 x.size * 60) := by show tot ps (1 + 1) = _; rw [← HX.out]; rfl
          rw [HX.out] at hcell
          generalize tot ps 1 = tk at tb1 tb2 TOT ⊢
          by_cases z2 : x.size = 2
          · have z2' : ((x.size : Int) != 2) = false := bneF (by omega)
            have z0' : ((x.size : Int) == 0) = false := beqF (by omega)
            have b3' : decide (3 < (x.size : Int)) = false := ltF (by omega)
            have sz3 : x.size ≤ 3 := by omega
            have FIN : Hid ((∀ i, i < x.size → 48 ≤ bt x.toList i ∧ bt x.toList i ≤ 57) → gp 1 (ps.getD 1 ByteArray.empty)) := fun d => FIN0.out sz3 (by omega) (fun _ => z2) d
            have Z2 := Lib.hid z2
            clear FIN0 z2
            obtain ⟨cap, w2, hconv, hg2, hcb⟩ := to_bytes x wr
            have HB := Lib.hid hcb
            clear hcb
            generalize wr.heap.size = gb at hconv HB
            go_wp2_with fail
            go_loop [10, 52] (fun v j' => ∃ j : Nat, j ≤ x.size ∧ (∀ i, i < j → 48 ≤ bt x.toList i ∧ bt x.toList i ≤ 57) ∧ j' = .int .i64 j ∧ v = .int .i64 (numv x.toList 0 j)) (fun _ j' => x.size - (intOf j').toNat)
            case atStart => exact ⟨0, Nat.zero_le _, fun i hi => absurd hi (by omega), rfl, rfl⟩
            case round =>
              obtain ⟨j, hj, hdg, rfl, rfl⟩ := hrel
              have HD := Lib.hid hdg
              clear hdg
              by_cases hjt : j < x.size
              · have hcell := HB.out j hjt
                have E := Lib.hid (show numv x.toList 0 (j + 1) = 10 * numv x.toList 0 j + (bt x.toList j - 48) by simp [numv])
                have nb : 0 ≤ numv x.toList 0 j ∧ numv x.toList 0 j < 10 ^ j := numv_bd x.toList 0 j (fun i hi => by simpa using HD.out i hi) j (Nat.le_refl _)
                have p3 : (10 : Int) ^ j ≤ 1000 := by
                  have : j = 0 ∨ j = 1 ∨ j = 2 ∨ j = 3 := by omega
                  rcases this with e | e | e | e <;> subst e <;> decide
                have nb1 := nb.1
                have nb2 : numv x.toList 0 j < 1000 := by omega
                clear nb p3
                by_cases d1 : bt x.toList j < 48
                · have NB : Hid (¬ SpanOk s.toList (-1) ps) := fun hh => by have := (GP.out (hh.2.1 1 hlt)).2.2.2 j hjt; omega
                  generalize bt x.toList j = c at hcell d1 E
                  go_wp2_with fail
                  go_ret2
                  exact ⟨(spanRd_no NB.out).trans (congrArg _ HP.out.symm), hg.trans hg2⟩
                · have d1' : decide (bt x.toList j < 48) = false := by simpa using d1
                  by_cases d2 : 57 < bt x.toList j
                  · have NB : Hid (¬ SpanOk s.toList (-1) ps) := fun hh => by have := (GP.out (hh.2.1 1 hlt)).2.2.2 j hjt; omega
                    generalize bt x.toList j = c at hcell d1 d1' d2 E
                    go_wp2_with fail
                    go_ret2
                    exact ⟨(spanRd_no NB.out).trans (congrArg _ HP.out.symm), hg.trans hg2⟩
                  · have d2' : decide (57 < bt x.toList j) = false := by simpa using d2
                    have F := Lib.hid (all_succ HD.out (show 48 ≤ bt x.toList j ∧ bt x.toList j ≤ 57 by omega))
                    clear HD
                    generalize bt x.toList j = c at hcell d1 d1' d2 d2' E
                    go_wp2_with fail
                    go_round
                    case rel => exact ⟨j + 1, by omega, F.out, by go_num, by rw [E.out]⟩
                    case measure => simp [intOf]; omega
              · obtain rfl : j = x.size := by omega
                have G := Lib.hid (FIN.out HD.out)
                have nb := num_bd sz3 HD.out _ (Nat.le_refl _)
                obtain ⟨nb1, nb2⟩ := nb
                have TS := Lib.hid (TOT.out)
                clear HD
                generalize numv x.toList 0 x.size = v at nb1 nb2 TS
                go_wp2_with fail
                go_roundw
                case rel => exact ⟨1 + 1, by omega, all_succ HA.out G.out, by first | rfl | go_num, by rw [TS.out] <;> first | rfl | go_num, (hg.trans hg2).alloc' _, fun i hi => ((hg2.alloc' _).holds (HC.out i hi))⟩
                case measure => simp [intOf]; omega
          · have NB : Hid (¬ SpanOk s.toList (-1) ps) := fun hh => by have := (GP.out (hh.2.1 1 hlt)).1 (by omega); omega
            have z2' : ((x.size : Int) != 2) = true := bneT (by omega)
            clear z2
            go_wp2_with fail
            go_ret2
            exact ⟨(spanRd_no NB.out).trans (congrArg _ HP.out.symm), hg⟩
        · subst hk0
          obtain ⟨x, hx⟩ : ∃ x, ps.getD 2 ByteArray.empty = x := ⟨_, rfl⟩
          have HX := Lib.hid hx
          clear hx
          have hcell := HC.out 2 hlt
          have GP : Hid (gp 2 (ps.getD 2 ByteArray.empty) → gp 2 x) := fun h => by rw [← HX.out]; exact h
          have FIN0 : Hid (x.size ≤ 3 → 1 ≤ x.size → ((0 : Nat) < 2 → x.size = 2) → (∀ i, i < x.size → 48 ≤ bt x.toList i ∧ bt x.toList i ≤ 57) → gp 2 (ps.getD 2 ByteArray.empty)) := fun a b c d => by rw [HX.out]; exact ⟨c, b, a, d⟩
          have TOT : Hid (tot ps (2 + 1) = tot ps 2 + numv x.toList 0 x.size * 1) := by show tot ps (2 + 1) = _; rw [← HX.out]; rfl
          rw [HX.out] at hcell
          generalize tot ps 2 = tk at tb1 tb2 TOT ⊢
          by_cases z2 : x.size = 2
          · have z2' : ((x.size : Int) != 2) = false := bneF (by omega)
            have z0' : ((x.size : Int) == 0) = false := beqF (by omega)
            have b3' : decide (3 < (x.size : Int)) = false := ltF (by omega)
            have sz3 : x.size ≤ 3 := by omega
            have FIN : Hid ((∀ i, i < x.size → 48 ≤ bt x.toList i ∧ bt x.toList i ≤ 57) → gp 2 (ps.getD 2 ByteArray.empty)) := fun d => FIN0.out sz3 (by omega) (fun _ => z2) d
            have Z2 := Lib.hid z2
            clear FIN0 z2
            obtain ⟨cap, w2, hconv, hg2, hcb⟩ := to_bytes x wr
            have HB := Lib.hid hcb
            clear hcb
            generalize wr.heap.size = gb at hconv HB
            go_wp2_with fail
            go_loop [10, 52] (fun v j' => ∃ j : Nat, j ≤ x.size ∧ (∀ i, i < j → 48 ≤ bt x.toList i ∧ bt x.toList i ≤ 57) ∧ j' = .int .i64 j ∧ v = .int .i64 (numv x.toList 0 j)) (fun _ j' => x.size - (intOf j').toNat)
            case atStart => exact ⟨0, Nat.zero_le _, fun i hi => absurd hi (by omega), rfl, rfl⟩
            case round =>
              obtain ⟨j, hj, hdg, rfl, rfl⟩ := hrel
              have HD := Lib.hid hdg
              clear hdg
              by_cases hjt : j < x.size
              · have hcell := HB.out j hjt
                have E := Lib.hid (show numv x.toList 0 (j + 1) = 10 * numv x.toList 0 j + (bt x.toList j - 48) by simp [numv])
                have nb : 0 ≤ numv x.toList 0 j ∧ numv x.toList 0 j < 10 ^ j := numv_bd x.toList 0 j (fun i hi => by simpa using HD.out i hi) j (Nat.le_refl _)
                have p3 : (10 : Int) ^ j ≤ 1000 := by
                  have : j = 0 ∨ j = 1 ∨ j = 2 ∨ j = 3 := by omega
                  rcases this with e | e | e | e <;> subst e <;> decide
                have nb1 := nb.1
                have nb2 : numv x.toList 0 j < 1000 := by omega
                clear nb p3
                by_cases d1 : bt x.toList j < 48
                · have NB : Hid (¬ SpanOk s.toList (-1) ps) := fun hh => by have := (GP.out (hh.2.1 2 hlt)).2.2.2 j hjt; omega
                  generalize bt x.toList j = c at hcell d1 E
                  go_wp2_with fail
                  go_ret2
                  exact ⟨(spanRd_no NB.out).trans (congrArg _ HP.out.symm), hg.trans hg2⟩
                · have d1' : decide (bt x.toList j < 48) = false := by simpa using d1
                  by_cases d2 : 57 < bt x.toList j
                  · have NB : Hid (¬ SpanOk s.toList (-1) ps) := fun hh => by have := (GP.out (hh.2.1 2 hlt)).2.2.2 j hjt; omega
                    generalize bt x.toList j = c at hcell d1 d1' d2 E
                    go_wp2_with fail
                    go_ret2
                    exact ⟨(spanRd_no NB.out).trans (congrArg _ HP.out.symm), hg.trans hg2⟩
                  · have d2' : decide (57 < bt x.toList j) = false := by simpa using d2
                    have F := Lib.hid (all_succ HD.out (show 48 ≤ bt x.toList j ∧ bt x.toList j ≤ 57 by omega))
                    clear HD
                    generalize bt x.toList j = c at hcell d1 d1' d2 d2' E
                    go_wp2_with fail
                    go_round
                    case rel => exact ⟨j + 1, by omega, F.out, by go_num, by rw [E.out]⟩
                    case measure => simp [intOf]; omega
              · obtain rfl : j = x.size := by omega
                have G := Lib.hid (FIN.out HD.out)
                have nb := num_bd sz3 HD.out _ (Nat.le_refl _)
                obtain ⟨nb1, nb2⟩ := nb
                have TS := Lib.hid (TOT.out)
                clear HD
                generalize numv x.toList 0 x.size = v at nb1 nb2 TS
                go_wp2_with fail
                go_roundw
                case rel => exact ⟨2 + 1, by omega, all_succ HA.out G.out, by first | rfl | go_num, by rw [TS.out] <;> first | rfl | go_num, (hg.trans hg2).alloc' _, fun i hi => ((hg2.alloc' _).holds (HC.out i hi))⟩
                case measure => simp [intOf]; omega
          · have NB : Hid (¬ SpanOk s.toList (-1) ps) := fun hh => by have := (GP.out (hh.2.1 2 hlt)).1 (by omega); omega
            have z2' : ((x.size : Int) != 2) = true := bneT (by omega)
            clear z2
            go_wp2_with fail
            go_ret2
            exact ⟨(spanRd_no NB.out).trans (congrArg _ HP.out.symm), hg⟩
      · obtain rfl : k = ps.length := by omega
        have t3 : tot ps ps.length ≤ 10789200 := tb2
        by_cases hr : -604800 ≤ -(tot ps ps.length) ∧ -(tot ps ps.length) ≤ 604800
        · by_cases he : spanL (-(tot ps ps.length)) = s.toList
          · have Y := Lib.hid (spanRd_yes (s := s.toList) (sg := (-1)) (ps := ps) ⟨by omega, HA.out, by rw [neg_one]; exact hr, by rw [neg_one]; exact he⟩)
            have he' : (spanL (-(tot ps ps.length)) == s.toList) = true := by simpa using he
            clear he
            obtain ⟨hr1, hr2⟩ := hr
            generalize tot ps ps.length = v at tb1 tb2 t3 hr1 hr2 Y he'
            go_wp2_with fail
            refine (rspan_yes (-v) wr hr1 hr2).mono ?_
            rintro e w2 ⟨rfl, hg2⟩
            generalize spanL (-v) = sp at he'
            go_wp2_with fail
            go_ret2
            exact ⟨((two_eq (neg_one v).symm rfl).trans Y.out).trans (congrArg _ HP.out.symm), hg.trans hg2⟩
          · have NB : Hid (¬ SpanOk s.toList (-1) ps) := fun hh => he (by have := hh.2.2.2; rw [neg_one] at this; exact this)
            have he' : (spanL (-(tot ps ps.length)) == s.toList) = false := by simpa using he
            clear he
            obtain ⟨hr1, hr2⟩ := hr
            generalize tot ps ps.length = v at tb1 tb2 t3 hr1 hr2 he'
            go_wp2_with fail
            refine (rspan_yes (-v) wr hr1 hr2).mono ?_
            rintro e w2 ⟨rfl, hg2⟩
            generalize spanL (-v) = sp at he'
            go_wp2_with fail
            go_ret2
            exact ⟨(spanRd_no NB.out).trans (congrArg _ HP.out.symm), hg.trans hg2⟩
        · have NB : Hid (¬ SpanOk s.toList (-1) ps) := fun hh => hr (by have := hh.2.2.1; rw [neg_one] at this; exact this)
          generalize tot ps ps.length = v at tb1 tb2 t3 hr
          go_wp2_with fail
          refine (rspan_no (-v) wr hr).mono ?_
          rintro e w2 ⟨rfl, rfl⟩
          clear hr
          go_wp2_with fail
          go_ret2
          exact ⟨(spanRd_no NB.out).trans (congrArg _ HP.out.symm), hg⟩
end Go.Proofs.YtkkilmmpmiichaaGreatDoor
