/- The project's isSpan, isLarge, isIndex, typeAfter, bookOf of package table. -/
import Derived.Test.YtkmgildnhnjepaaGreatDoorTM37
import Derived.Test.YtkmgildnhnjepaaGreatDoorTM18
namespace Go.Proofs.YtkmgildnhnjepaaGreatDoor
set_option linter.unusedVariables false
set_option linter.unusedSimpArgs false
open Go.RowKit
/-- is this a span of which there may be a table? -/
def spB (a b : Int) : Bool := (tmB a && tmB b) && decide (a < b)
theorem spB_yes {a b : Int} : spB a b = true ↔ tmB a = true ∧ tmB b = true ∧ a < b := by unfold spB; simp [and_assoc]
theorem tmC_yes {t : Int} (h : tmB t = true) : tmC t = 0 := by unfold tmC; rw [if_pos h]
theorem tmC_no {t : Int} (h : tmB t = false) : tmC t = 1 := by unfold tmC; rw [h]; rfl

set_option maxRecDepth 100000 in
set_option maxHeartbeats 4000000 in
theorem pisSpan (a b : Int) (w : World) (a1 : -9223372036854775808 ≤ a) (a2 : a ≤ 9223372036854775807) (b1 : -9223372036854775808 ≤ b) (b2 : b ≤ 9223372036854775807) (ht : BkTab w) :
    Calls Tryz.prog 20 #[.agg #[.int .i64 a, .int .i64 b]] w fun e w' => e = .returned (.bool (spB a b)) ∧ Gr w w' := by
  have K1 := Lib.hid (fun W (g : Gr w W) => pstamp a W (g.bk ht) a1 a2)
  have K2 := Lib.hid (fun W (g : Gr w W) => pstamp b W (g.bk ht) b1 b2)
  have B0 := Lib.hid (box_one w (.cells #[.int .i64 a, .int .i64 b] 28))
  clear ht a1 a2 b1 b2
  have SB : Hid (spB a b = ((tmB a && tmB b) && decide (a < b))) := rfl
  go_enter Tryz.func20, Tryz.ntmps20
  go_wp2_with fail
  generalize w.alloc (.cells #[.int .i64 a, .int .i64 b] 28) = w1 at B0 ⊢
  generalize w.heap.size = q at B0 ⊢
  have x0 : w1.cell? ⟨q, 0, none⟩ = some (.int .i64 a) := bcell_row B0.out.2 rfl
  have x1 : w1.cell? ⟨q, 1, none⟩ = some (.int .i64 b) := bcell_row B0.out.2 rfl
  go_wp2_with fail
  clear x0 x1
  refine (K1.out w1 B0.out.1).mono ?_
  rintro e w2 ⟨rfl, g2⟩
  have G2 := Lib.hid (B0.out.1.trans g2)
  have HQ2 := Lib.hid (bheap_gr g2 B0.out.2)
  clear g2 B0 K1
  have x0 : w2.cell? ⟨q, 0, none⟩ = some (.int .i64 a) := bcell_row HQ2.out rfl
  have x1 : w2.cell? ⟨q, 1, none⟩ = some (.int .i64 b) := bcell_row HQ2.out rfl
  go_wp2_with fail
  clear x0 x1
  refine (K2.out w2 G2.out).mono ?_
  rintro e w3 ⟨rfl, g3⟩
  have G3 := Lib.hid (G2.out.trans g3)
  have HQ3 := Lib.hid (bheap_gr g3 HQ2.out)
  clear g3 G2 HQ2 K2
  have x0 : w3.cell? ⟨q, 0, none⟩ = some (.int .i64 a) := bcell_row HQ3.out rfl
  have x1 : w3.cell? ⟨q, 1, none⟩ = some (.int .i64 b) := bcell_row HQ3.out rfl
  cases ca : tmB a with
  | false =>
    rw [tmC_no ca]
    rw [ca] at SB
    clear ca
    go_wp2_with fail
    go_ret
    exact ⟨ret_bool SB.out.symm, G3.out⟩
  | true =>
    rw [tmC_yes ca]
    rw [ca] at SB
    clear ca
    cases cb : tmB b with
    | false =>
      rw [tmC_no cb]
      rw [cb] at SB
      clear cb
      go_wp2_with fail
      go_ret
      exact ⟨ret_bool SB.out.symm, G3.out⟩
    | true =>
      rw [tmC_yes cb]
      rw [cb] at SB
      clear cb
      simp only [Bool.and_self, Bool.true_and] at SB
      go_wp2_with fail
      go_ret
      exact ⟨ret_bool SB.out.symm, G3.out⟩

/-- is this more than there may be? -/
def lgB (n m : Nat) : Bool := decide (250 < n) || decide (1000 < m)
theorem lgB_no {n m : Nat} : lgB n m = false ↔ n ≤ 250 ∧ m ≤ 1000 := by unfold lgB; simp

set_option maxRecDepth 100000 in
set_option maxHeartbeats 4000000 in
theorem pisLarge (A B : Option Addr) (n m c d : Nat) (f : Int) (w : World) :
    Calls Tryz.prog 22 #[.agg #[.slice A n c, .int .i64 f, .slice B m d]] w fun e w' => e = .returned (.bool (lgB n m)) ∧ Gr w w' := by
  by_cases h1 : 250 < n
  · have t1 : decide ((250 : Int) < (n : Int)) = true := ltT (by omega)
    have E : Hid (lgB n m = true) := by unfold Hid lgB; rw [decide_eq_true h1]; rfl
    clear h1
    go_enter Tryz.func22, Tryz.ntmps22
    go_wp2_with fail
    go_ret
    exact ⟨ret_bool E.out.symm, Gr.alloc _ _⟩
  · have t1 : decide ((250 : Int) < (n : Int)) = false := ltF (by omega)
    have E : Hid (decide ((1000 : Int) < (m : Int)) = lgB n m) := by unfold Hid lgB; rw [decide_eq_false h1, Bool.false_or]; exact decide_eq_decide.2 (by omega)
    clear h1
    go_enter Tryz.func22, Tryz.ntmps22
    go_wp2_with fail
    go_ret
    exact ⟨ret_bool E.out, Gr.alloc _ _⟩

set_option maxRecDepth 100000 in
set_option maxHeartbeats 4000000 in
theorem pisIndex (k : Int) (A : Option Addr) (n c : Nat) (w : World) :
    Calls Tryz.prog 33 #[.int .i64 k, .slice A n c] w fun e w' => e = .returned (.bool (decide (0 ≤ k) && decide (k < (n : Int)))) ∧ w = w' := by
  cases c1 : decide (0 ≤ k) with
  | true =>
    have e1 : (0 : Int) ≤ k := of_decide_eq_true c1
    clear c1
    cases c2 : decide (k < (n : Int)) with
    | true =>
      go_enter Tryz.func33, Tryz.ntmps33
      go_wp2_with fail
      go_ret
      exact ⟨rfl, rfl⟩
    | false =>
      go_enter Tryz.func33, Tryz.ntmps33
      go_wp2_with fail
      go_ret
      exact ⟨rfl, rfl⟩
  | false =>
    have e1 : ¬ (0 : Int) ≤ k := of_decide_eq_false c1
    go_enter Tryz.func33, Tryz.ntmps33
    go_wp2_with fail
    go_ret
    exact ⟨rfl, rfl⟩

set_option maxRecDepth 100000 in
set_option maxHeartbeats 4000000 in
theorem ptypeAfter (eo sv un ua us : Int) (ru fm ul : ByteArray) (w : World) (hm : HasMax w) (hl : ul.size ≤ maxLen) (o1 : -64800 ≤ eo) (o2 : eo ≤ 64800) (s1 : 0 ≤ us) (s2 : us ≤ 10800) :
    Calls Tryz.prog 53 #[.agg #[.int .i64 eo, .string ru, .int .i64 sv, .string fm, .int .i64 un], .agg #[.int .i64 ua, .int .i64 us, .string ul]] w fun e w' => e = .returned (.agg #[.int .i64 (eo + us), .bool (decide (0 < us)), .string (S (abbrR fm.toList us ul.toList).1)]) ∧ Gr w w' := by
  have KA := Lib.hid (fun W (g : Gr w W) => pabbrFmt fm us ul W (g.max hm) hl)
  have B0 := Lib.hid (box_three w (.cells #[.int .i64 eo, .string ru, .int .i64 sv, .string fm, .int .i64 un] 59) (.cells #[.int .i64 ua, .int .i64 us, .string ul] 75) (.cells #[.int .i64 0, .bool false, .string ⟨#[]⟩] 46))
  clear hm hl
  go_enter Tryz.func53, Tryz.ntmps53
  go_wp2_with fail
  generalize ((w.alloc (.cells #[.int .i64 eo, .string ru, .int .i64 sv, .string fm, .int .i64 un] 59)).alloc (.cells #[.int .i64 ua, .int .i64 us, .string ul] 75)).alloc (.cells #[.int .i64 0, .bool false, .string ⟨#[]⟩] 46) = w1 at B0 ⊢
  obtain ⟨q, hq⟩ : ∃ q, w.heap.size = q := ⟨_, rfl⟩
  have NQ : Hid (w.heap.size ≤ q + 1 + 1) := by unfold Hid; omega
  rw [hq] at B0 ⊢
  clear hq
  have x0 : w1.cell? ⟨q, 0, none⟩ = some (.int .i64 eo) := bcell_row B0.out.2.1 rfl
  have x1 : w1.cell? ⟨q, 1, none⟩ = some (.string ru) := bcell_row B0.out.2.1 rfl
  have x2 : w1.cell? ⟨q, 2, none⟩ = some (.int .i64 sv) := bcell_row B0.out.2.1 rfl
  have x3 : w1.cell? ⟨q, 3, none⟩ = some (.string fm) := bcell_row B0.out.2.1 rfl
  have x4 : w1.cell? ⟨q, 4, none⟩ = some (.int .i64 un) := bcell_row B0.out.2.1 rfl
  have y0 : w1.cell? ⟨q + 1, 0, none⟩ = some (.int .i64 ua) := bcell_row B0.out.2.2.1 rfl
  have y1 : w1.cell? ⟨q + 1, 1, none⟩ = some (.int .i64 us) := bcell_row B0.out.2.2.1 rfl
  have y2 : w1.cell? ⟨q + 1, 2, none⟩ = some (.string ul) := bcell_row B0.out.2.2.1 rfl
  go_wp2_with fail
  clear x0 x1 x2 x3 x4 y0 y1 y2
  refine (KA.out w1 B0.out.1).mono ?_
  rintro e w2 ⟨rfl, g2⟩
  have G2 := Lib.hid (B0.out.1.trans g2)
  have HE := Lib.hid (bheap_gr g2 B0.out.2.1)
  have HU := Lib.hid (bheap_gr g2 B0.out.2.2.1)
  have HT := Lib.hid (bheap_gr g2 B0.out.2.2.2)
  clear g2 B0 KA
  have x0 : w2.cell? ⟨q, 0, none⟩ = some (.int .i64 eo) := bcell_row HE.out rfl
  have x1 : w2.cell? ⟨q, 1, none⟩ = some (.string ru) := bcell_row HE.out rfl
  have x2 : w2.cell? ⟨q, 2, none⟩ = some (.int .i64 sv) := bcell_row HE.out rfl
  have x3 : w2.cell? ⟨q, 3, none⟩ = some (.string fm) := bcell_row HE.out rfl
  have x4 : w2.cell? ⟨q, 4, none⟩ = some (.int .i64 un) := bcell_row HE.out rfl
  have y0 : w2.cell? ⟨q + 1, 0, none⟩ = some (.int .i64 ua) := bcell_row HU.out rfl
  have y1 : w2.cell? ⟨q + 1, 1, none⟩ = some (.int .i64 us) := bcell_row HU.out rfl
  have y2 : w2.cell? ⟨q + 1, 2, none⟩ = some (.string ul) := bcell_row HU.out rfl
  have z0 : w2.cell? ⟨q + 1 + 1, 0, none⟩ = some (.int .i64 0) := bcell_row HT.out rfl
  have z1 : w2.cell? ⟨q + 1 + 1, 1, none⟩ = some (.bool false) := bcell_row HT.out rfl
  have z2 : w2.cell? ⟨q + 1 + 1, 2, none⟩ = some (.string ⟨#[]⟩) := bcell_row HT.out rfl
  have f0 : w2.frozen? ⟨q + 1 + 1, 0, none⟩ = false := unfrozen HT.out
  have f1 : w2.frozen? ⟨q + 1 + 1, 1, none⟩ = false := unfrozen HT.out
  have f2 : w2.frozen? ⟨q + 1 + 1, 2, none⟩ = false := unfrozen HT.out
  have s0 : (((w2.setCell ⟨q + 1 + 1, 0, none⟩ (.int .i64 (eo + us))).setCell ⟨q + 1 + 1, 1, none⟩ (.bool (decide (0 < us)))).setCell ⟨q + 1 + 1, 2, none⟩ (.string (S (abbrR fm.toList us ul.toList).1))).cell? ⟨q + 1 + 1, 0, none⟩ = some (.int .i64 (eo + us)) := bcell_row (st3 HT.out (.int .i64 (eo + us)) (.bool (decide (0 < us))) (.string (S (abbrR fm.toList us ul.toList).1))) rfl
  have s1 : (((w2.setCell ⟨q + 1 + 1, 0, none⟩ (.int .i64 (eo + us))).setCell ⟨q + 1 + 1, 1, none⟩ (.bool (decide (0 < us)))).setCell ⟨q + 1 + 1, 2, none⟩ (.string (S (abbrR fm.toList us ul.toList).1))).cell? ⟨q + 1 + 1, 1, none⟩ = some (.bool (decide (0 < us))) := bcell_row (st3 HT.out (.int .i64 (eo + us)) (.bool (decide (0 < us))) (.string (S (abbrR fm.toList us ul.toList).1))) rfl
  have s2 : (((w2.setCell ⟨q + 1 + 1, 0, none⟩ (.int .i64 (eo + us))).setCell ⟨q + 1 + 1, 1, none⟩ (.bool (decide (0 < us)))).setCell ⟨q + 1 + 1, 2, none⟩ (.string (S (abbrR fm.toList us ul.toList).1))).cell? ⟨q + 1 + 1, 2, none⟩ = some (.string (S (abbrR fm.toList us ul.toList).1)) := bcell_row (st3 HT.out (.int .i64 (eo + us)) (.bool (decide (0 < us))) (.string (S (abbrR fm.toList us ul.toList).1))) rfl
  go_wp2_with fail
  exact bodyPost_ret (v := .agg #[.int .i64 (eo + us), .bool (decide (0 < us)), .string (S (abbrR fm.toList us ul.toList).1)]) (by simp [results, Tryz.results53, go_sem, s0, s1, s2]) rfl ⟨rfl, (st3_below G2.out NQ.out (.int .i64 (eo + us)) (.bool (decide (0 < us))) (.string (S (abbrR fm.toList us ul.toList).1)))⟩

/-- what bookOf leaves: a book in which an era is alone -/
def BofE (Ar : Option Addr) (cr : Nat) (rs : List RuD) (e : EraD) (w : World) (r : Ending) (w' : World) : Prop :=
  ∃ q q2, r = .returned (.agg #[.slice Ar rs.length cr, .slice (some ⟨q2, 0, none⟩) 1 1, .slice none 0 0]) ∧ w'.heap[q]? = some (.cells #[.int .i64 e.off, .string e.ru, .int .i64 e.sv, .string e.fm, .int .i64 0] 59 (0, 0)) ∧ w'.heap[q2]? = some (.cells #[.string ⟨#[90, 111, 110, 101]⟩, .slice (some ⟨q, 0, none⟩) 1 1] 57 (0, 0)) ∧ Gr w w'

set_option maxRecDepth 100000 in
set_option maxHeartbeats 4000000 in
theorem pbookOf (Ar : Option Addr) (cr : Nat) (rs : List RuD) (e : EraD) (w : World) :
    Calls Tryz.prog 50 #[.slice Ar rs.length cr, .agg #[.int .i64 e.off, .string e.ru, .int .i64 e.sv, .string e.fm, .int .i64 e.un]] w (BofE Ar cr rs e w) := by
  obtain ⟨eo, ru, sv, fm, un⟩ := e
  obtain ⟨n, hn⟩ : ∃ n, rs.length = n := ⟨_, rfl⟩
  have FIN : Hid (∀ r w' q q2, r = .returned (.agg #[.slice Ar n cr, .slice (some ⟨q2, 0, none⟩) 1 1, .slice none 0 0]) → w'.heap[q]? = some (.cells #[.int .i64 eo, .string ru, .int .i64 sv, .string fm, .int .i64 0] 59 (0, 0)) → w'.heap[q2]? = some (.cells #[.string ⟨#[90, 111, 110, 101]⟩, .slice (some ⟨q, 0, none⟩) 1 1] 57 (0, 0)) → Gr w w' → BofE Ar cr rs ⟨eo, ru, sv, fm, un⟩ w r w') :=
    fun r w' q q2 h1 h2 h3 h4 => ⟨q, q2, by rw [hn]; exact h1, h2, h3, h4⟩
  rw [hn]
  clear hn
  simp only
  have B0 := Lib.hid (box_4 w (.cells #[.int .i64 eo, .string ru, .int .i64 sv, .string fm, .int .i64 0] 59) (.cells #[.slice Ar n cr, .slice (some ⟨w.heap.size + 1 + 1 + 1, 0, none⟩) 1 1, .slice none 0 0] 26) (.cells #[.int .i64 eo, .string ru, .int .i64 sv, .string fm, .int .i64 0] 59) (.cells #[.string ⟨#[90, 111, 110, 101]⟩, .slice (some ⟨w.heap.size + 1 + 1, 0, none⟩) 1 1] 57))
  go_enter Tryz.func50, Tryz.ntmps50
  go_wp2_with (first | (refine lay_one _ _ _ (by rfl) (bsn_era1 _ eo sv 0 ru fm) ?_) | (refine lay_one _ _ _ (by rfl) (bsn_zone1 _ ⟨#[90, 111, 110, 101]⟩ _ 1 1) ?_))
  generalize (((w.alloc (.cells #[.int .i64 eo, .string ru, .int .i64 sv, .string fm, .int .i64 0] 59)).alloc (.cells #[.slice Ar n cr, .slice (some ⟨w.heap.size + 1 + 1 + 1, 0, none⟩) 1 1, .slice none 0 0] 26)).alloc (.cells #[.int .i64 eo, .string ru, .int .i64 sv, .string fm, .int .i64 0] 59)).alloc (.cells #[.string ⟨#[90, 111, 110, 101]⟩, .slice (some ⟨w.heap.size + 1 + 1, 0, none⟩) 1 1] 57) = w1 at B0 ⊢
  have s0 : w1.cell? ⟨w.heap.size + 1, 0, none⟩ = some (.slice Ar n cr) := bcell_row B0.out.2.2.1 rfl
  have s1 : w1.cell? ⟨w.heap.size + 1, 1, none⟩ = some (.slice (some ⟨w.heap.size + 1 + 1 + 1, 0, none⟩) 1 1) := bcell_row B0.out.2.2.1 rfl
  have s2 : w1.cell? ⟨w.heap.size + 1, 2, none⟩ = some (.slice none 0 0) := bcell_row B0.out.2.2.1 rfl
  exact bodyPost_ret (v := .agg #[.slice Ar n cr, .slice (some ⟨w.heap.size + 1 + 1 + 1, 0, none⟩) 1 1, .slice none 0 0]) (by simp [results, Tryz.results50, go_sem, s0, s1, s2]) rfl (FIN.out _ _ (w.heap.size + 1 + 1) (w.heap.size + 1 + 1 + 1) rfl B0.out.2.2.2.1 B0.out.2.2.2.2 B0.out.1)
end Go.Proofs.YtkmgildnhnjepaaGreatDoor
