/- turned, the closed fact of the laws of turns: a book of one rule of one year, written out. -/
import Derived.Test.YtkbegommjlmfmaaDoorQM33
import Derived.Test.YtkbegommjlmfmaaDoorQM21
namespace Go.Proofs.YtkbegommjlmfmaaDoor
set_option linter.unusedVariables false
set_option linter.unusedSimpArgs false
open Go.RowKit
theorem bsn_rule (w : World) (nm lt : ByteArray) (fr tt mo zk d n at' by' sv : Int) : (Instr.buildSlice 22 1 #[(0, Value.agg #[.string nm, .int .i64 fr, .int .i64 tt, .int .i64 mo, .int .i64 zk, .int .i64 d, .int .i64 n, .int .i64 at', .int .i64 by', .int .i64 sv, .string lt])]).run Tryd.prog w = .ok (.slice (some ⟨w.heap.size, 0, none⟩) 1 1) (w.alloc (.cells #[.string nm, .int .i64 fr, .int .i64 tt, .int .i64 mo, .int .i64 zk, .int .i64 d, .int .i64 n, .int .i64 at', .int .i64 by', .int .i64 sv, .string lt] 35)) := by kernel_rfl
/-- a book of one rule -/
def oneB (q : Nat) (r : RuD) : BokD := ⟨some ⟨q, 0, none⟩, 1, [r], none, 0, [], none, 0, []⟩
theorem oneB_at {w : World} {q : Nat} {r : RuD} {cs : Array Value} (hi : r.In) (h : w.heap[q]? = some (.cells cs 35 (0, 0))) (hc : cs.toList = r.cells) : (oneB q r).At w :=
  ⟨⟨⟨Nat.le_refl _, by show (1 : Nat) ≤ maxLen; unfold maxLen; omega⟩, row_sgl h hc, fun x hx => by
    have : x = r := by simpa [oneB] using hx
    rw [this]; exact hi⟩, ⟨⟨Nat.le_refl _, by unfold maxLen; exact Nat.zero_le _⟩, Row.nil _ _ _ _, fun z hz => by cases hz⟩, ⟨⟨Nat.le_refl _, by unfold maxLen; exact Nat.zero_le _⟩, Row.nil _ _ _ _, fun z hz => by cases hz⟩⟩
theorem bok_one {r : RuD} : bokC [r] [] [] = r.chk := by
  have e : fe (rusC [r]) 1 = r.chk := by simp [fe, rusC]
  by_cases h : r.chk = 0
  · rw [h]
    exact bokC_ok.2 ⟨by simp, by rw [h] at e; exact e, rfl, rfl⟩
  · have := bokC_rus (rs := [r]) (zs := []) (ls := []) (by simp) (by show fe (rusC [r]) 1 ≠ 0; rw [e]; exact h)
    rw [this]; exact e
theorem stab_one {β : Type} (key : β → Int) (x : β) : stab key [x] = [x] := rfl
/-- one rule of one year: one transition -/
theorem sorted_one {r : RuD} {nm : ByteArray} (hn : r.nm.toList = nm.toList) (hy : r.tt = r.fr) : selR [r] nm = [r] ∧ yrs (selR [r] nm) = 1 ∧ sorted [r] nm = [⟨nomR r r.fr, r⟩] := by
  have e : selR [r] nm = [r] := by unfold selR; simp [hn]
  refine ⟨e, ?_, ?_⟩
  · rw [e]; simp only [yrs]; omega
  · unfold sorted
    rw [e, pens_one]
    have e2 : penR r = [⟨nomR r r.fr, r⟩] := by
      unfold penR
      rw [show (r.tt - r.fr + 1).toNat = 1 by omega]
      simp [penN]
    rw [e2, stab_one]
theorem ofC_one {r : RuD} {nm : ByteArray} {off : Int} (hc : r.chk = 0) (hn : r.nm.toList = nm.toList) (hy : r.tt = r.fr) (h1 : -64800 ≤ off) (h2 : off ≤ 64800) : ofC [r] [] [] nm off = 0 ∧ ofL [r] [] [] nm off = [turP off 0 ⟨nomR r r.fr, r⟩] := by
  obtain ⟨a, b, c⟩ := sorted_one hn hy
  have e : ofC [r] [] [] nm off = 0 := ofC_zero.2 ⟨by rw [bok_one]; exact hc, ⟨h1, h2⟩, by rw [a]; simp, by omega, by rw [c]; rfl⟩
  refine ⟨e, ?_⟩
  unfold ofL
  rw [if_pos e, c]; rfl

/-- the rule of the closed fact -/
def rX : RuD := ⟨S [65], 1970, 1970, 1, 1, 0, 2, 0, 0, 3600, S [45]⟩
theorem rX_chk : rX.chk = 0 := by
  unfold RuD.chk
  simp only [rX, S_toList]
  decide
theorem rX_in : rX.In := by
  refine ⟨?_, ?_⟩ <;> (simp only [rX, S_size]; unfold maxLen; decide)
theorem rX_turn : turP 7200 0 ⟨nomR rX rX.fr, rX⟩ = ⟨79200, 3600, S [45]⟩ := by
  have e : nomR rX rX.fr = 86400 := by decide
  rw [e]; rfl

theorem eqTurnX (w : World) : (binOp .eql 37 (.agg #[.int .i64 79200, .int .i64 3600, .string ⟨#[45]⟩]) (.agg #[.int .i64 79200, .int .i64 3600, .string ⟨#[45]⟩])).run Tryd.prog w = .ok (.bool true) w := by kernel_rfl

set_option maxRecDepth 100000 in
set_option maxHeartbeats 8000000 in
theorem turned_any (w : World) (ht : BkTab w) :
    Calls Tryd.prog 4 #[] w fun e w' => e = .returned (.bool true) ∧ Gr w w' := by
  have HT := Lib.hid ht
  have EQ := fun w => eqTurnX w
  clear ht
  go_enter Tryd.func4, Tryd.ntmps4
  go_wp2_with (refine lay_one _ _ _ (by rfl) (bsn_rule w _ _ _ _ _ _ _ _ _ _ _) ?_)
  have B := Lib.hid (box_two w (.cells #[.string ⟨#[65]⟩, .int .i64 1970, .int .i64 1970, .int .i64 1, .int .i64 1, .int .i64 0, .int .i64 2, .int .i64 0, .int .i64 0, .int .i64 3600, .string ⟨#[45]⟩] 35) (.cells #[.slice (some ⟨w.heap.size, 0, none⟩) 1 1, .slice none 0 0, .slice none 0 0] 26))
  generalize (w.alloc (.cells #[.string ⟨#[65]⟩, .int .i64 1970, .int .i64 1970, .int .i64 1, .int .i64 1, .int .i64 0, .int .i64 2, .int .i64 0, .int .i64 0, .int .i64 3600, .string ⟨#[45]⟩] 35)).alloc (.cells #[.slice (some ⟨w.heap.size, 0, none⟩) 1 1, .slice none 0 0, .slice none 0 0] 26) = w1 at B ⊢
  generalize w.heap.size = q at B ⊢
  have K := tOf (oneB q rX) (S [65]) 7200 w1 (oneB_at rX_in B.out.2.1 rfl) (B.out.1.bk HT.out)
  refine K.mono ?_
  rintro e w2 ⟨A, c, rfl, ta, g2⟩
  obtain ⟨e1, e2⟩ := ofC_one (r := rX) (nm := S [65]) (off := 7200) rX_chk (by simp [rX]) rfl (by omega) (by omega)
  have e1' : ofC (oneB q rX).rs (oneB q rX).zs (oneB q rX).ls (S [65]) 7200 = 0 := e1
  have e2' : ofL (oneB q rX).rs (oneB q rX).zs (oneB q rX).ls (S [65]) 7200 = [⟨79200, 3600, S [45]⟩] := e2.trans (by rw [rX_turn])
  have ta2 := ta.2
  rw [e2'] at ta2
  rw [e1', e2']
  obtain ⟨b2, off2, rfl, d0, d1, d2⟩ := Row.three (i := 0) (x := (⟨79200, 3600, S [45]⟩ : TurD)) ta2 rfl rfl (Gr.refl w2)
  have G2 := Lib.hid (B.out.1.trans g2)
  clear ta ta2 g2 B e1 e2 e1' e2' K
  rw [Nat.zero_mul, Nat.add_zero] at d0 d1 d2
  have d2' : w2.cell? ⟨b2, off2 + 2, none⟩ = some (.string ⟨#[45]⟩) := d2
  clear d2
  go_wp2_with fail
  go_ret
  exact ⟨rfl, G2.out⟩
end Go.Proofs.YtkbegommjlmfmaaDoor
