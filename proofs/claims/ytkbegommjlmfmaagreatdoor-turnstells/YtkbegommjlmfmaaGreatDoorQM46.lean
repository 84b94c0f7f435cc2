/- turned, the closed fact of the laws of turns: a book of one rule of one year, written out. The reference's Eq at transitions: of two lists that hold the same it returns true. -/
import Derived.Test.YtkbegommjlmfmaaGreatDoorQM45
import Derived.Test.YtkbegommjlmfmaaGreatDoorQM28
import Derived.Deep.Cut
import Derived.Deep.QuietTactic
import Derived.BigQuiet
import Derived.Test.YtkbegommjlmfmaaGreatDoorQM42
namespace Go.Proofs.YtkbegommjlmfmaaGreatDoor
set_option linter.unusedVariables false
set_option linter.unusedSimpArgs false
open Go.RowKit
theorem bsn_rule (w : World) (nm lt : ByteArray) (fr tt mo zk d n at' by' sv : Int) : (Instr.buildSlice 22 1 #[(0, Value.agg #[.string nm, .int .i64 fr, .int .i64 tt, .int .i64 mo, .int .i64 zk, .int .i64 d, .int .i64 n, .int .i64 at', .int .i64 by', .int .i64 sv, .string lt])]).run Tryz.prog w = .ok (.slice (some ⟨w.heap.size, 0, none⟩) 1 1) (w.alloc (.cells #[.string nm, .int .i64 fr, .int .i64 tt, .int .i64 mo, .int .i64 zk, .int .i64 d, .int .i64 n, .int .i64 at', .int .i64 by', .int .i64 sv, .string lt] 40)) := by kernel_rfl
/-- a book of one rule -/
def oneB (q : Nat) (r : RuD) : BokD := ⟨some ⟨q, 0, none⟩, 1, [r], none, 0, [], none, 0, []⟩
theorem oneB_at {w : World} {q : Nat} {r : RuD} {cs : Array Value} (hi : r.In) (h : w.heap[q]? = some (.cells cs 40 (0, 0))) (hc : cs.toList = r.cells) : (oneB q r).At w :=
  ⟨⟨⟨Nat.le_refl _, by show (1 : Nat) ≤ maxLen; unfold maxLen; omega⟩, row_sgl h hc, fun x hx => by
    have : x = r := by simpa [oneB] using hx
    rw [this]; exact hi⟩, ⟨⟨Nat.le_refl _, by unfold maxLen; exact Nat.zero_le _⟩, Row.nil _ _ _ _, fun z hz => by cases hz⟩, ⟨⟨Nat.le_refl _, by unfold maxLen; exact Nat.zero_le _⟩, Row.nil _ _ _ _, fun z hz => by cases hz⟩⟩
theorem bok_one {r : RuD} : bokC [r] [] [] = r.chk := by
  have e : fe (rusC [r]) 1 = r.chk := by simp [fe, rusC]
  by_cases h : r.chk = 0
  · rw [h]
    exact bokC_ok.2 ⟨by simp, by rw [h] at e; exact e, rfl, rfl⟩
  · have := bokC_rus (rs := [r]) (zs := []) (ls := []) (by simp) (by show fe (rusC [r]) 1 ≠ 0; rw [e]; exact h)
    rw [this]; exact e
theorem bok_none : bokC [] [] [] = 0 := bokC_ok.2 ⟨by simp, rfl, rfl, rfl⟩
theorem stab_one {β : Type} (key : β → Int) (x : β) : stab key [x] = [x] := rfl
/-- one rule of one year: one transition -/
theorem sorted_one {r : RuD} {nm : ByteArray} (hn : r.nm.toList = nm.toList) (hy : r.tt = r.fr) : selR [r] nm = [r] ∧ yrs (selR [r] nm) = 1 ∧ sorted [r] nm = [⟨nomR r r.fr, r⟩] := by
  have e : selR [r] nm = [r] := by unfold selR; simp [hn]
  refine ⟨e, ?_, ?_⟩
  · rw [e]; simp only [yrs]; omega
  · unfold sorted
    rw [e, pens_one]
    have e2 : penR r = [⟨nomR r r.fr, r⟩] := by
      unfold penR
      rw [show (r.tt - r.fr + 1).toNat = 1 by omega]
      simp [penN]
    rw [e2, stab_one]
theorem ofC_one {r : RuD} {nm : ByteArray} {off : Int} (hc : r.chk = 0) (hn : r.nm.toList = nm.toList) (hy : r.tt = r.fr) (h1 : -64800 ≤ off) (h2 : off ≤ 64800) : ofC [r] [] [] nm off = 0 ∧ ofL [r] [] [] nm off = [turP off 0 ⟨nomR r r.fr, r⟩] := by
  obtain ⟨a, b, c⟩ := sorted_one hn hy
  have e : ofC [r] [] [] nm off = 0 := ofC_zero.2 ⟨by rw [bok_one]; exact hc, ⟨h1, h2⟩, by rw [a]; simp, by omega, by rw [c]; rfl⟩
  refine ⟨e, ?_⟩
  unfold ofL
  rw [if_pos e, c]; rfl

/-- the rule of the closed fact -/
def rX : RuD := ⟨S [65], 1970, 1970, 1, 1, 0, 2, 0, 0, 3600, S [45]⟩
theorem rX_chk : rX.chk = 0 := by
  unfold RuD.chk
  simp only [rX, S_toList]
  decide
theorem rX_in : rX.In := by
  refine ⟨?_, ?_⟩ <;> (simp only [rX, S_size]; unfold maxLen; decide)
theorem rX_turn : turP 7200 0 ⟨nomR rX rX.fr, rX⟩ = ⟨79200, 3600, S [45]⟩ := by
  have e : nomR rX rX.fr = 86400 := by decide
  rw [e]; rfl

theorem eqTurnX (w : World) : (binOp .eql 34 (.agg #[.int .i64 79200, .int .i64 3600, .string ⟨#[45]⟩]) (.agg #[.int .i64 79200, .int .i64 3600, .string ⟨#[45]⟩])).run Tryz.prog w = .ok (.bool true) w := by kernel_rfl

set_option maxRecDepth 100000 in
set_option maxHeartbeats 8000000 in
theorem turned_any (w : World) (ht : BkTab w) :
    Calls Tryz.prog 12 #[] w fun e w' => e = .returned (.bool true) ∧ Gr w w' := by
  have HT := Lib.hid ht
  have EQ := fun w => eqTurnX w
  clear ht
  go_enter Tryz.func12, Tryz.ntmps12
  go_wp2_with (refine lay_one _ _ _ (by rfl) (bsn_rule w _ _ _ _ _ _ _ _ _ _ _) ?_)
  have B := Lib.hid (box_two w (.cells #[.string ⟨#[65]⟩, .int .i64 1970, .int .i64 1970, .int .i64 1, .int .i64 1, .int .i64 0, .int .i64 2, .int .i64 0, .int .i64 0, .int .i64 3600, .string ⟨#[45]⟩] 40) (.cells #[.slice (some ⟨w.heap.size, 0, none⟩) 1 1, .slice none 0 0, .slice none 0 0] 26))
  generalize (w.alloc (.cells #[.string ⟨#[65]⟩, .int .i64 1970, .int .i64 1970, .int .i64 1, .int .i64 1, .int .i64 0, .int .i64 2, .int .i64 0, .int .i64 0, .int .i64 3600, .string ⟨#[45]⟩] 40)).alloc (.cells #[.slice (some ⟨w.heap.size, 0, none⟩) 1 1, .slice none 0 0, .slice none 0 0] 26) = w1 at B ⊢
  generalize w.heap.size = q at B ⊢
  have K := tOf (oneB q rX) (S [65]) 7200 w1 (oneB_at rX_in B.out.2.1 rfl) (B.out.1.bk HT.out)
  refine K.mono ?_
  rintro e w2 ⟨A, c, rfl, ta, g2⟩
  obtain ⟨e1, e2⟩ := ofC_one (r := rX) (nm := S [65]) (off := 7200) rX_chk (by simp [rX]) rfl (by omega) (by omega)
  have e1' : ofC (oneB q rX).rs (oneB q rX).zs (oneB q rX).ls (S [65]) 7200 = 0 := e1
  have e2' : ofL (oneB q rX).rs (oneB q rX).zs (oneB q rX).ls (S [65]) 7200 = [⟨79200, 3600, S [45]⟩] := e2.trans (by rw [rX_turn])
  have ta2 := ta.2
  rw [e2'] at ta2
  rw [e1', e2']
  obtain ⟨b2, off2, rfl, d0, d1, d2⟩ := Row.three (i := 0) (x := (⟨79200, 3600, S [45]⟩ : TurD)) ta2 rfl rfl (Gr.refl w2)
  have G2 := Lib.hid (B.out.1.trans g2)
  clear ta ta2 g2 B e1 e2 e1' e2' K
  rw [Nat.zero_mul, Nat.add_zero] at d0 d1 d2
  have d2' : w2.cell? ⟨b2, off2 + 2, none⟩ = some (.string ⟨#[45]⟩) := d2
  clear d2
  go_wp2_with fail
  go_ret
  exact ⟨rfl, G2.out⟩
end Go.Proofs.YtkbegommjlmfmaaGreatDoor
namespace Go.Proofs.YtkbegommjlmfmaaGreatDoor
set_option linter.unusedVariables false
set_option linter.unusedSimpArgs false
open Go.RowKit
set_option maxRecDepth 100000 in
theorem neqTurn (at' sv : Int) (lt : ByteArray) (w : World) : (binOp .neq 34 (.agg #[.int .i64 at', .int .i64 sv, .string lt]) (.agg #[.int .i64 at', .int .i64 sv, .string lt])).run Tryz.prog w = .ok (.bool false) w := by
  have h : Tryz.prog.underlying 34 = some (.struct (Tryz.prog.fieldsOf 34)) := by kernel_rfl
  have hh : Tryz.prog.stoodInHeld 34 = false := by kernel_rfl
  have u3 := Tryz.underlying3
  have a3 := Tryz.isAgg3
  have z3 := Tryz.sizeOf3
  have u9 := Tryz.underlying9
  have a9 := Tryz.isAgg9
  have z9 := Tryz.sizeOf9
  rw [run_neq_struct, show (10000 : Nat) = 9999 + 1 from rfl, run_equalIn_agg w 9999 34 _ _ h hh]
  simp only [Program.fieldsOf, Tryz.underlying34]
  go_simp

set_option maxRecDepth 100000 in
theorem eqTurn (at' sv : Int) (lt : ByteArray) (w : World) : (binOp .eql 34 (.agg #[.int .i64 at', .int .i64 sv, .string lt]) (.agg #[.int .i64 at', .int .i64 sv, .string lt])).run Tryz.prog w = .ok (.bool true) w := by
  have h : Tryz.prog.underlying 34 = some (.struct (Tryz.prog.fieldsOf 34)) := by kernel_rfl
  have hh : Tryz.prog.stoodInHeld 34 = false := by kernel_rfl
  have u3 := Tryz.underlying3
  have a3 := Tryz.isAgg3
  have z3 := Tryz.sizeOf3
  have u9 := Tryz.underlying9
  have a9 := Tryz.isAgg9
  have z9 := Tryz.sizeOf9
  rw [run_eql_struct, show (10000 : Nat) = 9999 + 1 from rfl, run_equalIn_agg w 9999 34 _ _ h hh]
  simp only [Program.fieldsOf, Tryz.underlying34]
  go_simp

set_option maxRecDepth 100000 in
set_option maxHeartbeats 8000000 in
theorem reqTurn (A : Option Addr) (c : Nat) (A' : Option Addr) (c' : Nat) (l : List TurD) (n' : Nat) (w : World) (hn : n' = l.length) (hl : l.length ≤ 100000) (h : Row w 3 TurD.cells A l) (h' : Row w 3 TurD.cells A' l) :
    Calls Tryz.prog 11 #[.slice A l.length c, .slice A' n' c'] w fun e w' => e = .returned (.bool true) ∧ Gr w w' := by
  subst hn
  have H := Lib.hid h
  have H' := Lib.hid h'
  clear h h'
  go_enter Tryz.func11, Tryz.ntmps11
  go_wp2_with fail
  go_loopw [14] (fun i W => ∃ k : Nat, k ≤ l.length ∧ i = .int .i64 k ∧ Hid (Gr w W)) (fun i W => l.length - (intOf i).toNat)
  case atStart => exact ⟨0, Nat.zero_le _, rfl, Gr.refl _⟩
  case round =>
    obtain ⟨k, hk, rfl, hg⟩ := hrel
    by_cases hlt : k < l.length
    · obtain ⟨⟨at', sv, lt⟩, hx⟩ := get_lt hlt
      obtain ⟨b, off, rfl, c0, c1, c2⟩ := H.out.three hx rfl hg.out
      obtain ⟨b2, off2, rfl, d0, d1, d2⟩ := H'.out.three hx rfl hg.out
      have HNB := Lib.hid (box_one wr (.cells #[.int .i64 at', .int .i64 sv, .string lt] 34))
      have D := Lib.hid (And.intro d0 (And.intro d1 d2))
      clear hx d0 d1 d2
      have ne := fun w => neqTurn at' sv lt w
      go_upto_region 6 with fail
      generalize wr.alloc (.cells #[.int .i64 at', .int .i64 sv, .string lt] 34) = w3 at HNB ⊢
      generalize wr.heap.size = q at HNB ⊢
      clear c0 c1 c2
      obtain ⟨d0, d1, d2⟩ := D.out
      have e0 := HNB.out.1.holds d0
      have e1 := HNB.out.1.holds d1
      have e2 := HNB.out.1.holds d2
      have x0 := bcell_row (i := 0) HNB.out.2 rfl
      have x1 := bcell_row (i := 1) HNB.out.2 rfl
      have x2 := bcell_row (i := 2) HNB.out.2 rfl
      clear d0 d1 d2 D
      go_quiet (fail)
      clear e0 e1 e2 x0 x1 x2 ne
      go_wp2_with fail
      go_roundw
      case rel => exact ⟨k + 1, by omega, by go_num, (hg.out.trans HNB.out.1).drewN _⟩
      case measure => simp [intOf]; omega
    · have e : k = l.length := by omega
      clear e hk
      go_wp2_with fail
      go_ret
      exact ⟨rfl, hg.out⟩
end Go.Proofs.YtkbegommjlmfmaaGreatDoor
