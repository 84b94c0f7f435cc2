/- The reference's Eq at rules, links and eras: of two that hold the same it returns true. The reference's ZoneEq and BookEq: of two that hold the same they return true. A day of a month as an argument: how it is read, how it is shut again. A rule as an argument: how it is read, how it is shut again. -/
import Derived.Deep.Cut
import Derived.Deep.QuietTactic
import Derived.BigQuiet
import Derived.Test.YtemdgipkcilpcaaGreatDoorAM16
import Derived.Deep.RegionHeld3
import Derived.Deep.DrawnRows
import Derived.ProofKit
import Derived.OpenShut
import Derived.ChangeSame
import Derived.Test.YtemdgipkcilpcaaGreatDoorAM07
namespace Go.Proofs.YtemdgipkcilpcaaGreatDoor
set_option linter.unusedVariables false
set_option linter.unusedSimpArgs false
open Go.RowKit
set_option maxRecDepth 100000 in
theorem neqEra (ru fm : ByteArray) (off0 sv un : Int) (w : World) : (binOp .neq 45 (.agg #[.int .i64 off0, .string ru, .int .i64 sv, .string fm, .int .i64 un]) (.agg #[.int .i64 off0, .string ru, .int .i64 sv, .string fm, .int .i64 un])).run Tryz.prog w = .ok (.bool false) w := by
  have h : Tryz.prog.underlying 45 = some (.struct (Tryz.prog.fieldsOf 45)) := by kernel_rfl
  have hh : Tryz.prog.stoodInHeld 45 = false := by kernel_rfl
  have u3 := Tryz.underlying3
  have a3 := Tryz.isAgg3
  have z3 := Tryz.sizeOf3
  have u9 := Tryz.underlying9
  have a9 := Tryz.isAgg9
  have z9 := Tryz.sizeOf9
  rw [run_neq_struct, show (10000 : Nat) = 9999 + 1 from rfl, run_equalIn_agg w 9999 45 _ _ h hh]
  simp only [Program.fieldsOf, Tryz.underlying45]
  go_simp

set_option maxRecDepth 100000 in
set_option maxHeartbeats 8000000 in
theorem reqEra (A : Option Addr) (c : Nat) (A' : Option Addr) (c' : Nat) (l : List EraD) (n' : Nat) (w : World) (hn : n' = l.length) (hl : l.length ≤ 100000) (h : Row w 5 EraD.cells A l) (h' : Row w 5 EraD.cells A' l) :
    Calls Tryz.prog 23 #[.slice A l.length c, .slice A' n' c'] w fun e w' => e = .returned (.bool true) ∧ Gr w w' := by
  subst hn
  have H := Lib.hid h
  have H' := Lib.hid h'
  clear h h'
  go_enter Tryz.func23, Tryz.ntmps23
  go_wp2_with fail
  go_loopw [14] (fun i W => ∃ k : Nat, k ≤ l.length ∧ i = .int .i64 k ∧ Hid (Gr w W)) (fun i W => l.length - (intOf i).toNat)
  case atStart => exact ⟨0, Nat.zero_le _, rfl, Gr.refl _⟩
  case round =>
    obtain ⟨k, hk, rfl, hg⟩ := hrel
    by_cases hlt : k < l.length
    · obtain ⟨⟨off0, ru, sv, fm, un⟩, hx⟩ := get_lt hlt
      obtain ⟨b, off, rfl, c0, c1, c2, c3, c4⟩ := H.out.five hx rfl hg.out
      obtain ⟨b2, off2, rfl, d0, d1, d2, d3, d4⟩ := H'.out.five hx rfl hg.out
      have HNB := Lib.hid (box_one wr (.cells #[.int .i64 off0, .string ru, .int .i64 sv, .string fm, .int .i64 un] 45))
      have D := Lib.hid (And.intro d0 (And.intro d1 (And.intro d2 (And.intro d3 d4))))
      clear hx d0 d1 d2 d3 d4
      have ne := fun w => neqEra ru fm off0 sv un w
      go_upto_region 6 with fail
      generalize wr.alloc (.cells #[.int .i64 off0, .string ru, .int .i64 sv, .string fm, .int .i64 un] 45) = w3 at HNB ⊢
      generalize wr.heap.size = q at HNB ⊢
      clear c0 c1 c2 c3 c4
      obtain ⟨d0, d1, d2, d3, d4⟩ := D.out
      have e0 := HNB.out.1.holds d0
      have e1 := HNB.out.1.holds d1
      have e2 := HNB.out.1.holds d2
      have e3 := HNB.out.1.holds d3
      have e4 := HNB.out.1.holds d4
      have x0 := bcell_row (i := 0) HNB.out.2 rfl
      have x1 := bcell_row (i := 1) HNB.out.2 rfl
      have x2 := bcell_row (i := 2) HNB.out.2 rfl
      have x3 := bcell_row (i := 3) HNB.out.2 rfl
      have x4 := bcell_row (i := 4) HNB.out.2 rfl
      clear d0 d1 d2 d3 d4 D
      go_quiet (fail)
      clear e0 e1 e2 e3 e4 x0 x1 x2 x3 x4 ne
      go_wp2_with fail
      go_roundw
      case rel => exact ⟨k + 1, by omega, by go_num, (hg.out.trans HNB.out.1).drewN _⟩
      case measure => simp [intOf]; omega
    · have e : k = l.length := by omega
      clear e hk
      go_wp2_with fail
      go_ret
      exact ⟨rfl, hg.out⟩
end Go.Proofs.YtemdgipkcilpcaaGreatDoor
namespace Go.Proofs.YtemdgipkcilpcaaGreatDoor
set_option linter.unusedVariables false
set_option linter.unusedSimpArgs false
open Go.RowKit
set_option maxHeartbeats 4000000 in
theorem rzoneEq (nm : ByteArray) (A : Option Addr) (c : Nat) (A' : Option Addr) (c' : Nat) (l : List EraD) (n' : Nat) (w : World) (hn : n' = l.length) (hl : l.length ≤ 100000) (h : Row w 5 EraD.cells A l) (h' : Row w 5 EraD.cells A' l) :
    Calls Tryz.prog 9 #[.agg #[.string nm, .slice A l.length c], .agg #[.string nm, .slice A' n' c']] w fun e w' => e = .returned (.bool true) ∧ Gr w w' := by
  have K := Lib.hid (fun W (g : Gr w W) => reqEra A c A' c' l n' W hn hl (h.gr g) (h'.gr g))
  have B0 := Lib.hid (box_two w (.cells #[.string nm, .slice A l.length c] 29) (.cells #[.string nm, .slice A' n' c'] 29))
  have e0 : (nm.toList == nm.toList) = true := by simp
  clear h h' hl hn
  go_enter Tryz.func9, Tryz.ntmps9
  go_upto_region 1 with fail
  generalize (w.alloc (.cells #[.string nm, .slice A l.length c] 29)).alloc (.cells #[.string nm, .slice A' n' c'] 29) = w1 at B0 ⊢
  generalize w.heap.size = q at B0 ⊢
  have x0 : w1.cell? ⟨q, 0, none⟩ = some (.string nm) := bcell_row B0.out.2.1 rfl
  have x1 : w1.cell? ⟨q, 1, none⟩ = some (.slice A l.length c) := bcell_row B0.out.2.1 rfl
  have y0 : w1.cell? ⟨q + 1, 0, none⟩ = some (.string nm) := bcell_row B0.out.2.2 rfl
  have y1 : w1.cell? ⟨q + 1, 1, none⟩ = some (.slice A' n' c') := bcell_row B0.out.2.2 rfl
  go_wp2_with fail
  clear x0 x1 y0 y1
  refine (K.out w1 B0.out.1).mono ?_
  rintro e w2 ⟨rfl, g2⟩
  go_wp2_with fail
  go_ret
  exact ⟨rfl, B0.out.1.trans g2⟩

end Go.Proofs.YtemdgipkcilpcaaGreatDoor
namespace Go.Proofs.YtemdgipkcilpcaaGreatDoor
open Go.ChangeShapes Go.WideShapes Go.ChangeAt Go.RowKit
set_option linter.unusedVariables false
set_option linter.unusedSimpArgs false
section
variable {H : Type} {enc : TypeId × Value → H} {W : World} {base : Nat} {sp : Nat → Bool} {held : Bool}
/-- the datum of a day -/
abbrev dayD (k d n : Int) : DataW H := .agg [.lit (.int .i64 k), .lit (.int .i64 d), .lit (.int .i64 n)]
theorem cellsDay : Tryz.prog.cellsOf 61 = 3 := by kernel_rfl
theorem cellsInt : Tryz.prog.cellsOf 3 = 1 := by kernel_rfl
end
end Go.Proofs.YtemdgipkcilpcaaGreatDoor
namespace Go.Proofs.YtemdgipkcilpcaaGreatDoor
open Go.ChangeShapes Go.WideShapes Go.ChangeAt Go.RowKit
set_option linter.unusedVariables false
set_option linter.unusedSimpArgs false
section
variable {H : Type} {enc : TypeId × Value → H} {W : World} {base : Nat} {sp : Nat → Bool} {held : Bool}
theorem cellsRule : Tryz.prog.cellsOf 63 = 11 := by kernel_rfl
theorem cellsStr : Tryz.prog.cellsOf 9 = 1 := by kernel_rfl
theorem int_cell {c : Value} {m : Nat} {x : DataW H × List MemPlace} (h : DataW.trod enc Tryz.prog W base sp held m 3 [c] = some x) : ∃ a : Int, c = .int .i64 a ∧ x = (.lit (.int .i64 a), []) ∧ (Lit.int .i64 a).wf = true := by
  obtain ⟨a, ea, rfl, wa⟩ := DataW.trod_int Tryz.underlying3 h
  exact ⟨a, (List.cons.inj ea).1, rfl, wa⟩
theorem str_cell {c : Value} {m : Nat} {x : DataW H × List MemPlace} (h : DataW.trod enc Tryz.prog W base sp held m 9 [c] = some x) : ∃ s : ByteArray, c = .string s ∧ x = (.lit (.string s.data.toList), []) ∧ s.size ≤ maxLen := by
  obtain ⟨a, ea, hx, wa⟩ := DataW.trod_string Tryz.underlying9 h
  exact ⟨a, (List.cons.inj ea).1, hx, wa⟩
theorem day_cells {c0 c1 c2 : Value} {m : Nat} {x : DataW H × List MemPlace} (hf : DataW.trod enc Tryz.prog W base sp held m 61 [c0, c1, c2] = some x) :
    ∃ a b c : Int, c0 = .int .i64 a ∧ c1 = .int .i64 b ∧ c2 = .int .i64 c ∧ x = (dayD a b c, []) ∧ (Lit.int .i64 a).wf = true ∧ (Lit.int .i64 b).wf = true ∧ (Lit.int .i64 c).wf = true := by
  obtain ⟨xs, m', _, hx, _, hlen, hfs⟩ := DataW.trod_struct Tryz.underlying61 hf
  match xs, hlen with
  | [y0, y1, y2], _ =>
    have f0 : DataW.trod enc Tryz.prog W base sp held m' 3 (([c0, c1, c2].drop 0).take (Tryz.prog.cellsOf 3)) = some y0 := hfs 0 _ rfl
    have f1 : DataW.trod enc Tryz.prog W base sp held m' 3 (([c0, c1, c2].drop 1).take (Tryz.prog.cellsOf 3)) = some y1 := hfs 1 _ rfl
    have f2 : DataW.trod enc Tryz.prog W base sp held m' 3 (([c0, c1, c2].drop 2).take (Tryz.prog.cellsOf 3)) = some y2 := hfs 2 _ rfl
    rw [cellsInt] at f0 f1 f2
    obtain ⟨a, ea, rfl, wa⟩ := int_cell f0
    obtain ⟨b, eb, rfl, wb⟩ := int_cell f1
    obtain ⟨c, ec, rfl, wc⟩ := int_cell f2
    exact ⟨a, b, c, ea, eb, ec, hx, wa, wb, wc⟩
end
end Go.Proofs.YtemdgipkcilpcaaGreatDoor
