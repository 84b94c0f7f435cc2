/- The reference's Eq at rules, links and eras: of two that hold the same it returns true. -/
import Derived.Deep.QuietTactic
import Derived.BigQuiet
import Derived.Test.YtmemgpmijphkmaaGreatDoorXM31
namespace Go.Proofs.YtmemgpmijphkmaaGreatDoor
set_option linter.unusedVariables false
set_option linter.unusedSimpArgs false
open Go.RowKit
set_option maxRecDepth 100000 in
theorem eqDay (a b c : Int) (w : World) : (Op.equalIn 9999 54 (.agg #[.int .i64 a, .int .i64 b, .int .i64 c]) (.agg #[.int .i64 a, .int .i64 b, .int .i64 c])).run Tryz.prog w = .ok true w := by
  have h : Tryz.prog.underlying 54 = some (.struct (Tryz.prog.fieldsOf 54)) := by kernel_rfl
  have hh : Tryz.prog.stoodInHeld 54 = false := by kernel_rfl
  have u3 := Tryz.underlying3
  have a3 := Tryz.isAgg3
  have z3 := Tryz.sizeOf3
  rw [show (9999 : Nat) = 9998 + 1 from rfl, run_equalIn_agg w 9998 54 _ _ h hh]
  simp only [Program.fieldsOf, Tryz.underlying54]
  go_simp

set_option maxRecDepth 100000 in
theorem neqRule (nm lt : ByteArray) (fr tt mo zk d n at' by' sv : Int) (w : World) : (binOp .neq 56 (.agg #[.string nm, .int .i64 fr, .int .i64 tt, .int .i64 mo, .int .i64 zk, .int .i64 d, .int .i64 n, .int .i64 at', .int .i64 by', .int .i64 sv, .string lt]) (.agg #[.string nm, .int .i64 fr, .int .i64 tt, .int .i64 mo, .int .i64 zk, .int .i64 d, .int .i64 n, .int .i64 at', .int .i64 by', .int .i64 sv, .string lt])).run Tryz.prog w = .ok (.bool false) w := by
  have h : Tryz.prog.underlying 56 = some (.struct (Tryz.prog.fieldsOf 56)) := by kernel_rfl
  have hh : Tryz.prog.stoodInHeld 56 = false := by kernel_rfl
  have u3 := Tryz.underlying3
  have a3 := Tryz.isAgg3
  have z3 := Tryz.sizeOf3
  have u9 := Tryz.underlying9
  have a9 := Tryz.isAgg9
  have z9 := Tryz.sizeOf9
  rw [run_neq_struct, show (10000 : Nat) = 9999 + 1 from rfl, run_equalIn_agg w 9999 56 _ _ h hh]
  simp only [Program.fieldsOf, Tryz.underlying56]
  have dq := fun w => eqDay zk d n w
  have da := Tryz.isAgg54
  have dz0 := Tryz.sizeOf54
  go_simp

set_option maxRecDepth 100000 in
set_option maxHeartbeats 8000000 in
theorem reqRule (A : Option Addr) (c : Nat) (A' : Option Addr) (c' : Nat) (l : List RuD) (n' : Nat) (w : World) (hn : n' = l.length) (hl : l.length ≤ 100000) (h : Row w 11 RuD.cells A l) (h' : Row w 11 RuD.cells A' l) :
    Calls Tryz.prog 44 #[.slice A l.length c, .slice A' n' c'] w fun e w' => e = .returned (.bool true) ∧ Gr w w' := by
  subst hn
  have H := Lib.hid h
  have H' := Lib.hid h'
  clear h h'
  go_enter Tryz.func44, Tryz.ntmps44
  go_wp2_with fail
  go_loopw [14] (fun i W => ∃ k : Nat, k ≤ l.length ∧ i = .int .i64 k ∧ Hid (Gr w W)) (fun i W => l.length - (intOf i).toNat)
  case atStart => exact ⟨0, Nat.zero_le _, rfl, Gr.refl _⟩
  case round =>
    obtain ⟨k, hk, rfl, hg⟩ := hrel
    by_cases hlt : k < l.length
    · obtain ⟨⟨nm, fr, tt, mo, zk, d, n, at', by', sv, lt⟩, hx⟩ := get_lt hlt
      obtain ⟨b, off, rfl, c0, c1, c2, c3, c4, c5, c6, c7, c8, c9, c10⟩ := H.out.eleven hx rfl hg.out
      obtain ⟨b2, off2, rfl, d0, d1, d2, d3, d4, d5, d6, d7, d8, d9, d10⟩ := H'.out.eleven hx rfl hg.out
      have HNB := Lib.hid (box_one wr (.cells #[.string nm, .int .i64 fr, .int .i64 tt, .int .i64 mo, .int .i64 zk, .int .i64 d, .int .i64 n, .int .i64 at', .int .i64 by', .int .i64 sv, .string lt] 56))
      have D := Lib.hid (And.intro d0 (And.intro d1 (And.intro d2 (And.intro d3 (And.intro d4 (And.intro d5 (And.intro d6 (And.intro d7 (And.intro d8 (And.intro d9 d10))))))))))
      clear hx d0 d1 d2 d3 d4 d5 d6 d7 d8 d9 d10
      have ne := fun w => neqRule nm lt fr tt mo zk d n at' by' sv w
      go_upto_region 6 with fail
      generalize wr.alloc (.cells #[.string nm, .int .i64 fr, .int .i64 tt, .int .i64 mo, .int .i64 zk, .int .i64 d, .int .i64 n, .int .i64 at', .int .i64 by', .int .i64 sv, .string lt] 56) = w3 at HNB ⊢
      generalize wr.heap.size = q at HNB ⊢
      clear c0 c1 c2 c3 c4 c5 c6 c7 c8 c9 c10
      obtain ⟨d0, d1, d2, d3, d4, d5, d6, d7, d8, d9, d10⟩ := D.out
      have e0 := HNB.out.1.holds d0
      have e1 := HNB.out.1.holds d1
      have e2 := HNB.out.1.holds d2
      have e3 := HNB.out.1.holds d3
      have e4 := HNB.out.1.holds d4
      have e5 := HNB.out.1.holds d5
      have e6 := HNB.out.1.holds d6
      have e7 := HNB.out.1.holds d7
      have e8 := HNB.out.1.holds d8
      have e9 := HNB.out.1.holds d9
      have e10 := HNB.out.1.holds d10
      have x0 := bcell_row (i := 0) HNB.out.2 rfl
      have x1 := bcell_row (i := 1) HNB.out.2 rfl
      have x2 := bcell_row (i := 2) HNB.out.2 rfl
      have x3 := bcell_row (i := 3) HNB.out.2 rfl
      have x4 := bcell_row (i := 4) HNB.out.2 rfl
      have x5 := bcell_row (i := 5) HNB.out.2 rfl
      have x6 := bcell_row (i := 6) HNB.out.2 rfl
      have x7 := bcell_row (i := 7) HNB.out.2 rfl
      have x8 := bcell_row (i := 8) HNB.out.2 rfl
      have x9 := bcell_row (i := 9) HNB.out.2 rfl
      have x10 := bcell_row (i := 10) HNB.out.2 rfl
      clear d0 d1 d2 d3 d4 d5 d6 d7 d8 d9 d10 D
      go_quiet (fail)
      clear e0 e1 e2 e3 e4 e5 e6 e7 e8 e9 e10 x0 x1 x2 x3 x4 x5 x6 x7 x8 x9 x10 ne
      go_wp2_with fail
      go_roundw
      case rel => exact ⟨k + 1, by omega, by go_num, (hg.out.trans HNB.out.1).drewN _⟩
      case measure => simp [intOf]; omega
    · have e : k = l.length := by omega
      clear e hk
      go_wp2_with fail
      go_ret
      exact ⟨rfl, hg.out⟩

set_option maxRecDepth 100000 in
theorem neqLink (nm to' : ByteArray) (w : World) : (binOp .neq 49 (.agg #[.string nm, .string to']) (.agg #[.string nm, .string to'])).run Tryz.prog w = .ok (.bool false) w := by
  have h : Tryz.prog.underlying 49 = some (.struct (Tryz.prog.fieldsOf 49)) := by kernel_rfl
  have hh : Tryz.prog.stoodInHeld 49 = false := by kernel_rfl
  have u3 := Tryz.underlying3
  have a3 := Tryz.isAgg3
  have z3 := Tryz.sizeOf3
  have u9 := Tryz.underlying9
  have a9 := Tryz.isAgg9
  have z9 := Tryz.sizeOf9
  rw [run_neq_struct, show (10000 : Nat) = 9999 + 1 from rfl, run_equalIn_agg w 9999 49 _ _ h hh]
  simp only [Program.fieldsOf, Tryz.underlying49]
  go_simp

set_option maxRecDepth 100000 in
set_option maxHeartbeats 8000000 in
theorem reqLink (A : Option Addr) (c : Nat) (A' : Option Addr) (c' : Nat) (l : List LinD) (n' : Nat) (w : World) (hn : n' = l.length) (hl : l.length ≤ 100000) (h : Row w 2 LinD.cells A l) (h' : Row w 2 LinD.cells A' l) :
    Calls Tryz.prog 45 #[.slice A l.length c, .slice A' n' c'] w fun e w' => e = .returned (.bool true) ∧ Gr w w' := by
  subst hn
  have H := Lib.hid h
  have H' := Lib.hid h'
  clear h h'
  go_enter Tryz.func45, Tryz.ntmps45
  go_wp2_with fail
  go_loopw [14] (fun i W => ∃ k : Nat, k ≤ l.length ∧ i = .int .i64 k ∧ Hid (Gr w W)) (fun i W => l.length - (intOf i).toNat)
  case atStart => exact ⟨0, Nat.zero_le _, rfl, Gr.refl _⟩
  case round =>
    obtain ⟨k, hk, rfl, hg⟩ := hrel
    by_cases hlt : k < l.length
    · obtain ⟨⟨nm, to'⟩, hx⟩ := get_lt hlt
      obtain ⟨b, off, rfl, c0, c1⟩ := H.out.two hx rfl hg.out
      obtain ⟨b2, off2, rfl, d0, d1⟩ := H'.out.two hx rfl hg.out
      have HNB := Lib.hid (box_one wr (.cells #[.string nm, .string to'] 49))
      have D := Lib.hid (And.intro d0 d1)
      clear hx d0 d1
      have ne := fun w => neqLink nm to' w
      go_upto_region 6 with fail
      generalize wr.alloc (.cells #[.string nm, .string to'] 49) = w3 at HNB ⊢
      generalize wr.heap.size = q at HNB ⊢
      clear c0 c1
      obtain ⟨d0, d1⟩ := D.out
      have e0 := HNB.out.1.holds d0
      have e1 := HNB.out.1.holds d1
      have x0 := bcell_row (i := 0) HNB.out.2 rfl
      have x1 := bcell_row (i := 1) HNB.out.2 rfl
      clear d0 d1 D
      go_quiet (fail)
      clear e0 e1 x0 x1 ne
      go_wp2_with fail
      go_roundw
      case rel => exact ⟨k + 1, by omega, by go_num, (hg.out.trans HNB.out.1).drewN _⟩
      case measure => simp [intOf]; omega
    · have e : k = l.length := by omega
      clear e hk
      go_wp2_with fail
      go_ret
      exact ⟨rfl, hg.out⟩

set_option maxRecDepth 100000 in
theorem neqEra (ru fm : ByteArray) (off0 sv un : Int) (w : World) : (binOp .neq 44 (.agg #[.int .i64 off0, .string ru, .int .i64 sv, .string fm, .int .i64 un]) (.agg #[.int .i64 off0, .string ru, .int .i64 sv, .string fm, .int .i64 un])).run Tryz.prog w = .ok (.bool false) w := by
  have h : Tryz.prog.underlying 44 = some (.struct (Tryz.prog.fieldsOf 44)) := by kernel_rfl
  have hh : Tryz.prog.stoodInHeld 44 = false := by kernel_rfl
  have u3 := Tryz.underlying3
  have a3 := Tryz.isAgg3
  have z3 := Tryz.sizeOf3
  have u9 := Tryz.underlying9
  have a9 := Tryz.isAgg9
  have z9 := Tryz.sizeOf9
  rw [run_neq_struct, show (10000 : Nat) = 9999 + 1 from rfl, run_equalIn_agg w 9999 44 _ _ h hh]
  simp only [Program.fieldsOf, Tryz.underlying44]
  go_simp

set_option maxRecDepth 100000 in
set_option maxHeartbeats 8000000 in
theorem reqEra (A : Option Addr) (c : Nat) (A' : Option Addr) (c' : Nat) (l : List EraD) (n' : Nat) (w : World) (hn : n' = l.length) (hl : l.length ≤ 100000) (h : Row w 5 EraD.cells A l) (h' : Row w 5 EraD.cells A' l) :
    Calls Tryz.prog 88 #[.slice A l.length c, .slice A' n' c'] w fun e w' => e = .returned (.bool true) ∧ Gr w w' := by
  subst hn
  have H := Lib.hid h
  have H' := Lib.hid h'
  clear h h'
  go_enter Tryz.func88, Tryz.ntmps88
  go_wp2_with fail
  go_loopw [14] (fun i W => ∃ k : Nat, k ≤ l.length ∧ i = .int .i64 k ∧ Hid (Gr w W)) (fun i W => l.length - (intOf i).toNat)
  case atStart => exact ⟨0, Nat.zero_le _, rfl, Gr.refl _⟩
  case round =>
    obtain ⟨k, hk, rfl, hg⟩ := hrel
    by_cases hlt : k < l.length
    · obtain ⟨⟨off0, ru, sv, fm, un⟩, hx⟩ := get_lt hlt
      obtain ⟨b, off, rfl, c0, c1, c2, c3, c4⟩ := H.out.five hx rfl hg.out
      obtain ⟨b2, off2, rfl, d0, d1, d2, d3, d4⟩ := H'.out.five hx rfl hg.out
      have HNB := Lib.hid (box_one wr (.cells #[.int .i64 off0, .string ru, .int .i64 sv, .string fm, .int .i64 un] 44))
      have D := Lib.hid (And.intro d0 (And.intro d1 (And.intro d2 (And.intro d3 d4))))
      clear hx d0 d1 d2 d3 d4
      have ne := fun w => neqEra ru fm off0 sv un w
      go_upto_region 6 with fail
      generalize wr.alloc (.cells #[.int .i64 off0, .string ru, .int .i64 sv, .string fm, .int .i64 un] 44) = w3 at HNB ⊢
      generalize wr.heap.size = q at HNB ⊢
      clear c0 c1 c2 c3 c4
      obtain ⟨d0, d1, d2, d3, d4⟩ := D.out
      have e0 := HNB.out.1.holds d0
      have e1 := HNB.out.1.holds d1
      have e2 := HNB.out.1.holds d2
      have e3 := HNB.out.1.holds d3
      have e4 := HNB.out.1.holds d4
      have x0 := bcell_row (i := 0) HNB.out.2 rfl
      have x1 := bcell_row (i := 1) HNB.out.2 rfl
      have x2 := bcell_row (i := 2) HNB.out.2 rfl
      have x3 := bcell_row (i := 3) HNB.out.2 rfl
      have x4 := bcell_row (i := 4) HNB.out.2 rfl
      clear d0 d1 d2 d3 d4 D
      go_quiet (fail)
      clear e0 e1 e2 e3 e4 x0 x1 x2 x3 x4 ne
      go_wp2_with fail
      go_roundw
      case rel => exact ⟨k + 1, by omega, by go_num, (hg.out.trans HNB.out.1).drewN _⟩
      case measure => simp [intOf]; omega
    · have e : k = l.length := by omega
      clear e hk
      go_wp2_with fail
      go_ret
      exact ⟨rfl, hg.out⟩
end Go.Proofs.YtmemgpmijphkmaaGreatDoor
