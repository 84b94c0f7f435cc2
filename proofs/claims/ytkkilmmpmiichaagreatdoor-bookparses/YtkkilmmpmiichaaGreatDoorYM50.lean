/- The reference's Eq at rules, links and eras: of two that hold the same it returns true. The reference's ZoneEq and BookEq: of two that hold the same they return true. What a row's list of variables gives tto a walk: tables of texts, the weekdays. -/
import Derived.Deep.QuietTactic
import Derived.BigQuiet
import Derived.Test.YtkkilmmpmiichaaGreatDoorYM35
import Derived.Deep.RegionHeld3
import Derived.Deep.DrawnRows
import Derived.LaidLaws
import Derived.Test.YtkkilmmpmiichaaGreatDoorYM17
import Derived.Test.YtkkilmmpmiichaaGreatDoorYM21
namespace Go.Proofs.YtkkilmmpmiichaaGreatDoor
set_option linter.unusedVariables false
set_option linter.unusedSimpArgs false
open Go.RowKit
set_option maxRecDepth 100000 in
theorem eqDay (a b c : Int) (w : World) : (Op.equalIn 9999 40 (.agg #[.int .i64 a, .int .i64 b, .int .i64 c]) (.agg #[.int .i64 a, .int .i64 b, .int .i64 c])).run Tryz.prog w = .ok true w := by
  have h : Tryz.prog.underlying 40 = some (.struct (Tryz.prog.fieldsOf 40)) := by kernel_rfl
  have hh : Tryz.prog.stoodInHeld 40 = false := by kernel_rfl
  have u3 := Tryz.underlying3
  have a3 := Tryz.isAgg3
  have z3 := Tryz.sizeOf3
  rw [show (9999 : Nat) = 9998 + 1 from rfl, run_equalIn_agg w 9998 40 _ _ h hh]
  simp only [Program.fieldsOf, Tryz.underlying40]
  go_simp

set_option maxRecDepth 100000 in
theorem neqRule (nm lt : ByteArray) (fr tt mo zk d n at' by' sv : Int) (w : World) : (binOp .neq 42 (.agg #[.string nm, .int .i64 fr, .int .i64 tt, .int .i64 mo, .int .i64 zk, .int .i64 d, .int .i64 n, .int .i64 at', .int .i64 by', .int .i64 sv, .string lt]) (.agg #[.string nm, .int .i64 fr, .int .i64 tt, .int .i64 mo, .int .i64 zk, .int .i64 d, .int .i64 n, .int .i64 at', .int .i64 by', .int .i64 sv, .string lt])).run Tryz.prog w = .ok (.bool false) w := by
  have h : Tryz.prog.underlying 42 = some (.struct (Tryz.prog.fieldsOf 42)) := by kernel_rfl
  have hh : Tryz.prog.stoodInHeld 42 = false := by kernel_rfl
  have u3 := Tryz.underlying3
  have a3 := Tryz.isAgg3
  have z3 := Tryz.sizeOf3
  have u9 := Tryz.underlying9
  have a9 := Tryz.isAgg9
  have z9 := Tryz.sizeOf9
  rw [run_neq_struct, show (10000 : Nat) = 9999 + 1 from rfl, run_equalIn_agg w 9999 42 _ _ h hh]
  simp only [Program.fieldsOf, Tryz.underlying42]
  have dq := fun w => eqDay zk d n w
  have da := Tryz.isAgg40
  have dz0 := Tryz.sizeOf40
  go_simp

set_option maxRecDepth 100000 in
set_option maxHeartbeats 8000000 in
theorem reqRule (A : Option Addr) (c : Nat) (A' : Option Addr) (c' : Nat) (l : List RuD) (n' : Nat) (w : World) (hn : n' = l.length) (hl : l.length ≤ 100000) (h : Row w 11 RuD.cells A l) (h' : Row w 11 RuD.cells A' l) :
    Calls Tryz.prog 23 #[.slice A l.length c, .slice A' n' c'] w fun e w' => e = .returned (.bool true) ∧ Gr w w' := by
  subst hn
  have H := Lib.hid h
  have H' := Lib.hid h'
  clear h h'
  go_enter Tryz.func23, Tryz.ntmps23
  go_wp2_with fail
  go_loopw [14] (fun i W => ∃ k : Nat, k ≤ l.length ∧ i = .int .i64 k ∧ Hid (Gr w W)) (fun i W => l.length - (intOf i).toNat)
  case atStart => exact ⟨0, Nat.zero_le _, rfl, Gr.refl _⟩
  case round =>
    obtain ⟨k, hk, rfl, hg⟩ := hrel
    by_cases hlt : k < l.length
    · obtain ⟨⟨nm, fr, tt, mo, zk, d, n, at', by', sv, lt⟩, hx⟩ := get_lt hlt
      obtain ⟨b, off, rfl, c0, c1, c2, c3, c4, c5, c6, c7, c8, c9, c10⟩ := H.out.eleven hx rfl hg.out
      obtain ⟨b2, off2, rfl, d0, d1, d2, d3, d4, d5, d6, d7, d8, d9, d10⟩ := H'.out.eleven hx rfl hg.out
      have HNB := Lib.hid (box_one wr (.cells #[.string nm, .int .i64 fr, .int .i64 tt, .int .i64 mo, .int .i64 zk, .int .i64 d, .int .i64 n, .int .i64 at', .int .i64 by', .int .i64 sv, .string lt] 42))
      have D := Lib.hid (And.intro d0 (And.intro d1 (And.intro d2 (And.intro d3 (And.intro d4 (And.intro d5 (And.intro d6 (And.intro d7 (And.intro d8 (And.intro d9 d10))))))))))
      clear hx d0 d1 d2 d3 d4 d5 d6 d7 d8 d9 d10
      have ne := fun w => neqRule nm lt fr tt mo zk d n at' by' sv w
      go_upto_region 6 with fail
      generalize wr.alloc (.cells #[.string nm, .int .i64 fr, .int .i64 tt, .int .i64 mo, .int .i64 zk, .int .i64 d, .int .i64 n, .int .i64 at', .int .i64 by', .int .i64 sv, .string lt] 42) = w3 at HNB ⊢
      generalize wr.heap.size = q at HNB ⊢
      clear c0 c1 c2 c3 c4 c5 c6 c7 c8 c9 c10
      obtain ⟨d0, d1, d2, d3, d4, d5, d6, d7, d8, d9, d10⟩ := D.out
      have e0 := HNB.out.1.holds d0
      have e1 := HNB.out.1.holds d1
      have e2 := HNB.out.1.holds d2
      have e3 := HNB.out.1.holds d3
      have e4 := HNB.out.1.holds d4
      have e5 := HNB.out.1.holds d5
      have e6 := HNB.out.1.holds d6
      have e7 := HNB.out.1.holds d7
      have e8 := HNB.out.1.holds d8
      have e9 := HNB.out.1.holds d9
      have e10 := HNB.out.1.holds d10
      have x0 := bcell_row (i := 0) HNB.out.2 rfl
      have x1 := bcell_row (i := 1) HNB.out.2 rfl
      have x2 := bcell_row (i := 2) HNB.out.2 rfl
      have x3 := bcell_row (i := 3) HNB.out.2 rfl
      have x4 := bcell_row (i := 4) HNB.out.2 rfl
      have x5 := bcell_row (i := 5) HNB.out.2 rfl
      have x6 := bcell_row (i := 6) HNB.out.2 rfl
      have x7 := bcell_row (i := 7) HNB.out.2 rfl
      have x8 := bcell_row (i := 8) HNB.out.2 rfl
      have x9 := bcell_row (i := 9) HNB.out.2 rfl
      have x10 := bcell_row (i := 10) HNB.out.2 rfl
      clear d0 d1 d2 d3 d4 d5 d6 d7 d8 d9 d10 D
      go_quiet (fail)
      clear e0 e1 e2 e3 e4 e5 e6 e7 e8 e9 e10 x0 x1 x2 x3 x4 x5 x6 x7 x8 x9 x10 ne
      go_wp2_with fail
      go_roundw
      case rel => exact ⟨k + 1, by omega, by go_num, (hg.out.trans HNB.out.1).drewN _⟩
      case measure => simp [intOf]; omega
    · have e : k = l.length := by omega
      clear e hk
      go_wp2_with fail
      go_ret
      exact ⟨rfl, hg.out⟩

set_option maxRecDepth 100000 in
theorem neqLink (nm to' : ByteArray) (w : World) : (binOp .neq 49 (.agg #[.string nm, .string to']) (.agg #[.string nm, .string to'])).run Tryz.prog w = .ok (.bool false) w := by
  have h : Tryz.prog.underlying 49 = some (.struct (Tryz.prog.fieldsOf 49)) := by kernel_rfl
  have hh : Tryz.prog.stoodInHeld 49 = false := by kernel_rfl
  have u3 := Tryz.underlying3
  have a3 := Tryz.isAgg3
  have z3 := Tryz.sizeOf3
  have u9 := Tryz.underlying9
  have a9 := Tryz.isAgg9
  have z9 := Tryz.sizeOf9
  rw [run_neq_struct, show (10000 : Nat) = 9999 + 1 from rfl, run_equalIn_agg w 9999 49 _ _ h hh]
  simp only [Program.fieldsOf, Tryz.underlying49]
  go_simp

set_option maxRecDepth 100000 in
set_option maxHeartbeats 8000000 in
theorem reqLink (A : Option Addr) (c : Nat) (A' : Option Addr) (c' : Nat) (l : List LinD) (n' : Nat) (w : World) (hn : n' = l.length) (hl : l.length ≤ 100000) (h : Row w 2 LinD.cells A l) (h' : Row w 2 LinD.cells A' l) :
    Calls Tryz.prog 24 #[.slice A l.length c, .slice A' n' c'] w fun e w' => e = .returned (.bool true) ∧ Gr w w' := by
  subst hn
  have H := Lib.hid h
  have H' := Lib.hid h'
  clear h h'
  go_enter Tryz.func24, Tryz.ntmps24
  go_wp2_with fail
  go_loopw [14] (fun i W => ∃ k : Nat, k ≤ l.length ∧ i = .int .i64 k ∧ Hid (Gr w W)) (fun i W => l.length - (intOf i).toNat)
  case atStart => exact ⟨0, Nat.zero_le _, rfl, Gr.refl _⟩
  case round =>
    obtain ⟨k, hk, rfl, hg⟩ := hrel
    by_cases hlt : k < l.length
    · obtain ⟨⟨nm, to'⟩, hx⟩ := get_lt hlt
      obtain ⟨b, off, rfl, c0, c1⟩ := H.out.two hx rfl hg.out
      obtain ⟨b2, off2, rfl, d0, d1⟩ := H'.out.two hx rfl hg.out
      have HNB := Lib.hid (box_one wr (.cells #[.string nm, .string to'] 49))
      have D := Lib.hid (And.intro d0 d1)
      clear hx d0 d1
      have ne := fun w => neqLink nm to' w
      go_upto_region 6 with fail
      generalize wr.alloc (.cells #[.string nm, .string to'] 49) = w3 at HNB ⊢
      generalize wr.heap.size = q at HNB ⊢
      clear c0 c1
      obtain ⟨d0, d1⟩ := D.out
      have e0 := HNB.out.1.holds d0
      have e1 := HNB.out.1.holds d1
      have x0 := bcell_row (i := 0) HNB.out.2 rfl
      have x1 := bcell_row (i := 1) HNB.out.2 rfl
      clear d0 d1 D
      go_quiet (fail)
      clear e0 e1 x0 x1 ne
      go_wp2_with fail
      go_roundw
      case rel => exact ⟨k + 1, by omega, by go_num, (hg.out.trans HNB.out.1).drewN _⟩
      case measure => simp [intOf]; omega
    · have e : k = l.length := by omega
      clear e hk
      go_wp2_with fail
      go_ret
      exact ⟨rfl, hg.out⟩

set_option maxRecDepth 100000 in
theorem neqEra (ru fm : ByteArray) (off0 sv un : Int) (w : World) : (binOp .neq 52 (.agg #[.int .i64 off0, .string ru, .int .i64 sv, .string fm, .int .i64 un]) (.agg #[.int .i64 off0, .string ru, .int .i64 sv, .string fm, .int .i64 un])).run Tryz.prog w = .ok (.bool false) w := by
  have h : Tryz.prog.underlying 52 = some (.struct (Tryz.prog.fieldsOf 52)) := by kernel_rfl
  have hh : Tryz.prog.stoodInHeld 52 = false := by kernel_rfl
  have u3 := Tryz.underlying3
  have a3 := Tryz.isAgg3
  have z3 := Tryz.sizeOf3
  have u9 := Tryz.underlying9
  have a9 := Tryz.isAgg9
  have z9 := Tryz.sizeOf9
  rw [run_neq_struct, show (10000 : Nat) = 9999 + 1 from rfl, run_equalIn_agg w 9999 52 _ _ h hh]
  simp only [Program.fieldsOf, Tryz.underlying52]
  go_simp

set_option maxRecDepth 100000 in
set_option maxHeartbeats 8000000 in
theorem reqEra (A : Option Addr) (c : Nat) (A' : Option Addr) (c' : Nat) (l : List EraD) (n' : Nat) (w : World) (hn : n' = l.length) (hl : l.length ≤ 100000) (h : Row w 5 EraD.cells A l) (h' : Row w 5 EraD.cells A' l) :
    Calls Tryz.prog 52 #[.slice A l.length c, .slice A' n' c'] w fun e w' => e = .returned (.bool true) ∧ Gr w w' := by
  subst hn
  have H := Lib.hid h
  have H' := Lib.hid h'
  clear h h'
  go_enter Tryz.func52, Tryz.ntmps52
  go_wp2_with fail
  go_loopw [14] (fun i W => ∃ k : Nat, k ≤ l.length ∧ i = .int .i64 k ∧ Hid (Gr w W)) (fun i W => l.length - (intOf i).toNat)
  case atStart => exact ⟨0, Nat.zero_le _, rfl, Gr.refl _⟩
  case round =>
    obtain ⟨k, hk, rfl, hg⟩ := hrel
    by_cases hlt : k < l.length
    · obtain ⟨⟨off0, ru, sv, fm, un⟩, hx⟩ := get_lt hlt
      obtain ⟨b, off, rfl, c0, c1, c2, c3, c4⟩ := H.out.five hx rfl hg.out
      obtain ⟨b2, off2, rfl, d0, d1, d2, d3, d4⟩ := H'.out.five hx rfl hg.out
      have HNB := Lib.hid (box_one wr (.cells #[.int .i64 off0, .string ru, .int .i64 sv, .string fm, .int .i64 un] 52))
      have D := Lib.hid (And.intro d0 (And.intro d1 (And.intro d2 (And.intro d3 d4))))
      clear hx d0 d1 d2 d3 d4
      have ne := fun w => neqEra ru fm off0 sv un w
      go_upto_region 6 with fail
      generalize wr.alloc (.cells #[.int .i64 off0, .string ru, .int .i64 sv, .string fm, .int .i64 un] 52) = w3 at HNB ⊢
      generalize wr.heap.size = q at HNB ⊢
      clear c0 c1 c2 c3 c4
      obtain ⟨d0, d1, d2, d3, d4⟩ := D.out
      have e0 := HNB.out.1.holds d0
      have e1 := HNB.out.1.holds d1
      have e2 := HNB.out.1.holds d2
      have e3 := HNB.out.1.holds d3
      have e4 := HNB.out.1.holds d4
      have x0 := bcell_row (i := 0) HNB.out.2 rfl
      have x1 := bcell_row (i := 1) HNB.out.2 rfl
      have x2 := bcell_row (i := 2) HNB.out.2 rfl
      have x3 := bcell_row (i := 3) HNB.out.2 rfl
      have x4 := bcell_row (i := 4) HNB.out.2 rfl
      clear d0 d1 d2 d3 d4 D
      go_quiet (fail)
      clear e0 e1 e2 e3 e4 x0 x1 x2 x3 x4 ne
      go_wp2_with fail
      go_roundw
      case rel => exact ⟨k + 1, by omega, by go_num, (hg.out.trans HNB.out.1).drewN _⟩
      case measure => simp [intOf]; omega
    · have e : k = l.length := by omega
      clear e hk
      go_wp2_with fail
      go_ret
      exact ⟨rfl, hg.out⟩
end Go.Proofs.YtkkilmmpmiichaaGreatDoor
namespace Go.Proofs.YtkkilmmpmiichaaGreatDoor
set_option linter.unusedVariables false
set_option linter.unusedSimpArgs false
open Go.RowKit
set_option maxHeartbeats 4000000 in
theorem rzoneEq (nm : ByteArray) (A : Option Addr) (c : Nat) (A' : Option Addr) (c' : Nat) (l : List EraD) (n' : Nat) (w : World) (hn : n' = l.length) (hl : l.length ≤ 100000) (h : Row w 5 EraD.cells A l) (h' : Row w 5 EraD.cells A' l) :
    Calls Tryz.prog 25 #[.agg #[.string nm, .slice A l.length c], .agg #[.string nm, .slice A' n' c']] w fun e w' => e = .returned (.bool true) ∧ Gr w w' := by
  have K := Lib.hid (fun W (g : Gr w W) => reqEra A c A' c' l n' W hn hl (h.gr g) (h'.gr g))
  have B0 := Lib.hid (box_two w (.cells #[.string nm, .slice A l.length c] 47) (.cells #[.string nm, .slice A' n' c'] 47))
  have e0 : (nm.toList == nm.toList) = true := by simp
  clear h h' hl hn
  go_enter Tryz.func25, Tryz.ntmps25
  go_upto_region 1 with fail
  generalize (w.alloc (.cells #[.string nm, .slice A l.length c] 47)).alloc (.cells #[.string nm, .slice A' n' c'] 47) = w1 at B0 ⊢
  generalize w.heap.size = q at B0 ⊢
  have x0 : w1.cell? ⟨q, 0, none⟩ = some (.string nm) := bcell_row B0.out.2.1 rfl
  have x1 : w1.cell? ⟨q, 1, none⟩ = some (.slice A l.length c) := bcell_row B0.out.2.1 rfl
  have y0 : w1.cell? ⟨q + 1, 0, none⟩ = some (.string nm) := bcell_row B0.out.2.2 rfl
  have y1 : w1.cell? ⟨q + 1, 1, none⟩ = some (.slice A' n' c') := bcell_row B0.out.2.2 rfl
  go_wp2_with fail
  clear x0 x1 y0 y1
  refine (K.out w1 B0.out.1).mono ?_
  rintro e w2 ⟨rfl, g2⟩
  go_wp2_with fail
  go_ret
  exact ⟨rfl, B0.out.1.trans g2⟩

theorem keep6 {w W W' : World} {a b c d e f : Addr} {x y z u v t : Value} (h : W.cell? a = some x ∧ W.cell? b = some y ∧ W.cell? c = some z ∧ W.cell? d = some u ∧ W.cell? e = some v ∧ W.cell? f = some t ∧ Gr w W) (hg : Gr W W') :
    W'.cell? a = some x ∧ W'.cell? b = some y ∧ W'.cell? c = some z ∧ W'.cell? d = some u ∧ W'.cell? e = some v ∧ W'.cell? f = some t ∧ Gr w W' :=
  ⟨(Below.cell hg (World.block_lt_of_cell? W a h.1)).trans h.1, (Below.cell hg (World.block_lt_of_cell? W b h.2.1)).trans h.2.1, (Below.cell hg (World.block_lt_of_cell? W c h.2.2.1)).trans h.2.2.1, (Below.cell hg (World.block_lt_of_cell? W d h.2.2.2.1)).trans h.2.2.2.1, (Below.cell hg (World.block_lt_of_cell? W e h.2.2.2.2.1)).trans h.2.2.2.2.1, (Below.cell hg (World.block_lt_of_cell? W f h.2.2.2.2.2.1)).trans h.2.2.2.2.2.1, h.2.2.2.2.2.2.trans hg⟩
/-- two books hold the same -/
structure SameB (b b2 : BokD) : Prop where
  rs : b2.rs = b.rs
  zs : b2.zs.map (fun z => (z.nm, z.eras)) = b.zs.map (fun z => (z.nm, z.eras))
  ls : b2.ls = b.ls
/-- none of its parts is out of bounds -/
structure FewB (b : BokD) : Prop where
  rs : b.rs.length ≤ 100000
  zs : b.zs.length ≤ 100000
  ls : b.ls.length ≤ 100000
  es : ∀ z ∈ b.zs, z.eras.length ≤ 100000

set_option maxRecDepth 100000 in
set_option maxHeartbeats 8000000 in
theorem rbookEq (b b2 : BokD) (w : World) (hb : b.At w) (hb2 : b2.At w) (hs : SameB b b2) (hf : FewB b) :
    Calls Tryz.prog 7 #[bookV b, bookV b2] w fun e w' => e = .returned (.bool true) ∧ Gr w w' := by
  obtain ⟨s1, s2, s3⟩ := hs
  obtain ⟨f1, f2, f3, f4⟩ := hf
  obtain ⟨Ar, cr, rs, Az, cz, zs, Al, cl, ls⟩ := b
  obtain ⟨Ar', cr', rs', Az', cz', zs', Al', cl', ls'⟩ := b2
  simp only at s1 s2 s3 f1 f2 f3 f4
  subst s1; subst s3
  have KR := Lib.hid (fun W (g : Gr w W) => reqRule Ar cr Ar' cr' rs' rs'.length W rfl f1 (hb.1.2.1.gr g) (hb2.1.2.1.gr g))
  have KL := Lib.hid (fun W (g : Gr w W) => reqLink Al cl Al' cl' ls' ls'.length W rfl f3 (hb.2.2.2.1.gr g) (hb2.2.2.2.1.gr g))
  have HZ : Hid (Row w 2 ZonD.cells Az zs) := hb.2.1.2.1
  have HZ' : Hid (Row w 2 ZonD.cells Az' zs') := hb2.2.1.2.1
  have zl1 : zs'.length ≤ zs.length := by have := congrArg List.length s2; simp at this; omega
  have zl2 : zs.length ≤ zs'.length := by have := congrArg List.length s2; simp at this; omega
  have KZ : Hid (∀ (k : Nat) z z', zs[k]? = some z → zs'[k]? = some z' → z'.nm = z.nm ∧ z'.eras.length = z.eras.length ∧ ∀ W, Gr w W → Calls Tryz.prog 25 #[.agg #[.string z.nm, .slice z.A z.eras.length z.c], .agg #[.string z'.nm, .slice z'.A z'.eras.length z'.c]] W fun e w' => e = .returned (.bool true) ∧ Gr W w') := fun k z z' h h' => by
    have e := congrArg (fun l => l[k]?) s2
    simp only [List.getElem?_map, h, h', Option.map_some] at e
    injection e with e
    injection e with e1 e2
    refine ⟨e1, by rw [e2], fun W g => ?_⟩
    have a := (hb.2.1.2.2 z (get_mem h)).2.2.1
    have a' := (hb2.2.1.2.2 z' (get_mem h')).2.2.1
    rw [e2] at a'
    rw [e1]
    exact rzoneEq z.nm z.A z.c z'.A z'.c z.eras z'.eras.length W (by rw [e2]) (f4 z (get_mem h)) (a.gr g) (a'.gr g)
  have B0 := Lib.hid (box_two w (.cells #[.slice Ar rs'.length cr, .slice Az zs.length cz, .slice Al ls'.length cl] 26) (.cells #[.slice Ar' rs'.length cr', .slice Az' zs'.length cz', .slice Al' ls'.length cl'] 26))
  clear hb hb2 s2 f1 f3 f4
  go_enter Tryz.func7, Tryz.ntmps7
  go_upto_region 1 with fail
  generalize (w.alloc (.cells #[.slice Ar rs'.length cr, .slice Az zs.length cz, .slice Al ls'.length cl] 26)).alloc (.cells #[.slice Ar' rs'.length cr', .slice Az' zs'.length cz', .slice Al' ls'.length cl'] 26) = w1 at B0 ⊢
  generalize w.heap.size = q at B0 ⊢
  have x0 : w1.cell? ⟨q, 0, none⟩ = some (.slice Ar rs'.length cr) := bcell_row B0.out.2.1 rfl
  have y0 : w1.cell? ⟨q + 1, 0, none⟩ = some (.slice Ar' rs'.length cr') := bcell_row B0.out.2.2 rfl
  go_wp2_with fail
  clear x0 y0
  refine (KR.out w1 B0.out.1).mono ?_
  rintro e w2 ⟨rfl, g2⟩
  have G2 := Lib.hid (B0.out.1.trans g2)
  have D1 := Lib.hid (bheap_gr g2 B0.out.2.1)
  have D2 := Lib.hid (bheap_gr g2 B0.out.2.2)
  clear B0 g2 KR
  have x2 : w2.cell? ⟨q, 2, none⟩ = some (.slice Al ls'.length cl) := bcell_row D1.out rfl
  have y2 : w2.cell? ⟨q + 1, 2, none⟩ = some (.slice Al' ls'.length cl') := bcell_row D2.out rfl
  go_wp2_with fail
  clear x2 y2
  refine (KL.out w2 G2.out).mono ?_
  rintro e w3 ⟨rfl, g3⟩
  have G3 := Lib.hid (G2.out.trans g3)
  have D3 := Lib.hid (bheap_gr g3 D1.out)
  have D4 := Lib.hid (bheap_gr g3 D2.out)
  clear D1 D2 g3 KL G2
  have x1 : w3.cell? ⟨q, 1, none⟩ = some (.slice Az zs.length cz) := bcell_row D3.out rfl
  have y1 : w3.cell? ⟨q + 1, 1, none⟩ = some (.slice Az' zs'.length cz') := bcell_row D4.out rfl
  have ez : ((zs.length : Int) != (zs'.length : Int)) = false := bneF (by omega)
  go_wp2_with fail
  clear x1 y1 ez
  go_loopw [32] (fun i W => ∃ k : Nat, k ≤ zs.length ∧ i = .int .i64 k ∧ Hid (Gr w3 W)) (fun i W => zs.length - (intOf i).toNat)
  case atStart => exact ⟨0, Nat.zero_le _, rfl, Gr.refl _⟩
  case round =>
    obtain ⟨k, hk, rfl, hg⟩ := hrel
    by_cases hlt : k < zs.length
    · obtain ⟨⟨nm, zA, zc, ze⟩, hx⟩ := get_lt hlt
      obtain ⟨⟨nm2, zA2, zc2, ze2⟩, hx2⟩ := get_lt (show k < zs'.length by omega)
      obtain ⟨e1, e2, KZ1⟩ := KZ.out k _ _ hx hx2
      simp only at e1 e2 KZ1
      subst e1
      obtain ⟨b, off, rfl, c0, c1⟩ := HZ.out.two hx rfl (G3.out.trans hg.out)
      obtain ⟨b2, off2, rfl, d0, d1⟩ := HZ'.out.two hx2 rfl (G3.out.trans hg.out)
      have KW := Lib.hid (fun W (g : Gr wr W) => KZ1 W ((G3.out.trans hg.out).trans g))
      have HS : wr.cell? ⟨q, 1, none⟩ = some (.slice (some ⟨b, off, none⟩) zs.length cz) ∧ wr.cell? ⟨q + 1, 1, none⟩ = some (.slice (some ⟨b2, off2, none⟩) zs'.length cz') ∧ wr.cell? ⟨b, off + k * 2, none⟩ = some (.string nm2) ∧ wr.cell? ⟨b, off + k * 2 + 1, none⟩ = some (.slice zA ze.length zc) ∧ wr.cell? ⟨b2, off2 + k * 2, none⟩ = some (.string nm2) ∧ wr.cell? ⟨b2, off2 + k * 2 + 1, none⟩ = some (.slice zA2 ze2.length zc2) ∧ Gr wr wr :=
        ⟨bcell_row (bheap_gr hg.out D3.out) rfl, bcell_row (bheap_gr hg.out D4.out) rfl, c0, c1, d0, d1, Gr.refl _⟩
      have l1 : (k : Int) < (zs.length : Int) := by omega
      have l2 : (k : Int) < (zs'.length : Int) := by omega
      have l0 : (0 : Int) ≤ (k : Int) := by omega
      clear hx hx2 KZ KZ1 c0 c1 d0 d1 e2
      go_wp2_with fail
      go_region_held3 (fun wx => wx.cell? ⟨q, 1, none⟩ = some (.slice (some ⟨b, off, none⟩) zs.length cz) ∧ wx.cell? ⟨q + 1, 1, none⟩ = some (.slice (some ⟨b2, off2, none⟩) zs'.length cz') ∧ wx.cell? ⟨b, off + k * 2, none⟩ = some (.string nm2) ∧ wx.cell? ⟨b, off + k * 2 + 1, none⟩ = some (.slice zA ze.length zc) ∧ wx.cell? ⟨b2, off2 + k * 2, none⟩ = some (.string nm2) ∧ wx.cell? ⟨b2, off2 + k * 2 + 1, none⟩ = some (.slice zA2 ze2.length zc2) ∧ Gr wr wx) (first | exact ⟨HS.1, HS.2.1, HS.2.2.1, HS.2.2.2.1, HS.2.2.2.2.1, HS.2.2.2.2.2.1, HS.2.2.2.2.2.2.drew'⟩ | assumption) ((go_at_call 25; (with_reducible refine (KW.out _ ?_).mono ?_); (exact And.right (And.right (And.right (And.right (And.right (And.right (by assumption))))))); rintro e w4 ⟨rfl, g4⟩; have HS4 := keep6 (by assumption) g4))
      have G4 := Lib.hid (hg.out.trans HS4.2.2.2.2.2.2)
      clear HS HS4 KW
      go_wp2_with fail
      go_roundw
      case rel => exact ⟨k + 1, by omega, by go_num, G4⟩
      case measure => simp [intOf]; omega
    · clear hk
      go_wp2_with fail
      go_ret
      exact ⟨rfl, G3.out.trans hg.out⟩
end Go.Proofs.YtkkilmmpmiichaaGreatDoor
namespace Go.Proofs.YtkkilmmpmiichaaGreatDoor
open Go.ChangeShapes Go.WideShapes Go.ChangeAt Go.RowKit
set_option linter.unusedVariables false
/-- a table of texts as a row lists it -/
def strData {H : Type} (zs : List (List UInt8)) : DataW H := .agg (zs.map fun z => .lit (.string z))
theorem cells_of_strs {H : Type} {enc : TypeId × Value → H} {P : Program} {w : World} {base : Nat} {sp : Nat → Bool} {held : Bool} {fuel : Nat} {t e : TypeId} {n : Nat} {cs : List Value} {zs : List (List UInt8)} {p : List MemPlace}
    (ht : P.underlying t = some (.array n e)) (he : P.underlying e = some .string) (hce : P.cellsOf e = 1) (hct : P.cellsOf t = n)
    (h : DataW.trod enc P w base sp held fuel t cs = some (strData zs, p)) : cs = zs.map fun z => Value.string ⟨z.toArray⟩ := by
  cases fuel with
  | zero => simp [DataW.trod] at h
  | succ fuel =>
    simp only [DataW.trod, ht, hce, hct, Nat.mul_one] at h
    split at h
    · rename_i hl
      obtain ⟨xs, hm, hx⟩ := Option.map_eq_some_iff.1 h
      have hxs : xs.map (·.1) = zs.map fun z => (DataW.lit (.string z) : DataW H) := by
        have := congrArg Prod.fst hx
        simpa [strData] using this
      have hxl : xs.length = n := by simpa using Lib.mapM_length hm
      have hzl : zs.length = n := by
        have := congrArg List.length hxs
        simp at this
        omega
      apply List.ext_getElem?
      intro i
      by_cases hi : i < n
      · obtain ⟨b, hb, hf⟩ := Lib.mapM_at hm i i (by simp [hi])
        obtain ⟨z, hc, rfl, _⟩ := DataW.trod_string he hf
        have h1 : cs[i]? = some (.string z) := by
          have := congrArg (·[0]?) hc
          simpa [List.getElem?_take, List.getElem?_drop] using this
        have h2 : (xs.map (·.1))[i]? = some (DataW.lit (.string z.data.toList) : DataW H) := by simp [hb]
        rw [hxs] at h2
        simp only [List.getElem?_map, Option.map_eq_some_iff, DataW.lit.injEq, Lit.string.injEq] at h2
        obtain ⟨z', hz', e⟩ := h2
        simp [h1, hz', e]
      · rw [List.getElem?_eq_none (by omega), List.getElem?_eq_none (by simp; omega)]
    · cases h

def wkTab : List (List UInt8) := [[83, 117, 110], [77, 111, 110], [84, 117, 101], [87, 101, 100], [84, 104, 117], [70, 114, 105], [83, 97, 116]]
theorem wk_of {W : World} {laid : List (String × DataW Unit)} (h : laidMet Tryz.prog laid W) (hm : ("timeball/day.weekdays", strData wkTab) ∈ laid) : HasWk W := by
  have g : Tryz.prog.globalNamed "timeball/day.weekdays" = some 5 := by kernel_rfl
  obtain ⟨ps, hv, _⟩ := h
  obtain ⟨g', t', cs, fuel, p, h1, h2, h3, h4⟩ := laidVars_mem hv _ hm
  obtain rfl := Option.some.inj (g.symm.trans h1)
  obtain rfl : t' = 153 := Option.some.inj (h2.symm.trans (show (Tryz.prog.globals[5]?).map (·.type) = some 153 by kernel_rfl))
  have e := cells_of_strs Tryz.underlying153 Tryz.underlying9 (by kernel_rfl) (by kernel_rfl) h4
  have c : ∀ i : Nat, i < 7 → W.cell? ⟨5, i, none⟩ = some (.string (S (wk i))) := fun i hi => by
    have := World.var?_cell g h3 i
    rw [this, ← Array.getElem?_toList, e]
    have : i = 0 ∨ i = 1 ∨ i = 2 ∨ i = 3 ∨ i = 4 ∨ i = 5 ∨ i = 6 := by omega
    rcases this with rfl | rfl | rfl | rfl | rfl | rfl | rfl <;> rfl
  exact ⟨World.block_lt_of_cell? W ⟨5, 0, none⟩ (c 0 (by omega)), c⟩
end Go.Proofs.YtkkilmmpmiichaaGreatDoor
