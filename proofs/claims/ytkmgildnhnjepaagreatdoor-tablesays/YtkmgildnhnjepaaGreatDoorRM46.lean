/- The reference's Eq at types and changes, its TableEq: of two that hold the same they return true. What Make leaves, in words that a law can use. -/
import Derived.Deep.Cut
import Derived.Deep.QuietTactic
import Derived.BigQuiet
import Derived.Test.YtkmgildnhnjepaaGreatDoorRM41
import Derived.Test.YtkmgildnhnjepaaGreatDoorRM25
import Derived.Test.YtkmgildnhnjepaaGreatDoorRM07
import Derived.Test.YtkmgildnhnjepaaGreatDoorRM45
namespace Go.Proofs.YtkmgildnhnjepaaGreatDoor
set_option linter.unusedVariables false
set_option linter.unusedSimpArgs false
open Go.RowKit
theorem neqTy1 (o : Int) (s : Bool) (n : ByteArray) (w : World) : (binOp .neq 46 (.agg #[.int .i64 o, .bool s, .string n]) (.agg #[.int .i64 o, .bool s, .string n])).run Tryz.prog w = .ok (.bool false) w := by
  have h := neqlType o o s s n n w
  simpa using h

set_option maxRecDepth 100000 in
theorem neqChange (a c : Int) (w : World) : (binOp .neq 44 (.agg #[.int .i64 a, .int .i64 c]) (.agg #[.int .i64 a, .int .i64 c])).run Tryz.prog w = .ok (.bool false) w := by
  have h : Tryz.prog.underlying 44 = some (.struct (Tryz.prog.fieldsOf 44)) := by kernel_rfl
  have hh : Tryz.prog.stoodInHeld 44 = false := by kernel_rfl
  have u3 := Tryz.underlying3
  have a3 := Tryz.isAgg3
  have z3 := Tryz.sizeOf3
  rw [run_neq_struct, show (10000 : Nat) = 9999 + 1 from rfl, run_equalIn_agg w 9999 44 _ _ h hh]
  simp only [Program.fieldsOf, Tryz.underlying44]
  go_simp

set_option maxRecDepth 100000 in
set_option maxHeartbeats 8000000 in
theorem reqType (A : Option Addr) (c : Nat) (A' : Option Addr) (c' : Nat) (l : List TypD) (n' : Nat) (w : World) (hn : n' = l.length) (hl : l.length ≤ 100000) (h : Row w 3 TypD.cells A l) (h' : Row w 3 TypD.cells A' l) :
    Calls Tryz.prog 30 #[.slice A l.length c, .slice A' n' c'] w fun e w' => e = .returned (.bool true) ∧ Gr w w' := by
  subst hn
  have H := Lib.hid h
  have H' := Lib.hid h'
  clear h h'
  go_enter Tryz.func30, Tryz.ntmps30
  go_wp2_with fail
  go_loopw [14] (fun i W => ∃ k : Nat, k ≤ l.length ∧ i = .int .i64 k ∧ Hid (Gr w W)) (fun i W => l.length - (intOf i).toNat)
  case atStart => exact ⟨0, Nat.zero_le _, rfl, Gr.refl _⟩
  case round =>
    obtain ⟨k, hk, rfl, hg⟩ := hrel
    by_cases hlt : k < l.length
    · obtain ⟨⟨o, s, n⟩, hx⟩ := get_lt hlt
      obtain ⟨b, off, rfl, c0, c1, c2⟩ := H.out.three hx rfl hg.out
      obtain ⟨b2, off2, rfl, d0, d1, d2⟩ := H'.out.three hx rfl hg.out
      have HNB := Lib.hid (box_one wr (.cells #[.int .i64 o, .bool s, .string n] 46))
      have D := Lib.hid (And.intro d0 (And.intro d1 d2))
      clear hx d0 d1 d2
      have ne := fun w => neqTy1 o s n w
      go_upto_region 6 with fail
      generalize wr.alloc (.cells #[.int .i64 o, .bool s, .string n] 46) = w3 at HNB ⊢
      generalize wr.heap.size = q at HNB ⊢
      clear c0 c1 c2
      obtain ⟨d0, d1, d2⟩ := D.out
      have e0 := HNB.out.1.holds d0
      have e1 := HNB.out.1.holds d1
      have e2 := HNB.out.1.holds d2
      have x0 := bcell_row (i := 0) HNB.out.2 rfl
      have x1 := bcell_row (i := 1) HNB.out.2 rfl
      have x2 := bcell_row (i := 2) HNB.out.2 rfl
      clear d0 d1 d2 D
      go_quiet (fail)
      clear e0 e1 e2 x0 x1 x2 ne
      go_wp2_with fail
      go_roundw
      case rel => exact ⟨k + 1, by omega, by go_num, (hg.out.trans HNB.out.1).drewN _⟩
      case measure => simp [intOf]; omega
    · have e : k = l.length := by omega
      clear e hk
      go_wp2_with fail
      go_ret
      exact ⟨rfl, hg.out⟩
set_option maxRecDepth 100000 in
set_option maxHeartbeats 8000000 in
theorem reqCha (A : Option Addr) (c : Nat) (A' : Option Addr) (c' : Nat) (l : List ChaD) (n' : Nat) (w : World) (hn : n' = l.length) (hl : l.length ≤ 100000) (h : Row w 2 ChaD.cells A l) (h' : Row w 2 ChaD.cells A' l) :
    Calls Tryz.prog 31 #[.slice A l.length c, .slice A' n' c'] w fun e w' => e = .returned (.bool true) ∧ Gr w w' := by
  subst hn
  have H := Lib.hid h
  have H' := Lib.hid h'
  clear h h'
  go_enter Tryz.func31, Tryz.ntmps31
  go_wp2_with fail
  go_loopw [14] (fun i W => ∃ k : Nat, k ≤ l.length ∧ i = .int .i64 k ∧ Hid (Gr w W)) (fun i W => l.length - (intOf i).toNat)
  case atStart => exact ⟨0, Nat.zero_le _, rfl, Gr.refl _⟩
  case round =>
    obtain ⟨k, hk, rfl, hg⟩ := hrel
    by_cases hlt : k < l.length
    · obtain ⟨⟨a, c0'⟩, hx⟩ := get_lt hlt
      obtain ⟨b, off, rfl, c0, c1⟩ := H.out.two hx rfl hg.out
      obtain ⟨b2, off2, rfl, d0, d1⟩ := H'.out.two hx rfl hg.out
      have HNB := Lib.hid (box_one wr (.cells #[.int .i64 a, .int .i64 c0'] 44))
      have D := Lib.hid (And.intro d0 d1)
      clear hx d0 d1
      have ne := fun w => neqChange a c0' w
      go_upto_region 6 with fail
      generalize wr.alloc (.cells #[.int .i64 a, .int .i64 c0'] 44) = w3 at HNB ⊢
      generalize wr.heap.size = q at HNB ⊢
      clear c0 c1
      obtain ⟨d0, d1⟩ := D.out
      have e0 := HNB.out.1.holds d0
      have e1 := HNB.out.1.holds d1
      have x0 := bcell_row (i := 0) HNB.out.2 rfl
      have x1 := bcell_row (i := 1) HNB.out.2 rfl
      clear d0 d1 D
      go_quiet (fail)
      clear e0 e1 x0 x1 ne
      go_wp2_with fail
      go_roundw
      case rel => exact ⟨k + 1, by omega, by go_num, (hg.out.trans HNB.out.1).drewN _⟩
      case measure => simp [intOf]; omega
    · have e : k = l.length := by omega
      clear e hk
      go_wp2_with fail
      go_ret
      exact ⟨rfl, hg.out⟩

set_option maxRecDepth 100000 in
set_option maxHeartbeats 8000000 in
theorem rtabEq (A : Option Addr) (c : Nat) (ty : List TypD) (fst : Int) (B : Option Addr) (d : Nat) (ch : List ChaD) (A' : Option Addr) (c' : Nat) (B' : Option Addr) (d' : Nat) (w : World) (l1 : ty.length ≤ 100000) (l2 : ch.length ≤ 100000)
    (h1 : Row w 3 TypD.cells A ty) (h2 : Row w 2 ChaD.cells B ch) (h1' : Row w 3 TypD.cells A' ty) (h2' : Row w 2 ChaD.cells B' ch) :
    Calls Tryz.prog 11 #[.agg #[.slice A ty.length c, .int .i64 fst, .slice B ch.length d], .agg #[.slice A' ty.length c', .int .i64 fst, .slice B' ch.length d']] w fun e w' => e = .returned (.bool true) ∧ Gr w w' := by
  have K1 := Lib.hid (fun W (g : Gr w W) => reqType A c A' c' ty _ W rfl l1 (h1.gr g) (h1'.gr g))
  have K2 := Lib.hid (fun W (g : Gr w W) => reqCha B d B' d' ch _ W rfl l2 (h2.gr g) (h2'.gr g))
  have B0 := Lib.hid (box_two w (.cells #[.slice A ty.length c, .int .i64 fst, .slice B ch.length d] 32) (.cells #[.slice A' ty.length c', .int .i64 fst, .slice B' ch.length d'] 32))
  clear h1 h2 h1' h2'
  go_enter Tryz.func11, Tryz.ntmps11
  go_wp2_with fail
  generalize (w.alloc (.cells #[.slice A ty.length c, .int .i64 fst, .slice B ch.length d] 32)).alloc (.cells #[.slice A' ty.length c', .int .i64 fst, .slice B' ch.length d'] 32) = w1 at B0 ⊢
  generalize w.heap.size = q at B0 ⊢
  refine (K1.out w1 B0.out.1).mono ?_
  rintro e w2 ⟨rfl, g2⟩
  have G2 := Lib.hid (B0.out.1.trans g2)
  have HA := Lib.hid (bheap_gr g2 B0.out.2.1)
  have HB := Lib.hid (bheap_gr g2 B0.out.2.2)
  clear g2 B0 K1
  have x0 : w2.cell? ⟨q, 0, none⟩ = some (.slice A ty.length c) := bcell_row HA.out rfl
  have x1 : w2.cell? ⟨q, 1, none⟩ = some (.int .i64 fst) := bcell_row HA.out rfl
  have x2 : w2.cell? ⟨q, 2, none⟩ = some (.slice B ch.length d) := bcell_row HA.out rfl
  have y0 : w2.cell? ⟨q + 1, 0, none⟩ = some (.slice A' ty.length c') := bcell_row HB.out rfl
  have y1 : w2.cell? ⟨q + 1, 1, none⟩ = some (.int .i64 fst) := bcell_row HB.out rfl
  have y2 : w2.cell? ⟨q + 1, 2, none⟩ = some (.slice B' ch.length d') := bcell_row HB.out rfl
  go_wp2_with fail
  refine (K2.out w2 G2.out).mono ?_
  rintro e w3 ⟨rfl, g3⟩
  have G3 := Lib.hid (G2.out.trans g3)
  go_wp2_with fail
  go_ret
  exact ⟨rfl, G3.out⟩
end Go.Proofs.YtkmgildnhnjepaaGreatDoor
namespace Go.Proofs.YtkmgildnhnjepaaGreatDoor
set_option linter.unusedVariables false
set_option linter.unusedSimpArgs false
open Go.RowKit
/-- a table and an error are returned -/
def MkF (ty : List TypD) (ch : List ChaD) (C : Int) (w : World) (e : Ending) (w' : World) : Prop :=
  ∃ At ct Ac cc, e = .returned (.tuple #[.agg #[.slice At ty.length ct, .int .i64 0, .slice Ac ch.length cc], .int .i64 C]) ∧ TysAt w' At ct ty ∧ ChsAt w' Ac cc ch ∧ Gr w w'
theorem mk_lens (rs : List RuD) (zs : List ZonD) (ls : List LinD) (nm : ByteArray) (F T : Int) : (mkTy rs zs ls nm F T).length ≤ 250 ∧ (mkCh rs zs ls nm F T).length ≤ 1000 := by
  unfold mkTy mkCh
  by_cases h : mkC rs zs ls nm F T = 0
  · rw [if_pos h, if_pos h, chs_len]
    have := (mkC_zero.1 h).2.2.2
    exact this
  · rw [if_neg h, if_neg h]; simp
theorem mk_none {rs : List RuD} {zs : List ZonD} {ls : List LinD} {nm : ByteArray} {F T : Int} (h : mkC rs zs ls nm F T ≠ 0) : mkTy rs zs ls nm F T = [] ∧ mkCh rs zs ls nm F T = [] := by
  unfold mkTy mkCh; rw [if_neg h, if_neg h]; exact ⟨rfl, rfl⟩
theorem mk_some {rs : List RuD} {zs : List ZonD} {ls : List LinD} {nm : ByteArray} {F T : Int} (h : mkC rs zs ls nm F T = 0) : mkTy rs zs ls nm F T = (mkT rs zs ls nm F T).ty ∧ mkCh rs zs ls nm F T = (mkT rs zs ls nm F T).chs := by
  unfold mkTy mkCh; rw [if_pos h, if_pos h]; exact ⟨rfl, rfl⟩
theorem spT_ge (f l : Int) : tV f ≤ spT f l := by have := tV_bd f; unfold spT; rw [tV_last]; omega

theorem mk_any (b : BokD) (nm : ByteArray) (F T : Int) (w : World) (hb : b.At w) (hn : nm.size ≤ maxLen) (fb : -11676096000 ≤ F ∧ F ≤ 13569465599) (tb : -11676096001 ≤ T ∧ T ≤ 13569465600) (ht : BkTab w) :
    Calls Tryz.prog 9 #[bookV b, .string nm, .agg #[.int .i64 F, .int .i64 T]] w (MkF (mkTy b.rs b.zs b.ls nm F T) (mkCh b.rs b.zs b.ls nm F T) (mkC b.rs b.zs b.ls nm F T) w) :=
  pMake b nm F T w hb hn (by omega) (by omega) (by omega) (by omega) ht

theorem mk_links {rs : List RuD} {zs : List ZonD} {ls : List LinD} {i : Nat} {x : LinD} (hx : ls[i]? = some x) (F T : Int) : mkC rs zs ls x.to' F T = mkC rs zs ls x.nm F T ∧ mkTy rs zs ls x.to' F T = mkTy rs zs ls x.nm F T ∧ mkCh rs zs ls x.to' F T = mkCh rs zs ls x.nm F T := by
  obtain ⟨h1, h2⟩ := mk_link (rs := rs) (zs := zs) hx F T
  refine ⟨h1, ?_⟩
  by_cases c : mkC rs zs ls x.nm F T = 0
  · have a := mk_some (h1.trans c)
    have b := mk_some c
    rw [a.1, a.2, b.1, b.2, h2 c]; exact ⟨rfl, rfl⟩
  · have a := mk_none (by rw [h1]; exact c : mkC rs zs ls x.to' F T ≠ 0)
    have b := mk_none c
    rw [a.1, a.2, b.1, b.2]; exact ⟨rfl, rfl⟩
end Go.Proofs.YtkmgildnhnjepaaGreatDoor
