/- The project's withTurns and localType of package state. What the project's copyZone of package names returns. -/
import Derived.Test.YtkmgildnhnjepaaGreatDoorTM33
import Derived.Test.YtkmgildnhnjepaaGreatDoorTM31
import Derived.Test.YtkmgildnhnjepaaGreatDoorTM17
import Derived.Test.YtkmgildnhnjepaaGreatDoorTM27
namespace Go.Proofs.YtkmgildnhnjepaaGreatDoor
set_option linter.unusedVariables false
set_option linter.unusedSimpArgs false
open Go.RowKit
theorem box_three (w : World) (o1 o2 o3 : Obj) : Gr w (((w.alloc o1).alloc o2).alloc o3) ∧ (((w.alloc o1).alloc o2).alloc o3).heap[w.heap.size]? = some o1 ∧ (((w.alloc o1).alloc o2).alloc o3).heap[w.heap.size + 1]? = some o2 ∧ (((w.alloc o1).alloc o2).alloc o3).heap[w.heap.size + 1 + 1]? = some o3 := by
  obtain ⟨a, b, c⟩ := box_two w o1 o2
  have g := Gr.alloc ((w.alloc o1).alloc o2) o3
  refine ⟨a.trans g, bheap_gr g b, bheap_gr g c, ?_⟩
  have := bheap_new ((w.alloc o1).alloc o2) o3
  have sz : ∀ (W : World) (o : Obj), (W.alloc o).heap.size = W.heap.size + 1 := fun W o => by unfold World.alloc; simp
  rwa [sz, sz] at this

/-- transitions do not lie in the block of an era with its transitions -/
theorem turs_apart {W : World} {q : Nat} {T : TypeId} {a0 a2 a4 : Int} {a1 a3 : ByteArray} {a5 : Option Addr} {a6 a7 : Nat} {A : Option Addr} {L : List TurD} (h : W.heap[q]? = some (.cells #[.int .i64 a0, .string a1, .int .i64 a2, .string a3, .int .i64 a4, .slice a5 a6 a7] T (0, 0))) (hr : Row W 3 TurD.cells A L) {i : Nat} {x : TurD} (hx : L[i]? = some x) {b off : Nat} (hA : A = some ⟨b, off, none⟩) : b ≠ q := fun e => by
  subst e
  obtain ⟨b', off', hA', _, hc⟩ := hr i x hx
  rw [hA] at hA'
  injection hA' with hA'
  injection hA' with e1 e2
  subst e1; subst e2
  have c0 := hc 0 _ rfl
  have c1 := hc 1 _ rfl
  simp only [World.cell?, h] at c0 c1
  rw [Nat.add_zero] at c0
  generalize off + i * 3 = k at c0 c1
  match k, c0, c1 with
  | 0, c0, c1 => simp at c1
  | 1, c0, c1 => simp at c0
  | 2, c0, c1 => simp at c1
  | 3, c0, c1 => simp at c0
  | 4, c0, c1 => simp at c1
  | 5, c0, c1 => simp at c0
  | k + 6, c0, c1 => simp at c0
theorem turs_out {W : World} {q : Nat} {T : TypeId} {a0 a2 a4 : Int} {a1 a3 : ByteArray} {a5 : Option Addr} {a6 a7 : Nat} {A : Option Addr} {L : List TurD} (h : W.heap[q]? = some (.cells #[.int .i64 a0, .string a1, .int .i64 a2, .string a3, .int .i64 a4, .slice a5 a6 a7] T (0, 0))) (hr : Row W 3 TurD.cells A L) (v0 v1 v2 v3 v4 v5 : Value) :
    Row ((((((W.setCell ⟨q, 0, none⟩ v0).setCell ⟨q, 1, none⟩ v1).setCell ⟨q, 2, none⟩ v2).setCell ⟨q, 3, none⟩ v3).setCell ⟨q, 4, none⟩ v4).setCell ⟨q, 5, none⟩ v5) 3 TurD.cells A L := fun i x hx => by
  obtain ⟨b, off, hA, hb, hc⟩ := hr i x hx
  have hne := turs_apart h hr hx hA
  refine ⟨b, off, hA, ?_, fun j v hv => ?_⟩
  · simpa [World.setCell] using hb
  · rw [World.cell?_setCell_other _ _ _ _ (by simp [hne]), World.cell?_setCell_other _ _ _ _ (by simp [hne]), World.cell?_setCell_other _ _ _ _ (by simp [hne]), World.cell?_setCell_other _ _ _ _ (by simp [hne]), World.cell?_setCell_other _ _ _ _ (by simp [hne]), World.cell?_setCell_other _ _ _ _ (by simp [hne])]
    exact hc j v hv

/-- what withTurns leaves -/
def WtE (rs : List RuD) (zs : List ZonD) (ls : List LinD) (x : EraD) (w : World) (e : Ending) (w' : World) : Prop :=
  ∃ A c, e = .returned (.tuple #[.agg #[.int .i64 x.off, .string x.ru, .int .i64 x.sv, .string x.fm, .int .i64 x.un, .slice A (eraT rs zs ls x).length c], .int .i64 (eraK rs zs ls x)]) ∧ TursAt w' A c (eraT rs zs ls x) ∧ Gr w w'

set_option maxRecDepth 100000 in
set_option maxHeartbeats 8000000 in
theorem withTurns_any (b : BokD) (x : EraD) (w : World) (hb : b.At w) (ht : BkTab w) :
    Calls Tryz.prog 42 #[bookV b, .agg #[.int .i64 x.off, .string x.ru, .int .i64 x.sv, .string x.fm, .int .i64 x.un]] w (WtE b.rs b.zs b.ls x w) := by
  obtain ⟨eo, ru, sv, fm, un⟩ := x
  have KO := Lib.hid (fun W (g : Gr w W) => tOf b ru eo W (hb.gr g) (g.bk ht))
  obtain ⟨Ar, cr, rs, Az, cz, zs, Al, cl, ls⟩ := b
  simp only at KO
  show Calls _ _ _ _ (WtE rs zs ls ⟨eo, ru, sv, fm, un⟩ w)
  have B0 := Lib.hid (box_three w (.cells #[.slice Ar rs.length cr, .slice Az zs.length cz, .slice Al ls.length cl] 26) (.cells #[.int .i64 eo, .string ru, .int .i64 sv, .string fm, .int .i64 un] 59) (.cells #[.int .i64 0, .string ⟨#[]⟩, .int .i64 0, .string ⟨#[]⟩, .int .i64 0, .slice none 0 0] 92))
  clear hb ht
  by_cases hru : ru.toList = []
  · have ET : Hid (eraT rs zs ls ⟨eo, ru, sv, fm, un⟩ = []) := by unfold Hid eraT; rw [if_pos hru]
    have EK : Hid (eraK rs zs ls ⟨eo, ru, sv, fm, un⟩ = 0) := by unfold Hid eraK; rw [if_pos hru]
    obtain rfl := str_nil hru
    clear hru KO B0
    have B0 := Lib.hid (box_three w (.cells #[.slice Ar rs.length cr, .slice Az zs.length cz, .slice Al ls.length cl] 26) (.cells #[.int .i64 eo, .string ⟨#[]⟩, .int .i64 sv, .string fm, .int .i64 un] 59) (.cells #[.int .i64 eo, .string ⟨#[]⟩, .int .i64 sv, .string fm, .int .i64 un, .slice none 0 0] 92))
    go_enter Tryz.func42, Tryz.ntmps42
    go_wp2_with fail
    have s0 : (((w.alloc (.cells #[.slice Ar rs.length cr, .slice Az zs.length cz, .slice Al ls.length cl] 26)).alloc (.cells #[.int .i64 eo, .string ⟨#[]⟩, .int .i64 sv, .string fm, .int .i64 un] 59)).alloc (.cells #[.int .i64 eo, .string ⟨#[]⟩, .int .i64 sv, .string fm, .int .i64 un, .slice none 0 0] 92)).cell? ⟨w.heap.size + 1 + 1, 0, none⟩ = some (.int .i64 eo) := bcell_row B0.out.2.2.2 rfl
    have s1 : (((w.alloc (.cells #[.slice Ar rs.length cr, .slice Az zs.length cz, .slice Al ls.length cl] 26)).alloc (.cells #[.int .i64 eo, .string ⟨#[]⟩, .int .i64 sv, .string fm, .int .i64 un] 59)).alloc (.cells #[.int .i64 eo, .string ⟨#[]⟩, .int .i64 sv, .string fm, .int .i64 un, .slice none 0 0] 92)).cell? ⟨w.heap.size + 1 + 1, 1, none⟩ = some (.string ⟨#[]⟩) := bcell_row B0.out.2.2.2 rfl
    have s2 : (((w.alloc (.cells #[.slice Ar rs.length cr, .slice Az zs.length cz, .slice Al ls.length cl] 26)).alloc (.cells #[.int .i64 eo, .string ⟨#[]⟩, .int .i64 sv, .string fm, .int .i64 un] 59)).alloc (.cells #[.int .i64 eo, .string ⟨#[]⟩, .int .i64 sv, .string fm, .int .i64 un, .slice none 0 0] 92)).cell? ⟨w.heap.size + 1 + 1, 2, none⟩ = some (.int .i64 sv) := bcell_row B0.out.2.2.2 rfl
    have s3 : (((w.alloc (.cells #[.slice Ar rs.length cr, .slice Az zs.length cz, .slice Al ls.length cl] 26)).alloc (.cells #[.int .i64 eo, .string ⟨#[]⟩, .int .i64 sv, .string fm, .int .i64 un] 59)).alloc (.cells #[.int .i64 eo, .string ⟨#[]⟩, .int .i64 sv, .string fm, .int .i64 un, .slice none 0 0] 92)).cell? ⟨w.heap.size + 1 + 1, 3, none⟩ = some (.string fm) := bcell_row B0.out.2.2.2 rfl
    have s4 : (((w.alloc (.cells #[.slice Ar rs.length cr, .slice Az zs.length cz, .slice Al ls.length cl] 26)).alloc (.cells #[.int .i64 eo, .string ⟨#[]⟩, .int .i64 sv, .string fm, .int .i64 un] 59)).alloc (.cells #[.int .i64 eo, .string ⟨#[]⟩, .int .i64 sv, .string fm, .int .i64 un, .slice none 0 0] 92)).cell? ⟨w.heap.size + 1 + 1, 4, none⟩ = some (.int .i64 un) := bcell_row B0.out.2.2.2 rfl
    have s5 : (((w.alloc (.cells #[.slice Ar rs.length cr, .slice Az zs.length cz, .slice Al ls.length cl] 26)).alloc (.cells #[.int .i64 eo, .string ⟨#[]⟩, .int .i64 sv, .string fm, .int .i64 un] 59)).alloc (.cells #[.int .i64 eo, .string ⟨#[]⟩, .int .i64 sv, .string fm, .int .i64 un, .slice none 0 0] 92)).cell? ⟨w.heap.size + 1 + 1, 5, none⟩ = some (.slice none 0 0) := bcell_row B0.out.2.2.2 rfl
    exact bodyPost_ret (v := .tuple #[.agg #[.int .i64 eo, .string ⟨#[]⟩, .int .i64 sv, .string fm, .int .i64 un, .slice none 0 0], .int .i64 0]) (by simp [results, Tryz.results42, go_sem, s0, s1, s2, s3, s4, s5]) rfl ⟨none, 0, by rw [ET.out, EK.out]; rfl, by rw [ET.out]; exact ⟨⟨Nat.le_refl _, by unfold maxLen; exact Nat.zero_le _⟩, Row.nil _ _ _ _⟩, B0.out.1⟩
  · have ET : Hid (eraT rs zs ls ⟨eo, ru, sv, fm, un⟩ = ofL rs zs ls ru eo) := by unfold Hid eraT; rw [if_neg hru]
    have EK : Hid (eraK rs zs ls ⟨eo, ru, sv, fm, un⟩ = ofC rs zs ls ru eo) := by unfold Hid eraK; rw [if_neg hru]
    obtain ⟨n1, n2, n3⟩ := str_nonnil hru
    clear hru
    go_enter Tryz.func42, Tryz.ntmps42
    go_wp2_with fail
    generalize ((w.alloc (.cells #[.slice Ar rs.length cr, .slice Az zs.length cz, .slice Al ls.length cl] 26)).alloc (.cells #[.int .i64 eo, .string ru, .int .i64 sv, .string fm, .int .i64 un] 59)).alloc (.cells #[.int .i64 0, .string ⟨#[]⟩, .int .i64 0, .string ⟨#[]⟩, .int .i64 0, .slice none 0 0] 92) = w1 at B0 ⊢
    obtain ⟨q, hq⟩ : ∃ q, w.heap.size = q := ⟨_, rfl⟩
    have NQ : Hid (w.heap.size ≤ q + 1 + 1) := by unfold Hid; omega
    rw [hq] at B0 ⊢
    clear hq
    have x0 : w1.cell? ⟨q + 1, 0, none⟩ = some (.int .i64 eo) := bcell_row B0.out.2.2.1 rfl
    have x1 : w1.cell? ⟨q + 1, 1, none⟩ = some (.string ru) := bcell_row B0.out.2.2.1 rfl
    have x2 : w1.cell? ⟨q + 1, 2, none⟩ = some (.int .i64 sv) := bcell_row B0.out.2.2.1 rfl
    have x3 : w1.cell? ⟨q + 1, 3, none⟩ = some (.string fm) := bcell_row B0.out.2.2.1 rfl
    have x4 : w1.cell? ⟨q + 1, 4, none⟩ = some (.int .i64 un) := bcell_row B0.out.2.2.1 rfl
    have z0 : w1.cell? ⟨q, 0, none⟩ = some (.slice Ar rs.length cr) := bcell_row B0.out.2.1 rfl
    have z1 : w1.cell? ⟨q, 1, none⟩ = some (.slice Az zs.length cz) := bcell_row B0.out.2.1 rfl
    have z2 : w1.cell? ⟨q, 2, none⟩ = some (.slice Al ls.length cl) := bcell_row B0.out.2.1 rfl
    go_wp2_with fail
    clear x0 x1 x2 x3 x4 z0 z1 z2
    refine (KO.out w1 B0.out.1).mono ?_
    rintro e w2 ⟨A, c, rfl, ta, g2⟩
    have G2 := Lib.hid (B0.out.1.trans g2)
    have HE := Lib.hid (bheap_gr g2 B0.out.2.2.1)
    have HQ := Lib.hid (bheap_gr g2 B0.out.2.2.2)
    have TA := Lib.hid ta
    clear ta g2 B0 KO
    have x0 : w2.cell? ⟨q + 1, 0, none⟩ = some (.int .i64 eo) := bcell_row HE.out rfl
    have x1 : w2.cell? ⟨q + 1, 1, none⟩ = some (.string ru) := bcell_row HE.out rfl
    have x2 : w2.cell? ⟨q + 1, 2, none⟩ = some (.int .i64 sv) := bcell_row HE.out rfl
    have x3 : w2.cell? ⟨q + 1, 3, none⟩ = some (.string fm) := bcell_row HE.out rfl
    have x4 : w2.cell? ⟨q + 1, 4, none⟩ = some (.int .i64 un) := bcell_row HE.out rfl
    have y0 : w2.cell? ⟨q + 1 + 1, 0, none⟩ = some (.int .i64 0) := bcell_row HQ.out rfl
    have y1 : w2.cell? ⟨q + 1 + 1, 1, none⟩ = some (.string ⟨#[]⟩) := bcell_row HQ.out rfl
    have y2 : w2.cell? ⟨q + 1 + 1, 2, none⟩ = some (.int .i64 0) := bcell_row HQ.out rfl
    have y3 : w2.cell? ⟨q + 1 + 1, 3, none⟩ = some (.string ⟨#[]⟩) := bcell_row HQ.out rfl
    have y4 : w2.cell? ⟨q + 1 + 1, 4, none⟩ = some (.int .i64 0) := bcell_row HQ.out rfl
    have y5 : w2.cell? ⟨q + 1 + 1, 5, none⟩ = some (.slice none 0 0) := bcell_row HQ.out rfl
    have f0 : w2.frozen? ⟨q + 1 + 1, 0, none⟩ = false := unfrozen HQ.out
    have f1 : w2.frozen? ⟨q + 1 + 1, 1, none⟩ = false := unfrozen HQ.out
    have f2 : w2.frozen? ⟨q + 1 + 1, 2, none⟩ = false := unfrozen HQ.out
    have f3 : w2.frozen? ⟨q + 1 + 1, 3, none⟩ = false := unfrozen HQ.out
    have f4 : w2.frozen? ⟨q + 1 + 1, 4, none⟩ = false := unfrozen HQ.out
    have f5 : w2.frozen? ⟨q + 1 + 1, 5, none⟩ = false := unfrozen HQ.out
    have s0 : ((((((w2.setCell ⟨q + 1 + 1, 0, none⟩ (.int .i64 eo)).setCell ⟨q + 1 + 1, 1, none⟩ (.string ru)).setCell ⟨q + 1 + 1, 2, none⟩ (.int .i64 sv)).setCell ⟨q + 1 + 1, 3, none⟩ (.string fm)).setCell ⟨q + 1 + 1, 4, none⟩ (.int .i64 un)).setCell ⟨q + 1 + 1, 5, none⟩ (.slice A (ofL rs zs ls ru eo).length c)).cell? ⟨q + 1 + 1, 0, none⟩ = some (.int .i64 eo) := bcell_row (st6 HQ.out (.int .i64 eo) (.string ru) (.int .i64 sv) (.string fm) (.int .i64 un) (.slice A (ofL rs zs ls ru eo).length c)) rfl
    have s1 : ((((((w2.setCell ⟨q + 1 + 1, 0, none⟩ (.int .i64 eo)).setCell ⟨q + 1 + 1, 1, none⟩ (.string ru)).setCell ⟨q + 1 + 1, 2, none⟩ (.int .i64 sv)).setCell ⟨q + 1 + 1, 3, none⟩ (.string fm)).setCell ⟨q + 1 + 1, 4, none⟩ (.int .i64 un)).setCell ⟨q + 1 + 1, 5, none⟩ (.slice A (ofL rs zs ls ru eo).length c)).cell? ⟨q + 1 + 1, 1, none⟩ = some (.string ru) := bcell_row (st6 HQ.out (.int .i64 eo) (.string ru) (.int .i64 sv) (.string fm) (.int .i64 un) (.slice A (ofL rs zs ls ru eo).length c)) rfl
    have s2 : ((((((w2.setCell ⟨q + 1 + 1, 0, none⟩ (.int .i64 eo)).setCell ⟨q + 1 + 1, 1, none⟩ (.string ru)).setCell ⟨q + 1 + 1, 2, none⟩ (.int .i64 sv)).setCell ⟨q + 1 + 1, 3, none⟩ (.string fm)).setCell ⟨q + 1 + 1, 4, none⟩ (.int .i64 un)).setCell ⟨q + 1 + 1, 5, none⟩ (.slice A (ofL rs zs ls ru eo).length c)).cell? ⟨q + 1 + 1, 2, none⟩ = some (.int .i64 sv) := bcell_row (st6 HQ.out (.int .i64 eo) (.string ru) (.int .i64 sv) (.string fm) (.int .i64 un) (.slice A (ofL rs zs ls ru eo).length c)) rfl
    have s3 : ((((((w2.setCell ⟨q + 1 + 1, 0, none⟩ (.int .i64 eo)).setCell ⟨q + 1 + 1, 1, none⟩ (.string ru)).setCell ⟨q + 1 + 1, 2, none⟩ (.int .i64 sv)).setCell ⟨q + 1 + 1, 3, none⟩ (.string fm)).setCell ⟨q + 1 + 1, 4, none⟩ (.int .i64 un)).setCell ⟨q + 1 + 1, 5, none⟩ (.slice A (ofL rs zs ls ru eo).length c)).cell? ⟨q + 1 + 1, 3, none⟩ = some (.string fm) := bcell_row (st6 HQ.out (.int .i64 eo) (.string ru) (.int .i64 sv) (.string fm) (.int .i64 un) (.slice A (ofL rs zs ls ru eo).length c)) rfl
    have s4 : ((((((w2.setCell ⟨q + 1 + 1, 0, none⟩ (.int .i64 eo)).setCell ⟨q + 1 + 1, 1, none⟩ (.string ru)).setCell ⟨q + 1 + 1, 2, none⟩ (.int .i64 sv)).setCell ⟨q + 1 + 1, 3, none⟩ (.string fm)).setCell ⟨q + 1 + 1, 4, none⟩ (.int .i64 un)).setCell ⟨q + 1 + 1, 5, none⟩ (.slice A (ofL rs zs ls ru eo).length c)).cell? ⟨q + 1 + 1, 4, none⟩ = some (.int .i64 un) := bcell_row (st6 HQ.out (.int .i64 eo) (.string ru) (.int .i64 sv) (.string fm) (.int .i64 un) (.slice A (ofL rs zs ls ru eo).length c)) rfl
    have s5 : ((((((w2.setCell ⟨q + 1 + 1, 0, none⟩ (.int .i64 eo)).setCell ⟨q + 1 + 1, 1, none⟩ (.string ru)).setCell ⟨q + 1 + 1, 2, none⟩ (.int .i64 sv)).setCell ⟨q + 1 + 1, 3, none⟩ (.string fm)).setCell ⟨q + 1 + 1, 4, none⟩ (.int .i64 un)).setCell ⟨q + 1 + 1, 5, none⟩ (.slice A (ofL rs zs ls ru eo).length c)).cell? ⟨q + 1 + 1, 5, none⟩ = some (.slice A (ofL rs zs ls ru eo).length c) := bcell_row (st6 HQ.out (.int .i64 eo) (.string ru) (.int .i64 sv) (.string fm) (.int .i64 un) (.slice A (ofL rs zs ls ru eo).length c)) rfl
    go_wp2_with fail
    exact bodyPost_ret (v := .tuple #[.agg #[.int .i64 eo, .string ru, .int .i64 sv, .string fm, .int .i64 un, .slice A (ofL rs zs ls ru eo).length c], .int .i64 (ofC rs zs ls ru eo)]) (by simp [results, Tryz.results42, go_sem, s0, s1, s2, s3, s4, s5]) rfl ⟨A, c, by rw [ET.out, EK.out], by rw [ET.out]; exact ⟨TA.out.1, turs_out HQ.out TA.out.2 (.int .i64 eo) (.string ru) (.int .i64 sv) (.string fm) (.int .i64 un) (.slice A (ofL rs zs ls ru eo).length c)⟩, (st6_below G2.out NQ.out (.int .i64 eo) (.string ru) (.int .i64 sv) (.string fm) (.int .i64 un) (.slice A (ofL rs zs ls ru eo).length c))⟩

set_option maxRecDepth 100000 in
set_option maxHeartbeats 8000000 in
theorem localType_any (eo sv un s : Int) (ru fm lt : ByteArray) (A : Option Addr) (n c : Nat) (w : World) (hm : HasMax w) (hlt : lt.size ≤ maxLen) (h1 : -64800 ≤ eo) (h2 : eo ≤ 64800) (h3 : 0 ≤ s) (h4 : s ≤ 10800) :
    Calls Tryz.prog 45 #[.agg #[.int .i64 eo, .string ru, .int .i64 sv, .string fm, .int .i64 un, .slice A n c], .int .i64 s, .string lt] w fun e w' => e = .returned (.agg #[.int .i64 (eo + s), .bool (decide (0 < s)), .string (S (abbrR fm.toList s lt.toList).1)]) ∧ Gr w w' := by
  have KA := Lib.hid (fun W (g : Gr w W) => pabbrFmt fm s lt W (g.max hm) hlt)
  have B0 := Lib.hid (box_two w (.cells #[.int .i64 eo, .string ru, .int .i64 sv, .string fm, .int .i64 un, .slice A n c] 92) (.cells #[.int .i64 0, .bool false, .string ⟨#[]⟩] 46))
  clear hm hlt
  go_enter Tryz.func45, Tryz.ntmps45
  go_wp2_with fail
  generalize (w.alloc (.cells #[.int .i64 eo, .string ru, .int .i64 sv, .string fm, .int .i64 un, .slice A n c] 92)).alloc (.cells #[.int .i64 0, .bool false, .string ⟨#[]⟩] 46) = w1 at B0 ⊢
  obtain ⟨q, hq⟩ : ∃ q, w.heap.size = q := ⟨_, rfl⟩
  have NQ : Hid (w.heap.size ≤ q + 1) := by unfold Hid; omega
  rw [hq] at B0 ⊢
  clear hq
  have x3 : w1.cell? ⟨q, 3, none⟩ = some (.string fm) := bcell_row B0.out.2.1 rfl
  go_wp2_with fail
  clear x3
  refine (KA.out w1 B0.out.1).mono ?_
  rintro e w2 ⟨rfl, g2⟩
  have G2 := Lib.hid (B0.out.1.trans g2)
  have HE := Lib.hid (bheap_gr g2 B0.out.2.1)
  have HQ := Lib.hid (bheap_gr g2 B0.out.2.2)
  clear g2 B0 KA
  have x0 : w2.cell? ⟨q, 0, none⟩ = some (.int .i64 eo) := bcell_row HE.out rfl
  have y0 : w2.cell? ⟨q + 1, 0, none⟩ = some (.int .i64 0) := bcell_row HQ.out rfl
  have y1 : w2.cell? ⟨q + 1, 1, none⟩ = some (.bool false) := bcell_row HQ.out rfl
  have y2 : w2.cell? ⟨q + 1, 2, none⟩ = some (.string ⟨#[]⟩) := bcell_row HQ.out rfl
  have f0 : w2.frozen? ⟨q + 1, 0, none⟩ = false := unfrozen HQ.out
  have f1 : w2.frozen? ⟨q + 1, 1, none⟩ = false := unfrozen HQ.out
  have f2 : w2.frozen? ⟨q + 1, 2, none⟩ = false := unfrozen HQ.out
  have s0 : (((w2.setCell ⟨q + 1, 0, none⟩ (.int .i64 (eo + s))).setCell ⟨q + 1, 1, none⟩ (.bool (decide (0 < s)))).setCell ⟨q + 1, 2, none⟩ (.string (S (abbrR fm.toList s lt.toList).1))).cell? ⟨q + 1, 0, none⟩ = some (.int .i64 (eo + s)) := bcell_row (st3 HQ.out (.int .i64 (eo + s)) (.bool (decide (0 < s))) (.string (S (abbrR fm.toList s lt.toList).1))) rfl
  have s1 : (((w2.setCell ⟨q + 1, 0, none⟩ (.int .i64 (eo + s))).setCell ⟨q + 1, 1, none⟩ (.bool (decide (0 < s)))).setCell ⟨q + 1, 2, none⟩ (.string (S (abbrR fm.toList s lt.toList).1))).cell? ⟨q + 1, 1, none⟩ = some (.bool (decide (0 < s))) := bcell_row (st3 HQ.out (.int .i64 (eo + s)) (.bool (decide (0 < s))) (.string (S (abbrR fm.toList s lt.toList).1))) rfl
  have s2 : (((w2.setCell ⟨q + 1, 0, none⟩ (.int .i64 (eo + s))).setCell ⟨q + 1, 1, none⟩ (.bool (decide (0 < s)))).setCell ⟨q + 1, 2, none⟩ (.string (S (abbrR fm.toList s lt.toList).1))).cell? ⟨q + 1, 2, none⟩ = some (.string (S (abbrR fm.toList s lt.toList).1)) := bcell_row (st3 HQ.out (.int .i64 (eo + s)) (.bool (decide (0 < s))) (.string (S (abbrR fm.toList s lt.toList).1))) rfl
  go_wp2_with fail
  exact bodyPost_ret (v := .agg #[.int .i64 (eo + s), .bool (decide (0 < s)), .string (S (abbrR fm.toList s lt.toList).1)]) (by simp [results, Tryz.results45, go_sem, s0, s1, s2]) rfl ⟨rfl, (st3_below G2.out NQ.out (.int .i64 (eo + s)) (.bool (decide (0 < s))) (.string (S (abbrR fm.toList s lt.toList).1)))⟩
end Go.Proofs.YtkmgildnhnjepaaGreatDoor
namespace Go.Proofs.YtkmgildnhnjepaaGreatDoor
set_option linter.unusedVariables false
set_option linter.unusedSimpArgs false
open Go.RowKit
/-- what lies in a cell stored there again -/
theorem set_same {W : World} {b o : Nat} {u : Value} (h : W.cell? ⟨b, o, none⟩ = some u) : W.setCell ⟨b, o, none⟩ u = W := by
  have hb := World.block_lt_of_cell? W ⟨b, o, none⟩ h
  simp only at hb
  have e : (W.setCell ⟨b, o, none⟩ u).heap = W.heap := by
    apply Array.ext_getElem?
    intro i
    by_cases hi : i = b
    · subst hi
      cases hc : W.heap[i]? with
      | none => rw [Array.getElem?_eq_none_iff] at hc; omega
      | some ob =>
        unfold World.cell? at h
        simp only [hc] at h
        unfold World.setCell
        simp only [Array.getElem?_modify, hc]
        cases ob with
        | cells c el fr =>
          simp only [Option.isSome_none, Bool.false_eq_true, if_false] at h
          obtain ⟨ho, eo⟩ := Array.getElem?_eq_some_iff.1 h
          have es : c.setIfInBounds o u = c := by
            apply Array.ext_getElem?
            intro j
            rw [Array.getElem?_setIfInBounds]
            by_cases hj : o = j
            · subst hj; rw [if_pos rfl, if_pos ho, h]
            · rw [if_neg hj]
          simp [es]
        | _ => simp
    · exact RowKit.Below.heap_setCell _ _ _ _ hi
  unfold World.setCell at e ⊢
  simp only at e
  rw [e]
theorem own_at {α : Type} {w : World} {base k : Nat} {e : TypeId} {enc : α → List Value} {A : Option Addr} {n c : Nat} {l : List α} (h : Own w base e k enc (.slice A n c) l) (hn : 0 < l.length) : ∃ g, A = some ⟨g, 0, none⟩ ∧ base ≤ g ∧ ∀ o, w.frozen? ⟨g, o, none⟩ = false := by
  rcases h.2 with ⟨hv, h0⟩ | ⟨g, cap, cur, hv, hb, hg, _⟩
  · omega
  · injection hv with hA
    exact ⟨g, hA, hb, fun o => unfrozen hg⟩

theorem row_out {α : Type} {w : World} {base k n c q : Nat} {e : TypeId} {enc : α → List Value} {A : Option Addr} {l : List α} (hk : ∀ x, (enc x).length = k) (h : Own w base e k enc (.slice A n c) l) (hq : q < base) (v0 v1 : Value) : Row ((w.setCell ⟨q, 0, none⟩ v0).setCell ⟨q, 1, none⟩ v1) k enc A l := fun i x hx => by
  obtain ⟨g, rfl, hb, _⟩ := own_at h (by have := (List.getElem?_eq_some_iff.1 hx).1; omega)
  obtain ⟨b', off', e, hlt, hc⟩ := h.row hk i x hx
  injection e with e; injection e with e1 e2
  subst e1; subst e2
  refine ⟨g, 0, rfl, by simpa [World.setCell] using hlt, fun j u hu => ?_⟩
  rw [World.cell?_setCell_other _ _ _ _ (by first | (simp; done) | (simp; omega)), World.cell?_setCell_other _ _ _ _ (by first | (simp; done) | (simp; omega))]
  exact hc j u hu
theorem era_cells {W : World} {base : Nat} {e : TypeId} {g n c k : Nat} {l : List EraD} {off0 sv un : Int} {ru fm : ByteArray} (h : Own W base e 5 EraD.cells (.slice (some ⟨g, 0, none⟩) n c) l) (hx : l[k]? = some ⟨off0, ru, sv, fm, un⟩) :
    W.cell? ⟨g, k * 5 + 1, none⟩ = some (.string ru) ∧ W.cell? ⟨g, k * 5 + 3, none⟩ = some (.string fm) ∧ (∀ o, W.frozen? ⟨g, o, none⟩ = false) ∧ W.setCell ⟨g, k * 5 + 1, none⟩ (.string ru) = W ∧ W.setCell ⟨g, k * 5 + 3, none⟩ (.string fm) = W := by
  obtain ⟨g', eg, _, hf⟩ := own_at h (by have := (List.getElem?_eq_some_iff.1 hx).1; omega)
  injection eg with eg; injection eg with eg _; subst eg
  obtain ⟨b, o, eb, _, c1, _, c3, _⟩ := (h.row er_len).five hx rfl (Gr.refl W)
  injection eb with eb; injection eb with eb1 eb2; subst eb1; subst eb2
  rw [Nat.zero_add] at c1 c3
  exact ⟨c1, c3, hf, set_same c1, set_same c3⟩

set_option maxRecDepth 100000 in
set_option maxHeartbeats 8000000 in
theorem pcopyZone (z : ZonD) (w : World) (hz : z.At w) (hf : z.Few) :
    Calls Tryz.prog 49 #[.agg #[.string z.nm, .slice z.A z.eras.length z.c]] w fun e w' => ∃ A c, e = .returned (.agg #[.string z.nm, .slice A z.eras.length c]) ∧ (⟨z.nm, A, c, z.eras⟩ : ZonD).At w' ∧ Gr w w' ∧ ∀ b off, A = some ⟨b, off, none⟩ → w.heap.size ≤ b := by
  obtain ⟨nm, A, c, l⟩ := z
  have HI : Hid (∀ e ∈ l, e.In) := hz.2.2.2
  have HF : Hid (∀ e ∈ l, e.ru.size ≤ 1048576 ∧ e.fm.size ≤ 1048576) := hf.2.2
  have HN : Hid (nm.size ≤ 1048576) := hf.1
  have hl : l.length ≤ 700 := hf.2.1
  have K := Lib.hid (fun W (g : Gr w W) => pclone A c l W (hz.2.2.1.gr g) hl)
  have KS := Lib.hid (fun s W hs => clone_str s W hs)
  have B0 := Lib.hid (box_two w (.cells #[.string nm, .slice A l.length c] 57) (.cells #[.string ⟨#[]⟩, .slice none 0 0] 57))
  clear hz hf
  simp only
  go_enter Tryz.func49, Tryz.ntmps49
  go_wp2_with fail
  generalize (w.alloc (.cells #[.string nm, .slice A l.length c] 57)).alloc (.cells #[.string ⟨#[]⟩, .slice none 0 0] 57) = w1 at B0 ⊢
  generalize hq : w.heap.size = q at B0 ⊢
  have QE1 := Lib.hid (show w.heap.size ≤ q + 1 by omega)
  clear hq
  have x1 : w1.cell? ⟨q, 1, none⟩ = some (.slice A l.length c) := bcell_row B0.out.2.1 rfl
  go_wp2_with fail
  clear x1
  refine (K.out w1 B0.out.1).mono ?_
  rintro e w2 ⟨v, rfl, ho, g2⟩
  obtain ⟨A', c', rfl, hle, hcm, hbb⟩ := ho.form
  have HBB : Hid (∀ b off, A' = some ⟨b, off, none⟩ → w.heap.size ≤ b) := fun b off e => Nat.le_trans (Below.size B0.out.1) (hbb _ e).2.2.1
  have HO := Lib.hid ho
  have HLE := Lib.hid hle
  have HCM := Lib.hid hcm
  have G2 := Lib.hid (B0.out.1.trans g2)
  have HB2 := Lib.hid (bheap_gr g2 B0.out.2.1)
  have HR2 := Lib.hid (bheap_gr g2 B0.out.2.2)
  have HBQ : Hid (q + 1 < w1.heap.size) := (Array.getElem?_eq_some_iff.1 B0.out.2.2).1
  clear K ho hle hcm hbb g2 B0
  generalize w1.heap.size = base at HO HBQ
  go_wp2_with fail
  go_loopw [10] (fun i W => ∃ k : Nat, k ≤ l.length ∧ i = .int .i64 k ∧ Hid (Gr w2 W)) (fun i W => l.length - (intOf i).toNat)
  case atStart => exact ⟨0, Nat.zero_le _, rfl, Gr.refl _⟩
  case round =>
    obtain ⟨k, hk, rfl, hg⟩ := hrel
    have OW := Lib.hid (HO.out.gr hg.out)
    by_cases hlt : k < l.length
    · obtain ⟨⟨off0, ru, sv, fm, un⟩, hx⟩ := get_lt hlt
      obtain ⟨g, rfl, _, _⟩ := own_at OW.out (by omega)
      have HS := Lib.hid (HF.out _ (get_mem hx))
      have HX := Lib.hid hx
      obtain ⟨c1, _⟩ := era_cells OW.out hx
      clear hx
      go_wp2_with fail
      clear c1
      refine (KS.out ru wr HS.out.1).mono ?_
      rintro e w3 ⟨rfl, g3⟩
      have G3 := Lib.hid (hg.out.trans g3)
      obtain ⟨_, d3, hfz, s1, _⟩ := era_cells (HO.out.gr G3.out) HX.out
      have d1 := (era_cells (HO.out.gr G3.out) HX.out).1
      have f1 := hfz (k * 5 + 1)
      clear hfz g3 hg
      go_wp2_with fail
      clear d1 d3 f1 s1
      refine (KS.out fm w3 HS.out.2).mono ?_
      rintro e w4 ⟨rfl, g4⟩
      have G4 := Lib.hid (G3.out.trans g4)
      obtain ⟨_, d3, hfz, _, s3⟩ := era_cells (HO.out.gr G4.out) HX.out
      have f3 := hfz (k * 5 + 3)
      clear hfz g4 G3
      go_wp2_with fail
      go_roundw
      case rel => exact ⟨k + 1, by omega, by go_num, G4⟩
      case measure => simp [intOf]; omega
    · have HBr := Lib.hid (bheap_gr hg.out HB2.out)
      have HRr := Lib.hid (bheap_gr hg.out HR2.out)
      have x0 : wr.cell? ⟨q, 0, none⟩ = some (.string nm) := bcell_row HBr.out rfl
      clear hk
      go_wp2_with fail
      clear x0
      refine (KS.out nm wr HN.out).mono ?_
      rintro e w3 ⟨rfl, g3⟩
      have G3 := Lib.hid (G2.out.trans (hg.out.trans g3))
      have OW3 := Lib.hid (OW.out.gr g3)
      have HR3 := Lib.hid (bheap_gr g3 HRr.out)
      clear g3 hg HBr HRr OW
      have y0 : w3.cell? ⟨q + 1, 0, none⟩ = some (.string ⟨#[]⟩) := bcell_row HR3.out rfl
      have y1 : w3.cell? ⟨q + 1, 1, none⟩ = some (.slice none 0 0) := bcell_row HR3.out rfl
      have f0 : w3.frozen? ⟨q + 1, 0, none⟩ = false := unfrozen HR3.out
      have f1 : w3.frozen? ⟨q + 1, 1, none⟩ = false := unfrozen HR3.out
      have s0 : ((w3.setCell ⟨q + 1, 0, none⟩ (.string nm)).setCell ⟨q + 1, 1, none⟩ (.slice A' l.length c')).cell? ⟨q + 1, 0, none⟩ = some (.string nm) := bcell_row (store2 HR3.out _ _) rfl
      have s1 : ((w3.setCell ⟨q + 1, 0, none⟩ (.string nm)).setCell ⟨q + 1, 1, none⟩ (.slice A' l.length c')).cell? ⟨q + 1, 1, none⟩ = some (.slice A' l.length c') := bcell_row (store2 HR3.out _ _) rfl
      go_wp2_with fail
      exact bodyPost_ret (v := .agg #[.string nm, .slice A' l.length c']) (by simp [results, Tryz.results49, go_sem, s0, s1]) rfl ⟨A', c', rfl, ⟨by have := HN.out; show nm.size ≤ maxLen; unfold maxLen; omega, ⟨HLE.out, HCM.out⟩, row_out er_len OW3.out HBQ.out _ _, HI.out⟩, store2_below G3.out QE1.out _ _, HBB.out⟩
end Go.Proofs.YtkmgildnhnjepaaGreatDoor
