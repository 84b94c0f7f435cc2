/- The project's withTurns and localType of package state. -/
import Derived.Test.YtkmgildnhnjepaaGreatDoorRM30
import Derived.Test.YtkmgildnhnjepaaGreatDoorRM28
namespace Go.Proofs.YtkmgildnhnjepaaGreatDoor
set_option linter.unusedVariables false
set_option linter.unusedSimpArgs false
open Go.RowKit
theorem box_three (w : World) (o1 o2 o3 : Obj) : Gr w (((w.alloc o1).alloc o2).alloc o3) ∧ (((w.alloc o1).alloc o2).alloc o3).heap[w.heap.size]? = some o1 ∧ (((w.alloc o1).alloc o2).alloc o3).heap[w.heap.size + 1]? = some o2 ∧ (((w.alloc o1).alloc o2).alloc o3).heap[w.heap.size + 1 + 1]? = some o3 := by
  obtain ⟨a, b, c⟩ := box_two w o1 o2
  have g := Gr.alloc ((w.alloc o1).alloc o2) o3
  refine ⟨a.trans g, bheap_gr g b, bheap_gr g c, ?_⟩
  have := bheap_new ((w.alloc o1).alloc o2) o3
  have sz : ∀ (W : World) (o : Obj), (W.alloc o).heap.size = W.heap.size + 1 := fun W o => by unfold World.alloc; simp
  rwa [sz, sz] at this

/-- transitions do not lie in the block of an era with its transitions -/
theorem turs_apart {W : World} {q : Nat} {T : TypeId} {a0 a2 a4 : Int} {a1 a3 : ByteArray} {a5 : Option Addr} {a6 a7 : Nat} {A : Option Addr} {L : List TurD} (h : W.heap[q]? = some (.cells #[.int .i64 a0, .string a1, .int .i64 a2, .string a3, .int .i64 a4, .slice a5 a6 a7] T (0, 0))) (hr : Row W 3 TurD.cells A L) {i : Nat} {x : TurD} (hx : L[i]? = some x) {b off : Nat} (hA : A = some ⟨b, off, none⟩) : b ≠ q := fun e => by
  subst e
  obtain ⟨b', off', hA', _, hc⟩ := hr i x hx
  rw [hA] at hA'
  injection hA' with hA'
  injection hA' with e1 e2
  subst e1; subst e2
  have c0 := hc 0 _ rfl
  have c1 := hc 1 _ rfl
  simp only [World.cell?, h] at c0 c1
  rw [Nat.add_zero] at c0
  generalize off + i * 3 = k at c0 c1
  match k, c0, c1 with
  | 0, c0, c1 => simp at c1
  | 1, c0, c1 => simp at c0
  | 2, c0, c1 => simp at c1
  | 3, c0, c1 => simp at c0
  | 4, c0, c1 => simp at c1
  | 5, c0, c1 => simp at c0
  | k + 6, c0, c1 => simp at c0
theorem turs_out {W : World} {q : Nat} {T : TypeId} {a0 a2 a4 : Int} {a1 a3 : ByteArray} {a5 : Option Addr} {a6 a7 : Nat} {A : Option Addr} {L : List TurD} (h : W.heap[q]? = some (.cells #[.int .i64 a0, .string a1, .int .i64 a2, .string a3, .int .i64 a4, .slice a5 a6 a7] T (0, 0))) (hr : Row W 3 TurD.cells A L) (v0 v1 v2 v3 v4 v5 : Value) :
    Row ((((((W.setCell ⟨q, 0, none⟩ v0).setCell ⟨q, 1, none⟩ v1).setCell ⟨q, 2, none⟩ v2).setCell ⟨q, 3, none⟩ v3).setCell ⟨q, 4, none⟩ v4).setCell ⟨q, 5, none⟩ v5) 3 TurD.cells A L := fun i x hx => by
  obtain ⟨b, off, hA, hb, hc⟩ := hr i x hx
  have hne := turs_apart h hr hx hA
  refine ⟨b, off, hA, ?_, fun j v hv => ?_⟩
  · simpa [World.setCell] using hb
  · rw [World.cell?_setCell_other _ _ _ _ (by simp [hne]), World.cell?_setCell_other _ _ _ _ (by simp [hne]), World.cell?_setCell_other _ _ _ _ (by simp [hne]), World.cell?_setCell_other _ _ _ _ (by simp [hne]), World.cell?_setCell_other _ _ _ _ (by simp [hne]), World.cell?_setCell_other _ _ _ _ (by simp [hne])]
    exact hc j v hv

/-- what withTurns leaves -/
def WtE (rs : List RuD) (zs : List ZonD) (ls : List LinD) (x : EraD) (w : World) (e : Ending) (w' : World) : Prop :=
  ∃ A c, e = .returned (.tuple #[.agg #[.int .i64 x.off, .string x.ru, .int .i64 x.sv, .string x.fm, .int .i64 x.un, .slice A (eraT rs zs ls x).length c], .int .i64 (eraK rs zs ls x)]) ∧ TursAt w' A c (eraT rs zs ls x) ∧ Gr w w'

set_option maxRecDepth 100000 in
set_option maxHeartbeats 8000000 in
theorem withTurns_any (b : BokD) (x : EraD) (w : World) (hb : b.At w) (ht : BkTab w) :
    Calls Tryz.prog 42 #[bookV b, .agg #[.int .i64 x.off, .string x.ru, .int .i64 x.sv, .string x.fm, .int .i64 x.un]] w (WtE b.rs b.zs b.ls x w) := by
  obtain ⟨eo, ru, sv, fm, un⟩ := x
  have KO := Lib.hid (fun W (g : Gr w W) => tOf b ru eo W (hb.gr g) (g.bk ht))
  obtain ⟨Ar, cr, rs, Az, cz, zs, Al, cl, ls⟩ := b
  simp only at KO
  show Calls _ _ _ _ (WtE rs zs ls ⟨eo, ru, sv, fm, un⟩ w)
  have B0 := Lib.hid (box_three w (.cells #[.slice Ar rs.length cr, .slice Az zs.length cz, .slice Al ls.length cl] 26) (.cells #[.int .i64 eo, .string ru, .int .i64 sv, .string fm, .int .i64 un] 59) (.cells #[.int .i64 0, .string ⟨#[]⟩, .int .i64 0, .string ⟨#[]⟩, .int .i64 0, .slice none 0 0] 92))
  clear hb ht
  by_cases hru : ru.toList = []
  · have ET : Hid (eraT rs zs ls ⟨eo, ru, sv, fm, un⟩ = []) := by unfold Hid eraT; rw [if_pos hru]
    have EK : Hid (eraK rs zs ls ⟨eo, ru, sv, fm, un⟩ = 0) := by unfold Hid eraK; rw [if_pos hru]
    obtain rfl := str_nil hru
    clear hru KO B0
    have B0 := Lib.hid (box_three w (.cells #[.slice Ar rs.length cr, .slice Az zs.length cz, .slice Al ls.length cl] 26) (.cells #[.int .i64 eo, .string ⟨#[]⟩, .int .i64 sv, .string fm, .int .i64 un] 59) (.cells #[.int .i64 eo, .string ⟨#[]⟩, .int .i64 sv, .string fm, .int .i64 un, .slice none 0 0] 92))
    go_enter Tryz.func42, Tryz.ntmps42
    go_wp2_with fail
    have s0 : (((w.alloc (.cells #[.slice Ar rs.length cr, .slice Az zs.length cz, .slice Al ls.length cl] 26)).alloc (.cells #[.int .i64 eo, .string ⟨#[]⟩, .int .i64 sv, .string fm, .int .i64 un] 59)).alloc (.cells #[.int .i64 eo, .string ⟨#[]⟩, .int .i64 sv, .string fm, .int .i64 un, .slice none 0 0] 92)).cell? ⟨w.heap.size + 1 + 1, 0, none⟩ = some (.int .i64 eo) := bcell_row B0.out.2.2.2 rfl
    have s1 : (((w.alloc (.cells #[.slice Ar rs.length cr, .slice Az zs.length cz, .slice Al ls.length cl] 26)).alloc (.cells #[.int .i64 eo, .string ⟨#[]⟩, .int .i64 sv, .string fm, .int .i64 un] 59)).alloc (.cells #[.int .i64 eo, .string ⟨#[]⟩, .int .i64 sv, .string fm, .int .i64 un, .slice none 0 0] 92)).cell? ⟨w.heap.size + 1 + 1, 1, none⟩ = some (.string ⟨#[]⟩) := bcell_row B0.out.2.2.2 rfl
    have s2 : (((w.alloc (.cells #[.slice Ar rs.length cr, .slice Az zs.length cz, .slice Al ls.length cl] 26)).alloc (.cells #[.int .i64 eo, .string ⟨#[]⟩, .int .i64 sv, .string fm, .int .i64 un] 59)).alloc (.cells #[.int .i64 eo, .string ⟨#[]⟩, .int .i64 sv, .string fm, .int .i64 un, .slice none 0 0] 92)).cell? ⟨w.heap.size + 1 + 1, 2, none⟩ = some (.int .i64 sv) := bcell_row B0.out.2.2.2 rfl
    have s3 : (((w.alloc (.cells #[.slice Ar rs.length cr, .slice Az zs.length cz, .slice Al ls.length cl] 26)).alloc (.cells #[.int .i64 eo, .string ⟨#[]⟩, .int .i64 sv, .string fm, .int .i64 un] 59)).alloc (.cells #[.int .i64 eo, .string ⟨#[]⟩, .int .i64 sv, .string fm, .int .i64 un, .slice none 0 0] 92)).cell? ⟨w.heap.size + 1 + 1, 3, none⟩ = some (.string fm) := bcell_row B0.out.2.2.2 rfl
    have s4 : (((w.alloc (.cells #[.slice Ar rs.length cr, .slice Az zs.length cz, .slice Al ls.length cl] 26)).alloc (.cells #[.int .i64 eo, .string ⟨#[]⟩, .int .i64 sv, .string fm, .int .i64 un] 59)).alloc (.cells #[.int .i64 eo, .string ⟨#[]⟩, .int .i64 sv, .string fm, .int .i64 un, .slice none 0 0] 92)).cell? ⟨w.heap.size + 1 + 1, 4, none⟩ = some (.int .i64 un) := bcell_row B0.out.2.2.2 rfl
    have s5 : (((w.alloc (.cells #[.slice Ar rs.length cr, .slice Az zs.length cz, .slice Al ls.length cl] 26)).alloc (.cells #[.int .i64 eo, .string ⟨#[]⟩, .int .i64 sv, .string fm, .int .i64 un] 59)).alloc (.cells #[.int .i64 eo, .string ⟨#[]⟩, .int .i64 sv, .string fm, .int .i64 un, .slice none 0 0] 92)).cell? ⟨w.heap.size + 1 + 1, 5, none⟩ = some (.slice none 0 0) := bcell_row B0.out.2.2.2 rfl
    exact bodyPost_ret (v := .tuple #[.agg #[.int .i64 eo, .string ⟨#[]⟩, .int .i64 sv, .string fm, .int .i64 un, .slice none 0 0], .int .i64 0]) (by simp [results, Tryz.results42, go_sem, s0, s1, s2, s3, s4, s5]) rfl ⟨none, 0, by rw [ET.out, EK.out]; rfl, by rw [ET.out]; exact ⟨⟨Nat.le_refl _, by unfold maxLen; exact Nat.zero_le _⟩, Row.nil _ _ _ _⟩, B0.out.1⟩
  · have ET : Hid (eraT rs zs ls ⟨eo, ru, sv, fm, un⟩ = ofL rs zs ls ru eo) := by unfold Hid eraT; rw [if_neg hru]
    have EK : Hid (eraK rs zs ls ⟨eo, ru, sv, fm, un⟩ = ofC rs zs ls ru eo) := by unfold Hid eraK; rw [if_neg hru]
    obtain ⟨n1, n2, n3⟩ := str_nonnil hru
    clear hru
    go_enter Tryz.func42, Tryz.ntmps42
    go_wp2_with fail
    generalize ((w.alloc (.cells #[.slice Ar rs.length cr, .slice Az zs.length cz, .slice Al ls.length cl] 26)).alloc (.cells #[.int .i64 eo, .string ru, .int .i64 sv, .string fm, .int .i64 un] 59)).alloc (.cells #[.int .i64 0, .string ⟨#[]⟩, .int .i64 0, .string ⟨#[]⟩, .int .i64 0, .slice none 0 0] 92) = w1 at B0 ⊢
    obtain ⟨q, hq⟩ : ∃ q, w.heap.size = q := ⟨_, rfl⟩
    have NQ : Hid (w.heap.size ≤ q + 1 + 1) := by unfold Hid; omega
    rw [hq] at B0 ⊢
    clear hq
    have x0 : w1.cell? ⟨q + 1, 0, none⟩ = some (.int .i64 eo) := bcell_row B0.out.2.2.1 rfl
    have x1 : w1.cell? ⟨q + 1, 1, none⟩ = some (.string ru) := bcell_row B0.out.2.2.1 rfl
    have x2 : w1.cell? ⟨q + 1, 2, none⟩ = some (.int .i64 sv) := bcell_row B0.out.2.2.1 rfl
    have x3 : w1.cell? ⟨q + 1, 3, none⟩ = some (.string fm) := bcell_row B0.out.2.2.1 rfl
    have x4 : w1.cell? ⟨q + 1, 4, none⟩ = some (.int .i64 un) := bcell_row B0.out.2.2.1 rfl
    have z0 : w1.cell? ⟨q, 0, none⟩ = some (.slice Ar rs.length cr) := bcell_row B0.out.2.1 rfl
    have z1 : w1.cell? ⟨q, 1, none⟩ = some (.slice Az zs.length cz) := bcell_row B0.out.2.1 rfl
    have z2 : w1.cell? ⟨q, 2, none⟩ = some (.slice Al ls.length cl) := bcell_row B0.out.2.1 rfl
    go_wp2_with fail
    clear x0 x1 x2 x3 x4 z0 z1 z2
    refine (KO.out w1 B0.out.1).mono ?_
    rintro e w2 ⟨A, c, rfl, ta, g2⟩
    have G2 := Lib.hid (B0.out.1.trans g2)
    have HE := Lib.hid (bheap_gr g2 B0.out.2.2.1)
    have HQ := Lib.hid (bheap_gr g2 B0.out.2.2.2)
    have TA := Lib.hid ta
    clear ta g2 B0 KO
    have x0 : w2.cell? ⟨q + 1, 0, none⟩ = some (.int .i64 eo) := bcell_row HE.out rfl
    have x1 : w2.cell? ⟨q + 1, 1, none⟩ = some (.string ru) := bcell_row HE.out rfl
    have x2 : w2.cell? ⟨q + 1, 2, none⟩ = some (.int .i64 sv) := bcell_row HE.out rfl
    have x3 : w2.cell? ⟨q + 1, 3, none⟩ = some (.string fm) := bcell_row HE.out rfl
    have x4 : w2.cell? ⟨q + 1, 4, none⟩ = some (.int .i64 un) := bcell_row HE.out rfl
    have y0 : w2.cell? ⟨q + 1 + 1, 0, none⟩ = some (.int .i64 0) := bcell_row HQ.out rfl
    have y1 : w2.cell? ⟨q + 1 + 1, 1, none⟩ = some (.string ⟨#[]⟩) := bcell_row HQ.out rfl
    have y2 : w2.cell? ⟨q + 1 + 1, 2, none⟩ = some (.int .i64 0) := bcell_row HQ.out rfl
    have y3 : w2.cell? ⟨q + 1 + 1, 3, none⟩ = some (.string ⟨#[]⟩) := bcell_row HQ.out rfl
    have y4 : w2.cell? ⟨q + 1 + 1, 4, none⟩ = some (.int .i64 0) := bcell_row HQ.out rfl
    have y5 : w2.cell? ⟨q + 1 + 1, 5, none⟩ = some (.slice none 0 0) := bcell_row HQ.out rfl
    have f0 : w2.frozen? ⟨q + 1 + 1, 0, none⟩ = false := unfrozen HQ.out
    have f1 : w2.frozen? ⟨q + 1 + 1, 1, none⟩ = false := unfrozen HQ.out
    have f2 : w2.frozen? ⟨q + 1 + 1, 2, none⟩ = false := unfrozen HQ.out
    have f3 : w2.frozen? ⟨q + 1 + 1, 3, none⟩ = false := unfrozen HQ.out
    have f4 : w2.frozen? ⟨q + 1 + 1, 4, none⟩ = false := unfrozen HQ.out
    have f5 : w2.frozen? ⟨q + 1 + 1, 5, none⟩ = false := unfrozen HQ.out
    have s0 : ((((((w2.setCell ⟨q + 1 + 1, 0, none⟩ (.int .i64 eo)).setCell ⟨q + 1 + 1, 1, none⟩ (.string ru)).setCell ⟨q + 1 + 1, 2, none⟩ (.int .i64 sv)).setCell ⟨q + 1 + 1, 3, none⟩ (.string fm)).setCell ⟨q + 1 + 1, 4, none⟩ (.int .i64 un)).setCell ⟨q + 1 + 1, 5, none⟩ (.slice A (ofL rs zs ls ru eo).length c)).cell? ⟨q + 1 + 1, 0, none⟩ = some (.int .i64 eo) := bcell_row (st6 HQ.out (.int .i64 eo) (.string ru) (.int .i64 sv) (.string fm) (.int .i64 un) (.slice A (ofL rs zs ls ru eo).length c)) rfl
    have s1 : ((((((w2.setCell ⟨q + 1 + 1, 0, none⟩ (.int .i64 eo)).setCell ⟨q + 1 + 1, 1, none⟩ (.string ru)).setCell ⟨q + 1 + 1, 2, none⟩ (.int .i64 sv)).setCell ⟨q + 1 + 1, 3, none⟩ (.string fm)).setCell ⟨q + 1 + 1, 4, none⟩ (.int .i64 un)).setCell ⟨q + 1 + 1, 5, none⟩ (.slice A (ofL rs zs ls ru eo).length c)).cell? ⟨q + 1 + 1, 1, none⟩ = some (.string ru) := bcell_row (st6 HQ.out (.int .i64 eo) (.string ru) (.int .i64 sv) (.string fm) (.int .i64 un) (.slice A (ofL rs zs ls ru eo).length c)) rfl
    have s2 : ((((((w2.setCell ⟨q + 1 + 1, 0, none⟩ (.int .i64 eo)).setCell ⟨q + 1 + 1, 1, none⟩ (.string ru)).setCell ⟨q + 1 + 1, 2, none⟩ (.int .i64 sv)).setCell ⟨q + 1 + 1, 3, none⟩ (.string fm)).setCell ⟨q + 1 + 1, 4, none⟩ (.int .i64 un)).setCell ⟨q + 1 + 1, 5, none⟩ (.slice A (ofL rs zs ls ru eo).length c)).cell? ⟨q + 1 + 1, 2, none⟩ = some (.int .i64 sv) := bcell_row (st6 HQ.out (.int .i64 eo) (.string ru) (.int .i64 sv) (.string fm) (.int .i64 un) (.slice A (ofL rs zs ls ru eo).length c)) rfl
    have s3 : ((((((w2.setCell ⟨q + 1 + 1, 0, none⟩ (.int .i64 eo)).setCell ⟨q + 1 + 1, 1, none⟩ (.string ru)).setCell ⟨q + 1 + 1, 2, none⟩ (.int .i64 sv)).setCell ⟨q + 1 + 1, 3, none⟩ (.string fm)).setCell ⟨q + 1 + 1, 4, none⟩ (.int .i64 un)).setCell ⟨q + 1 + 1, 5, none⟩ (.slice A (ofL rs zs ls ru eo).length c)).cell? ⟨q + 1 + 1, 3, none⟩ = some (.string fm) := bcell_row (st6 HQ.out (.int .i64 eo) (.string ru) (.int .i64 sv) (.string fm) (.int .i64 un) (.slice A (ofL rs zs ls ru eo).length c)) rfl
    have s4 : ((((((w2.setCell ⟨q + 1 + 1, 0, none⟩ (.int .i64 eo)).setCell ⟨q + 1 + 1, 1, none⟩ (.string ru)).setCell ⟨q + 1 + 1, 2, none⟩ (.int .i64 sv)).setCell ⟨q + 1 + 1, 3, none⟩ (.string fm)).setCell ⟨q + 1 + 1, 4, none⟩ (.int .i64 un)).setCell ⟨q + 1 + 1, 5, none⟩ (.slice A (ofL rs zs ls ru eo).length c)).cell? ⟨q + 1 + 1, 4, none⟩ = some (.int .i64 un) := bcell_row (st6 HQ.out (.int .i64 eo) (.string ru) (.int .i64 sv) (.string fm) (.int .i64 un) (.slice A (ofL rs zs ls ru eo).length c)) rfl
    have s5 : ((((((w2.setCell ⟨q + 1 + 1, 0, none⟩ (.int .i64 eo)).setCell ⟨q + 1 + 1, 1, none⟩ (.string ru)).setCell ⟨q + 1 + 1, 2, none⟩ (.int .i64 sv)).setCell ⟨q + 1 + 1, 3, none⟩ (.string fm)).setCell ⟨q + 1 + 1, 4, none⟩ (.int .i64 un)).setCell ⟨q + 1 + 1, 5, none⟩ (.slice A (ofL rs zs ls ru eo).length c)).cell? ⟨q + 1 + 1, 5, none⟩ = some (.slice A (ofL rs zs ls ru eo).length c) := bcell_row (st6 HQ.out (.int .i64 eo) (.string ru) (.int .i64 sv) (.string fm) (.int .i64 un) (.slice A (ofL rs zs ls ru eo).length c)) rfl
    go_wp2_with fail
    exact bodyPost_ret (v := .tuple #[.agg #[.int .i64 eo, .string ru, .int .i64 sv, .string fm, .int .i64 un, .slice A (ofL rs zs ls ru eo).length c], .int .i64 (ofC rs zs ls ru eo)]) (by simp [results, Tryz.results42, go_sem, s0, s1, s2, s3, s4, s5]) rfl ⟨A, c, by rw [ET.out, EK.out], by rw [ET.out]; exact ⟨TA.out.1, turs_out HQ.out TA.out.2 (.int .i64 eo) (.string ru) (.int .i64 sv) (.string fm) (.int .i64 un) (.slice A (ofL rs zs ls ru eo).length c)⟩, (st6_below G2.out NQ.out (.int .i64 eo) (.string ru) (.int .i64 sv) (.string fm) (.int .i64 un) (.slice A (ofL rs zs ls ru eo).length c))⟩

set_option maxRecDepth 100000 in
set_option maxHeartbeats 8000000 in
theorem localType_any (eo sv un s : Int) (ru fm lt : ByteArray) (A : Option Addr) (n c : Nat) (w : World) (hm : HasMax w) (hlt : lt.size ≤ maxLen) (h1 : -64800 ≤ eo) (h2 : eo ≤ 64800) (h3 : 0 ≤ s) (h4 : s ≤ 10800) :
    Calls Tryz.prog 45 #[.agg #[.int .i64 eo, .string ru, .int .i64 sv, .string fm, .int .i64 un, .slice A n c], .int .i64 s, .string lt] w fun e w' => e = .returned (.agg #[.int .i64 (eo + s), .bool (decide (0 < s)), .string (S (abbrR fm.toList s lt.toList).1)]) ∧ Gr w w' := by
  have KA := Lib.hid (fun W (g : Gr w W) => pabbrFmt fm s lt W (g.max hm) hlt)
  have B0 := Lib.hid (box_two w (.cells #[.int .i64 eo, .string ru, .int .i64 sv, .string fm, .int .i64 un, .slice A n c] 92) (.cells #[.int .i64 0, .bool false, .string ⟨#[]⟩] 46))
  clear hm hlt
  go_enter Tryz.func45, Tryz.ntmps45
  go_wp2_with fail
  generalize (w.alloc (.cells #[.int .i64 eo, .string ru, .int .i64 sv, .string fm, .int .i64 un, .slice A n c] 92)).alloc (.cells #[.int .i64 0, .bool false, .string ⟨#[]⟩] 46) = w1 at B0 ⊢
  obtain ⟨q, hq⟩ : ∃ q, w.heap.size = q := ⟨_, rfl⟩
  have NQ : Hid (w.heap.size ≤ q + 1) := by unfold Hid; omega
  rw [hq] at B0 ⊢
  clear hq
  have x3 : w1.cell? ⟨q, 3, none⟩ = some (.string fm) := bcell_row B0.out.2.1 rfl
  go_wp2_with fail
  clear x3
  refine (KA.out w1 B0.out.1).mono ?_
  rintro e w2 ⟨rfl, g2⟩
  have G2 := Lib.hid (B0.out.1.trans g2)
  have HE := Lib.hid (bheap_gr g2 B0.out.2.1)
  have HQ := Lib.hid (bheap_gr g2 B0.out.2.2)
  clear g2 B0 KA
  have x0 : w2.cell? ⟨q, 0, none⟩ = some (.int .i64 eo) := bcell_row HE.out rfl
  have y0 : w2.cell? ⟨q + 1, 0, none⟩ = some (.int .i64 0) := bcell_row HQ.out rfl
  have y1 : w2.cell? ⟨q + 1, 1, none⟩ = some (.bool false) := bcell_row HQ.out rfl
  have y2 : w2.cell? ⟨q + 1, 2, none⟩ = some (.string ⟨#[]⟩) := bcell_row HQ.out rfl
  have f0 : w2.frozen? ⟨q + 1, 0, none⟩ = false := unfrozen HQ.out
  have f1 : w2.frozen? ⟨q + 1, 1, none⟩ = false := unfrozen HQ.out
  have f2 : w2.frozen? ⟨q + 1, 2, none⟩ = false := unfrozen HQ.out
  have s0 : (((w2.setCell ⟨q + 1, 0, none⟩ (.int .i64 (eo + s))).setCell ⟨q + 1, 1, none⟩ (.bool (decide (0 < s)))).setCell ⟨q + 1, 2, none⟩ (.string (S (abbrR fm.toList s lt.toList).1))).cell? ⟨q + 1, 0, none⟩ = some (.int .i64 (eo + s)) := bcell_row (st3 HQ.out (.int .i64 (eo + s)) (.bool (decide (0 < s))) (.string (S (abbrR fm.toList s lt.toList).1))) rfl
  have s1 : (((w2.setCell ⟨q + 1, 0, none⟩ (.int .i64 (eo + s))).setCell ⟨q + 1, 1, none⟩ (.bool (decide (0 < s)))).setCell ⟨q + 1, 2, none⟩ (.string (S (abbrR fm.toList s lt.toList).1))).cell? ⟨q + 1, 1, none⟩ = some (.bool (decide (0 < s))) := bcell_row (st3 HQ.out (.int .i64 (eo + s)) (.bool (decide (0 < s))) (.string (S (abbrR fm.toList s lt.toList).1))) rfl
  have s2 : (((w2.setCell ⟨q + 1, 0, none⟩ (.int .i64 (eo + s))).setCell ⟨q + 1, 1, none⟩ (.bool (decide (0 < s)))).setCell ⟨q + 1, 2, none⟩ (.string (S (abbrR fm.toList s lt.toList).1))).cell? ⟨q + 1, 2, none⟩ = some (.string (S (abbrR fm.toList s lt.toList).1)) := bcell_row (st3 HQ.out (.int .i64 (eo + s)) (.bool (decide (0 < s))) (.string (S (abbrR fm.toList s lt.toList).1))) rfl
  go_wp2_with fail
  exact bodyPost_ret (v := .agg #[.int .i64 (eo + s), .bool (decide (0 < s)), .string (S (abbrR fm.toList s lt.toList).1)]) (by simp [results, Tryz.results45, go_sem, s0, s1, s2]) rfl ⟨rfl, (st3_below G2.out NQ.out (.int .i64 (eo + s)) (.bool (decide (0 < s))) (.string (S (abbrR fm.toList s lt.toList).1)))⟩
end Go.Proofs.YtkmgildnhnjepaaGreatDoor
