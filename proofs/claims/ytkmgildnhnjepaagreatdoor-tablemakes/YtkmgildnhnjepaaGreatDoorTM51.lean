/- The reference's TableMake. -/
import Derived.BigQuiet
import Derived.Deep.QuietTactic
import Derived.Deep.Cut
import Derived.Deep.DeepCutAuto
import Derived.Test.YtkmgildnhnjepaaGreatDoorTM50
import Derived.Test.YtkmgildnhnjepaaGreatDoorTM19
namespace Go.Proofs.YtkmgildnhnjepaaGreatDoor
set_option linter.unusedVariables false
set_option linter.unusedSimpArgs false
open Go.RowKit
theorem row_ne {α : Type} {W : World} {k q : Nat} {enc : α → List Value} {A : Option Addr} {l : List α} (hr : Row W k enc A l) (hne : ∀ b off, A = some ⟨b, off, none⟩ → 0 < l.length → b ≠ q) (o : Nat) (v : Value) : Row (W.setCell ⟨q, o, none⟩ v) k enc A l := fun j x hx => by
  obtain ⟨b, off, rfl, hb, hc⟩ := hr j x hx
  have hq := hne b off rfl (by have := (List.getElem?_eq_some_iff.1 hx).1; omega)
  exact ⟨b, off, rfl, set_lt2 hb, fun m u hu => (World.cell?_of_block (w := W) (a := ⟨b, off + j * k + m, none⟩) (Below.heap_setCell _ _ _ _ hq)).trans (hc m u hu)⟩
theorem zt_cell {W : World} {q i : Nat} {v : Value} (hq : W.heap[q]? = some (.cells #[.slice none 0 0, .int .i64 0, .slice none 0 0] 32 (0, 0))) (h : W.cell? ⟨q, i, none⟩ = some v) : (i = 0 ∧ v = .slice none 0 0) ∨ (i = 1 ∧ v = .int .i64 0) ∨ (i = 2 ∧ v = .slice none 0 0) := by
  simp only [World.cell?, hq] at h
  match i, h with
  | 0, h => exact Or.inl ⟨rfl, by simpa using h.symm⟩
  | 1, h => exact Or.inr (Or.inl ⟨rfl, by simpa using h.symm⟩)
  | 2, h => exact Or.inr (Or.inr ⟨rfl, by simpa using h.symm⟩)
  | n + 3, h => simp at h
theorem tys_ne {W : World} {q : Nat} {A : Option Addr} {l : List TypD} (hr : Row W 3 TypD.cells A l) (hq : W.heap[q]? = some (.cells #[.slice none 0 0, .int .i64 0, .slice none 0 0] 32 (0, 0))) : ∀ b off, A = some ⟨b, off, none⟩ → 0 < l.length → b ≠ q := by
  intro b off e hl hbq
  subst hbq
  obtain ⟨x, hx⟩ := get_lt hl
  obtain ⟨b', off', e', hb, hc⟩ := hr 0 x hx
  rw [e] at e'
  injection e' with e'; injection e' with e1 e2; subst e1; subst e2
  rcases zt_cell hq (hc 1 (.bool x.sv) rfl) with ⟨_, h⟩ | ⟨_, h⟩ | ⟨_, h⟩ <;> cases h
theorem chs_ne {W : World} {q : Nat} {A : Option Addr} {l : List ChaD} (hr : Row W 2 ChaD.cells A l) (hq : W.heap[q]? = some (.cells #[.slice none 0 0, .int .i64 0, .slice none 0 0] 32 (0, 0))) : ∀ b off, A = some ⟨b, off, none⟩ → 0 < l.length → b ≠ q := by
  intro b off e hl hbq
  subst hbq
  obtain ⟨x, hx⟩ := get_lt hl
  obtain ⟨b', off', e', hb, hc⟩ := hr 0 x hx
  rw [e] at e'
  injection e' with e'; injection e' with e1 e2; subst e1; subst e2
  have h0 := zt_cell hq (hc 0 (.int .i64 x.at') rfl)
  have h1 := zt_cell hq (hc 1 (.int .i64 x.ty) rfl)
  rcases h0 with ⟨_, h⟩ | ⟨p, _⟩ | ⟨_, h⟩
  · cases h
  · rcases h1 with ⟨_, h⟩ | ⟨p2, _⟩ | ⟨_, h⟩
    · cases h
    · omega
    · cases h
  · cases h
theorem mkC_large {rs : List RuD} {zs : List ZonD} {ls : List LinD} {nm : ByteArray} {F T : Int} (r : resC rs zs ls nm = 0) (t1 : tmB F = true) (t2 : tmB T = true) (h : F < T) (e : eraF rs zs ls (erasN zs ls nm) = 0) (l : 250 < (mkT rs zs ls nm F T).ty.length ∨ 1000 < (mkT rs zs ls nm F T).ch.length) : mkC rs zs ls nm F T = 2 := by
  unfold mkC
  have q : ¬ (tmB F = false ∨ tmB T = false ∨ T ≤ F) := by simp [t1, t2]; omega
  rw [if_neg (by simp [r]), if_neg q, if_neg (by simp [e]), if_pos l]

set_option maxRecDepth 100000 in
set_option maxHeartbeats 40000000 in
theorem rTableMake (b : BokD) (nm : ByteArray) (F T : Int) (w : World) (hb : b.At w) (hm : HasMax w) :
    Calls Tryz.prog 10 #[bookV b, .string nm, .agg #[.int .i64 F, .int .i64 T]] w (MkE b.rs b.zs b.ls nm F T w) := by
  obtain ⟨i0, hi, hz0, hz1, hz2⟩ := info_parts infoI
  have I1 := Lib.hid hi
  have I2 := Lib.hid hz0
  have I3 := Lib.hid hz1
  have I4 := Lib.hid hz2
  clear hi hz0 hz1 hz2
  obtain ⟨j0, hi, hz0, hz1, hz2⟩ := info_parts infoTurs
  have J1 := Lib.hid hi
  have J2 := Lib.hid hz0
  have J3 := Lib.hid hz1
  have J4 := Lib.hid hz2
  clear hi hz0 hz1 hz2
  have KR := Lib.hid (fun W (g : Gr w W) => rresolve b nm W (hb.gr g) (g.max hm))
  have KT := Lib.hid (fun ru eo W (g : Gr w W) h0 h1 h2 => rturns b ru eo W (hb.gr g) h0 h1 h2)
  have RI : Hid (∀ r ∈ b.rs, r.In) := hb.1.2.2
  have MX := Lib.hid hm
  obtain ⟨Ar, cr, rs, Az, cz, zs, Al, cl, ls⟩ := b
  simp only at KR KT RI
  show Calls _ _ _ _ (MkE rs zs ls nm F T w)
  have B0 := Lib.hid (box_three w (.cells #[.slice Ar rs.length cr, .slice Az zs.length cz, .slice Al ls.length cl] 26) (.cells #[.int .i64 F, .int .i64 T] 28) (.cells #[.slice none 0 0, .int .i64 0, .slice none 0 0] 32))
  clear hb hm
  go_enter Tryz.func10, Tryz.ntmps10
  go_wp2_with fail
  generalize ((w.alloc (.cells #[.slice Ar rs.length cr, .slice Az zs.length cz, .slice Al ls.length cl] 26)).alloc (.cells #[.int .i64 F, .int .i64 T] 28)).alloc (.cells #[.slice none 0 0, .int .i64 0, .slice none 0 0] 32) = w1 at B0 ⊢
  obtain ⟨q, hq⟩ : ∃ q, w.heap.size = q := ⟨_, rfl⟩
  have QS : Hid (w.heap.size = q) := hq
  have NQ : Hid (w.heap.size ≤ q + 1 + 1) := by unfold Hid; omega
  rw [hq] at B0 ⊢
  clear hq
  have x0 : w1.cell? ⟨q, 0, none⟩ = some (.slice Ar rs.length cr) := bcell_row B0.out.2.1 rfl
  have x1 : w1.cell? ⟨q, 1, none⟩ = some (.slice Az zs.length cz) := bcell_row B0.out.2.1 rfl
  have x2 : w1.cell? ⟨q, 2, none⟩ = some (.slice Al ls.length cl) := bcell_row B0.out.2.1 rfl
  go_wp2_with fail
  clear x0 x1 x2
  refine (KR.out w1 B0.out.1).mono ?_
  rintro e w2 ⟨⟨znm, zA, zc, es⟩, rfl, zat, g2, hok, hno⟩
  have NZ := Lib.hid (box_one w2 (.cells #[.string znm, .slice zA es.length zc] 57))
  have G4 := Lib.hid ((B0.out.1.trans g2).trans NZ.out.1)
  have HB4 := Lib.hid (bheap_gr (g2.trans NZ.out.1) B0.out.2.1)
  have HS4 := Lib.hid (bheap_gr (g2.trans NZ.out.1) B0.out.2.2.1)
  have HR4 := Lib.hid (bheap_gr (g2.trans NZ.out.1) B0.out.2.2.2)
  have ZAT4 := Lib.hid (ZonD.At.gr zat NZ.out.1)
  have OK := Lib.hid hok
  clear g2 B0 zat hok hno KR
  by_cases h0 : resC rs zs ls nm = 0
  case neg =>
    have EX := Lib.hid (fun W (g : Gr w W) => mkE_no (mkC_res (F := F) (T := T) h0) h0 g)
    have t0 := bneT h0
    clear OK h0
    generalize resC rs zs ls nm = C at EX t0 ⊢
    have r0 : (w2.alloc (.cells #[.string znm, .slice zA es.length zc] 57)).cell? ⟨q + 1 + 1, 0, none⟩ = some (.slice none 0 0) := bcell_row HR4.out rfl
    have r1 : (w2.alloc (.cells #[.string znm, .slice zA es.length zc] 57)).cell? ⟨q + 1 + 1, 1, none⟩ = some (.int .i64 0) := bcell_row HR4.out rfl
    have r2 : (w2.alloc (.cells #[.string znm, .slice zA es.length zc] 57)).cell? ⟨q + 1 + 1, 2, none⟩ = some (.slice none 0 0) := bcell_row HR4.out rfl
    have rf0 : (w2.alloc (.cells #[.string znm, .slice zA es.length zc] 57)).frozen? ⟨q + 1 + 1, 0, none⟩ = false := unfrozen HR4.out
    have rf1 : (w2.alloc (.cells #[.string znm, .slice zA es.length zc] 57)).frozen? ⟨q + 1 + 1, 1, none⟩ = false := unfrozen HR4.out
    have rf2 : (w2.alloc (.cells #[.string znm, .slice zA es.length zc] 57)).frozen? ⟨q + 1 + 1, 2, none⟩ = false := unfrozen HR4.out
    have s0 : ((((w2.alloc (.cells #[.string znm, .slice zA es.length zc] 57)).setCell ⟨q + 1 + 1, 0, none⟩ (.slice none 0 0)).setCell ⟨q + 1 + 1, 1, none⟩ (.int .i64 0)).setCell ⟨q + 1 + 1, 2, none⟩ (.slice none 0 0)).cell? ⟨q + 1 + 1, 0, none⟩ = some (.slice none 0 0) := bcell_row (st3 HR4.out (.slice none 0 0) (.int .i64 0) (.slice none 0 0)) rfl
    have s1 : ((((w2.alloc (.cells #[.string znm, .slice zA es.length zc] 57)).setCell ⟨q + 1 + 1, 0, none⟩ (.slice none 0 0)).setCell ⟨q + 1 + 1, 1, none⟩ (.int .i64 0)).setCell ⟨q + 1 + 1, 2, none⟩ (.slice none 0 0)).cell? ⟨q + 1 + 1, 1, none⟩ = some (.int .i64 0) := bcell_row (st3 HR4.out (.slice none 0 0) (.int .i64 0) (.slice none 0 0)) rfl
    have s2 : ((((w2.alloc (.cells #[.string znm, .slice zA es.length zc] 57)).setCell ⟨q + 1 + 1, 0, none⟩ (.slice none 0 0)).setCell ⟨q + 1 + 1, 1, none⟩ (.int .i64 0)).setCell ⟨q + 1 + 1, 2, none⟩ (.slice none 0 0)).cell? ⟨q + 1 + 1, 2, none⟩ = some (.slice none 0 0) := bcell_row (st3 HR4.out (.slice none 0 0) (.int .i64 0) (.slice none 0 0)) rfl
    go_wp2_with fail
    exact bodyPost_ret (v := .tuple #[.agg #[.slice none 0 0, .int .i64 0, .slice none 0 0], .int .i64 C]) (by simp [results, Tryz.results10, go_sem, s0, s1, s2]) rfl (EX.out _ (st3_below G4.out NQ.out (.slice none 0 0) (.int .i64 0) (.slice none 0 0)))
  case pos =>
  obtain ⟨y, hy, e1, e2⟩ := OK.out h0
  have EE : erasN zs ls nm = es := (erasN_at hy).trans e2.symm
  obtain ⟨l1, l2, hg⟩ := good_erasN h0
  rw [EE] at l1 l2 hg
  have HG := Lib.hid hg
  have BC : Hid (bokC rs zs ls = 0) := (resC_zero.1 h0).1
  have H0 := Lib.hid h0
  have EH := Lib.hid EE
  have L12 := Lib.hid (And.intro l1 l2)
  have EX1 : Hid (tmB F = false ∨ tmB T = false ∨ T ≤ F → ∀ W, Gr w W → MkE rs zs ls nm F T w (.returned (.tuple #[.agg #[.slice none 0 0, .int .i64 0, .slice none 0 0], .int .i64 1])) W) := fun c W g => mkE_no (by unfold mkC; rw [if_neg (by simp [h0]), if_pos c]) (by decide) g
  rw [h0]
  clear hy e1 e2 hg h0 OK EE l1 l2
  have x0 : (w2.alloc (.cells #[.string znm, .slice zA es.length zc] 57)).cell? ⟨q + 1, 0, none⟩ = some (.int .i64 F) := bcell_row HS4.out rfl
  have x1 : (w2.alloc (.cells #[.string znm, .slice zA es.length zc] 57)).cell? ⟨q + 1, 1, none⟩ = some (.int .i64 T) := bcell_row HS4.out rfl
  go_wp2_with fail
  clear x0 x1
  generalize w2.alloc (.cells #[.string znm, .slice zA es.length zc] 57) = w4 at NZ G4 HB4 HS4 HR4 ZAT4 ⊢
  generalize w2.heap.size = qz at NZ ⊢
  have HZ4 := Lib.hid NZ.out.2
  clear NZ
  refine (risTime_any F w4).mono ?_
  rintro e w4 ⟨rfl, rfl⟩
  cases hF : tmB F with
  | false =>
    have EX := Lib.hid (EX1.out (Or.inl hF))
    clear hF EX1
    have r0 : w4.cell? ⟨q + 1 + 1, 0, none⟩ = some (.slice none 0 0) := bcell_row HR4.out rfl
    have r1 : w4.cell? ⟨q + 1 + 1, 1, none⟩ = some (.int .i64 0) := bcell_row HR4.out rfl
    have r2 : w4.cell? ⟨q + 1 + 1, 2, none⟩ = some (.slice none 0 0) := bcell_row HR4.out rfl
    have rf0 : w4.frozen? ⟨q + 1 + 1, 0, none⟩ = false := unfrozen HR4.out
    have rf1 : w4.frozen? ⟨q + 1 + 1, 1, none⟩ = false := unfrozen HR4.out
    have rf2 : w4.frozen? ⟨q + 1 + 1, 2, none⟩ = false := unfrozen HR4.out
    have s0 : (((w4.setCell ⟨q + 1 + 1, 0, none⟩ (.slice none 0 0)).setCell ⟨q + 1 + 1, 1, none⟩ (.int .i64 0)).setCell ⟨q + 1 + 1, 2, none⟩ (.slice none 0 0)).cell? ⟨q + 1 + 1, 0, none⟩ = some (.slice none 0 0) := bcell_row (st3 HR4.out (.slice none 0 0) (.int .i64 0) (.slice none 0 0)) rfl
    have s1 : (((w4.setCell ⟨q + 1 + 1, 0, none⟩ (.slice none 0 0)).setCell ⟨q + 1 + 1, 1, none⟩ (.int .i64 0)).setCell ⟨q + 1 + 1, 2, none⟩ (.slice none 0 0)).cell? ⟨q + 1 + 1, 1, none⟩ = some (.int .i64 0) := bcell_row (st3 HR4.out (.slice none 0 0) (.int .i64 0) (.slice none 0 0)) rfl
    have s2 : (((w4.setCell ⟨q + 1 + 1, 0, none⟩ (.slice none 0 0)).setCell ⟨q + 1 + 1, 1, none⟩ (.int .i64 0)).setCell ⟨q + 1 + 1, 2, none⟩ (.slice none 0 0)).cell? ⟨q + 1 + 1, 2, none⟩ = some (.slice none 0 0) := bcell_row (st3 HR4.out (.slice none 0 0) (.int .i64 0) (.slice none 0 0)) rfl
    go_wp2_with fail
    exact bodyPost_ret (v := .tuple #[.agg #[.slice none 0 0, .int .i64 0, .slice none 0 0], .int .i64 1]) (by simp [results, Tryz.results10, go_sem, s0, s1, s2]) rfl (EX.out _ (st3_below G4.out NQ.out (.slice none 0 0) (.int .i64 0) (.slice none 0 0)))
  | true =>
  have x0 : w4.cell? ⟨q + 1, 0, none⟩ = some (.int .i64 F) := bcell_row HS4.out rfl
  have x1 : w4.cell? ⟨q + 1, 1, none⟩ = some (.int .i64 T) := bcell_row HS4.out rfl
  go_wp2_with fail
  clear x0 x1
  refine (risTime_any T w4).mono ?_
  rintro e w4 ⟨rfl, rfl⟩
  cases hT : tmB T with
  | false =>
    have EX := Lib.hid (EX1.out (Or.inr (Or.inl hT)))
    clear hF hT EX1
    have r0 : w4.cell? ⟨q + 1 + 1, 0, none⟩ = some (.slice none 0 0) := bcell_row HR4.out rfl
    have r1 : w4.cell? ⟨q + 1 + 1, 1, none⟩ = some (.int .i64 0) := bcell_row HR4.out rfl
    have r2 : w4.cell? ⟨q + 1 + 1, 2, none⟩ = some (.slice none 0 0) := bcell_row HR4.out rfl
    have rf0 : w4.frozen? ⟨q + 1 + 1, 0, none⟩ = false := unfrozen HR4.out
    have rf1 : w4.frozen? ⟨q + 1 + 1, 1, none⟩ = false := unfrozen HR4.out
    have rf2 : w4.frozen? ⟨q + 1 + 1, 2, none⟩ = false := unfrozen HR4.out
    have s0 : (((w4.setCell ⟨q + 1 + 1, 0, none⟩ (.slice none 0 0)).setCell ⟨q + 1 + 1, 1, none⟩ (.int .i64 0)).setCell ⟨q + 1 + 1, 2, none⟩ (.slice none 0 0)).cell? ⟨q + 1 + 1, 0, none⟩ = some (.slice none 0 0) := bcell_row (st3 HR4.out (.slice none 0 0) (.int .i64 0) (.slice none 0 0)) rfl
    have s1 : (((w4.setCell ⟨q + 1 + 1, 0, none⟩ (.slice none 0 0)).setCell ⟨q + 1 + 1, 1, none⟩ (.int .i64 0)).setCell ⟨q + 1 + 1, 2, none⟩ (.slice none 0 0)).cell? ⟨q + 1 + 1, 1, none⟩ = some (.int .i64 0) := bcell_row (st3 HR4.out (.slice none 0 0) (.int .i64 0) (.slice none 0 0)) rfl
    have s2 : (((w4.setCell ⟨q + 1 + 1, 0, none⟩ (.slice none 0 0)).setCell ⟨q + 1 + 1, 1, none⟩ (.int .i64 0)).setCell ⟨q + 1 + 1, 2, none⟩ (.slice none 0 0)).cell? ⟨q + 1 + 1, 2, none⟩ = some (.slice none 0 0) := bcell_row (st3 HR4.out (.slice none 0 0) (.int .i64 0) (.slice none 0 0)) rfl
    go_wp2_with fail
    exact bodyPost_ret (v := .tuple #[.agg #[.slice none 0 0, .int .i64 0, .slice none 0 0], .int .i64 1]) (by simp [results, Tryz.results10, go_sem, s0, s1, s2]) rfl (EX.out _ (st3_below G4.out NQ.out (.slice none 0 0) (.int .i64 0) (.slice none 0 0)))
  | true =>
  by_cases hl : T ≤ F
  · have EX := Lib.hid (EX1.out (Or.inr (Or.inr hl)))
    have tl := leT hl
    clear hF hT EX1
    have x0 : w4.cell? ⟨q + 1, 0, none⟩ = some (.int .i64 F) := bcell_row HS4.out rfl
    have x1 : w4.cell? ⟨q + 1, 1, none⟩ = some (.int .i64 T) := bcell_row HS4.out rfl
    have r0 : w4.cell? ⟨q + 1 + 1, 0, none⟩ = some (.slice none 0 0) := bcell_row HR4.out rfl
    have r1 : w4.cell? ⟨q + 1 + 1, 1, none⟩ = some (.int .i64 0) := bcell_row HR4.out rfl
    have r2 : w4.cell? ⟨q + 1 + 1, 2, none⟩ = some (.slice none 0 0) := bcell_row HR4.out rfl
    have rf0 : w4.frozen? ⟨q + 1 + 1, 0, none⟩ = false := unfrozen HR4.out
    have rf1 : w4.frozen? ⟨q + 1 + 1, 1, none⟩ = false := unfrozen HR4.out
    have rf2 : w4.frozen? ⟨q + 1 + 1, 2, none⟩ = false := unfrozen HR4.out
    have s0 : (((w4.setCell ⟨q + 1 + 1, 0, none⟩ (.slice none 0 0)).setCell ⟨q + 1 + 1, 1, none⟩ (.int .i64 0)).setCell ⟨q + 1 + 1, 2, none⟩ (.slice none 0 0)).cell? ⟨q + 1 + 1, 0, none⟩ = some (.slice none 0 0) := bcell_row (st3 HR4.out (.slice none 0 0) (.int .i64 0) (.slice none 0 0)) rfl
    have s1 : (((w4.setCell ⟨q + 1 + 1, 0, none⟩ (.slice none 0 0)).setCell ⟨q + 1 + 1, 1, none⟩ (.int .i64 0)).setCell ⟨q + 1 + 1, 2, none⟩ (.slice none 0 0)).cell? ⟨q + 1 + 1, 1, none⟩ = some (.int .i64 0) := bcell_row (st3 HR4.out (.slice none 0 0) (.int .i64 0) (.slice none 0 0)) rfl
    have s2 : (((w4.setCell ⟨q + 1 + 1, 0, none⟩ (.slice none 0 0)).setCell ⟨q + 1 + 1, 1, none⟩ (.int .i64 0)).setCell ⟨q + 1 + 1, 2, none⟩ (.slice none 0 0)).cell? ⟨q + 1 + 1, 2, none⟩ = some (.slice none 0 0) := bcell_row (st3 HR4.out (.slice none 0 0) (.int .i64 0) (.slice none 0 0)) rfl
    go_wp2_with fail
    exact bodyPost_ret (v := .tuple #[.agg #[.slice none 0 0, .int .i64 0, .slice none 0 0], .int .i64 1]) (by simp [results, Tryz.results10, go_sem, s0, s1, s2]) rfl (EX.out _ (st3_below G4.out NQ.out (.slice none 0 0) (.int .i64 0) (.slice none 0 0)))
  have tl := leF hl
  have TM : Hid (tmB F = true ∧ tmB T = true ∧ F < T) := ⟨hF, hT, by omega⟩
  clear hF hT EX1
  have B5 := Lib.hid (box_two w4 (.cells (madeCells #[.slice none 0 0] es.length) 71) (.cells #[.slice (some ⟨w4.heap.size, 0, none⟩) es.length es.length] 70))
  have HZ5 := Lib.hid (bheap_gr B5.out.1 HZ4.out)
  have e7 := L12.out.2
  have x0 : w4.cell? ⟨q + 1, 0, none⟩ = some (.int .i64 F) := bcell_row HS4.out rfl
  have x1 : w4.cell? ⟨q + 1, 1, none⟩ = some (.int .i64 T) := bcell_row HS4.out rfl
  have y0 : w4.cell? ⟨qz, 0, none⟩ = some (.string znm) := bcell_row HZ4.out rfl
  have y1 : w4.cell? ⟨qz, 1, none⟩ = some (.slice zA es.length zc) := bcell_row HZ4.out rfl
  have z0 : ((w4.alloc (.cells (madeCells #[.slice none 0 0] es.length) 71)).alloc (.cells #[.slice (some ⟨w4.heap.size, 0, none⟩) es.length es.length] 70)).cell? ⟨qz, 0, none⟩ = some (.string znm) := bcell_row HZ5.out rfl
  have z1 : ((w4.alloc (.cells (madeCells #[.slice none 0 0] es.length) 71)).alloc (.cells #[.slice (some ⟨w4.heap.size, 0, none⟩) es.length es.length] 70)).cell? ⟨qz, 1, none⟩ = some (.slice zA es.length zc) := bcell_row HZ5.out rfl
  go_wp2_with (at_make; refine wpList_make_row _ rfl _ _ 70 rfl 71 j0 (.slice none 0 0) Tryz.underlying70 J1.out J2.out J3.out rfl .i64 .i64 es.length rfl rfl (by rw [J4.out]; omega) (by omega) ?_)
  clear x0 x1 y0 y1 z0 z1 tl hl
  obtain ⟨qt, hqt⟩ : ∃ qt, w4.heap.size = qt := ⟨_, rfl⟩
  have QTS : Hid (w4.heap.size ≤ qt) := Nat.le_of_eq hqt
  have RNQ : Hid (q + 1 + 1 ≠ qt) := by have := (Array.getElem?_eq_some_iff.1 HR4.out).1; unfold Hid; omega
  rw [hqt] at B5 ⊢
  have TRM0 : Hid (TrsM rs zs ls 71 es qt ((w4.alloc (.cells (madeCells #[.slice none 0 0] es.length) 71)).alloc (.cells #[.slice (some ⟨qt, 0, none⟩) es.length es.length] 70)) 0) := TrsM.new B5.out.2.1
  clear hqt
  generalize (w4.alloc (.cells (madeCells #[.slice none 0 0] es.length) 71)).alloc (.cells #[.slice (some ⟨qt, 0, none⟩) es.length es.length] 70) = w5 at B5 HZ5 TRM0 ⊢
  obtain ⟨g, hg⟩ : ∃ g : Nat → Int, (fun k => match es[k]? with
    | some e => eraK rs zs ls e
    | none => 0) = g := ⟨_, rfl⟩
  have EF : Hid (eraF rs zs ls es = fe g es.length) := by rw [← hg]; rfl
  have GE : Hid (∀ k e, es[k]? = some e → g k = eraK rs zs ls e) := fun k e he => by rw [← hg]; simp only [he]
  clear hg HZ5
  go_loopw [57] (fun i W => ∃ k : Nat, k ≤ es.length ∧ i = .int .i64 k ∧ Hid (TrsM rs zs ls 71 es qt W k) ∧ Hid (W.heap[qt + 1]? = some (.cells #[.slice (some ⟨qt, 0, none⟩) es.length es.length] 70 (0, 0))) ∧ Hid (Gr w4 W) ∧ Hid (fe g k = 0)) (fun i W => es.length - (intOf i).toNat)
  case atStart => exact ⟨0, Nat.zero_le _, rfl, TRM0.out, B5.out.2.2, B5.out.1, rfl⟩
  case round =>
    obtain ⟨k, hk, rfl, htr, hq2, hgr, hfe⟩ := hrel
    clear TRM0 B5
    by_cases hlt : k < es.length
    · obtain ⟨⟨eo, ru, sv, fm, un⟩, he⟩ := get_lt hlt
      obtain ⟨bz, oz, hAA, c0, c1, c2, c3, c4⟩ := (Row.gr ZAT4.out.2.2.1 hgr.out).five he rfl (Gr.refl wr)
      have HE := Lib.hid he
      have EA := Lib.hid (HG.out k _ he).1
      have GK := Lib.hid (GE.out k _ he)
      have NE := Lib.hid (box_one wr (.cells #[.int .i64 eo, .string ru, .int .i64 sv, .string fm, .int .i64 un] 59))
      have GN := Lib.hid (hgr.out.trans NE.out.1)
      have TRN := Lib.hid (htr.out.gr NE.out.1)
      have HQN := Lib.hid (bheap_gr NE.out.1 hq2.out)
      have HBN := Lib.hid (bheap_gr GN.out HB4.out)
      have HRN := Lib.hid (bheap_gr GN.out HR4.out)
      clear he htr hq2 hgr
      subst hAA
      by_cases hru : ru.toList = []
      · obtain rfl := str_nil hru
        have KZ : Hid (eraK rs zs ls ⟨eo, ⟨#[]⟩, sv, fm, un⟩ = 0) := if_pos hru
        have TZ : Hid (eraT rs zs ls ⟨eo, ⟨#[]⟩, sv, fm, un⟩ = []) := if_pos hru
        have FE := Lib.hid (fe_step hfe.out (GK.out.trans KZ.out))
        have TR3 := Lib.hid (TRN.out.skip HE.out TZ.out)
        clear hru
        go_wp2_with fail
        go_roundw
        case rel => exact ⟨k + 1, by omega, by go_num, TR3.out, HQN.out, GN.out, FE.out⟩
        case measure => simp [intOf]; omega
      · obtain ⟨n1, n2, n3⟩ := str_nonnil hru
        have KE : Hid (eraK rs zs ls ⟨eo, ru, sv, fm, un⟩ = ofC rs zs ls ru eo) := if_neg hru
        have TL : Hid (eraT rs zs ls ⟨eo, ru, sv, fm, un⟩ = ofL rs zs ls ru eo) := if_neg hru
        have NU := (eraA_num EA.out).1
        have KT2 := Lib.hid (fun W (g' : Gr w4 W) => KT.out ru eo W (G4.out.trans g') BC.out NU.1 NU.2)
        clear hru NU
        go_wp2_with fail
        clear c0 c1 c2 c3 c4 n1 n2 n3
        generalize wr.alloc (.cells #[.int .i64 eo, .string ru, .int .i64 sv, .string fm, .int .i64 un] 59) = v1 at NE GN TRN HQN HBN HRN ⊢
        generalize wr.heap.size = qe at NE ⊢
        have i1 : (0 : Int) ≤ (k : Int) := by omega
        have i2 : (k : Int) < (es.length : Int) := by omega
        refine wp_region_noPanic ?_
        refine till_start 12 (fun wx => wx.heap[q]? = some (.cells #[.slice Ar rs.length cr, .slice Az zs.length cz, .slice Al ls.length cl] 26 (0, 0)) ∧ wx.heap[qt + 1]? = some (.cells #[.slice (some ⟨qt, 0, none⟩) es.length es.length] 70 (0, 0)) ∧ wx.heap[qe]? = some (.cells #[.int .i64 eo, .string ru, .int .i64 sv, .string fm, .int .i64 un] 59 (0, 0))) (by kernel_rfl) ⟨HBN.out, HQN.out, NE.out.2⟩ (fun hHeld => ?_)
        (try dsimp only at hHeld)
        have GD := Lib.hid (Gr.drew v1)
        have TRD := Lib.hid (TRN.out.gr GD.out)
        have GND := Lib.hid (GN.out.trans GD.out)
        have HRD := Lib.hid (bheap_gr GD.out HRN.out)
        generalize v1.drew = vd at hHeld GD TRD GND HRD ⊢
        clear GD TRN GN HRN HBN HQN NE
        refine till_take (i := 0) (oi := { dst := some 66, op := _, type := _, pos := _, after := _, guard := _ }) (v := ?v1) rfl (by kernel_rfl) (by kernel_rfl) (by kernel_rfl) (by kernel_rfl) (fun _ _ _ h => h) (Or.inl ⟨by rfl, ?hy1⟩) (by assumption) ?rest1
        case hy1 => (intro w hSw; have d0 := bcell_row (i := 0) hSw.2.1 rfl; go_simp <;> (with_reducible rfl))
        (try simp only [Act.put, List.setIfInBounds_toArray, List.set_cons_zero, List.set_cons_succ])
        refine till_take (i := 1) (oi := { dst := some 67, op := _, type := _, pos := _, after := _, guard := _ }) (v := ?v2) rfl (by kernel_rfl) (by kernel_rfl) (by kernel_rfl) (by kernel_rfl) (fun _ _ _ h => h) (Or.inl ⟨by rfl, ?hy2⟩) (by assumption) ?rest2
        case hy2 => (intro w hSw; go_simp <;> (with_reducible rfl))
        (try simp only [Act.put, List.setIfInBounds_toArray, List.set_cons_zero, List.set_cons_succ])
        refine till_take (i := 2) (oi := { dst := some 68, op := _, type := _, pos := _, after := _, guard := _ }) (v := ?v3) rfl (by kernel_rfl) (by kernel_rfl) (by kernel_rfl) (by kernel_rfl) (fun _ _ _ h => h) (Or.inl ⟨by rfl, ?hy3⟩) (by assumption) ?rest3
        case hy3 => (intro w hSw; have d0 := bcell_row (i := 0) hSw.1 rfl; have d1 := bcell_row (i := 1) hSw.1 rfl; have d2 := bcell_row (i := 2) hSw.1 rfl; go_simp <;> (with_reducible rfl))
        (try simp only [Act.put, List.setIfInBounds_toArray, List.set_cons_zero, List.set_cons_succ])
        refine till_take (i := 3) (oi := { dst := some 69, op := _, type := _, pos := _, after := _, guard := _ }) (v := ?v4) rfl (by kernel_rfl) (by kernel_rfl) (by kernel_rfl) (by kernel_rfl) (fun _ _ _ h => h) (Or.inl ⟨by rfl, ?hy4⟩) (by assumption) ?rest4
        case hy4 => (intro w hSw; go_simp <;> (with_reducible rfl))
        (try simp only [Act.put, List.setIfInBounds_toArray, List.set_cons_zero, List.set_cons_succ])
        refine till_take (i := 4) (oi := { dst := some 70, op := _, type := _, pos := _, after := _, guard := _ }) (v := ?v5) rfl (by kernel_rfl) (by kernel_rfl) (by kernel_rfl) (by kernel_rfl) (fun _ _ _ h => h) (Or.inl ⟨by rfl, ?hy5⟩) (by assumption) ?rest5
        case hy5 => (intro w hSw; have d1 := bcell_row (i := 1) hSw.2.2 rfl; go_simp <;> (with_reducible rfl))
        (try simp only [Act.put, List.setIfInBounds_toArray, List.set_cons_zero, List.set_cons_succ])
        refine till_take (i := 5) (oi := { dst := some 71, op := _, type := _, pos := _, after := _, guard := _ }) (v := ?v6) rfl (by kernel_rfl) (by kernel_rfl) (by kernel_rfl) (by kernel_rfl) (fun _ _ _ h => h) (Or.inl ⟨by rfl, ?hy6⟩) (by assumption) ?rest6
        case hy6 => (intro w hSw; go_simp <;> (with_reducible rfl))
        (try simp only [Act.put, List.setIfInBounds_toArray, List.set_cons_zero, List.set_cons_succ])
        refine till_take (i := 6) (oi := { dst := some 72, op := _, type := _, pos := _, after := _, guard := _ }) (v := ?v7) rfl (by kernel_rfl) (by kernel_rfl) (by kernel_rfl) (by kernel_rfl) (fun _ _ _ h => h) (Or.inl ⟨by rfl, ?hy7⟩) (by assumption) ?rest7
        case hy7 => (intro w hSw; have d0 := bcell_row (i := 0) hSw.2.2 rfl; go_simp <;> (with_reducible rfl))
        (try simp only [Act.put, List.setIfInBounds_toArray, List.set_cons_zero, List.set_cons_succ])
        refine till_one (i := 7) (by kernel_rfl) rfl (fun K hK => ?_)
        go_simp
        (with_reducible refine (KT2.out vd GND.out).mono ?_)
        rintro e v2 ⟨A, c, rfl, hta, g2⟩
        (go_wp2_with fail)
        refine hK.out _ _ (Or.inr ⟨bheap_gr g2 hHeld.1, bheap_gr g2 hHeld.2.1, bheap_gr g2 hHeld.2.2⟩) ?_
        clear hK K
        (try simp only [Act.put, List.setIfInBounds_toArray, List.set_cons_zero, List.set_cons_succ])
        have hH2 := And.intro (bheap_gr g2 hHeld.1) (And.intro (bheap_gr g2 hHeld.2.1) (bheap_gr g2 hHeld.2.2))
        clear hHeld
        have hHeld := hH2
        clear hH2
        have TR2 := Lib.hid (TRD.out.gr g2)
        have GN2 := Lib.hid (GND.out.trans g2)
        have HR2 := Lib.hid (bheap_gr g2 HRD.out)
        have TA2 := Lib.hid hta
        clear hta g2 TRD GND HRD KT2
        refine till_take (i := 8) (oi := { dst := some 65, op := _, type := _, pos := _, after := _, guard := _ }) (v := ?v8) rfl (by kernel_rfl) (by kernel_rfl) (by kernel_rfl) (by kernel_rfl) (fun _ _ _ h => h) (Or.inl ⟨by rfl, ?hy8⟩) (by assumption) ?rest8
        case hy8 => (intro w hSw; go_simp <;> (with_reducible rfl))
        (try simp only [Act.put, List.setIfInBounds_toArray, List.set_cons_zero, List.set_cons_succ])
        refine till_take (i := 9) (oi := { dst := some 74, op := _, type := _, pos := _, after := _, guard := _ }) (v := ?v9) rfl (by kernel_rfl) (by kernel_rfl) (by kernel_rfl) (by kernel_rfl) (fun _ _ _ h => h) (Or.inl ⟨by rfl, ?hy9⟩) (by assumption) ?rest9
        case hy9 => (intro w hSw; go_simp <;> (with_reducible rfl))
        (try simp only [Act.put, List.setIfInBounds_toArray, List.set_cons_zero, List.set_cons_succ])
        refine till_pure (i := 10) (oi := { dst := some 75, op := _, type := _, pos := _, after := _, guard := _ }) (v := ?v10) rfl (by kernel_rfl) (by kernel_rfl) (by kernel_rfl) (by kernel_rfl) (fun _ _ _ h => h) (Or.inl ⟨by rfl, ?hy10⟩) (by assumption) ?rest10
        case hy10 => (intro w hSw; go_simp <;> (with_reducible rfl))
        (try simp only [Act.put, List.setIfInBounds_toArray, List.set_cons_zero, List.set_cons_succ])
        refine till_one (i := 11) (by kernel_rfl) rfl (fun K hK => ?_)
        go_simp
        refine hK.out _ _ (Or.inr hHeld) ?_
        clear hK K
        (try simp only [Act.put, List.setIfInBounds_toArray, List.set_cons_zero, List.set_cons_succ])
        have tc0 := TR2.out.cell hlt
        have tf0 := TR2.out.free k
        have TR3 := Lib.hid (TR2.out.set HE.out (c := c) (congrArg List.length TL.out).symm (by rw [TL.out]; exact TA2.out.2))
        have HQ3 := Lib.hid (blk_set2 (p := ⟨qt, k, none⟩) (u := .slice A (ofL rs zs ls ru eo).length c) hHeld.2.1 (Nat.succ_ne_self qt))
        have HR3 := Lib.hid (blk_set2 (p := ⟨qt, k, none⟩) (u := .slice A (ofL rs zs ls ru eo).length c) HR2.out RNQ.out)
        have GN3 : Hid (Gr w4 (v2.setCell ⟨qt, k, none⟩ (.slice A (ofL rs zs ls ru eo).length c))) := Below.setCell GN2.out QTS.out _
        refine till_one (i := 12) (by kernel_rfl) rfl (fun K hK => ?_)
        go_simp
        refine hK.out _ _ (Or.inl (by kernel_rfl)) ?_
        clear hK K
        (try simp only [Act.put, List.setIfInBounds_toArray, List.set_cons_zero, List.set_cons_succ])
        clear tc0 tf0 TR2 GN2 HR2 TA2 hHeld
        generalize v2.setCell ⟨qt, k, none⟩ (.slice A (ofL rs zs ls ru eo).length c) = v3 at TR3 HQ3 HR3 GN3 ⊢
        refine till_one (i := 13) (by kernel_rfl) rfl (fun K hK => ?_)
        go_simp
        refine hK.out _ _ (Or.inl (by kernel_rfl)) ?_
        clear hK K
        (try simp only [Act.put, List.setIfInBounds_toArray, List.set_cons_zero, List.set_cons_succ])
        refine till_done (by kernel_rfl) ?_ _
        refine NoPanic.normal ?_
        by_cases hC : ofC rs zs ls ru eo = 0
        · have tk := bneF hC
          have FE := Lib.hid (fe_step hfe.out (GK.out.trans (KE.out.trans hC)))
          rw [hC]
          clear hC
          go_wp2_with fail
          go_roundw
          case rel => exact ⟨k + 1, by omega, by go_num, TR3.out, HQ3.out, GN3.out, FE.out⟩
          case measure => simp [intOf]; omega
        · have tk := bneT hC
          have EC : eraF rs zs ls (erasN zs ls nm) = ofC rs zs ls ru eo := by rw [EH.out, EF.out, fe_hit hfe.out (by rw [GK.out, KE.out]; exact hC) es.length hlt, GK.out, KE.out]
          have EX := Lib.hid (fun W (g' : Gr w W) => mkE_no (F := F) (T := T) (nm := nm) (mkC_era H0.out TM.out.1 TM.out.2.1 TM.out.2.2 (by rw [EC]; exact hC)) (by rw [EC]; exact hC) g')
          rw [EC] at EX
          have G9 := Lib.hid (G4.out.trans GN3.out)
          clear EC hC GK KE
          generalize ofC rs zs ls ru eo = C at EX tk ⊢
          have r0 : v3.cell? ⟨q + 1 + 1, 0, none⟩ = some (.slice none 0 0) := bcell_row HR3.out rfl
          have r1 : v3.cell? ⟨q + 1 + 1, 1, none⟩ = some (.int .i64 0) := bcell_row HR3.out rfl
          have r2 : v3.cell? ⟨q + 1 + 1, 2, none⟩ = some (.slice none 0 0) := bcell_row HR3.out rfl
          have rf0 : v3.frozen? ⟨q + 1 + 1, 0, none⟩ = false := unfrozen HR3.out
          have rf1 : v3.frozen? ⟨q + 1 + 1, 1, none⟩ = false := unfrozen HR3.out
          have rf2 : v3.frozen? ⟨q + 1 + 1, 2, none⟩ = false := unfrozen HR3.out
          have s0 : (((v3.setCell ⟨q + 1 + 1, 0, none⟩ (.slice none 0 0)).setCell ⟨q + 1 + 1, 1, none⟩ (.int .i64 0)).setCell ⟨q + 1 + 1, 2, none⟩ (.slice none 0 0)).cell? ⟨q + 1 + 1, 0, none⟩ = some (.slice none 0 0) := bcell_row (st3 HR3.out (.slice none 0 0) (.int .i64 0) (.slice none 0 0)) rfl
          have s1 : (((v3.setCell ⟨q + 1 + 1, 0, none⟩ (.slice none 0 0)).setCell ⟨q + 1 + 1, 1, none⟩ (.int .i64 0)).setCell ⟨q + 1 + 1, 2, none⟩ (.slice none 0 0)).cell? ⟨q + 1 + 1, 1, none⟩ = some (.int .i64 0) := bcell_row (st3 HR3.out (.slice none 0 0) (.int .i64 0) (.slice none 0 0)) rfl
          have s2 : (((v3.setCell ⟨q + 1 + 1, 0, none⟩ (.slice none 0 0)).setCell ⟨q + 1 + 1, 1, none⟩ (.int .i64 0)).setCell ⟨q + 1 + 1, 2, none⟩ (.slice none 0 0)).cell? ⟨q + 1 + 1, 2, none⟩ = some (.slice none 0 0) := bcell_row (st3 HR3.out (.slice none 0 0) (.int .i64 0) (.slice none 0 0)) rfl
          go_wp2_with fail
          exact bodyPost_ret (v := .tuple #[.agg #[.slice none 0 0, .int .i64 0, .slice none 0 0], .int .i64 C]) (by simp [results, Tryz.results10, go_sem, s0, s1, s2]) rfl (EX.out _ (st3_below G9.out NQ.out (.slice none 0 0) (.int .i64 0) (.slice none 0 0)))
    · obtain rfl : k = es.length := by omega
      have E0 : Hid (eraF rs zs ls es = 0) := EF.out.trans hfe.out
      have TRS := Lib.hid htr.out.done
      have HS7 := Lib.hid (bheap_gr hgr.out HS4.out)
      have HR7 := Lib.hid (bheap_gr hgr.out HR4.out)
      have HZ7 := Lib.hid (bheap_gr hgr.out HZ4.out)
      have ZR7 := Lib.hid (Row.gr ZAT4.out.2.2.1 hgr.out)
      have ZL7 : Hid (es.length ≤ zc) := ZAT4.out.2.1.1
      have G7 := Lib.hid (G4.out.trans hgr.out)
      have HQ7 := Lib.hid hq2.out
      have UN : Hid (UnOk es) := fun k e he => (HG.out k e he).2
      have EAL : Hid (∀ (k : Nat) (e : EraD), es[k]? = some e → eraA rs e = 0) := fun k e he => (HG.out k e he).1
      clear htr hq2 hgr hfe hk hlt HB4 HS4 HR4 HZ4 ZAT4 G4 QTS RNQ GE EF KT HG
      generalize wr = w7 at TRS HS7 HR7 HZ7 ZR7 G7 HQ7 ⊢
      have z0 : w7.cell? ⟨qz, 0, none⟩ = some (.string znm) := bcell_row HZ7.out rfl
      have z1 : w7.cell? ⟨qz, 1, none⟩ = some (.slice zA es.length zc) := bcell_row HZ7.out rfl
      go_wp2_with fail
      clear z0 z1
      have fb := tmB_yes.1 TM.out.1
      have tb := tmB_yes.1 TM.out.2.1
      obtain ⟨fb1, fb2⟩ := fb
      obtain ⟨tb1, tb2⟩ := tb
      go_loopw [13, 85] (fun v i W => ∃ k : Nat, k ≤ es.length ∧ i = .int .i64 k ∧ Hid (Own W w7.heap.size 3 1 inC v (candN rs zs ls es F T k)) ∧ Hid (Gr w7 W)) (fun v i W => es.length - (intOf i).toNat)
      case atStart => exact ⟨0, Nat.zero_le _, rfl, Own.nil_ _ _ _ _ _, Gr.refl _⟩
      case round =>
        obtain ⟨k, hk, rfl, how, hgr⟩ := hrel
        have CL := candN_len (rs := rs) (zs := zs) (ls := ls) (es := es) (F := F) (T := T) k
        by_cases hlt : k < es.length
        · obtain ⟨⟨eo, ru, sv, fm, un⟩, he⟩ := get_lt hlt
          have CS : Hid (candN rs zs ls es F T (k + 1) = candN rs zs ls es F T k ++ cand1 (eraT rs zs ls ⟨eo, ru, sv, fm, un⟩) (frK es F k) (toK es T k)) := by rw [← candK_at he]; exact candN_succ _ _ _ _ _ _ _
          have LL : Hid ((candN rs zs ls es F T k).length ≤ 1100000) := by unfold Hid; omega
          generalize candN rs zs ls es F T k = L at how CS LL
          obtain ⟨A3, m3, rfl, q1, q2, _⟩ := how.out.form
          clear q1 q2 CL
          obtain ⟨tb0, tt, TAk, ck, hTA, ht3, htr⟩ := TRS.out k _ he
          obtain ⟨bz, oz, hAA, c0, c1, c2, c3, c4⟩ := (ZR7.out.gr hgr.out).five he rfl (Gr.refl wr)
          have HE := Lib.hid he
          have NE := Lib.hid (box_one wr (.cells #[.int .i64 eo, .string ru, .int .i64 sv, .string fm, .int .i64 un] 59))
          have GV := Lib.hid (hgr.out.trans NE.out.1)
          have OWN := Lib.hid (how.out.gr NE.out.1)
          obtain ⟨fr, hfr⟩ : ∃ fr, frK es F k = fr := ⟨_, rfl⟩
          obtain ⟨te, hte⟩ : ∃ te, toK es T k = te := ⟨_, rfl⟩
          obtain ⟨TL, hTL⟩ : ∃ TL, eraT rs zs ls ⟨eo, ru, sv, fm, un⟩ = TL := ⟨_, rfl⟩
          have FEW : Hid (TL.length ≤ 1500) := by rw [← hTL]; exact eraT_few
          rw [hfr, hte, hTL] at CS
          rw [hTL] at ht3 htr
          have FRD := Lib.hid hfr
          have TED := Lib.hid hte
          injection hTA with hTA
          injection hTA with e1 e2
          subst e1
          subst e2
          rw [Nat.zero_add] at ht3
          have HT3 := Lib.hid ht3
          have HTR := Lib.hid htr
          clear hfr hte hTL ht3 htr he how hgr
          subst hAA
          have i1 : (0 : Int) ≤ (k : Int) := by omega
          have i2 : (k : Int) < (es.length : Int) := by omega
          have HS8 := Lib.hid (bheap_gr GV.out HS7.out)
          have x0 : (wr.alloc (.cells #[.int .i64 eo, .string ru, .int .i64 sv, .string fm, .int .i64 un] 59)).cell? ⟨q + 1, 0, none⟩ = some (.int .i64 F) := bcell_row HS8.out rfl
          have x1 : (wr.alloc (.cells #[.int .i64 eo, .string ru, .int .i64 sv, .string fm, .int .i64 un] 59)).cell? ⟨q + 1, 1, none⟩ = some (.int .i64 T) := bcell_row HS8.out rfl
          go_wp2_with fail
          clear c0 c1 c2 c3 c4
          generalize wr.alloc (.cells #[.int .i64 eo, .string ru, .int .i64 sv, .string fm, .int .i64 un] 59) = v1 at NE GV OWN HS8 x0 x1 ⊢
          generalize wr.heap.size = qe at NE ⊢
          go_quiet (fail)
          clear x0 x1 HS8
          have GD := Lib.hid ((Gr.refl v1).drewN nq)
          have OW2 := Lib.hid (OWN.out.gr GD.out)
          have GV2 := Lib.hid (GV.out.trans GD.out)
          have HE2 := Lib.hid (bheap_gr GD.out NE.out.2)
          generalize v1.drewN nq = v2 at GD OW2 GV2 HE2 ⊢
          clear GD OWN GV NE
          have z0 : v2.cell? ⟨qz, 0, none⟩ = some (.string znm) := bcell_row (bheap_gr GV2.out HZ7.out) rfl
          have z1 : v2.cell? ⟨qz, 1, none⟩ = some (.slice (some ⟨bz, oz, none⟩) es.length zc) := bcell_row (bheap_gr GV2.out HZ7.out) rfl
          have l1 := L12.out.1
          have l2 := L12.out.2
          go_upto_if 97 with fail
          go_cut [16] (fun s16 wx => s16 = .int .i64 fr ∧ wx = v2)
          case first =>
            by_cases hk0 : 0 < k
            · obtain ⟨⟨po, pr, ps, pf, pu⟩, hp⟩ := get_lt (show k - 1 < es.length by omega)
              have FQ : fr = max (F + 1) pu := by rw [← FRD.out]; unfold frK; rw [if_neg (by omega), unK_at hp]
              have pc : v2.cell? ⟨bz, oz + (k - 1) * 5 + 4, none⟩ = some (.int .i64 pu) := by
                obtain ⟨b', off', e, d0, d1, d2, d3, d4⟩ := (ZR7.out.gr GV2.out).five hp rfl (Gr.refl v2)
                injection e with e; injection e with e1 e2; subst e1; subst e2
                exact d4
              have g0 : decide ((0 : Int) < (k : Int)) = true := decide_eq_true (by omega)
              have g2 : decide ((k : Int) > 0) = true := decide_eq_true (by omega)
              have g1 : (k : Int) > 0 := by omega
              have j1 : (0 : Int) ≤ (k : Int) - 1 := by omega
              have j2 : (k : Int) - 1 < (es.length : Int) := by omega
              have j3 : ((k : Int) - 1).toNat = k - 1 := by omega
              have j5 : IntKind.i64.wrap ((k : Int) - 1) = (k : Int) - 1 := IntWalk.i64_in _ (by omega)
              clear hp hk0
              go_wp2_with fail
              go_meet
              exact ⟨by rw [FQ], rfl⟩
            · have FQ : fr = F + 1 := by rw [← FRD.out]; unfold frK; rw [if_pos (by omega)]
              have g0 : decide ((0 : Int) < (k : Int)) = false := decide_eq_false (by omega)
              have g2 : decide ((k : Int) > 0) = false := decide_eq_false (by omega)
              have g1 : ¬ (k : Int) > 0 := by omega
              go_wp2_with fail
              go_meet
              exact ⟨by rw [FQ], rfl⟩
          case rest =>
          obtain ⟨rfl, hwc⟩ := hcut
          subst hwc
          go_upto_if 112 with fail
          go_cut [17] (fun s17 wx => s17 = .int .i64 te ∧ wx = wc)
          case first =>
            by_cases hk1 : k + 1 < es.length
            · have TQ : te = min (T - 1) (un - 1) := by rw [← TED.out]; unfold toK; rw [if_pos hk1, unK_at HE.out]
              have ub : -11676096000 ≤ un ∧ un ≤ 13569465599 := by
                have h := UN.out k _ HE.out
                rw [untC_at HE.out, if_neg (by omega)] at h
                cases hb : tmB un with
                | true => exact tmB_yes.1 hb
                | false => simp only [hb] at h; simp at h
              obtain ⟨ub1, ub2⟩ := ub
              have d4 : wc.cell? ⟨qe, 4, none⟩ = some (.int .i64 un) := bcell_row HE2.out rfl
              have g0 : decide ((k : Int) < (es.length : Int) - 1) = true := decide_eq_true (by omega)
              have g1 : (k : Int) < (es.length : Int) - 1 := by omega
              go_wp2_with fail
              go_meet
              exact ⟨by rw [TQ], rfl⟩
            · have TQ : te = T - 1 := by rw [← TED.out]; unfold toK; rw [if_neg hk1]
              have g0 : decide ((k : Int) < (es.length : Int) - 1) = false := decide_eq_false (by omega)
              have g1 : ¬ (k : Int) < (es.length : Int) - 1 := by omega
              go_wp2_with fail
              go_meet
              exact ⟨by rw [TQ], rfl⟩
          case rest =>
          obtain ⟨rfl, hwc⟩ := hcut
          subst hwc
          clear z0 z1
          by_cases hft : te < fr
          · have g0 : decide (fr > te) = true := decide_eq_true hft
            have CE : cand1 TL fr te = [] := by unfold cand1; rw [if_pos hft]
            rw [CE, List.append_nil] at CS
            have CS2 := Lib.hid CS.out
            clear CE CS
            go_wp2_with fail
            go_roundw
            case rel => exact ⟨k + 1, by omega, by go_num, by rw [CS2.out]; exact OW2.out, GV2.out⟩
            case measure => simp [intOf]; omega
          · have g0 : decide (fr > te) = false := decide_eq_false (by omega)
            have CA := Lib.hid (candT_all (L := TL) (a := fr) (b := te) hft)
            clear hft
            have NB := Lib.hid (bheap_new wc (.cells #[.int .i64 fr] 3))
            have OWB := Lib.hid (OW2.out.gr (Gr.alloc wc (.cells #[.int .i64 fr] 3)))
            have GB := Lib.hid (GV2.out.trans (Gr.alloc wc (.cells #[.int .i64 fr] 3)))
            go_wp2_with (first | (refine lay_one _ _ _ (by rfl) (bsn_int1 _ fr) ?_) | (at_builtin; refine wpList_append_lies _ (by rfl) _ _ 42 (by rfl) w7.heap.size 3 i0 (.int .i64 0) 1 8 Tryz.underlying42 I1.out I2.out I3.out I4.out (by rfl) (by omega) (.slice A3 L.length m3) L.length (L.flatMap inC) (by rfl) OWB.out ⟨wc.heap.size, 0, none⟩ 1 1 [.int .i64 fr] (by rfl) (by rfl) (World.news_of_block NB.out) (in_one fr) (by omega) (by have := LL.out; unfold maxLen; omega) (by have := LL.out; omega) (Below.size GB.out) _ rfl ?_; intro g2 cap2 v3 hown hgrow hat hlt3; have OW5 := Lib.hid (own_more (x := fr) rfl hown); have GU5 := Lib.hid (grown_gr GB.out hgrow (own_base OWB.out)); have t0 : v3.cell? ⟨qt + 1, 0, none⟩ = some (.slice (some ⟨qt, 0, none⟩) es.length es.length) := bcell_row (bheap_gr GU5.out HQ7.out) rfl; have t1 : v3.cell? ⟨qt, k, none⟩ = some (.slice TAk TL.length ck) := GU5.out.holds HT3.out; clear hown hgrow hat hlt3))
            clear t0 t1 g0 OWB GB NB
            have OWL : Hid (L.length + 1 = (L ++ [fr]).length) := by unfold Hid; simp
            go_loopw [13, 130] (fun v i W => ∃ j : Nat, j ≤ TL.length ∧ i = .int .i64 j ∧ Hid (Own W w7.heap.size 3 1 inC v (L ++ candT TL fr te j)) ∧ Hid (Gr w7 W)) (fun v i W => TL.length - (intOf i).toNat)
            case atStart => exact ⟨0, Nat.zero_le _, rfl, by rw [candT_zero]; exact OW5.out, GU5.out⟩
            case round =>
              obtain ⟨j, hj, rfl, how3, hgr3⟩ := hrel
              have CL3 := candT_len TL fr te j
              by_cases hlt3 : j < TL.length
              · obtain ⟨⟨ua, us, ul⟩, hu⟩ := get_lt hlt3
                have CT := Lib.hid (candT_succ (a := fr) (b := te) hu)
                have LL3 : (L ++ candT TL fr te j).length ≤ 1200000 := by rw [List.length_append]; have := LL.out; have := FEW.out; omega
                clear CL3
                generalize candT TL fr te j = CC at CT how3 LL3
                obtain ⟨M, hM⟩ : ∃ M, L ++ CC = M := ⟨_, rfl⟩
                have ML := Lib.hid hM
                rw [hM] at how3 LL3
                have LL : Hid (M.length ≤ 1200000) := LL3
                clear hM LL3
                obtain ⟨A4, m3, rfl, q1, q2, _⟩ := how3.out.form
                clear q1 q2
                obtain ⟨bu, ou, hUA, d0, d1, d2⟩ := Row.three (HTR.out.gr hgr3.out) hu rfl (Gr.refl wr)
                have N3 := Lib.hid (box_one wr (.cells #[.int .i64 ua, .int .i64 us, .string ul] 75))
                have GU3 := Lib.hid (hgr3.out.trans N3.out.1)
                have OU3 := Lib.hid (how3.out.gr N3.out.1)
                clear hu how3 hgr3 OW5 GU5
                subst hUA
                have i3 : (0 : Int) ≤ (j : Int) := by omega
                have i4 : (j : Int) < (TL.length : Int) := by omega
                have i5 := FEW.out
                go_upto_region 29 with fail
                clear d0 d1 d2
                have HU3 := Lib.hid N3.out.2
                clear N3
                generalize wr.alloc (.cells #[.int .i64 ua, .int .i64 us, .string ul] 75) = vu at HU3 GU3 OU3 ⊢
                generalize wr.heap.size = qu at HU3 ⊢
                have y0 : vu.cell? ⟨qu, 0, none⟩ = some (.int .i64 ua) := bcell_row HU3.out rfl
                by_cases hfu : fr < ua
                · have p1 : decide (ua > fr) = true := decide_eq_true hfu
                  by_cases hue : ua ≤ te
                  · have p2 : decide (ua ≤ te) = true := decide_eq_true hue
                    have E := Lib.hid (show L ++ candT TL fr te (j + 1) = M ++ [ua] by rw [CT.out, if_pos ⟨hfu, hue⟩, ← ML.out, List.append_assoc])
                    clear CT hfu hue
                    have NB := Lib.hid (bheap_new vu (.cells #[.int .i64 ua] 3))
                    have OWB := Lib.hid (OU3.out.gr (Gr.alloc vu (.cells #[.int .i64 ua] 3)))
                    have GB := Lib.hid (GU3.out.trans (Gr.alloc vu (.cells #[.int .i64 ua] 3)))
                    go_wp2_with (first | (refine lay_one _ _ _ (by rfl) (bsn_int1 _ ua) ?_) | (at_builtin; refine wpList_append_lies _ (by rfl) _ _ 42 (by rfl) w7.heap.size 3 i0 (.int .i64 0) 1 8 Tryz.underlying42 I1.out I2.out I3.out I4.out (by rfl) (by omega) (.slice A4 M.length m3) M.length (M.flatMap inC) (by rfl) OWB.out ⟨vu.heap.size, 0, none⟩ 1 1 [.int .i64 ua] (by rfl) (by rfl) (World.news_of_block NB.out) (in_one ua) (by omega) (by have := LL.out; unfold maxLen; omega) (by have := LL.out; omega) (Below.size GB.out) _ rfl ?_; intro g2 cap2 v3 hown hgrow hat hlt3; have OW5 := Lib.hid (own_more (x := ua) rfl hown); have GU5 := Lib.hid (grown_gr GB.out hgrow (own_base OWB.out)); clear hown hgrow hat hlt3))
                    clear y0 p1 p2
                    go_roundw
                    case rel => exact ⟨j + 1, by omega, by go_num, by rw [E.out]; exact OW5.out, GU5.out⟩
                    case measure => simp [intOf]; omega
                  · have p2 : decide (ua ≤ te) = false := decide_eq_false hue
                    have E := Lib.hid (show L ++ candT TL fr te (j + 1) = M by rw [CT.out, if_neg (fun h => hue h.2), ← ML.out])
                    clear CT hfu hue
                    go_wp2_with fail
                    go_roundw
                    case rel => exact ⟨j + 1, by omega, by go_num, by rw [E.out]; exact OU3.out, GU3.out⟩
                    case measure => simp [intOf]; omega
                · have p1 : decide (ua > fr) = false := decide_eq_false hfu
                  have E := Lib.hid (show L ++ candT TL fr te (j + 1) = M by rw [CT.out, if_neg (fun h => hfu h.1), ← ML.out])
                  clear CT hfu
                  go_wp2_with fail
                  go_roundw
                  case rel => exact ⟨j + 1, by omega, by go_num, by rw [E.out]; exact OU3.out, GU3.out⟩
                  case measure => simp [intOf]; omega
              · obtain rfl : j = TL.length := by omega
                clear OW5 GU5 CL3 hlt3 hj
                go_wp2_with fail
                go_roundw
                case rel => exact ⟨k + 1, by omega, by go_num, by rw [CS.out, ← CA.out]; exact how3.out, hgr3.out⟩
                case measure => simp [intOf]; omega
        · obtain rfl : k = es.length := by omega
          have x0 : wr.cell? ⟨q + 1, 0, none⟩ = some (.int .i64 F) := bcell_row (bheap_gr hgr.out HS7.out) rfl
          have HL : Hid ((candN rs zs ls es F T es.length).length ≤ 2000000) := by have := L12.out.2; unfold Hid; omega
          have EQ := Lib.hid (cand_tab (rs := rs) (zs := zs) (ls := ls) (F := F) (T := T) UN.out L12.out.1)
          have G8 := Lib.hid (G7.out.trans hgr.out)
          have HR8 := Lib.hid (bheap_gr hgr.out HR7.out)
          have HZ8 := Lib.hid (bheap_gr hgr.out HZ7.out)
          have HQ8 := Lib.hid (bheap_gr hgr.out HQ7.out)
          have ZR8 := Lib.hid (ZR7.out.gr hgr.out)
          have TRS8 := Lib.hid (TRS.out.gr hgr.out)
          generalize candN rs zs ls es F T es.length = L at how HL EQ CL
          obtain ⟨A3, m3, rfl, q1, q2, _⟩ := how.out.form
          have RA := Lib.hid (Own.row (enc := inC) (k := 1) (fun _ => rfl) how.out)
          have KC := Lib.hid (fun t W (g : Gr wr W) => clo_any rs zs ls t znm zA zc es (some ⟨qt, 0, none⟩) es.length qz (qt + 1) W (bheap_gr g HZ8.out) (bcell_row (bheap_gr g HQ8.out) rfl) (ZR8.out.gr g) L12.out.1 L12.out.2 ZL7.out (TRS8.out.gr g) EAL.out RI.out ((G8.out.trans g).max MX.out))
          clear how hgr q1 q2 CL hlt hk HS7 HR7 HZ7 HQ7 ZR7 ZL7 G7 TRS
          go_wp2_with fail
          clear x0
          refine (KC.out F wr (Gr.refl wr)).mono ?_
          rintro e w8 ⟨rfl, g8⟩
          have BU := rbuilt (locT rs zs ls es) 26 #[.pointer (some ⟨qz, 0, none⟩), .pointer (some ⟨qt + 1, 0, none⟩)] (enters_of Tryz.func26 (by kernel_rfl) rfl) A3 m3 L (locT rs zs ls es F) w8 (RA.out.gr g8) HL.out (fun t _ W g => KC.out t W (g8.trans g))
          rw [EQ.out] at BU
          have MTE : Hid (mkT rs zs ls nm F T = tab (locT rs zs ls es) F T) := by unfold Hid mkT; rw [EH.out]
          generalize tab (locT rs zs ls es) F T = s at BU MTE
          have BUH := Lib.hid BU
          clear BU EQ
          go_wp2_with fail
          refine BUH.out.mono ?_
          rintro e w9 ⟨At, ct, Ac, cc, rfl, ⟨hs1, hr1⟩, ⟨hs2, hr2⟩, g9⟩
          have NV := Lib.hid (box_one w9 (.cells #[.slice At s.ty.length ct, .int .i64 0, .slice Ac s.chs.length cc] 32))
          have G10 := Lib.hid (((G8.out.trans g8).trans g9).trans NV.out.1)
          have HR10 := Lib.hid (bheap_gr ((g8.trans g9).trans NV.out.1) HR8.out)
          have R1 := Lib.hid (hr1.gr NV.out.1)
          have R2 := Lib.hid (hr2.gr NV.out.1)
          have SO := Lib.hid (And.intro hs1 hs2)
          have HV := Lib.hid NV.out.2
          have CHL : Hid (s.chs.length = s.ch.length) := by unfold Hid BlS.chs; simp
          have TYE : Hid ((mkT rs zs ls nm F T).ty = s.ty) := by unfold Hid; rw [MTE.out]
          have CHE : Hid ((mkT rs zs ls nm F T).chs = s.chs) := by unfold Hid; rw [MTE.out]
          clear hr1 hr2 hs1 hs2 g8 g9 NV BUH KC RA HR8 HZ8 HQ8 ZR8 TRS8 G8
          go_upto_region 35 with fail
          generalize w9.alloc (.cells #[.slice At s.ty.length ct, .int .i64 0, .slice Ac s.chs.length cc] 32) = w10 at G10 HR10 R1 R2 HV ⊢
          generalize w9.heap.size = qv at HV ⊢
          by_cases h250 : 250 < s.ty.length
          · have g0 : decide ((s.ty.length : Int) > 250) = true := decide_eq_true (by omega)
            have EX := Lib.hid (fun W (g : Gr w W) => mkE_no (rs := rs) (zs := zs) (ls := ls) (nm := nm) (F := F) (T := T) (C := 2) (mkC_large H0.out TM.out.1 TM.out.2.1 TM.out.2.2 (by rw [EH.out]; exact E0.out) (Or.inl (by rw [TYE.out]; exact h250))) (by decide) g)
            clear h250
            have x0 : w10.cell? ⟨qv, 0, none⟩ = some (.slice At s.ty.length ct) := bcell_row HV.out rfl
            have x1 : w10.cell? ⟨qv, 1, none⟩ = some (.int .i64 0) := bcell_row HV.out rfl
            have x2 : w10.cell? ⟨qv, 2, none⟩ = some (.slice Ac s.chs.length cc) := bcell_row HV.out rfl
            have r0 : w10.cell? ⟨q + 1 + 1, 0, none⟩ = some (.slice none 0 0) := bcell_row HR10.out rfl
            have r1 : w10.cell? ⟨q + 1 + 1, 1, none⟩ = some (.int .i64 0) := bcell_row HR10.out rfl
            have r2 : w10.cell? ⟨q + 1 + 1, 2, none⟩ = some (.slice none 0 0) := bcell_row HR10.out rfl
            have rf0 : w10.frozen? ⟨q + 1 + 1, 0, none⟩ = false := unfrozen HR10.out
            have rf1 : w10.frozen? ⟨q + 1 + 1, 1, none⟩ = false := unfrozen HR10.out
            have rf2 : w10.frozen? ⟨q + 1 + 1, 2, none⟩ = false := unfrozen HR10.out
            have s0 : (((w10.setCell ⟨q + 1 + 1, 0, none⟩ (.slice none 0 0)).setCell ⟨q + 1 + 1, 1, none⟩ (.int .i64 0)).setCell ⟨q + 1 + 1, 2, none⟩ (.slice none 0 0)).cell? ⟨q + 1 + 1, 0, none⟩ = some (.slice none 0 0) := bcell_row (st3 HR10.out (.slice none 0 0) (.int .i64 0) (.slice none 0 0)) rfl
            have s1 : (((w10.setCell ⟨q + 1 + 1, 0, none⟩ (.slice none 0 0)).setCell ⟨q + 1 + 1, 1, none⟩ (.int .i64 0)).setCell ⟨q + 1 + 1, 2, none⟩ (.slice none 0 0)).cell? ⟨q + 1 + 1, 1, none⟩ = some (.int .i64 0) := bcell_row (st3 HR10.out (.slice none 0 0) (.int .i64 0) (.slice none 0 0)) rfl
            have s2 : (((w10.setCell ⟨q + 1 + 1, 0, none⟩ (.slice none 0 0)).setCell ⟨q + 1 + 1, 1, none⟩ (.int .i64 0)).setCell ⟨q + 1 + 1, 2, none⟩ (.slice none 0 0)).cell? ⟨q + 1 + 1, 2, none⟩ = some (.slice none 0 0) := bcell_row (st3 HR10.out (.slice none 0 0) (.int .i64 0) (.slice none 0 0)) rfl
            go_wp2_with fail
            exact bodyPost_ret (v := .tuple #[.agg #[.slice none 0 0, .int .i64 0, .slice none 0 0], .int .i64 2]) (by simp [results, Tryz.results10, go_sem, s0, s1, s2]) rfl (EX.out _ (st3_below G10.out NQ.out (.slice none 0 0) (.int .i64 0) (.slice none 0 0)))
          have g0 : decide ((s.ty.length : Int) > 250) = false := decide_eq_false (by omega)
          by_cases h1000 : 1000 < s.chs.length
          · have g1 : decide ((s.chs.length : Int) > 1000) = true := decide_eq_true (by omega)
            have EX := Lib.hid (fun W (g : Gr w W) => mkE_no (rs := rs) (zs := zs) (ls := ls) (nm := nm) (F := F) (T := T) (C := 2) (mkC_large H0.out TM.out.1 TM.out.2.1 TM.out.2.2 (by rw [EH.out]; exact E0.out) (Or.inr (by rw [MTE.out, ← CHL.out]; exact h1000))) (by decide) g)
            clear h250 h1000
            have x0 : w10.cell? ⟨qv, 0, none⟩ = some (.slice At s.ty.length ct) := bcell_row HV.out rfl
            have x1 : w10.cell? ⟨qv, 1, none⟩ = some (.int .i64 0) := bcell_row HV.out rfl
            have x2 : w10.cell? ⟨qv, 2, none⟩ = some (.slice Ac s.chs.length cc) := bcell_row HV.out rfl
            have r0 : w10.cell? ⟨q + 1 + 1, 0, none⟩ = some (.slice none 0 0) := bcell_row HR10.out rfl
            have r1 : w10.cell? ⟨q + 1 + 1, 1, none⟩ = some (.int .i64 0) := bcell_row HR10.out rfl
            have r2 : w10.cell? ⟨q + 1 + 1, 2, none⟩ = some (.slice none 0 0) := bcell_row HR10.out rfl
            have rf0 : w10.frozen? ⟨q + 1 + 1, 0, none⟩ = false := unfrozen HR10.out
            have rf1 : w10.frozen? ⟨q + 1 + 1, 1, none⟩ = false := unfrozen HR10.out
            have rf2 : w10.frozen? ⟨q + 1 + 1, 2, none⟩ = false := unfrozen HR10.out
            have s0 : (((w10.setCell ⟨q + 1 + 1, 0, none⟩ (.slice none 0 0)).setCell ⟨q + 1 + 1, 1, none⟩ (.int .i64 0)).setCell ⟨q + 1 + 1, 2, none⟩ (.slice none 0 0)).cell? ⟨q + 1 + 1, 0, none⟩ = some (.slice none 0 0) := bcell_row (st3 HR10.out (.slice none 0 0) (.int .i64 0) (.slice none 0 0)) rfl
            have s1 : (((w10.setCell ⟨q + 1 + 1, 0, none⟩ (.slice none 0 0)).setCell ⟨q + 1 + 1, 1, none⟩ (.int .i64 0)).setCell ⟨q + 1 + 1, 2, none⟩ (.slice none 0 0)).cell? ⟨q + 1 + 1, 1, none⟩ = some (.int .i64 0) := bcell_row (st3 HR10.out (.slice none 0 0) (.int .i64 0) (.slice none 0 0)) rfl
            have s2 : (((w10.setCell ⟨q + 1 + 1, 0, none⟩ (.slice none 0 0)).setCell ⟨q + 1 + 1, 1, none⟩ (.int .i64 0)).setCell ⟨q + 1 + 1, 2, none⟩ (.slice none 0 0)).cell? ⟨q + 1 + 1, 2, none⟩ = some (.slice none 0 0) := bcell_row (st3 HR10.out (.slice none 0 0) (.int .i64 0) (.slice none 0 0)) rfl
            go_wp2_with fail
            exact bodyPost_ret (v := .tuple #[.agg #[.slice none 0 0, .int .i64 0, .slice none 0 0], .int .i64 2]) (by simp [results, Tryz.results10, go_sem, s0, s1, s2]) rfl (EX.out _ (st3_below G10.out NQ.out (.slice none 0 0) (.int .i64 0) (.slice none 0 0)))
          have g1 : decide ((s.chs.length : Int) > 1000) = false := decide_eq_false (by omega)
          have M0 : Hid (mkC rs zs ls nm F T = 0) := mkC_zero.2 ⟨H0.out, TM.out, by rw [EH.out]; exact E0.out, by rw [TYE.out]; omega, by rw [MTE.out, ← CHL.out]; omega⟩
          have TI := Lib.hid (mkT_ok M0.out).2.1
          have CI := Lib.hid (chs_in (nm := nm) M0.out)
          rw [TYE.out] at TI
          rw [CHE.out] at CI
          clear h250 h1000
          have x0 : w10.cell? ⟨qv, 0, none⟩ = some (.slice At s.ty.length ct) := bcell_row HV.out rfl
          have x1 : w10.cell? ⟨qv, 1, none⟩ = some (.int .i64 0) := bcell_row HV.out rfl
          have x2 : w10.cell? ⟨qv, 2, none⟩ = some (.slice Ac s.chs.length cc) := bcell_row HV.out rfl
          have r0 : w10.cell? ⟨q + 1 + 1, 0, none⟩ = some (.slice none 0 0) := bcell_row HR10.out rfl
          have r1 : w10.cell? ⟨q + 1 + 1, 1, none⟩ = some (.int .i64 0) := bcell_row HR10.out rfl
          have r2 : w10.cell? ⟨q + 1 + 1, 2, none⟩ = some (.slice none 0 0) := bcell_row HR10.out rfl
          have rf0 : w10.frozen? ⟨q + 1 + 1, 0, none⟩ = false := unfrozen HR10.out
          have rf1 : w10.frozen? ⟨q + 1 + 1, 1, none⟩ = false := unfrozen HR10.out
          have rf2 : w10.frozen? ⟨q + 1 + 1, 2, none⟩ = false := unfrozen HR10.out
          have s0 : (((w10.setCell ⟨q + 1 + 1, 0, none⟩ (.slice At s.ty.length ct)).setCell ⟨q + 1 + 1, 1, none⟩ (.int .i64 0)).setCell ⟨q + 1 + 1, 2, none⟩ (.slice Ac s.chs.length cc)).cell? ⟨q + 1 + 1, 0, none⟩ = some (.slice At s.ty.length ct) := bcell_row (st3 HR10.out (.slice At s.ty.length ct) (.int .i64 0) (.slice Ac s.chs.length cc)) rfl
          have s1 : (((w10.setCell ⟨q + 1 + 1, 0, none⟩ (.slice At s.ty.length ct)).setCell ⟨q + 1 + 1, 1, none⟩ (.int .i64 0)).setCell ⟨q + 1 + 1, 2, none⟩ (.slice Ac s.chs.length cc)).cell? ⟨q + 1 + 1, 1, none⟩ = some (.int .i64 0) := bcell_row (st3 HR10.out (.slice At s.ty.length ct) (.int .i64 0) (.slice Ac s.chs.length cc)) rfl
          have s2 : (((w10.setCell ⟨q + 1 + 1, 0, none⟩ (.slice At s.ty.length ct)).setCell ⟨q + 1 + 1, 1, none⟩ (.int .i64 0)).setCell ⟨q + 1 + 1, 2, none⟩ (.slice Ac s.chs.length cc)).cell? ⟨q + 1 + 1, 2, none⟩ = some (.slice Ac s.chs.length cc) := bcell_row (st3 HR10.out (.slice At s.ty.length ct) (.int .i64 0) (.slice Ac s.chs.length cc)) rfl
          go_wp2_with fail
          have NT := tys_ne R1.out HR10.out
          have NC := chs_ne R2.out HR10.out
          exact bodyPost_ret (v := .tuple #[.agg #[.slice At s.ty.length ct, .int .i64 0, .slice Ac s.chs.length cc], .int .i64 0]) (by simp [results, Tryz.results10, go_sem, s0, s1, s2]) rfl (mkE_yes M0.out TYE.out CHE.out ⟨SO.out.1, row_ne (row_ne (row_ne R1.out NT _ _) NT _ _) NT _ _, TI.out⟩ ⟨SO.out.2, row_ne (row_ne (row_ne R2.out NC _ _) NC _ _) NC _ _, CI.out⟩ (st3_below G10.out NQ.out (.slice At s.ty.length ct) (.int .i64 0) (.slice Ac s.chs.length cc)))
end Go.Proofs.YtkmgildnhnjepaaGreatDoor
