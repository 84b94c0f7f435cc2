/- The project's Make of package table. -/
import Derived.Test.YtkmgildnhnjepaaGreatDoorTM40
import Derived.Test.YtkmgildnhnjepaaGreatDoorTM44
import Derived.Test.YtkmgildnhnjepaaGreatDoorTM35
namespace Go.Proofs.YtkmgildnhnjepaaGreatDoor
set_option linter.unusedVariables false
set_option linter.unusedSimpArgs false
open Go.RowKit
/-- the types and the changes of the table that Make answers -/
def mkTy (rs : List RuD) (zs : List ZonD) (ls : List LinD) (nm : ByteArray) (F T : Int) : List TypD := if mkC rs zs ls nm F T = 0 then (mkT rs zs ls nm F T).ty else []
def mkCh (rs : List RuD) (zs : List ZonD) (ls : List LinD) (nm : ByteArray) (F T : Int) : List ChaD := if mkC rs zs ls nm F T = 0 then (mkT rs zs ls nm F T).chs else []
/-- what Make leaves -/
def MkE (rs : List RuD) (zs : List ZonD) (ls : List LinD) (nm : ByteArray) (F T : Int) (w : World) (e : Ending) (w' : World) : Prop :=
  ∃ At ct Ac cc, e = .returned (.tuple #[.agg #[.slice At (mkTy rs zs ls nm F T).length ct, .int .i64 0, .slice Ac (mkCh rs zs ls nm F T).length cc], .int .i64 (mkC rs zs ls nm F T)]) ∧ TysAt w' At ct (mkTy rs zs ls nm F T) ∧ ChsAt w' Ac cc (mkCh rs zs ls nm F T) ∧ Gr w w'
theorem mkE_no {rs : List RuD} {zs : List ZonD} {ls : List LinD} {nm : ByteArray} {F T : Int} {C : Int} (h : mkC rs zs ls nm F T = C) (hc : C ≠ 0) {w w' : World} (g : Gr w w') : MkE rs zs ls nm F T w (.returned (.tuple #[.agg #[.slice none 0 0, .int .i64 0, .slice none 0 0], .int .i64 C])) w' := by
  have e1 : mkTy rs zs ls nm F T = [] := by unfold mkTy; rw [if_neg (by rw [h]; exact hc)]
  have e2 : mkCh rs zs ls nm F T = [] := by unfold mkCh; rw [if_neg (by rw [h]; exact hc)]
  unfold MkE
  rw [e1, e2, h]
  exact ⟨none, 0, none, 0, rfl, ⟨⟨Nat.le_refl _, by unfold maxLen; exact Nat.zero_le _⟩, Row.nil _ _ _ _, fun x hx => by cases hx⟩, ⟨⟨Nat.le_refl _, by unfold maxLen; exact Nat.zero_le _⟩, Row.nil _ _ _ _, fun x hx => by cases hx⟩, g⟩
theorem mkE_yes {rs : List RuD} {zs : List ZonD} {ls : List LinD} {nm : ByteArray} {F T : Int} (h : mkC rs zs ls nm F T = 0) {ty : List TypD} {ch : List ChaD} (h1 : (mkT rs zs ls nm F T).ty = ty) (h2 : (mkT rs zs ls nm F T).chs = ch) {w w' : World} {At Ac : Option Addr} {ct cc : Nat} (r1 : TysAt w' At ct ty) (r2 : ChsAt w' Ac cc ch) (g : Gr w w') :
    MkE rs zs ls nm F T w (.returned (.tuple #[.agg #[.slice At ty.length ct, .int .i64 0, .slice Ac ch.length cc], .int .i64 0])) w' := by
  have e1 : mkTy rs zs ls nm F T = ty := by unfold mkTy; rw [if_pos h, h1]
  have e2 : mkCh rs zs ls nm F T = ch := by unfold mkCh; rw [if_pos h, h2]
  unfold MkE
  rw [e1, e2, h]
  exact ⟨At, ct, Ac, cc, rfl, r1, r2, g⟩
theorem chs_in {rs : List RuD} {zs : List ZonD} {ls : List LinD} {nm : ByteArray} {F T : Int} (h : mkC rs zs ls nm F T = 0) : ∀ c ∈ (mkT rs zs ls nm F T).chs, c.In := fun c hc => by
  obtain ⟨i, hi⟩ := List.getElem?_of_mem hc
  have ok := tabC_ok.1 (mkT_ok h).1
  have k := chs_ok ok.2.2.2.2 hi
  have l := ok.1.1
  exact ⟨by unfold I64; omega, by unfold I64; omega⟩
theorem rfP_le {es : List EraD} {F T : Int} (h : F ≤ T) : ∀ k, rfP es F T k ≤ T
  | 0 => h
  | k + 1 => by have := rfP_le (es := es) h k; have := toP_le (es := es) (T := T) k; rw [rfP_step]; omega
theorem pst_step {rs : List RuD} {zs : List ZonD} {ls : List LinD} {es : List EraD} {F T : Int} (h : UnOk es) {k : Nat} {e : EraD} (he : es[k]? = some e) :
    pst (locT rs zs ls es) PS.zero (pN rs zs ls es F T (k + 1)) = eraS e (eraT rs zs ls e) (rfP es F T k) (toP es T k) (pst (locT rs zs ls es) PS.zero (pN rs zs ls es F T k)) := by
  rw [pN_succ, pst_app, ← eraS_pst h he]
theorem pst_bound {rs : List RuD} {zs : List ZonD} {ls : List LinD} {es : List EraD} {F T : Int} (h : UnOk es) : ∀ k, k ≤ es.length → (pst (locT rs zs ls es) PS.zero (pN rs zs ls es F T k)).ty.length ≤ k * 100001 ∧ (pst (locT rs zs ls es) PS.zero (pN rs zs ls es F T k)).ch.length ≤ k * 100001
  | 0, _ => by simp [pN, pst, PS.zero]
  | k + 1, hk => by
    obtain ⟨e, he⟩ := get_lt (show k < es.length by omega)
    have ih := pst_bound (rs := rs) (zs := zs) (ls := ls) (F := F) (T := T) h k (by omega)
    have l := eraS_len e (eraT rs zs ls e) (rfP es F T k) (toP es T k) (pst (locT rs zs ls es) PS.zero (pN rs zs ls es F T k))
    have t := eraT_len (rs := rs) (zs := zs) (ls := ls) (e := e)
    rw [pst_step h he]
    omega
/-- a block of its own is tto be kept too -/
theorem MAt.also {tT tC tB : TypeId} {X : Nat → Prop} {pb mb : Nat} {W : World} {tm : List TypD} {s : PS} {vt vc : Value} (h : MAt tT tC tB X pb mb W tm s vt vc) {j : Nat} {cs : Array Value} {S : TypeId} (hj : W.heap[j]? = some (.cells cs S (0, 0))) (h1 : S ≠ tT) (h2 : S ≠ tC) (h3 : S ≠ tB) :
    MAt tT tC tB (fun i => X i ∨ i = j) pb mb W tm s vt vc := by
  refine ⟨fun i hi => ?_, fun q => ?_, fun q => ?_, fun i hi q => ?_, fun i hi q => ?_, h.blk, h.ot, h.oc, h.mp, h.ti⟩
  · rcases hi with q | q
    · exact h.xl i q
    · subst q; exact (Array.getElem?_eq_some_iff.1 hj).1
  · rcases q with q | q
    · exact h.xp q
    · exact blk_ne hj h.blk h3 q.symm
  · rcases q with q | q
    · exact h.xm q
    · exact map_ne h.mp hj q.symm
  · rcases q with q | q
    · exact h.xt i hi q
    · subst q; exact row_apart h.ot hj h1 hi
  · rcases q with q | q
    · exact h.xc i hi q
    · subst q; exact row_apart h.oc hj h2 hi

/-- a store into a block of another kind -/
theorem MAt.far {tT tC tB : TypeId} {X : Nat → Prop} {pb mb : Nat} {W : World} {tm : List TypD} {s : PS} {vt vc : Value} (h : MAt tT tC tB X pb mb W tm s vt vc) {j o : Nat} {cs : Array Value} {S : TypeId} (hj : W.heap[j]? = some (.cells cs S (0, 0))) (h1 : S ≠ tT) (h2 : S ≠ tC) (h3 : S ≠ tB) (u : Value) :
    MAt tT tC tB X pb mb (W.setCell ⟨j, o, none⟩ u) tm s vt vc :=
  ⟨fun i hi => set_lt2 (h.xl i hi), h.xp, h.xm, h.xt, h.xc, blk_set2 h.blk (blk_ne h.blk hj (fun e => h3 e.symm)), row_far h.ot _ (row_apart h.ot hj h1), row_far h.oc _ (row_apart h.oc hj h2), h.mp.set (fun e => map_ne h.mp hj e.symm) _, h.ti⟩

/-- the builder at first -/
theorem mat_start (W : World) : MAt 46 44 66 (fun j => j < W.heap.size) (W.heap.size + 1) W.heap.size ((W.alloc (.map #[] 0)).alloc (.cells #[.slice none 0 0, .int .i64 0, .slice none 0 0, .map (some W.heap.size), .int .i64 0] 66)) [] PS.zero (.slice none 0 0) (.slice none 0 0) := by
  have sz : (W.alloc (.map #[] 0)).heap.size = W.heap.size + 1 := by unfold World.alloc; simp
  have hb := bheap_new (W.alloc (.map #[] 0)) (.cells #[.slice none 0 0, .int .i64 0, .slice none 0 0, .map (some W.heap.size), .int .i64 0] 66)
  rw [sz] at hb
  refine ⟨fun j hj => ?_, by omega, by omega, fun j hj => by simp [Value.ownBlock] at hj, fun j hj => by simp [Value.ownBlock] at hj, hb, Own.nil_ _ _ _ _ _, Own.nil_ _ _ _ _ _, (MapT.made W).gr (Gr.alloc _ _), fun x hx => by cases hx⟩
  have g := Below.size ((Gr.alloc W (.map #[] 0)).trans (Gr.alloc _ (.cells #[.slice none 0 0, .int .i64 0, .slice none 0 0, .map (some W.heap.size), .int .i64 0] 66)))
  exact Nat.lt_of_lt_of_le hj g

set_option maxRecDepth 100000 in
set_option maxHeartbeats 40000000 in
theorem pMake (b : BokD) (nm : ByteArray) (F T : Int) (w : World) (hb : b.At w) (hn : nm.size ≤ maxLen) (f1 : -9223372036854775808 ≤ F) (f2 : F ≤ 9223372036854775807) (t1 : -9223372036854775808 ≤ T) (t2 : T ≤ 9223372036854775807) (ht : BkTab w) :
    Calls Tryz.prog 9 #[bookV b, .string nm, .agg #[.int .i64 F, .int .i64 T]] w (MkE b.rs b.zs b.ls nm F T w) := by
  have KR := Lib.hid (fun W (g : Gr w W) => presolve b nm W (hb.gr g) hn (g.bk ht))
  have KS := Lib.hid (fun W (g : Gr w W) => pisSpan F T W f1 f2 t1 t2 (g.bk ht))
  obtain ⟨Ar, cr, rs, Az, cz, zs, Al, cl, ls⟩ := b
  simp only at KR
  have RU : Hid (∀ W, Gr w W → RusAt W Ar cr rs) := fun W g => ⟨hb.1.1, hb.1.2.1.gr g, hb.1.2.2⟩
  have BT := Lib.hid ht
  have ML : Hid (1 < w.heap.size) := by
    obtain ⟨m, hm⟩ := ht.2.2
    exact World.block_lt_of_cell? w _ hm
  show Calls _ _ _ _ (MkE rs zs ls nm F T w)
  have B0 := Lib.hid (box_three w (.cells #[.slice Ar rs.length cr, .slice Az zs.length cz, .slice Al ls.length cl] 26) (.cells #[.int .i64 F, .int .i64 T] 28) (.cells #[.slice none 0 0, .int .i64 0, .slice none 0 0] 32))
  clear hb hn ht t1 t2 f1 f2
  have hmm := @run_makeMap Tryz.prog
  go_enter Tryz.func9, Tryz.ntmps9
  go_wp2_with fail
  generalize ((w.alloc (.cells #[.slice Ar rs.length cr, .slice Az zs.length cz, .slice Al ls.length cl] 26)).alloc (.cells #[.int .i64 F, .int .i64 T] 28)).alloc (.cells #[.slice none 0 0, .int .i64 0, .slice none 0 0] 32) = w1 at B0 ⊢
  obtain ⟨q, hq⟩ : ∃ q, w.heap.size = q := ⟨_, rfl⟩
  have QS : Hid (w.heap.size = q) := hq
  have NQ : Hid (w.heap.size ≤ q + 1 + 1) := by unfold Hid; omega
  rw [hq] at B0 ⊢
  clear hq
  have x0 : w1.cell? ⟨q, 0, none⟩ = some (.slice Ar rs.length cr) := bcell_row B0.out.2.1 rfl
  have x1 : w1.cell? ⟨q, 1, none⟩ = some (.slice Az zs.length cz) := bcell_row B0.out.2.1 rfl
  have x2 : w1.cell? ⟨q, 2, none⟩ = some (.slice Al ls.length cl) := bcell_row B0.out.2.1 rfl
  go_wp2_with fail
  clear x0 x1 x2
  refine (KR.out w1 B0.out.1).mono ?_
  rintro e w2 ⟨⟨znm, zA, zc, es⟩, rfl, zat, g2, hok, hno⟩
  have NZ := Lib.hid (box_one w2 (.cells #[.string znm, .slice zA es.length zc] 57))
  have G3 := Lib.hid ((B0.out.1.trans g2).trans NZ.out.1)
  have HB := Lib.hid (bheap_gr (g2.trans NZ.out.1) B0.out.2.1)
  have HS := Lib.hid (bheap_gr (g2.trans NZ.out.1) B0.out.2.2.1)
  have HR := Lib.hid (bheap_gr (g2.trans NZ.out.1) B0.out.2.2.2)
  have ZAT := Lib.hid (ZonD.At.gr zat NZ.out.1)
  have OK := Lib.hid hok
  clear g2 B0 zat hok hno KR
  by_cases h0 : resC rs zs ls nm = 0
  case neg =>
    have EX := Lib.hid (fun W (g : Gr w W) => mkE_no (mkC_res (F := F) (T := T) h0) h0 g)
    have t0 := bneT h0
    clear OK h0
    generalize resC rs zs ls nm = C at EX t0 ⊢
    have r0 : (w2.alloc (.cells #[.string znm, .slice zA es.length zc] 57)).cell? ⟨q + 1 + 1, 0, none⟩ = some (.slice none 0 0) := bcell_row HR.out rfl
    have r1 : (w2.alloc (.cells #[.string znm, .slice zA es.length zc] 57)).cell? ⟨q + 1 + 1, 1, none⟩ = some (.int .i64 0) := bcell_row HR.out rfl
    have r2 : (w2.alloc (.cells #[.string znm, .slice zA es.length zc] 57)).cell? ⟨q + 1 + 1, 2, none⟩ = some (.slice none 0 0) := bcell_row HR.out rfl
    have rf0 : (w2.alloc (.cells #[.string znm, .slice zA es.length zc] 57)).frozen? ⟨q + 1 + 1, 0, none⟩ = false := unfrozen HR.out
    have rf1 : (w2.alloc (.cells #[.string znm, .slice zA es.length zc] 57)).frozen? ⟨q + 1 + 1, 1, none⟩ = false := unfrozen HR.out
    have rf2 : (w2.alloc (.cells #[.string znm, .slice zA es.length zc] 57)).frozen? ⟨q + 1 + 1, 2, none⟩ = false := unfrozen HR.out
    have s0 : ((((w2.alloc (.cells #[.string znm, .slice zA es.length zc] 57)).setCell ⟨q + 1 + 1, 0, none⟩ (.slice none 0 0)).setCell ⟨q + 1 + 1, 1, none⟩ (.int .i64 0)).setCell ⟨q + 1 + 1, 2, none⟩ (.slice none 0 0)).cell? ⟨q + 1 + 1, 0, none⟩ = some (.slice none 0 0) := bcell_row (st3 HR.out (.slice none 0 0) (.int .i64 0) (.slice none 0 0)) rfl
    have s1 : ((((w2.alloc (.cells #[.string znm, .slice zA es.length zc] 57)).setCell ⟨q + 1 + 1, 0, none⟩ (.slice none 0 0)).setCell ⟨q + 1 + 1, 1, none⟩ (.int .i64 0)).setCell ⟨q + 1 + 1, 2, none⟩ (.slice none 0 0)).cell? ⟨q + 1 + 1, 1, none⟩ = some (.int .i64 0) := bcell_row (st3 HR.out (.slice none 0 0) (.int .i64 0) (.slice none 0 0)) rfl
    have s2 : ((((w2.alloc (.cells #[.string znm, .slice zA es.length zc] 57)).setCell ⟨q + 1 + 1, 0, none⟩ (.slice none 0 0)).setCell ⟨q + 1 + 1, 1, none⟩ (.int .i64 0)).setCell ⟨q + 1 + 1, 2, none⟩ (.slice none 0 0)).cell? ⟨q + 1 + 1, 2, none⟩ = some (.slice none 0 0) := bcell_row (st3 HR.out (.slice none 0 0) (.int .i64 0) (.slice none 0 0)) rfl
    go_wp2_with fail
    exact bodyPost_ret (v := .tuple #[.agg #[.slice none 0 0, .int .i64 0, .slice none 0 0], .int .i64 C]) (by simp [results, Tryz.results9, go_sem, s0, s1, s2]) rfl (EX.out _ (st3_below G3.out NQ.out (.slice none 0 0) (.int .i64 0) (.slice none 0 0)))
  case pos =>
  obtain ⟨y, hy, e1, e2⟩ := OK.out h0
  have EE : erasN zs ls nm = es := (erasN_at hy).trans e2.symm
  obtain ⟨l1, l2, hg⟩ := good_erasN h0
  rw [EE] at l1 l2 hg
  have HG := Lib.hid hg
  have BC : Hid (bokC rs zs ls = 0) := (resC_zero.1 h0).1
  have H0 := Lib.hid h0
  have EH := Lib.hid EE
  have L12 := Lib.hid (And.intro l1 l2)
  rw [h0]
  clear hy e1 e2 hg h0 OK EE l1 l2
  have x0 : (w2.alloc (.cells #[.string znm, .slice zA es.length zc] 57)).cell? ⟨q + 1, 0, none⟩ = some (.int .i64 F) := bcell_row HS.out rfl
  have x1 : (w2.alloc (.cells #[.string znm, .slice zA es.length zc] 57)).cell? ⟨q + 1, 1, none⟩ = some (.int .i64 T) := bcell_row HS.out rfl
  go_wp2_with fail
  clear x0 x1
  generalize w2.alloc (.cells #[.string znm, .slice zA es.length zc] 57) = w3 at NZ G3 HB HS HR ZAT ⊢
  generalize w2.heap.size = qz at NZ ⊢
  refine (KS.out w3 G3.out).mono ?_
  rintro e w4 ⟨rfl, g4⟩
  have G4 := Lib.hid (G3.out.trans g4)
  have HB4 := Lib.hid (bheap_gr g4 HB.out)
  have HS4 := Lib.hid (bheap_gr g4 HS.out)
  have HR4 := Lib.hid (bheap_gr g4 HR.out)
  have HZ4 := Lib.hid (bheap_gr g4 NZ.out.2)
  have ZAT4 := Lib.hid (ZonD.At.gr ZAT.out g4)
  clear g4 G3 HB HS HR NZ ZAT KS
  cases hs : spB F T with
  | false =>
    have EX := Lib.hid (fun W (g : Gr w W) => mkE_no (rs := rs) (zs := zs) (ls := ls) (nm := nm) (F := F) (T := T) (C := 1) (by
      unfold mkC
      rw [if_neg (by simp [H0.out]), if_pos]
      by_cases c : tmB F = false ∨ tmB T = false ∨ T ≤ F
      · exact c
      · exfalso
        have : spB F T = true := spB_yes.2 ⟨by simpa using fun q => c (Or.inl q), by simpa using fun q => c (Or.inr (Or.inl q)), by omega⟩
        rw [hs] at this
        cases this) (by decide) g)
    clear hs
    have r0 : w4.cell? ⟨q + 1 + 1, 0, none⟩ = some (.slice none 0 0) := bcell_row HR4.out rfl
    have r1 : w4.cell? ⟨q + 1 + 1, 1, none⟩ = some (.int .i64 0) := bcell_row HR4.out rfl
    have r2 : w4.cell? ⟨q + 1 + 1, 2, none⟩ = some (.slice none 0 0) := bcell_row HR4.out rfl
    have rf0 : w4.frozen? ⟨q + 1 + 1, 0, none⟩ = false := unfrozen HR4.out
    have rf1 : w4.frozen? ⟨q + 1 + 1, 1, none⟩ = false := unfrozen HR4.out
    have rf2 : w4.frozen? ⟨q + 1 + 1, 2, none⟩ = false := unfrozen HR4.out
    have s0 : (((w4.setCell ⟨q + 1 + 1, 0, none⟩ (.slice none 0 0)).setCell ⟨q + 1 + 1, 1, none⟩ (.int .i64 0)).setCell ⟨q + 1 + 1, 2, none⟩ (.slice none 0 0)).cell? ⟨q + 1 + 1, 0, none⟩ = some (.slice none 0 0) := bcell_row (st3 HR4.out (.slice none 0 0) (.int .i64 0) (.slice none 0 0)) rfl
    have s1 : (((w4.setCell ⟨q + 1 + 1, 0, none⟩ (.slice none 0 0)).setCell ⟨q + 1 + 1, 1, none⟩ (.int .i64 0)).setCell ⟨q + 1 + 1, 2, none⟩ (.slice none 0 0)).cell? ⟨q + 1 + 1, 1, none⟩ = some (.int .i64 0) := bcell_row (st3 HR4.out (.slice none 0 0) (.int .i64 0) (.slice none 0 0)) rfl
    have s2 : (((w4.setCell ⟨q + 1 + 1, 0, none⟩ (.slice none 0 0)).setCell ⟨q + 1 + 1, 1, none⟩ (.int .i64 0)).setCell ⟨q + 1 + 1, 2, none⟩ (.slice none 0 0)).cell? ⟨q + 1 + 1, 2, none⟩ = some (.slice none 0 0) := bcell_row (st3 HR4.out (.slice none 0 0) (.int .i64 0) (.slice none 0 0)) rfl
    go_wp2_with fail
    exact bodyPost_ret (v := .tuple #[.agg #[.slice none 0 0, .int .i64 0, .slice none 0 0], .int .i64 1]) (by simp [results, Tryz.results9, go_sem, s0, s1, s2]) rfl (EX.out _ (st3_below G4.out NQ.out (.slice none 0 0) (.int .i64 0) (.slice none 0 0)))
  | true =>
    have SB := spB_yes.1 hs
    have TM := Lib.hid SB
    clear SB hs
    have B5 := Lib.hid (box_three w4 (.map #[] 0) (.cells #[.slice none 0 0, .int .i64 0, .slice none 0 0, .map (some w4.heap.size), .int .i64 0] 66) (.cells #[.int .i64 F, .int .i64 T] 28))
    have MS := Lib.hid ((mat_start w4).grow (Gr.alloc _ (.cells #[.int .i64 F, .int .i64 T] 28)))
    have g6 := (Gr.alloc w4 (.map #[] 0)).alloc' (.cells #[.slice none 0 0, .int .i64 0, .slice none 0 0, .map (some w4.heap.size), .int .i64 0] 66)
    have HS5 := Lib.hid (bheap_gr g6 HS4.out)
    have HZ5 := Lib.hid (bheap_gr (g6.alloc' (.cells #[.int .i64 F, .int .i64 T] 28)) HZ4.out)
    clear g6
    have x0 : ((w4.alloc (.map #[] 0)).alloc (.cells #[.slice none 0 0, .int .i64 0, .slice none 0 0, .map (some w4.heap.size), .int .i64 0] 66)).cell? ⟨q + 1, 0, none⟩ = some (.int .i64 F) := bcell_row HS5.out rfl
    have x1 : ((w4.alloc (.map #[] 0)).alloc (.cells #[.slice none 0 0, .int .i64 0, .slice none 0 0, .map (some w4.heap.size), .int .i64 0] 66)).cell? ⟨q + 1, 1, none⟩ = some (.int .i64 T) := bcell_row HS5.out rfl
    have z0 : (((w4.alloc (.map #[] 0)).alloc (.cells #[.slice none 0 0, .int .i64 0, .slice none 0 0, .map (some w4.heap.size), .int .i64 0] 66)).alloc (.cells #[.int .i64 F, .int .i64 T] 28)).cell? ⟨qz, 0, none⟩ = some (.string znm) := bcell_row HZ5.out rfl
    have z1 : (((w4.alloc (.map #[] 0)).alloc (.cells #[.slice none 0 0, .int .i64 0, .slice none 0 0, .map (some w4.heap.size), .int .i64 0] 66)).alloc (.cells #[.int .i64 F, .int .i64 T] 28)).cell? ⟨qz, 1, none⟩ = some (.slice zA es.length zc) := bcell_row HZ5.out rfl
    go_wp2_with fail
    clear x0 x1 z0 z1 hmm
    have sz5 : Hid (∀ j, j < w4.heap.size → j < w4.heap.size) := fun _ h => h
    obtain ⟨X, hX⟩ : ∃ X : Nat → Prop, (fun j => j < w4.heap.size) = X := ⟨_, rfl⟩
    have XW : Hid (∀ j, X j ↔ j < w4.heap.size) := fun j => by rw [← hX]
    rw [hX] at MS
    have G5 := Lib.hid (G4.out.trans B5.out.1)
    have HB5 := Lib.hid (bheap_gr B5.out.1 HB4.out)
    have HR5 := Lib.hid (bheap_gr B5.out.1 HR4.out)
    have ZAT5 := Lib.hid (ZonD.At.gr ZAT4.out B5.out.1)
    have HRS := Lib.hid B5.out.2.2.2
    have XQ : Hid (X q) := (XW.out q).2 (Array.getElem?_eq_some_iff.1 HB4.out).1
    have XR : Hid (X (q + 1 + 1)) := (XW.out _).2 (Array.getElem?_eq_some_iff.1 HR4.out).1
    have XZ : Hid (X qz) := (XW.out qz).2 (Array.getElem?_eq_some_iff.1 HZ4.out).1
    have XA : Hid (∀ a, zA = some a → 0 < es.length → X a.block) := fun a ha hl => (XW.out _).2 (row_lt ZAT4.out.2.2.1 hl ha)
    have XI : Hid (∀ j, j < w.heap.size → X j) := fun j hj => (XW.out j).2 (Nat.lt_of_lt_of_le hj (Below.size G4.out))
    have NXR : Hid (¬ X (w4.heap.size + 1 + 1)) := fun h => by have := (XW.out _).1 h; omega
    have ZI := Lib.hid ZAT4.out.2.2.2
    clear hX XW HS4 HB4 HR4 HZ4 HS5 ZAT4 G4 sz5
    generalize (((w4.alloc (.map #[] 0)).alloc (.cells #[.slice none 0 0, .int .i64 0, .slice none 0 0, .map (some w4.heap.size), .int .i64 0] 66)).alloc (.cells #[.int .i64 F, .int .i64 T] 28)) = w5 at MS B5 G5 HZ5 HB5 HR5 ZAT5 HRS ⊢
    clear B5
    generalize w4.heap.size = qm at MS HRS NXR ⊢
    obtain ⟨qr, hqr⟩ : ∃ qr, qm + 1 + 1 = qr := ⟨_, rfl⟩
    rw [hqr] at HRS NXR ⊢
    clear hqr
    have EF : Hid (eraF rs zs ls es = fe (fun k => match es[k]? with
      | some e => eraK rs zs ls e
      | none => 0) es.length) := rfl
    obtain ⟨g, hg⟩ : ∃ g : Nat → Int, (fun k => match es[k]? with
      | some e => eraK rs zs ls e
      | none => 0) = g := ⟨_, rfl⟩
    have GE : Hid (∀ k e, es[k]? = some e → g k = eraK rs zs ls e) := fun k e he => by rw [← hg]; simp only [he]
    rw [hg] at EF
    clear hg
    have UN : Hid (UnOk es) := fun k e he => (HG.out k e he).2
    have PB := Lib.hid (pst_bound (rs := rs) (zs := zs) (ls := ls) (F := F) (T := T) UN.out)
    obtain ⟨n, hn⟩ : ∃ n, es.length = n := ⟨_, rfl⟩
    have LN := Lib.hid hn
    rw [hn] at L12 EF XA
    have n9 : n ≤ 700 := L12.out.2
    have n1 : 1 ≤ n := L12.out.1
    rw [hn]
    clear hn
    go_loopw [36] (fun i W => ∃ k : Nat, k ≤ n ∧ i = .int .i64 k ∧ Hid (∃ vt vc, MAt 46 44 66 X (qm + 1) qm W (pst (locT rs zs ls es) PS.zero (pN rs zs ls es F T k)).ty (pst (locT rs zs ls es) PS.zero (pN rs zs ls es F T k)) vt vc) ∧ Hid (W.heap[qr]? = some (.cells #[.int .i64 (rfP es F T k), .int .i64 T] 28 (0, 0))) ∧ Hid (Kp X w5 W) ∧ Hid (fe g k = 0)) (fun i W => n - (intOf i).toNat)
    case atStart => exact ⟨0, Nat.zero_le _, rfl, ⟨_, _, MS.out⟩, HRS.out, Kp.refl _ _, rfl⟩
    case round =>
      obtain ⟨k, hk, rfl, hma, hrs, hkp, hfe⟩ := hrel
      clear MS HRS
      by_cases hlt : k < n
      · obtain ⟨⟨eo, ru, sv, fm, un⟩, he⟩ := get_lt (show k < es.length by rw [LN.out]; exact hlt)
        have RWR := Lib.hid (row_kp ZAT5.out.2.2.1 (fun a ha hl => XA.out a ha (by rw [← LN.out]; exact hl)) hkp.out)
        obtain ⟨b, off, hAA, c0, c1, c2, c3, c4⟩ := RWR.out.five he rfl (Gr.refl wr)
        have EA := Lib.hid (HG.out k _ he).1
        have EI := Lib.hid (ZI.out _ (get_mem he))
        have GK := Lib.hid (GE.out k _ he)
        have STP := Lib.hid (pst_step (rs := rs) (zs := zs) (ls := ls) (F := F) (T := T) UN.out he)
        have UK := Lib.hid (unK_at he)
        have SZ := PB.out k (by rw [LN.out]; omega)
        have TK : Hid (tmB (rfP es F T k) = true) := by
          have a := rfP_ge (es := es) (F := F) (T := T) k
          have b := rfP_le (es := es) (F := F) (T := T) (by have := TM.out.2.2; omega) k
          have c := tmB_yes.1 TM.out.1
          have d := tmB_yes.1 TM.out.2.1
          exact tmB_yes.2 ⟨by omega, by omega⟩
        have GWR := Lib.hid (hkp.out.out G5.out XI.out)
        have HBr := Lib.hid (hkp.out.heap XQ.out HB5.out)
        have HZr := Lib.hid (hkp.out.heap XZ.out HZ5.out)
        have HRr := Lib.hid (hkp.out.heap XR.out HR5.out)
        obtain ⟨vt, vc, hm⟩ := hma.out
        have HM := Lib.hid hm
        have SL1 : Hid ((pst (locT rs zs ls es) PS.zero (pN rs zs ls es F T k)).ty.length ≤ 99000000 ∧ (pst (locT rs zs ls es) PS.zero (pN rs zs ls es F T k)).ch.length ≤ 99000000) := by unfold Hid; omega
        rw [LN.out] at HZr
        clear RWR he hm hma SZ
        subst hAA
        by_cases hla : k + 1 < n
        · have tl : decide ((k : Int) < (n : Int) - 1) = true := ltT (by omega)
          have TO : Hid (toP es T k = min un T) := by unfold Hid toP; rw [if_pos (by rw [LN.out]; exact hla), UK.out]
          clear hla UK
          have g1 := Gr.alloc wr (.cells #[.int .i64 eo, .string ru, .int .i64 sv, .string fm, .int .i64 un] 59)
          have g2 := g1.alloc' (.cells #[.int .i64 (rfP es F T k), .int .i64 T] 28)
          have g3 := g1.alloc' (.cells #[.int .i64 (rfP es F T k), .int .i64 (min un T)] 28)
          have a0 : (wr.alloc (.cells #[.int .i64 eo, .string ru, .int .i64 sv, .string fm, .int .i64 un] 59)).cell? ⟨qr, 0, none⟩ = some (.int .i64 (rfP es F T k)) := bcell_row (bheap_gr g1 hrs.out) rfl
          have a1 : (wr.alloc (.cells #[.int .i64 eo, .string ru, .int .i64 sv, .string fm, .int .i64 un] 59)).cell? ⟨qr, 1, none⟩ = some (.int .i64 T) := bcell_row (bheap_gr g1 hrs.out) rfl
          have z0 : ((wr.alloc (.cells #[.int .i64 eo, .string ru, .int .i64 sv, .string fm, .int .i64 un] 59)).alloc (.cells #[.int .i64 (rfP es F T k), .int .i64 T] 28)).cell? ⟨qz, 0, none⟩ = some (.string znm) := bcell_row (bheap_gr g2 HZr.out) rfl
          have z1 : ((wr.alloc (.cells #[.int .i64 eo, .string ru, .int .i64 sv, .string fm, .int .i64 un] 59)).alloc (.cells #[.int .i64 (rfP es F T k), .int .i64 T] 28)).cell? ⟨qz, 1, none⟩ = some (.slice (some ⟨b, off, none⟩) n zc) := bcell_row (bheap_gr g2 HZr.out) rfl
          have d0 : ((wr.alloc (.cells #[.int .i64 eo, .string ru, .int .i64 sv, .string fm, .int .i64 un] 59)).alloc (.cells #[.int .i64 (rfP es F T k), .int .i64 T] 28)).cell? ⟨qr, 0, none⟩ = some (.int .i64 (rfP es F T k)) := bcell_row (bheap_gr g2 hrs.out) rfl
          have d1 : ((wr.alloc (.cells #[.int .i64 eo, .string ru, .int .i64 sv, .string fm, .int .i64 un] 59)).alloc (.cells #[.int .i64 (rfP es F T k), .int .i64 T] 28)).cell? ⟨qr, 1, none⟩ = some (.int .i64 T) := bcell_row (bheap_gr g2 hrs.out) rfl
          have x0 : ((wr.alloc (.cells #[.int .i64 eo, .string ru, .int .i64 sv, .string fm, .int .i64 un] 59)).alloc (.cells #[.int .i64 (rfP es F T k), .int .i64 (min un T)] 28)).cell? ⟨q, 0, none⟩ = some (.slice Ar rs.length cr) := bcell_row (bheap_gr g3 HBr.out) rfl
          have x1 : ((wr.alloc (.cells #[.int .i64 eo, .string ru, .int .i64 sv, .string fm, .int .i64 un] 59)).alloc (.cells #[.int .i64 (rfP es F T k), .int .i64 (min un T)] 28)).cell? ⟨q, 1, none⟩ = some (.slice Az zs.length cz) := bcell_row (bheap_gr g3 HBr.out) rfl
          have x2 : ((wr.alloc (.cells #[.int .i64 eo, .string ru, .int .i64 sv, .string fm, .int .i64 un] 59)).alloc (.cells #[.int .i64 (rfP es F T k), .int .i64 (min un T)] 28)).cell? ⟨q, 2, none⟩ = some (.slice Al ls.length cl) := bcell_row (bheap_gr g3 HBr.out) rfl
          have B6 := Lib.hid (box_two wr (.cells #[.int .i64 eo, .string ru, .int .i64 sv, .string fm, .int .i64 un] 59) (.cells #[.int .i64 (rfP es F T k), .int .i64 (min un T)] 28))
          clear g1 g2 g3
          go_wp2_with fail
          clear c0 c1 c2 c3 c4 a0 a1 z0 z1 x0 x1 x2 tl d0 d1
          have HM6 := Lib.hid ((HM.out.also hrs.out (by decide) (by decide) (by decide)).more B6.out.1)
          have HR6 := Lib.hid (bheap_gr B6.out.1 HRr.out)
          have HQ6 := Lib.hid (bheap_gr B6.out.1 hrs.out)
          have G6 := Lib.hid (GWR.out.trans B6.out.1)
          have KP6 := Lib.hid (hkp.out.gr B6.out.1 HM.out.xl)
          generalize ((wr.alloc (.cells #[.int .i64 eo, .string ru, .int .i64 sv, .string fm, .int .i64 un] 59)).alloc (.cells #[.int .i64 (rfP es F T k), .int .i64 (min un T)] 28)) = w6 at B6 HM6 HR6 HQ6 G6 KP6 ⊢
          have XP0 : Hid (wr.heap.size ≤ wr.heap.size + 1 ∧ wr.heap.size + 1 < w6.heap.size) := ⟨Nat.le_succ _, (Array.getElem?_eq_some_iff.1 B6.out.2.2).1⟩
          obtain ⟨X2, hX2⟩ : ∃ X2 : Nat → Prop, (fun j => (X j ∨ j = qr) ∨ (wr.heap.size ≤ j ∧ j < w6.heap.size)) = X2 := ⟨_, rfl⟩
          rw [hX2] at HM6
          have XS : Hid (∀ j, X j → X2 j) := fun j hj => by rw [← hX2]; exact Or.inl (Or.inl hj)
          have XSR : Hid (X2 qr) := by rw [← hX2]; exact Or.inl (Or.inr rfl)
          have XSP : Hid (X2 (wr.heap.size + 1)) := by rw [← hX2]; exact Or.inr XP0.out
          have HP6 := Lib.hid B6.out.2.2
          clear hX2 XP0 B6 HM
          generalize wr.heap.size + 1 = qp at XSP HP6 ⊢
          refine (paddEra X2 (qm + 1) qm (pst (locT rs zs ls es) PS.zero (pN rs zs ls es F T k)) Ar cr rs zs ls ⟨eo, ru, sv, fm, un⟩ (rfP es F T k) (min un T) w6 vt vc HM6.out (RU.out w6 G6.out) BC.out EA.out EI.out (G6.out.bk BT.out) (XS.out _ (XI.out _ ML.out)) TK.out SL1.out.1 SL1.out.2).mono ?_
          rintro e w7 ⟨rfl, hma, kp⟩
          have HMA := Lib.hid hma
          have KP7 := Lib.hid (KP6.out.trans (kp.less XS.out))
          have HR7 := Lib.hid (kp.heap (XS.out _ XR.out) HR6.out)
          have HQ7 := Lib.hid (kp.heap XSR.out HQ6.out)
          have HP7 := Lib.hid (kp.heap XSP.out HP6.out)
          clear hma kp HM6 HR6 HQ6 HP6 KP6 hrs hkp HBr HZr HRr GWR G6 SL1
          by_cases hK : eraK rs zs ls ⟨eo, ru, sv, fm, un⟩ = 0
          · have tk := bneF hK
            have HK := Lib.hid hK
            have FE := Lib.hid (fe_step hfe.out (GK.out.trans hK))
            obtain ⟨vt8, vc8, hm8⟩ := HMA.out hK
            have HM8 : Hid (MAt 46 44 66 X (qm + 1) qm (w7.setCell ⟨qr, 0, none⟩ (.int .i64 (max (min un T) (rfP es F T k)))) (pst (locT rs zs ls es) PS.zero (pN rs zs ls es F T (k + 1))).ty (pst (locT rs zs ls es) PS.zero (pN rs zs ls es F T (k + 1))) vt8 vc8) := by rw [STP.out, TO.out]; exact (hm8.less XS.out).far HQ7.out (by decide) (by decide) (by decide) _
            have HQ8 : Hid ((w7.setCell ⟨qr, 0, none⟩ (.int .i64 (max (min un T) (rfP es F T k)))).heap[qr]? = some (.cells #[.int .i64 (rfP es F T (k + 1)), .int .i64 T] 28 (0, 0))) := by rw [rfP_step, TO.out]; exact heap_setCell_same w7 qr 0 _ 28 _ HQ7.out
            have KP8 := Lib.hid (KP7.out.set (p := ⟨qr, 0, none⟩) NXR.out (.int .i64 (max (min un T) (rfP es F T k))))
            clear hm8 HMA STP
            have p0 : w7.cell? ⟨qp, 0, none⟩ = some (.int .i64 (rfP es F T k)) := bcell_row HP7.out rfl
            have p1 : w7.cell? ⟨qp, 1, none⟩ = some (.int .i64 (min un T)) := bcell_row HP7.out rfl
            have a0 : w7.cell? ⟨qr, 0, none⟩ = some (.int .i64 (rfP es F T k)) := bcell_row HQ7.out rfl
            have a1 : w7.cell? ⟨qr, 1, none⟩ = some (.int .i64 T) := bcell_row HQ7.out rfl
            have af0 : w7.frozen? ⟨qr, 0, none⟩ = false := unfrozen HQ7.out
            have af1 : w7.frozen? ⟨qr, 1, none⟩ = false := unfrozen HQ7.out
            rw [hK]
            clear hK
            go_wp2_with fail
            go_roundw
            case rel => exact ⟨k + 1, by omega, by go_num, ⟨_, _, HM8.out⟩, HQ8.out, KP8.out, FE.out⟩
            case measure => simp [intOf]; omega
          · have tk := bneT hK
            have EX := Lib.hid (fun W (g' : Gr w W) => mkE_no (F := F) (T := T) (nm := nm) (mkC_era H0.out TM.out.1 TM.out.2.1 TM.out.2.2 (by rw [EH.out, EF.out, fe_hit hfe.out (by rw [GK.out]; exact hK) n hlt, GK.out]; exact hK)) (by rw [EH.out, EF.out, fe_hit hfe.out (by rw [GK.out]; exact hK) n hlt, GK.out]; exact hK) g')
            have EC : eraF rs zs ls (erasN zs ls nm) = eraK rs zs ls ⟨eo, ru, sv, fm, un⟩ := by rw [EH.out, EF.out, fe_hit hfe.out (by rw [GK.out]; exact hK) n hlt, GK.out]
            rw [EC] at EX
            have G7 := Lib.hid (KP7.out.out G5.out XI.out)
            clear EC hK HMA STP GK
            generalize eraK rs zs ls ⟨eo, ru, sv, fm, un⟩ = C at EX tk ⊢
            have r0 : w7.cell? ⟨q + 1 + 1, 0, none⟩ = some (.slice none 0 0) := bcell_row HR7.out rfl
            have r1 : w7.cell? ⟨q + 1 + 1, 1, none⟩ = some (.int .i64 0) := bcell_row HR7.out rfl
            have r2 : w7.cell? ⟨q + 1 + 1, 2, none⟩ = some (.slice none 0 0) := bcell_row HR7.out rfl
            have rf0 : w7.frozen? ⟨q + 1 + 1, 0, none⟩ = false := unfrozen HR7.out
            have rf1 : w7.frozen? ⟨q + 1 + 1, 1, none⟩ = false := unfrozen HR7.out
            have rf2 : w7.frozen? ⟨q + 1 + 1, 2, none⟩ = false := unfrozen HR7.out
            have s0 : (((w7.setCell ⟨q + 1 + 1, 0, none⟩ (.slice none 0 0)).setCell ⟨q + 1 + 1, 1, none⟩ (.int .i64 0)).setCell ⟨q + 1 + 1, 2, none⟩ (.slice none 0 0)).cell? ⟨q + 1 + 1, 0, none⟩ = some (.slice none 0 0) := bcell_row (st3 HR7.out (.slice none 0 0) (.int .i64 0) (.slice none 0 0)) rfl
            have s1 : (((w7.setCell ⟨q + 1 + 1, 0, none⟩ (.slice none 0 0)).setCell ⟨q + 1 + 1, 1, none⟩ (.int .i64 0)).setCell ⟨q + 1 + 1, 2, none⟩ (.slice none 0 0)).cell? ⟨q + 1 + 1, 1, none⟩ = some (.int .i64 0) := bcell_row (st3 HR7.out (.slice none 0 0) (.int .i64 0) (.slice none 0 0)) rfl
            have s2 : (((w7.setCell ⟨q + 1 + 1, 0, none⟩ (.slice none 0 0)).setCell ⟨q + 1 + 1, 1, none⟩ (.int .i64 0)).setCell ⟨q + 1 + 1, 2, none⟩ (.slice none 0 0)).cell? ⟨q + 1 + 1, 2, none⟩ = some (.slice none 0 0) := bcell_row (st3 HR7.out (.slice none 0 0) (.int .i64 0) (.slice none 0 0)) rfl
            go_wp2_with fail
            exact bodyPost_ret (v := .tuple #[.agg #[.slice none 0 0, .int .i64 0, .slice none 0 0], .int .i64 C]) (by simp [results, Tryz.results9, go_sem, s0, s1, s2]) rfl (EX.out _ (st3_below G7.out NQ.out (.slice none 0 0) (.int .i64 0) (.slice none 0 0)))
        · have tl : decide ((k : Int) < (n : Int) - 1) = false := ltF (by omega)
          have TO : Hid (toP es T k = T) := by unfold Hid toP; rw [if_neg (by rw [LN.out]; exact hla)]
          clear hla UK
          have g1 := Gr.alloc wr (.cells #[.int .i64 eo, .string ru, .int .i64 sv, .string fm, .int .i64 un] 59)
          have g2 := g1.alloc' (.cells #[.int .i64 (rfP es F T k), .int .i64 T] 28)
          have g3 := g1.alloc' (.cells #[.int .i64 (rfP es F T k), .int .i64 T] 28)
          have a0 : (wr.alloc (.cells #[.int .i64 eo, .string ru, .int .i64 sv, .string fm, .int .i64 un] 59)).cell? ⟨qr, 0, none⟩ = some (.int .i64 (rfP es F T k)) := bcell_row (bheap_gr g1 hrs.out) rfl
          have a1 : (wr.alloc (.cells #[.int .i64 eo, .string ru, .int .i64 sv, .string fm, .int .i64 un] 59)).cell? ⟨qr, 1, none⟩ = some (.int .i64 T) := bcell_row (bheap_gr g1 hrs.out) rfl
          have z0 : ((wr.alloc (.cells #[.int .i64 eo, .string ru, .int .i64 sv, .string fm, .int .i64 un] 59)).alloc (.cells #[.int .i64 (rfP es F T k), .int .i64 T] 28)).cell? ⟨qz, 0, none⟩ = some (.string znm) := bcell_row (bheap_gr g2 HZr.out) rfl
          have z1 : ((wr.alloc (.cells #[.int .i64 eo, .string ru, .int .i64 sv, .string fm, .int .i64 un] 59)).alloc (.cells #[.int .i64 (rfP es F T k), .int .i64 T] 28)).cell? ⟨qz, 1, none⟩ = some (.slice (some ⟨b, off, none⟩) n zc) := bcell_row (bheap_gr g2 HZr.out) rfl
          have x0 : ((wr.alloc (.cells #[.int .i64 eo, .string ru, .int .i64 sv, .string fm, .int .i64 un] 59)).alloc (.cells #[.int .i64 (rfP es F T k), .int .i64 T] 28)).cell? ⟨q, 0, none⟩ = some (.slice Ar rs.length cr) := bcell_row (bheap_gr g3 HBr.out) rfl
          have x1 : ((wr.alloc (.cells #[.int .i64 eo, .string ru, .int .i64 sv, .string fm, .int .i64 un] 59)).alloc (.cells #[.int .i64 (rfP es F T k), .int .i64 T] 28)).cell? ⟨q, 1, none⟩ = some (.slice Az zs.length cz) := bcell_row (bheap_gr g3 HBr.out) rfl
          have x2 : ((wr.alloc (.cells #[.int .i64 eo, .string ru, .int .i64 sv, .string fm, .int .i64 un] 59)).alloc (.cells #[.int .i64 (rfP es F T k), .int .i64 T] 28)).cell? ⟨q, 2, none⟩ = some (.slice Al ls.length cl) := bcell_row (bheap_gr g3 HBr.out) rfl
          have B6 := Lib.hid (box_two wr (.cells #[.int .i64 eo, .string ru, .int .i64 sv, .string fm, .int .i64 un] 59) (.cells #[.int .i64 (rfP es F T k), .int .i64 T] 28))
          clear g1 g2 g3
          go_wp2_with fail
          clear c0 c1 c2 c3 c4 a0 a1 z0 z1 x0 x1 x2 tl
          have HM6 := Lib.hid ((HM.out.also hrs.out (by decide) (by decide) (by decide)).more B6.out.1)
          have HR6 := Lib.hid (bheap_gr B6.out.1 HRr.out)
          have HQ6 := Lib.hid (bheap_gr B6.out.1 hrs.out)
          have G6 := Lib.hid (GWR.out.trans B6.out.1)
          have KP6 := Lib.hid (hkp.out.gr B6.out.1 HM.out.xl)
          generalize ((wr.alloc (.cells #[.int .i64 eo, .string ru, .int .i64 sv, .string fm, .int .i64 un] 59)).alloc (.cells #[.int .i64 (rfP es F T k), .int .i64 T] 28)) = w6 at B6 HM6 HR6 HQ6 G6 KP6 ⊢
          have XP0 : Hid (wr.heap.size ≤ wr.heap.size + 1 ∧ wr.heap.size + 1 < w6.heap.size) := ⟨Nat.le_succ _, (Array.getElem?_eq_some_iff.1 B6.out.2.2).1⟩
          obtain ⟨X2, hX2⟩ : ∃ X2 : Nat → Prop, (fun j => (X j ∨ j = qr) ∨ (wr.heap.size ≤ j ∧ j < w6.heap.size)) = X2 := ⟨_, rfl⟩
          rw [hX2] at HM6
          have XS : Hid (∀ j, X j → X2 j) := fun j hj => by rw [← hX2]; exact Or.inl (Or.inl hj)
          have XSR : Hid (X2 qr) := by rw [← hX2]; exact Or.inl (Or.inr rfl)
          have XSP : Hid (X2 (wr.heap.size + 1)) := by rw [← hX2]; exact Or.inr XP0.out
          have HP6 := Lib.hid B6.out.2.2
          clear hX2 XP0 B6 HM
          generalize wr.heap.size + 1 = qp at XSP HP6 ⊢
          refine (paddEra X2 (qm + 1) qm (pst (locT rs zs ls es) PS.zero (pN rs zs ls es F T k)) Ar cr rs zs ls ⟨eo, ru, sv, fm, un⟩ (rfP es F T k) T w6 vt vc HM6.out (RU.out w6 G6.out) BC.out EA.out EI.out (G6.out.bk BT.out) (XS.out _ (XI.out _ ML.out)) TK.out SL1.out.1 SL1.out.2).mono ?_
          rintro e w7 ⟨rfl, hma, kp⟩
          have HMA := Lib.hid hma
          have KP7 := Lib.hid (KP6.out.trans (kp.less XS.out))
          have HR7 := Lib.hid (kp.heap (XS.out _ XR.out) HR6.out)
          have HQ7 := Lib.hid (kp.heap XSR.out HQ6.out)
          have HP7 := Lib.hid (kp.heap XSP.out HP6.out)
          clear hma kp HM6 HR6 HQ6 HP6 KP6 hrs hkp HBr HZr HRr GWR G6 SL1
          by_cases hK : eraK rs zs ls ⟨eo, ru, sv, fm, un⟩ = 0
          · have tk := bneF hK
            have HK := Lib.hid hK
            have FE := Lib.hid (fe_step hfe.out (GK.out.trans hK))
            obtain ⟨vt8, vc8, hm8⟩ := HMA.out hK
            have HM8 : Hid (MAt 46 44 66 X (qm + 1) qm (w7.setCell ⟨qr, 0, none⟩ (.int .i64 (max T (rfP es F T k)))) (pst (locT rs zs ls es) PS.zero (pN rs zs ls es F T (k + 1))).ty (pst (locT rs zs ls es) PS.zero (pN rs zs ls es F T (k + 1))) vt8 vc8) := by rw [STP.out, TO.out]; exact (hm8.less XS.out).far HQ7.out (by decide) (by decide) (by decide) _
            have HQ8 : Hid ((w7.setCell ⟨qr, 0, none⟩ (.int .i64 (max T (rfP es F T k)))).heap[qr]? = some (.cells #[.int .i64 (rfP es F T (k + 1)), .int .i64 T] 28 (0, 0))) := by rw [rfP_step, TO.out]; exact heap_setCell_same w7 qr 0 _ 28 _ HQ7.out
            have KP8 := Lib.hid (KP7.out.set (p := ⟨qr, 0, none⟩) NXR.out (.int .i64 (max T (rfP es F T k))))
            clear hm8 HMA STP
            have p0 : w7.cell? ⟨qp, 0, none⟩ = some (.int .i64 (rfP es F T k)) := bcell_row HP7.out rfl
            have p1 : w7.cell? ⟨qp, 1, none⟩ = some (.int .i64 T) := bcell_row HP7.out rfl
            have a0 : w7.cell? ⟨qr, 0, none⟩ = some (.int .i64 (rfP es F T k)) := bcell_row HQ7.out rfl
            have a1 : w7.cell? ⟨qr, 1, none⟩ = some (.int .i64 T) := bcell_row HQ7.out rfl
            have af0 : w7.frozen? ⟨qr, 0, none⟩ = false := unfrozen HQ7.out
            have af1 : w7.frozen? ⟨qr, 1, none⟩ = false := unfrozen HQ7.out
            rw [hK]
            clear hK
            go_wp2_with fail
            go_roundw
            case rel => exact ⟨k + 1, by omega, by go_num, ⟨_, _, HM8.out⟩, HQ8.out, KP8.out, FE.out⟩
            case measure => simp [intOf]; omega
          · have tk := bneT hK
            have EX := Lib.hid (fun W (g' : Gr w W) => mkE_no (F := F) (T := T) (nm := nm) (mkC_era H0.out TM.out.1 TM.out.2.1 TM.out.2.2 (by rw [EH.out, EF.out, fe_hit hfe.out (by rw [GK.out]; exact hK) n hlt, GK.out]; exact hK)) (by rw [EH.out, EF.out, fe_hit hfe.out (by rw [GK.out]; exact hK) n hlt, GK.out]; exact hK) g')
            have EC : eraF rs zs ls (erasN zs ls nm) = eraK rs zs ls ⟨eo, ru, sv, fm, un⟩ := by rw [EH.out, EF.out, fe_hit hfe.out (by rw [GK.out]; exact hK) n hlt, GK.out]
            rw [EC] at EX
            have G7 := Lib.hid (KP7.out.out G5.out XI.out)
            clear EC hK HMA STP GK
            generalize eraK rs zs ls ⟨eo, ru, sv, fm, un⟩ = C at EX tk ⊢
            have r0 : w7.cell? ⟨q + 1 + 1, 0, none⟩ = some (.slice none 0 0) := bcell_row HR7.out rfl
            have r1 : w7.cell? ⟨q + 1 + 1, 1, none⟩ = some (.int .i64 0) := bcell_row HR7.out rfl
            have r2 : w7.cell? ⟨q + 1 + 1, 2, none⟩ = some (.slice none 0 0) := bcell_row HR7.out rfl
            have rf0 : w7.frozen? ⟨q + 1 + 1, 0, none⟩ = false := unfrozen HR7.out
            have rf1 : w7.frozen? ⟨q + 1 + 1, 1, none⟩ = false := unfrozen HR7.out
            have rf2 : w7.frozen? ⟨q + 1 + 1, 2, none⟩ = false := unfrozen HR7.out
            have s0 : (((w7.setCell ⟨q + 1 + 1, 0, none⟩ (.slice none 0 0)).setCell ⟨q + 1 + 1, 1, none⟩ (.int .i64 0)).setCell ⟨q + 1 + 1, 2, none⟩ (.slice none 0 0)).cell? ⟨q + 1 + 1, 0, none⟩ = some (.slice none 0 0) := bcell_row (st3 HR7.out (.slice none 0 0) (.int .i64 0) (.slice none 0 0)) rfl
            have s1 : (((w7.setCell ⟨q + 1 + 1, 0, none⟩ (.slice none 0 0)).setCell ⟨q + 1 + 1, 1, none⟩ (.int .i64 0)).setCell ⟨q + 1 + 1, 2, none⟩ (.slice none 0 0)).cell? ⟨q + 1 + 1, 1, none⟩ = some (.int .i64 0) := bcell_row (st3 HR7.out (.slice none 0 0) (.int .i64 0) (.slice none 0 0)) rfl
            have s2 : (((w7.setCell ⟨q + 1 + 1, 0, none⟩ (.slice none 0 0)).setCell ⟨q + 1 + 1, 1, none⟩ (.int .i64 0)).setCell ⟨q + 1 + 1, 2, none⟩ (.slice none 0 0)).cell? ⟨q + 1 + 1, 2, none⟩ = some (.slice none 0 0) := bcell_row (st3 HR7.out (.slice none 0 0) (.int .i64 0) (.slice none 0 0)) rfl
            go_wp2_with fail
            exact bodyPost_ret (v := .tuple #[.agg #[.slice none 0 0, .int .i64 0, .slice none 0 0], .int .i64 C]) (by simp [results, Tryz.results9, go_sem, s0, s1, s2]) rfl (EX.out _ (st3_below G7.out NQ.out (.slice none 0 0) (.int .i64 0) (.slice none 0 0)))
      · obtain rfl : k = n := by omega
        obtain ⟨vt, vc, hm⟩ := hma.out
        have HM := Lib.hid hm
        have E0 : Hid (eraF rs zs ls es = 0) := EF.out.trans hfe.out
        have PT := pst_tab (rs := rs) (zs := zs) (ls := ls) (F := F) UN.out (by rw [LN.out]; exact n1) TM.out.2.2
        rw [LN.out] at PT
        have TYE : Hid ((mkT rs zs ls nm F T).ty = (pst (locT rs zs ls es) PS.zero (pN rs zs ls es F T k)).ty) := by unfold Hid mkT; rw [EH.out]; exact PT.1.symm
        have CHE : Hid ((mkT rs zs ls nm F T).chs = (pst (locT rs zs ls es) PS.zero (pN rs zs ls es F T k)).chs) := by unfold Hid mkT BlS.chs PS.chs; rw [EH.out, PT.2]
        have CHL : Hid ((pst (locT rs zs ls es) PS.zero (pN rs zs ls es F T k)).chs.length = (mkT rs zs ls nm F T).ch.length) := by unfold Hid mkT PS.chs; rw [EH.out, PT.2, List.length_map]
        have HRr := Lib.hid (hkp.out.heap XR.out HR5.out)
        have GWR := Lib.hid (hkp.out.out G5.out XI.out)
        have KPR := Lib.hid hkp.out
        clear PT hma hm hrs hfe hkp hlt
        generalize (pst (locT rs zs ls es) PS.zero (pN rs zs ls es F T k)) = s at HM TYE CHE CHL
        obtain ⟨A1, m1, rfl, p1, p2, _⟩ := HM.out.ot.form
        obtain ⟨A2, m2, rfl, p3, p4, _⟩ := HM.out.oc.form
        have SO := Lib.hid (And.intro (And.intro p1 p2) (And.intro p3 p4))
        clear p1 p2 p3 p4
        have x0 : wr.cell? ⟨qm + 1, 0, none⟩ = some (.slice A1 s.ty.length m1) := bcell_row HM.out.blk rfl
        have x1 : wr.cell? ⟨qm + 1, 1, none⟩ = some (.int .i64 0) := bcell_row HM.out.blk rfl
        have x2 : wr.cell? ⟨qm + 1, 2, none⟩ = some (.slice A2 s.chs.length m2) := bcell_row HM.out.blk rfl
        have x3 : wr.cell? ⟨qm + 1, 3, none⟩ = some (.map (some qm)) := bcell_row HM.out.blk rfl
        have x4 : wr.cell? ⟨qm + 1, 4, none⟩ = some (.int .i64 (s.la : Int)) := bcell_row HM.out.blk rfl
        go_wp2_with fail
        clear x0 x1 x2 x3 x4
        refine (pisLarge A1 A2 s.ty.length s.chs.length m1 m2 0 wr).mono ?_
        rintro e w9 ⟨rfl, g9⟩
        have G9 := Lib.hid (GWR.out.trans g9)
        have HM9 := Lib.hid (HM.out.grow g9)
        have HR9 := Lib.hid (bheap_gr g9 HRr.out)
        clear g9 HM GWR HRr KPR
        cases hl : lgB s.ty.length s.chs.length with
        | true =>
          have EX := Lib.hid (fun W (g : Gr w W) => mkE_no (rs := rs) (zs := zs) (ls := ls) (nm := nm) (F := F) (T := T) (C := 2) (by
            unfold mkC
            have q1 : ¬ (tmB F = false ∨ tmB T = false ∨ T ≤ F) := by have := TM.out.2.2; simp [TM.out.1, TM.out.2.1]; omega
            rw [if_neg (by simp [H0.out]), if_neg q1, EH.out, if_neg (by simp [E0.out]), if_pos]
            rw [TYE.out, ← CHL.out]
            by_cases c : 250 < s.ty.length ∨ 1000 < s.chs.length
            · exact c
            · rw [lgB_no.2 (by omega)] at hl; cases hl) (by decide) g)
          clear hl
          have r0 : w9.cell? ⟨q + 1 + 1, 0, none⟩ = some (.slice none 0 0) := bcell_row HR9.out rfl
          have r1 : w9.cell? ⟨q + 1 + 1, 1, none⟩ = some (.int .i64 0) := bcell_row HR9.out rfl
          have r2 : w9.cell? ⟨q + 1 + 1, 2, none⟩ = some (.slice none 0 0) := bcell_row HR9.out rfl
          have rf0 : w9.frozen? ⟨q + 1 + 1, 0, none⟩ = false := unfrozen HR9.out
          have rf1 : w9.frozen? ⟨q + 1 + 1, 1, none⟩ = false := unfrozen HR9.out
          have rf2 : w9.frozen? ⟨q + 1 + 1, 2, none⟩ = false := unfrozen HR9.out
          have s0 : (((w9.setCell ⟨q + 1 + 1, 0, none⟩ (.slice none 0 0)).setCell ⟨q + 1 + 1, 1, none⟩ (.int .i64 0)).setCell ⟨q + 1 + 1, 2, none⟩ (.slice none 0 0)).cell? ⟨q + 1 + 1, 0, none⟩ = some (.slice none 0 0) := bcell_row (st3 HR9.out (.slice none 0 0) (.int .i64 0) (.slice none 0 0)) rfl
          have s1 : (((w9.setCell ⟨q + 1 + 1, 0, none⟩ (.slice none 0 0)).setCell ⟨q + 1 + 1, 1, none⟩ (.int .i64 0)).setCell ⟨q + 1 + 1, 2, none⟩ (.slice none 0 0)).cell? ⟨q + 1 + 1, 1, none⟩ = some (.int .i64 0) := bcell_row (st3 HR9.out (.slice none 0 0) (.int .i64 0) (.slice none 0 0)) rfl
          have s2 : (((w9.setCell ⟨q + 1 + 1, 0, none⟩ (.slice none 0 0)).setCell ⟨q + 1 + 1, 1, none⟩ (.int .i64 0)).setCell ⟨q + 1 + 1, 2, none⟩ (.slice none 0 0)).cell? ⟨q + 1 + 1, 2, none⟩ = some (.slice none 0 0) := bcell_row (st3 HR9.out (.slice none 0 0) (.int .i64 0) (.slice none 0 0)) rfl
          go_wp2_with fail
          exact bodyPost_ret (v := .tuple #[.agg #[.slice none 0 0, .int .i64 0, .slice none 0 0], .int .i64 2]) (by simp [results, Tryz.results9, go_sem, s0, s1, s2]) rfl (EX.out _ (st3_below G9.out NQ.out (.slice none 0 0) (.int .i64 0) (.slice none 0 0)))
        | false =>
          have LO := lgB_no.1 hl
          have M0 : Hid (mkC rs zs ls nm F T = 0) := mkC_zero.2 ⟨H0.out, TM.out, by rw [EH.out]; exact E0.out, by rw [TYE.out]; exact LO.1, by rw [← CHL.out]; exact LO.2⟩
          have CI := Lib.hid (chs_in (nm := nm) M0.out)
          rw [CHE.out] at CI
          clear hl LO
          have x0 : w9.cell? ⟨qm + 1, 0, none⟩ = some (.slice A1 s.ty.length m1) := bcell_row HM9.out.blk rfl
          have x1 : w9.cell? ⟨qm + 1, 1, none⟩ = some (.int .i64 0) := bcell_row HM9.out.blk rfl
          have x2 : w9.cell? ⟨qm + 1, 2, none⟩ = some (.slice A2 s.chs.length m2) := bcell_row HM9.out.blk rfl
          have x3 : w9.cell? ⟨qm + 1, 3, none⟩ = some (.map (some qm)) := bcell_row HM9.out.blk rfl
          have x4 : w9.cell? ⟨qm + 1, 4, none⟩ = some (.int .i64 (s.la : Int)) := bcell_row HM9.out.blk rfl
          have r0 : w9.cell? ⟨q + 1 + 1, 0, none⟩ = some (.slice none 0 0) := bcell_row HR9.out rfl
          have r1 : w9.cell? ⟨q + 1 + 1, 1, none⟩ = some (.int .i64 0) := bcell_row HR9.out rfl
          have r2 : w9.cell? ⟨q + 1 + 1, 2, none⟩ = some (.slice none 0 0) := bcell_row HR9.out rfl
          have rf0 : w9.frozen? ⟨q + 1 + 1, 0, none⟩ = false := unfrozen HR9.out
          have rf1 : w9.frozen? ⟨q + 1 + 1, 1, none⟩ = false := unfrozen HR9.out
          have rf2 : w9.frozen? ⟨q + 1 + 1, 2, none⟩ = false := unfrozen HR9.out
          have s0 : (((w9.setCell ⟨q + 1 + 1, 0, none⟩ (.slice A1 s.ty.length m1)).setCell ⟨q + 1 + 1, 1, none⟩ (.int .i64 0)).setCell ⟨q + 1 + 1, 2, none⟩ (.slice A2 s.chs.length m2)).cell? ⟨q + 1 + 1, 0, none⟩ = some (.slice A1 s.ty.length m1) := bcell_row (st3 HR9.out (.slice A1 s.ty.length m1) (.int .i64 0) (.slice A2 s.chs.length m2)) rfl
          have s1 : (((w9.setCell ⟨q + 1 + 1, 0, none⟩ (.slice A1 s.ty.length m1)).setCell ⟨q + 1 + 1, 1, none⟩ (.int .i64 0)).setCell ⟨q + 1 + 1, 2, none⟩ (.slice A2 s.chs.length m2)).cell? ⟨q + 1 + 1, 1, none⟩ = some (.int .i64 0) := bcell_row (st3 HR9.out (.slice A1 s.ty.length m1) (.int .i64 0) (.slice A2 s.chs.length m2)) rfl
          have s2 : (((w9.setCell ⟨q + 1 + 1, 0, none⟩ (.slice A1 s.ty.length m1)).setCell ⟨q + 1 + 1, 1, none⟩ (.int .i64 0)).setCell ⟨q + 1 + 1, 2, none⟩ (.slice A2 s.chs.length m2)).cell? ⟨q + 1 + 1, 2, none⟩ = some (.slice A2 s.chs.length m2) := bcell_row (st3 HR9.out (.slice A1 s.ty.length m1) (.int .i64 0) (.slice A2 s.chs.length m2)) rfl
          go_wp2_with fail
          have NT := row_apart HM9.out.ot HR9.out (by decide)
          have NC := row_apart HM9.out.oc HR9.out (by decide)
          exact bodyPost_ret (v := .tuple #[.agg #[.slice A1 s.ty.length m1, .int .i64 0, .slice A2 s.chs.length m2], .int .i64 0]) (by simp [results, Tryz.results9, go_sem, s0, s1, s2]) rfl (mkE_yes M0.out TYE.out CHE.out ⟨SO.out.1, (row_far (row_far (row_far HM9.out.ot _ NT) _ NT) _ NT).row ty_len, HM9.out.ti⟩ ⟨SO.out.2, (row_far (row_far (row_far HM9.out.oc _ NC) _ NC) _ NC).row ch_len, CI.out⟩ (st3_below G9.out NQ.out (.slice A1 s.ty.length m1) (.int .i64 0) (.slice A2 s.chs.length m2)))
end Go.Proofs.YtkmgildnhnjepaaGreatDoor
