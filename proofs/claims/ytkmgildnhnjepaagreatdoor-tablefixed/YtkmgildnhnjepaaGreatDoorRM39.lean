/- The project's At of package table. -/
import Derived.Test.YtkmgildnhnjepaaGreatDoorRM37
import Derived.Test.YtkmgildnhnjepaaGreatDoorRM30
import Derived.Test.YtkmgildnhnjepaaGreatDoorRM38
namespace Go.Proofs.YtkmgildnhnjepaaGreatDoor
set_option linter.unusedVariables false
set_option linter.unusedSimpArgs false
open Go.Shelf Go.RowKit Go.Lib Go.Sort
/-- changes as transitions -/
def tursC (ch : List ChaD) : List TurD := ch.map fun c => ⟨c.at', c.ty, .empty⟩
theorem tursC_at {ch : List ChaD} {k : Nat} {c : ChaD} (h : ch[k]? = some c) : (tursC ch)[k]? = some ⟨c.at', c.ty, .empty⟩ := by unfold tursC; rw [List.getElem?_map, h]; rfl
theorem tursC_len (ch : List ChaD) : (tursC ch).length = ch.length := by unfold tursC; simp
theorem tursC_rise {n : Nat} {ch : List ChaD} (h : fe (chC n ch) ch.length = 0) : Rise (tursC ch) := fun i x y hx hy => by
  have li : i < ch.length := by have := (List.getElem?_eq_some_iff.1 hx).1; rwa [tursC_len] at this
  have lj : i + 1 < ch.length := by have := (List.getElem?_eq_some_iff.1 hy).1; rwa [tursC_len] at this
  obtain ⟨a, ha⟩ := get_lt li
  obtain ⟨b, hb⟩ := get_lt lj
  rw [tursC_at ha] at hx
  rw [tursC_at hb] at hy
  injection hx with hx
  injection hy with hy
  subst hx; subst hy
  have := (chs_ok h hb).2.2
  rw [preB_succ _ ha] at this
  have := of_decide_eq_false this
  show a.at' < b.at'
  omega
theorem num_last {ch : List ChaD} (h : Rise (tursC ch)) (f t : Int) : ∀ k, k ≤ ch.length → numZ f (ch.take k) t = (lastP (f, .empty) (tursC ch) (min k (lateI (tursC ch) t))).1
  | 0, _ => by rw [Nat.zero_min, lastP_zero]; rfl
  | k + 1, hk => by
    obtain ⟨c, hc⟩ := get_lt (show k < ch.length by omega)
    rw [numZ_take hc]
    by_cases q : c.at' ≤ t
    · rw [if_pos q, lastP_yes h (tursC_at hc) q]
    · rw [if_neg q, lastP_no h (tursC_at hc) q]; exact num_last h f t k (by omega)
theorem num_late {ch : List ChaD} (h : Rise (tursC ch)) (f t : Int) : numZ f ch t = (lastP (f, .empty) (tursC ch) (lateI (tursC ch) t)).1 := by
  have e := num_last h f t ch.length (Nat.le_refl _)
  rw [List.take_length] at e
  rw [e]
  have := lateI_le (tursC ch) t
  rw [tursC_len] at this
  rw [show min ch.length (lateI (tursC ch) t) = lateI (tursC ch) t by omega]

set_option maxRecDepth 100000 in
set_option maxHeartbeats 8000000 in
theorem latC_any (q q2 : Nat) (A : Option Addr) (c : Nat) (L : List ChaD) (t : Int) (i : Nat) (x : ChaD) (hx : L[i]? = some x) (W : World) (h0 : W.cell? ⟨q, 2, none⟩ = some (.slice A L.length c)) (h1 : W.cell? ⟨q2, 0, none⟩ = some (.int .i64 t)) (hr : Row W 2 ChaD.cells A L) :
    Calls Tryz.prog 39 #[.int .i64 i, .pointer (some ⟨q, 0, none⟩), .pointer (some ⟨q2, 0, none⟩)] W fun e w' => e = .returned (.bool (decide (t < x.at'))) ∧ ∃ q os', w' = grow (W.drewN q) os' := by
  obtain ⟨xa, xs⟩ := x
  obtain ⟨b, off, rfl, c0, c1⟩ := Row.two hr hx rfl (Gr.refl W)
  have hlt := (List.getElem?_eq_some_iff.1 hx).1
  have l0 : (0 : Int) ≤ (i : Int) := by omega
  have l1 : (i : Int) < (L.length : Int) := by omega
  clear hr hx
  go_enter Tryz.func39, Tryz.ntmps39
  go_wp2_with fail
  go_quiet (fail)
  go_wp2_with fail
  go_ret
  exact ⟨rfl, _, #[], by rw [grow_empty]⟩

theorem count_latC (L : List ChaD) (t : Int) : (List.range L.length).countP (fun i => !decide (t < (L.toArray[i]!).at')) = lateI (tursC L) t := by
  have h := Lib.countP_range L.toArray (fun x => !decide (t < x.at'))
  rw [List.size_toArray] at h
  rw [h]
  unfold lateI tursC
  rw [List.countP_map]
  show List.countP _ L = _
  congr 1
  funext x
  show (!decide (t < x.at')) = decide (x.at' ≤ t)
  by_cases c : t < x.at'
  · rw [decide_eq_true c, decide_eq_false (by omega)]; rfl
  · rw [decide_eq_false c, decide_eq_true (by omega)]; rfl
theorem toArr_getC {L : List ChaD} {i : Nat} {x : ChaD} (h : L[i]? = some x) : L.toArray[i]! = x := by
  obtain ⟨h1, h2⟩ := List.getElem?_eq_some_iff.1 h
  rw [getElem!_pos L.toArray i (by simpa using h1)]
  simpa using h2

theorem searchC_any (q q2 : Nat) (A : Option Addr) (c : Nat) (L : List ChaD) (t : Int) (W : World) (h0 : W.cell? ⟨q, 2, none⟩ = some (.slice A L.length c)) (h1 : W.cell? ⟨q2, 0, none⟩ = some (.int .i64 t)) (hr : Row W 2 ChaD.cells A L) (hl : L.length ≤ 100000) (hs : Rise (tursC L)) :
    Calls Tryz.prog 38 #[.int .i64 L.length, .func (.func 39) #[] #[.pointer (some ⟨q, 0, none⟩), .pointer (some ⟨q2, 0, none⟩)]] W fun e w' => e = .returned (.int .i64 (lateI (tursC L) t)) ∧ Gr W w' := by
  have h := Any.sort_Search searchLay 39 #[.pointer (some ⟨q, 0, none⟩), .pointer (some ⟨q2, 0, none⟩)] L.length (fun i => decide (t < (L.toArray[i]!).at')) W (enters_of Tryz.func39 (by kernel_rfl) rfl) (by omega)
    (fun m os i hi => by
      obtain ⟨x, hx⟩ := get_lt hi
      have g : Gr W (grow (W.drewN m) os) := below_grown_sl _ W m os (Nat.le_refl _)
      have := latC_any q q2 A c L t i x hx _ (g.holds h0) (g.holds h1) (hr.gr g)
      rw [toArr_getC hx]
      exact this)
    (fun a b hab hb ha => by
      obtain ⟨x, hx⟩ := get_lt (show a < L.length by omega)
      obtain ⟨y, hy⟩ := get_lt hb
      rw [toArr_getC hx] at ha
      rw [toArr_getC hy]
      have ha' := of_decide_eq_true ha
      refine decide_eq_true ?_
      by_cases e : a = b
      · subst e; rw [hx] at hy; injection hy with hy; rw [← hy]; exact ha'
      · have := rise_lt hs b a _ _ (by omega) (tursC_at hx) (tursC_at hy)
        simp only at this
        omega)
  change Calls Tryz.prog 38 _ _ _ at h
  rw [count_latC] at h
  refine h.mono ?_
  rintro e w' ⟨rfl, m, os, rfl⟩
  exact ⟨rfl, below_grown_sl _ W m os (Nat.le_refl _)⟩

/-- the type that At answers -/
def tabA (ty : List TypD) (f : Int) (ch : List ChaD) (t : Int) : TypD := if tabC ty f ch = 0 then tabO ty f ch t else noTyp
/-- what At leaves -/
def AtTE (ty : List TypD) (f : Int) (ch : List ChaD) (t : Int) (w : World) (e : Ending) (w' : World) : Prop :=
  e = .returned (.tuple #[.agg #[.int .i64 (tabA ty f ch t).off, .bool (tabA ty f ch t).sv, .string (tabA ty f ch t).nm], .int .i64 (tabC ty f ch)]) ∧ Gr w w'
theorem tyE_small {x : TypD} (h : tyE x = 0) : x.nm.size ≤ 8 := by
  unfold tyE at h
  split at h
  · cases h
  · split at h
    · cases h
    · rename_i q
      have q' : isAbbrB x.nm.toList = true := by simpa using q
      have := (abbr_len1 q').2
      rwa [len_toList] at this

set_option maxRecDepth 100000 in
set_option maxHeartbeats 16000000 in
theorem ptabAt (A : Option Addr) (c : Nat) (ty : List TypD) (f : Int) (B : Option Addr) (d : Nat) (ch : List ChaD) (t : Int) (w : World) (hr : Row w 3 TypD.cells A ty) (hi : ∀ x ∈ ty, x.In) (hr2 : Row w 2 ChaD.cells B ch) :
    Calls Tryz.prog 16 #[.agg #[.slice A ty.length c, .int .i64 f, .slice B ch.length d], .int .i64 t] w (AtTE ty f ch t w) := by
  have HA := Lib.hid hr
  have HB := Lib.hid hr2
  have KC := Lib.hid (fun W (g : Gr w W) => ptabCheck A c ty f B d ch W (hr.gr g) hi (hr2.gr g))
  have FIN0 : Hid (∀ w' C, tabC ty f ch = C → C ≠ 0 → Gr w w' → AtTE ty f ch t w (.returned (.tuple #[.agg #[.int .i64 0, .bool false, .string ⟨#[]⟩], .int .i64 C])) w') := fun w' C h1 h2 g => ⟨by unfold tabA; rw [if_neg (by rw [h1]; exact h2), h1]; rfl, g⟩
  have B0 := Lib.hid (box_three w (.cells #[.slice A ty.length c, .int .i64 f, .slice B ch.length d] 32) (.cells #[.int .i64 t] 3) (.cells #[.int .i64 0, .bool false, .string ⟨#[]⟩] 46))
  clear hr hr2 hi
  go_enter Tryz.func16, Tryz.ntmps16
  go_wp2_with fail
  generalize ((w.alloc (.cells #[.slice A ty.length c, .int .i64 f, .slice B ch.length d] 32)).alloc (.cells #[.int .i64 t] 3)).alloc (.cells #[.int .i64 0, .bool false, .string ⟨#[]⟩] 46) = w1 at B0 ⊢
  obtain ⟨q, hq⟩ : ∃ q, w.heap.size = q := ⟨_, rfl⟩
  have NQ : Hid (w.heap.size ≤ q + 1 + 1) := by unfold Hid; omega
  rw [hq] at B0 ⊢
  clear hq
  have x0 : w1.cell? ⟨q, 0, none⟩ = some (.slice A ty.length c) := bcell_row B0.out.2.1 rfl
  have x1 : w1.cell? ⟨q, 1, none⟩ = some (.int .i64 f) := bcell_row B0.out.2.1 rfl
  have x2 : w1.cell? ⟨q, 2, none⟩ = some (.slice B ch.length d) := bcell_row B0.out.2.1 rfl
  go_wp2_with fail
  clear x0 x1 x2
  refine (KC.out w1 B0.out.1).mono ?_
  rintro e w2 ⟨rfl, g2⟩
  have G2 := Lib.hid (B0.out.1.trans g2)
  have HQ2 := Lib.hid (bheap_gr g2 B0.out.2.1)
  have HT2 := Lib.hid (bheap_gr g2 B0.out.2.2.1)
  have HR2 := Lib.hid (bheap_gr g2 B0.out.2.2.2)
  clear g2 B0 KC
  by_cases h0 : tabC ty f ch = 0
  case neg =>
    have EX := Lib.hid (fun w' g => FIN0.out w' _ rfl h0 g)
    have t0 := bneT h0
    clear h0 FIN0
    generalize tabC ty f ch = C at EX t0 ⊢
    have y0 : w2.cell? ⟨q + 1 + 1, 0, none⟩ = some (.int .i64 0) := bcell_row HR2.out rfl
    have y1 : w2.cell? ⟨q + 1 + 1, 1, none⟩ = some (.bool false) := bcell_row HR2.out rfl
    have y2 : w2.cell? ⟨q + 1 + 1, 2, none⟩ = some (.string ⟨#[]⟩) := bcell_row HR2.out rfl
    have f0 : w2.frozen? ⟨q + 1 + 1, 0, none⟩ = false := unfrozen HR2.out
    have f1 : w2.frozen? ⟨q + 1 + 1, 1, none⟩ = false := unfrozen HR2.out
    have f2 : w2.frozen? ⟨q + 1 + 1, 2, none⟩ = false := unfrozen HR2.out
    have s0 : (((w2.setCell ⟨q + 1 + 1, 0, none⟩ (.int .i64 0)).setCell ⟨q + 1 + 1, 1, none⟩ (.bool false)).setCell ⟨q + 1 + 1, 2, none⟩ (.string ⟨#[]⟩)).cell? ⟨q + 1 + 1, 0, none⟩ = some (.int .i64 0) := bcell_row (st3 HR2.out (.int .i64 0) (.bool false) (.string ⟨#[]⟩)) rfl
    have s1 : (((w2.setCell ⟨q + 1 + 1, 0, none⟩ (.int .i64 0)).setCell ⟨q + 1 + 1, 1, none⟩ (.bool false)).setCell ⟨q + 1 + 1, 2, none⟩ (.string ⟨#[]⟩)).cell? ⟨q + 1 + 1, 1, none⟩ = some (.bool false) := bcell_row (st3 HR2.out (.int .i64 0) (.bool false) (.string ⟨#[]⟩)) rfl
    have s2 : (((w2.setCell ⟨q + 1 + 1, 0, none⟩ (.int .i64 0)).setCell ⟨q + 1 + 1, 1, none⟩ (.bool false)).setCell ⟨q + 1 + 1, 2, none⟩ (.string ⟨#[]⟩)).cell? ⟨q + 1 + 1, 2, none⟩ = some (.string ⟨#[]⟩) := bcell_row (st3 HR2.out (.int .i64 0) (.bool false) (.string ⟨#[]⟩)) rfl
    go_wp2_with fail
    exact bodyPost_ret (v := .tuple #[.agg #[.int .i64 0, .bool false, .string ⟨#[]⟩], .int .i64 C]) (by simp [results, Tryz.results16, go_sem, s0, s1, s2]) rfl (EX.out _ (st3_below G2.out NQ.out (.int .i64 0) (.bool false) (.string ⟨#[]⟩)))
  case pos =>
    have OK := tabC_ok.1 h0
    have RI := Lib.hid (tursC_rise OK.2.2.2.2)
    have NU := Lib.hid (num_late RI.out f t)
    have TO := Lib.hid (tabO_get h0 t)
    have LE := lateI_le (tursC ch) t
    rw [tursC_len] at LE
    have L2 : ch.length ≤ 1000 := OK.1.2
    have FIN : Hid (∀ x w', tabO ty f ch t = x → Gr w w' → AtTE ty f ch t w (.returned (.tuple #[.agg #[.int .i64 x.off, .bool x.sv, .string x.nm], .int .i64 0])) w') := fun x w' h1 g => ⟨by unfold tabA; rw [if_pos h0, h1, h0], g⟩
    have SM : Hid (∀ x, ty[(numZ f ch t).toNat]? = some x → x.nm.size ≤ 8) := fun x hx => tyE_small (by have := (fe_zero _).1 OK.2.2.1 _ (List.getElem?_eq_some_iff.1 hx).1; rwa [tyC_at hx] at this)
    have KS := Lib.hid (fun W (g : Gr w2 W) => searchC_any q (q + 1) B d ch t W (bcell_row (bheap_gr g HQ2.out) rfl) (bcell_row (bheap_gr g HT2.out) rfl) (HB.out.gr (G2.out.trans g)) (by omega) RI.out)
    rw [h0]
    clear h0 OK FIN0
    have x0 : w2.cell? ⟨q, 0, none⟩ = some (.slice A ty.length c) := bcell_row HQ2.out rfl
    have x1 : w2.cell? ⟨q, 1, none⟩ = some (.int .i64 f) := bcell_row HQ2.out rfl
    have x2 : w2.cell? ⟨q, 2, none⟩ = some (.slice B ch.length d) := bcell_row HQ2.out rfl
    go_wp2_with fail
    clear x0 x1 x2
    refine (KS.out w2 (Gr.refl _)).mono ?_
    rintro e w3 ⟨rfl, g3⟩
    have G3' := Lib.hid (G2.out.trans g3)
    have HQ3 := Lib.hid (bheap_gr g3 HQ2.out)
    have HR3' := Lib.hid (bheap_gr g3 HR2.out)
    clear g3 KS HQ2 HT2 HR2 G2
    obtain ⟨⟨o, s, y⟩, hx⟩ : ∃ x, tabO ty f ch t = x := ⟨_, rfl⟩
    have OT := Lib.hid hx
    have TO2 := TO.out
    rw [hx] at TO2
    clear hx TO
    have KCl := Lib.hid (fun W => bclone y W (by have := SM.out _ TO2.2; simp only at this; omega))
    obtain ⟨b, off, hAA, d0, d1, d2⟩ := HA.out.three TO2.2 rfl G3'.out
    have T3 := Lib.hid TO2.2
    have i0 := TO2.1.1
    have i1 := TO2.1.2
    clear TO2 SM
    generalize hn : lateI (tursC ch) t = n at NU LE ⊢
    clear hn
    by_cases hz : n = 0
    · subst hz
      have EF : Hid (numZ f ch t = f) := by unfold Hid; rw [NU.out, lastP_zero]
      rw [EF.out] at d0 d1 d2 i0 i1
      clear NU LE EF T3
      have x0 : w3.cell? ⟨q, 0, none⟩ = some (.slice A ty.length c) := bcell_row HQ3.out rfl
      have x1 : w3.cell? ⟨q, 1, none⟩ = some (.int .i64 f) := bcell_row HQ3.out rfl
      have x2 : w3.cell? ⟨q, 2, none⟩ = some (.slice B ch.length d) := bcell_row HQ3.out rfl
      subst hAA
      have NK := Lib.hid (box_one w3 (.cells #[.int .i64 o, .bool s, .string y] 46))
      have G9 := Lib.hid (G3'.out.trans NK.out.1)
      have HR9 := Lib.hid (bheap_gr NK.out.1 HR3'.out)
      go_wp2_with fail
      generalize w3.alloc (.cells #[.int .i64 o, .bool s, .string y] 46) = v1 at NK G9 HR9 ⊢
      have QK : Hid (w3.heap.size ≠ q + 1 + 1) := fun e => by have := (Array.getElem?_eq_some_iff.1 HR3'.out).1; omega
      have QW : Hid (w.heap.size ≤ w3.heap.size) := Below.size G3'.out
      generalize w3.heap.size = qk at NK QK QW ⊢
      have z0 : v1.cell? ⟨qk, 0, none⟩ = some (.int .i64 o) := bcell_row NK.out.2 rfl
      have z1 : v1.cell? ⟨qk, 1, none⟩ = some (.bool s) := bcell_row NK.out.2 rfl
      have z2 : v1.cell? ⟨qk, 2, none⟩ = some (.string y) := bcell_row NK.out.2 rfl
      go_wp2_with fail
      clear z0 z1 z2
      refine (KCl.out v1).mono ?_
      rintro e v2 ⟨rfl, g9⟩
      have GA := Lib.hid (G9.out.trans g9)
      have HK := Lib.hid (bheap_gr g9 NK.out.2)
      have HRA := Lib.hid (bheap_gr g9 HR9.out)
      clear g9 G9 NK HR9
      have z0 : v2.cell? ⟨qk, 0, none⟩ = some (.int .i64 o) := bcell_row HK.out rfl
      have z1 : v2.cell? ⟨qk, 1, none⟩ = some (.bool s) := bcell_row HK.out rfl
      have z2 : v2.cell? ⟨qk, 2, none⟩ = some (.string y) := bcell_row HK.out rfl
      have g0 : v2.frozen? ⟨qk, 0, none⟩ = false := unfrozen HK.out
      have g1 : v2.frozen? ⟨qk, 1, none⟩ = false := unfrozen HK.out
      have g2 : v2.frozen? ⟨qk, 2, none⟩ = false := unfrozen HK.out
      have HK3 := Lib.hid (heap_setCell_same v2 qk 2 #[.int .i64 o, .bool s, .string y] 46 (.string y) HK.out)
      have HR3 := Lib.hid (blk_set2 (p := ⟨qk, 2, none⟩) (u := .string y) HRA.out (fun e => QK.out e.symm))
      have G3 := Lib.hid (Below.setCell GA.out (p := ⟨qk, 2, none⟩) QW.out (.string y))
      have k0 : (v2.setCell ⟨qk, 2, none⟩ (.string y)).cell? ⟨qk, 0, none⟩ = some (.int .i64 o) := bcell_row HK3.out rfl
      have k1 : (v2.setCell ⟨qk, 2, none⟩ (.string y)).cell? ⟨qk, 1, none⟩ = some (.bool s) := bcell_row HK3.out rfl
      have k2 : (v2.setCell ⟨qk, 2, none⟩ (.string y)).cell? ⟨qk, 2, none⟩ = some (.string y) := bcell_row HK3.out rfl
      have r0 : (v2.setCell ⟨qk, 2, none⟩ (.string y)).cell? ⟨q + 1 + 1, 0, none⟩ = some (.int .i64 0) := bcell_row HR3.out rfl
      have r1 : (v2.setCell ⟨qk, 2, none⟩ (.string y)).cell? ⟨q + 1 + 1, 1, none⟩ = some (.bool false) := bcell_row HR3.out rfl
      have r2 : (v2.setCell ⟨qk, 2, none⟩ (.string y)).cell? ⟨q + 1 + 1, 2, none⟩ = some (.string ⟨#[]⟩) := bcell_row HR3.out rfl
      have h0 : (v2.setCell ⟨qk, 2, none⟩ (.string y)).frozen? ⟨q + 1 + 1, 0, none⟩ = false := unfrozen HR3.out
      have h1 : (v2.setCell ⟨qk, 2, none⟩ (.string y)).frozen? ⟨q + 1 + 1, 1, none⟩ = false := unfrozen HR3.out
      have h2 : (v2.setCell ⟨qk, 2, none⟩ (.string y)).frozen? ⟨q + 1 + 1, 2, none⟩ = false := unfrozen HR3.out
      have s0 : ((((v2.setCell ⟨qk, 2, none⟩ (.string y)).setCell ⟨q + 1 + 1, 0, none⟩ (.int .i64 o)).setCell ⟨q + 1 + 1, 1, none⟩ (.bool s)).setCell ⟨q + 1 + 1, 2, none⟩ (.string y)).cell? ⟨q + 1 + 1, 0, none⟩ = some (.int .i64 o) := bcell_row (st3 HR3.out (.int .i64 o) (.bool s) (.string y)) rfl
      have s1 : ((((v2.setCell ⟨qk, 2, none⟩ (.string y)).setCell ⟨q + 1 + 1, 0, none⟩ (.int .i64 o)).setCell ⟨q + 1 + 1, 1, none⟩ (.bool s)).setCell ⟨q + 1 + 1, 2, none⟩ (.string y)).cell? ⟨q + 1 + 1, 1, none⟩ = some (.bool s) := bcell_row (st3 HR3.out (.int .i64 o) (.bool s) (.string y)) rfl
      have s2 : ((((v2.setCell ⟨qk, 2, none⟩ (.string y)).setCell ⟨q + 1 + 1, 0, none⟩ (.int .i64 o)).setCell ⟨q + 1 + 1, 1, none⟩ (.bool s)).setCell ⟨q + 1 + 1, 2, none⟩ (.string y)).cell? ⟨q + 1 + 1, 2, none⟩ = some (.string y) := bcell_row (st3 HR3.out (.int .i64 o) (.bool s) (.string y)) rfl
      go_wp2_with fail
      exact bodyPost_ret (v := .tuple #[.agg #[.int .i64 o, .bool s, .string y], .int .i64 0]) (by simp [results, Tryz.results16, go_sem, s0, s1, s2]) rfl (FIN.out _ _ OT.out (st3_below G3.out NQ.out (.int .i64 o) (.bool s) (.string y)))
    · obtain ⟨⟨ca, ck⟩, hc⟩ := get_lt (show n - 1 < ch.length by omega)
      obtain ⟨b2, off2, hBB, e0, e1⟩ := HB.out.two hc rfl G3'.out
      have EF : Hid (numZ f ch t = ck) := by unfold Hid; rw [NU.out, lastP_at hz (tursC_at hc)]
      rw [EF.out] at d0 d1 d2 i0 i1
      clear NU EF T3 hc
      have j0 : decide ((0 : Int) < (n : Int)) = true := decide_eq_true (by omega)
      have j1 : (0 : Int) ≤ (n : Int) - 1 := by omega
      have j2 : (n : Int) - 1 < (ch.length : Int) := by omega
      have j3 : ((n : Int) - 1).toNat = n - 1 := by omega
      have x0 : w3.cell? ⟨q, 0, none⟩ = some (.slice A ty.length c) := bcell_row HQ3.out rfl
      have x1 : w3.cell? ⟨q, 1, none⟩ = some (.int .i64 f) := bcell_row HQ3.out rfl
      have x2 : w3.cell? ⟨q, 2, none⟩ = some (.slice B ch.length d) := bcell_row HQ3.out rfl
      subst hAA
      subst hBB
      have NK := Lib.hid (box_one w3 (.cells #[.int .i64 o, .bool s, .string y] 46))
      have G9 := Lib.hid (G3'.out.trans NK.out.1)
      have HR9 := Lib.hid (bheap_gr NK.out.1 HR3'.out)
      go_wp2_with fail
      generalize w3.alloc (.cells #[.int .i64 o, .bool s, .string y] 46) = v1 at NK G9 HR9 ⊢
      have QK : Hid (w3.heap.size ≠ q + 1 + 1) := fun e => by have := (Array.getElem?_eq_some_iff.1 HR3'.out).1; omega
      have QW : Hid (w.heap.size ≤ w3.heap.size) := Below.size G3'.out
      generalize w3.heap.size = qk at NK QK QW ⊢
      have z0 : v1.cell? ⟨qk, 0, none⟩ = some (.int .i64 o) := bcell_row NK.out.2 rfl
      have z1 : v1.cell? ⟨qk, 1, none⟩ = some (.bool s) := bcell_row NK.out.2 rfl
      have z2 : v1.cell? ⟨qk, 2, none⟩ = some (.string y) := bcell_row NK.out.2 rfl
      go_wp2_with fail
      clear z0 z1 z2
      refine (KCl.out v1).mono ?_
      rintro e v2 ⟨rfl, g9⟩
      have GA := Lib.hid (G9.out.trans g9)
      have HK := Lib.hid (bheap_gr g9 NK.out.2)
      have HRA := Lib.hid (bheap_gr g9 HR9.out)
      clear g9 G9 NK HR9
      have z0 : v2.cell? ⟨qk, 0, none⟩ = some (.int .i64 o) := bcell_row HK.out rfl
      have z1 : v2.cell? ⟨qk, 1, none⟩ = some (.bool s) := bcell_row HK.out rfl
      have z2 : v2.cell? ⟨qk, 2, none⟩ = some (.string y) := bcell_row HK.out rfl
      have g0 : v2.frozen? ⟨qk, 0, none⟩ = false := unfrozen HK.out
      have g1 : v2.frozen? ⟨qk, 1, none⟩ = false := unfrozen HK.out
      have g2 : v2.frozen? ⟨qk, 2, none⟩ = false := unfrozen HK.out
      have HK3 := Lib.hid (heap_setCell_same v2 qk 2 #[.int .i64 o, .bool s, .string y] 46 (.string y) HK.out)
      have HR3 := Lib.hid (blk_set2 (p := ⟨qk, 2, none⟩) (u := .string y) HRA.out (fun e => QK.out e.symm))
      have G3 := Lib.hid (Below.setCell GA.out (p := ⟨qk, 2, none⟩) QW.out (.string y))
      have k0 : (v2.setCell ⟨qk, 2, none⟩ (.string y)).cell? ⟨qk, 0, none⟩ = some (.int .i64 o) := bcell_row HK3.out rfl
      have k1 : (v2.setCell ⟨qk, 2, none⟩ (.string y)).cell? ⟨qk, 1, none⟩ = some (.bool s) := bcell_row HK3.out rfl
      have k2 : (v2.setCell ⟨qk, 2, none⟩ (.string y)).cell? ⟨qk, 2, none⟩ = some (.string y) := bcell_row HK3.out rfl
      have r0 : (v2.setCell ⟨qk, 2, none⟩ (.string y)).cell? ⟨q + 1 + 1, 0, none⟩ = some (.int .i64 0) := bcell_row HR3.out rfl
      have r1 : (v2.setCell ⟨qk, 2, none⟩ (.string y)).cell? ⟨q + 1 + 1, 1, none⟩ = some (.bool false) := bcell_row HR3.out rfl
      have r2 : (v2.setCell ⟨qk, 2, none⟩ (.string y)).cell? ⟨q + 1 + 1, 2, none⟩ = some (.string ⟨#[]⟩) := bcell_row HR3.out rfl
      have h0 : (v2.setCell ⟨qk, 2, none⟩ (.string y)).frozen? ⟨q + 1 + 1, 0, none⟩ = false := unfrozen HR3.out
      have h1 : (v2.setCell ⟨qk, 2, none⟩ (.string y)).frozen? ⟨q + 1 + 1, 1, none⟩ = false := unfrozen HR3.out
      have h2 : (v2.setCell ⟨qk, 2, none⟩ (.string y)).frozen? ⟨q + 1 + 1, 2, none⟩ = false := unfrozen HR3.out
      have s0 : ((((v2.setCell ⟨qk, 2, none⟩ (.string y)).setCell ⟨q + 1 + 1, 0, none⟩ (.int .i64 o)).setCell ⟨q + 1 + 1, 1, none⟩ (.bool s)).setCell ⟨q + 1 + 1, 2, none⟩ (.string y)).cell? ⟨q + 1 + 1, 0, none⟩ = some (.int .i64 o) := bcell_row (st3 HR3.out (.int .i64 o) (.bool s) (.string y)) rfl
      have s1 : ((((v2.setCell ⟨qk, 2, none⟩ (.string y)).setCell ⟨q + 1 + 1, 0, none⟩ (.int .i64 o)).setCell ⟨q + 1 + 1, 1, none⟩ (.bool s)).setCell ⟨q + 1 + 1, 2, none⟩ (.string y)).cell? ⟨q + 1 + 1, 1, none⟩ = some (.bool s) := bcell_row (st3 HR3.out (.int .i64 o) (.bool s) (.string y)) rfl
      have s2 : ((((v2.setCell ⟨qk, 2, none⟩ (.string y)).setCell ⟨q + 1 + 1, 0, none⟩ (.int .i64 o)).setCell ⟨q + 1 + 1, 1, none⟩ (.bool s)).setCell ⟨q + 1 + 1, 2, none⟩ (.string y)).cell? ⟨q + 1 + 1, 2, none⟩ = some (.string y) := bcell_row (st3 HR3.out (.int .i64 o) (.bool s) (.string y)) rfl
      go_wp2_with fail
      exact bodyPost_ret (v := .tuple #[.agg #[.int .i64 o, .bool s, .string y], .int .i64 0]) (by simp [results, Tryz.results16, go_sem, s0, s1, s2]) rfl (FIN.out _ _ OT.out (st3_below G3.out NQ.out (.int .i64 o) (.bool s) (.string y)))
end Go.Proofs.YtkmgildnhnjepaaGreatDoor
