/- The transitions of a book, asked for in other ways; the reference's Rest again. -/
import Derived.Test.YtkbegommjlmfmaaGreatDoorQM45
import Derived.Test.YtkbegommjlmfmaaGreatDoorQM13
namespace Go.Proofs.YtkbegommjlmfmaaGreatDoor
set_option linter.unusedVariables false
set_option linter.unusedSimpArgs false
open Go.RowKit
theorem sel_sel (rs : List RuD) (nm : ByteArray) : selR (selR rs nm) nm = selR rs nm := by unfold selR; rw [List.filter_filter]; simp
theorem of_sel {rs : List RuD} {zs : List ZonD} {ls : List LinD} {nm : ByteArray} {off : Int} (h : bokC rs zs ls = 0) : ofC (selR rs nm) [] [] nm off = ofC rs zs ls nm off ∧ ofL (selR rs nm) [] [] nm off = ofL rs zs ls nm off := by
  have hb : bokC (selR rs nm) [] [] = 0 := bokC_ok.2 ⟨by have := (bokC_ok.1 h).1; have := sel_len rs nm; simp only [List.length_nil]; omega, (fe_zero _).2 fun i hi => by
    obtain ⟨r, hr⟩ := get_lt hi
    rw [rusC_at hr]
    exact rules_ok h r (sel_mem (get_mem hr)).1, rfl, rfl⟩
  have hs : sorted (selR rs nm) nm = sorted rs nm := by unfold sorted; rw [sel_sel]
  have hc : ofC (selR rs nm) [] [] nm off = ofC rs zs ls nm off := by unfold ofC; rw [hb, h, sel_sel, hs]
  refine ⟨hc, ?_⟩
  unfold ofL
  rw [hc, hs]
theorem ofL_len {rs : List RuD} {zs : List ZonD} {ls : List LinD} {nm : ByteArray} {off : Int} : (ofL rs zs ls nm off).length ≤ 100000 := by
  unfold ofL
  split
  · rename_i h
    obtain ⟨h1, h2, h3, h4, h5⟩ := ofC_zero.1 h
    have p := pens_len (l := selR rs nm) (fun r hr => RuD.ok_of (rules_ok h1 r (sel_mem hr).1))
    rw [turL_len, sorted_len]
    omega
  · simp

theorem ofL_in {rs : List RuD} {zs : List ZonD} {ls : List LinD} {nm : ByteArray} {off : Int} (hi : ∀ r ∈ rs, r.In) : ∀ t ∈ ofL rs zs ls nm off, t.In := fun t ht => by
  unfold ofL at ht
  split at ht
  · rename_i h
    obtain ⟨h1, h2, h3, h4, h5⟩ := ofC_zero.1 h
    have so := sorted_ok (nm := nm) h1 hi
    obtain ⟨i, hi2⟩ := List.getElem?_of_mem ht
    have hl := (List.getElem?_eq_some_iff.1 hi2).1
    rw [turL_len] at hl
    obtain ⟨p, hp⟩ := get_lt hl
    have e := turL_at (off := off) hp
    rw [hi2] at e
    injection e with e
    have b := svAt_bd so i
    rw [e]
    exact turP_in (so p (get_mem hp)) h2.1 h2.2 b.1 b.2
  · cases ht
def shiftT (o : Int) (t : TurD) : TurD := ⟨t.at' + o, t.sv, t.lt⟩
theorem turL_wall {x y : Int} : ∀ (l : List PenD) (sv : Int), (∀ p ∈ l, p.r.by' ≠ 2) → turL y sv l = (turL x sv l).map (shiftT (x - y))
  | [], _, _ => rfl
  | p :: l, sv, h => by
    simp only [turL, List.map_cons]
    rw [turL_wall l p.r.sv (fun q hq => h q (by simp [hq]))]
    have hp := h p (by simp)
    congr 1
    unfold turP shiftT momR
    simp only [TurD.mk.injEq, and_self, and_true]
    rw [if_neg hp, if_neg hp]
    split <;> omega
theorem turL_univ {x y : Int} : ∀ (l : List PenD) (sv : Int), (∀ p ∈ l, p.r.by' = 2) → turL y sv l = (turL x sv l).map (shiftT 0)
  | [], _, _ => rfl
  | p :: l, sv, h => by
    simp only [turL, List.map_cons]
    rw [turL_univ (x := x) l p.r.sv (fun q hq => h q (by simp [hq]))]
    have hp := h p (by simp)
    congr 1
    unfold turP shiftT momR
    simp [hp]
theorem rise_shift (o : Int) : ∀ l : List TurD, riseB (l.map (shiftT o)) = riseB l
  | [] => rfl
  | [x] => rfl
  | x :: y :: l => by
    have ih := rise_shift o (y :: l)
    simp only [List.map_cons, riseB] at ih ⊢
    rw [ih]
    congr 1
    exact decide_eq_decide.2 (by unfold shiftT; simp only; omega)
theorem of_shift {rs : List RuD} {zs : List ZonD} {ls : List LinD} {nm : ByteArray} {x y o : Int} (hx : -64800 ≤ x ∧ x ≤ 64800) (hy : -64800 ≤ y ∧ y ≤ 64800) (h : turL y 0 (sorted rs nm) = (turL x 0 (sorted rs nm)).map (shiftT o)) : ofC rs zs ls nm y = ofC rs zs ls nm x ∧ ofL rs zs ls nm y = (ofL rs zs ls nm x).map (shiftT o) := by
  have hc : ofC rs zs ls nm y = ofC rs zs ls nm x := by
    unfold ofC
    rw [h, rise_shift, if_neg (show ¬ (y < -64800 ∨ 64800 < y) by omega), if_neg (show ¬ (x < -64800 ∨ 64800 < x) by omega)]
  refine ⟨hc, ?_⟩
  unfold ofL
  rw [hc]
  split
  · exact h
  · rfl
/-- are all by one clock? -/
def wallB (l : List RuD) : Bool := l.all fun r => r.by' != 2
def univB (l : List RuD) : Bool := l.all fun r => r.by' == 2
theorem east_of {rs : List RuD} {zs : List ZonD} {ls : List LinD} {nm : ByteArray} {x y : Int} (hx : -64800 ≤ x ∧ x ≤ 64800) (hy : -64800 ≤ y ∧ y ≤ 64800) (h : wallB (selR rs nm) = true ∨ univB (selR rs nm) = true) :
    ofC rs zs ls nm y = ofC rs zs ls nm x ∧ ofL rs zs ls nm y = (ofL rs zs ls nm x).map (shiftT (if univB (selR rs nm) = true then 0 else x - y)) := by
  refine of_shift hx hy ?_
  have mem : ∀ p ∈ sorted rs nm, p.r ∈ selR rs nm := fun p hp => pens_rule (stab_mem.1 hp)
  by_cases c : univB (selR rs nm) = true
  · rw [if_pos c]
    exact turL_univ _ _ (fun p hp => by have := List.all_eq_true.1 c _ (mem p hp); simpa using this)
  · rw [if_neg c]
    exact turL_wall _ _ (fun p hp => by have := List.all_eq_true.1 (h.resolve_right c) _ (mem p hp); simpa using this)

end Go.Proofs.YtkbegommjlmfmaaGreatDoor
