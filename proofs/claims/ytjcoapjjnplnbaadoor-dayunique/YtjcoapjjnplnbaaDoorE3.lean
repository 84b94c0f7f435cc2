/- A set of days that grows by a new one each time. -/
import Derived.Test.YtjcoapjjnplnbaaDoorE0
import Derived.Maps.Own
import Derived.Maps.OwnSet
namespace Go.Proofs.YtjcoapjjnplnbaaDoor
set_option linter.unusedVariables false
set_option linter.unusedSimpArgs false
open Go.RowKit Go.Maps

theorem ins_len (x : Lit × DataW Unit) : ∀ l : List (Lit × DataW Unit), (DataW.insert x l).length = l.length + 1
  | [] => rfl
  | y :: r => by
    unfold DataW.insert
    split
    · rfl
    · simp [ins_len x r]
theorem ins_mem (x p : Lit × DataW Unit) : ∀ l : List (Lit × DataW Unit), p ∈ DataW.insert x l → p = x ∨ p ∈ l
  | [], h => by simp [DataW.insert] at h; exact Or.inl h
  | y :: r, h => by
    unfold DataW.insert at h
    split at h
    · rcases List.mem_cons.1 h with h | h
      · exact Or.inl h
      · exact Or.inr h
    · rcases List.mem_cons.1 h with h | h
      · exact Or.inr (by simp [h])
      · rcases ins_mem x p r h with h | h
        · exact Or.inl h
        · exact Or.inr (List.mem_cons_of_mem _ h)
/-- the first k weekdays on or after a day, as a set -/
def Seen (A : Int) (k : Nat) (es : List (Lit × DataW Unit)) : Prop := es.length = k ∧ ∀ p, p ∈ es → ∃ j : Nat, j < k ∧ p.1 = .int .i64 (nd A j)
theorem nd_ne {A : Int} {i j : Nat} (h : i < j) (h6 : j ≤ 6) : ¬ nd A i = nd A j := fun e => by
  have a := nd_is (a := A) (d := i) (by omega) (by omega)
  have b := nd_is (a := A) (d := j) (by omega) (by omega)
  rw [e] at a
  omega
theorem Seen.put {A : Int} {k : Nat} {es : List (Lit × DataW Unit)} (h : Seen A k es) (h6 : k ≤ 6) (d : DataW Unit) :
    ∃ es', (DataW.map es).put (.int .i64 (nd A k)) d = .map es' ∧ Seen A (k + 1) es' := by
  have f : es.filter (fun p => !p.1.sameKey (.int .i64 (nd A k))) = es := by
    rw [List.filter_eq_self]
    intro p hp
    obtain ⟨j, hj, e⟩ := h.2 p hp
    rw [e]
    have ne := nd_ne (A := A) hj h6
    simp [Lit.sameKey, ne]
  refine ⟨DataW.insert (.int .i64 (nd A k), d) es, by show DataW.map (DataW.insert _ (es.filter (fun p => !p.1.sameKey (.int .i64 (nd A k))))) = _; rw [f], by rw [ins_len, h.1], fun p hp => ?_⟩
  rcases ins_mem _ _ _ hp with rfl | hp
  · exact ⟨k, by omega, rfl⟩
  · obtain ⟨j, hj, e⟩ := h.2 p hp
    exact ⟨j, by omega, e⟩
/-- the map holds such a set -/
def HasSet (w : World) (B : Nat) (A : Int) (k : Nat) : Prop := ∃ es, w.ownsMap Tryd.prog 3 (plainElem Tryd.prog 4) B k (.map es) ∧ Seen A k es
theorem HasSet.gr {w w' : World} {B : Nat} {A : Int} {k : Nat} (h : HasSet w B A k) (g : Gr w w') : HasSet w' B A k := by
  obtain ⟨es, ho, hs⟩ := h
  have hlt := ho.lt
  obtain ⟨a, b, hb, r⟩ := ho
  exact ⟨es, ⟨a, b, by rw [Below.block g B hlt]; exact hb, r⟩, hs⟩
theorem HasSet.lt {w : World} {B : Nat} {A : Int} {k : Nat} (h : HasSet w B A k) : B < w.heap.size := by
  obtain ⟨es, ho, hs⟩ := h
  exact ho.lt
theorem HasSet.made (w : World) (A : Int) : HasSet (w.alloc (.map #[] 0)) w.heap.size A 0 := ⟨[], World.ownsMap_made _ _ _ _, rfl, fun p hp => by cases hp⟩
end Go.Proofs.YtjcoapjjnplnbaaDoor
