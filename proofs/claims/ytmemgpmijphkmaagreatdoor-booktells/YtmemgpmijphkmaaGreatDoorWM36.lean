/- SplitN at six words; what the project's addRule of package book does. What the project's addZone and addLink of package book do. What the project's readEra of package book returns. What the project's addLine of package book does. -/
import Derived.Deep.RegionHeld3
import Derived.Test.YtmemgpmijphkmaaGreatDoorWM32
import Derived.Test.YtmemgpmijphkmaaGreatDoorWM35
import Derived.Deep.DeepCutAuto
import Derived.Lib.CutLaws
import Derived.Lib.IndexBytes
import Derived.Test.YtmemgpmijphkmaaGreatDoorWM15
import Derived.Test.YtmemgpmijphkmaaGreatDoorWM22
import Derived.Test.YtmemgpmijphkmaaGreatDoorWM23
import Derived.Test.YtmemgpmijphkmaaGreatDoorWM19
import Derived.Test.YtmemgpmijphkmaaGreatDoorWM04
import Derived.Test.YtmemgpmijphkmaaGreatDoorWM33
import Derived.IntWalk
namespace Go.Proofs.YtmemgpmijphkmaaGreatDoor
set_option linter.unusedVariables false
set_option linter.unusedSimpArgs false
open Go.RowKit
/-- what one of the functions that add a line does: nothing is added, or this -/
def AddA (base pb n : Nat) (w : World) (o : Option BkS) (e : Ending) (w' : World) : Prop := match o with
  | none => e = .returned (.bool false) ∧ Tch base pb w w'
  | some q => e = .returned (.bool true) ∧ PSt w' base pb n q ∧ Tch base pb w w'
end Go.Proofs.YtmemgpmijphkmaaGreatDoor
namespace Go.Proofs.YtmemgpmijphkmaaGreatDoor
set_option linter.unusedVariables false
set_option linter.unusedSimpArgs false
open Go.RowKit
/-- the words of a line, as SplitN at six leaves them -/
structure Wds (t : ByteArray) (w0 w : World) (gw L c : Nat) : Prop where
  new : w0.heap.size ≤ gw
  cap : L ≤ c
  pos : 1 ≤ L
  six : L ≤ 6
  few : (bl t).length ≤ 5 → L = (bl t).length
  many : 6 ≤ (bl t).length → L = 6
  cell : ∀ j, j < L → (bl t).length ≤ 5 ∨ j = 0 → w.cell? ⟨gw, j, none⟩ = some (.string (wd t j))
theorem Wds.is {t : ByteArray} {w0 w : World} {gw L c k : Nat} (h : Wds t w0 w gw L c) (hk : k ≤ 5) : L = k ↔ (bl t).length = k := by
  by_cases h5 : (bl t).length ≤ 5
  · rw [h.few h5]
  · have := h.many (by omega); omega
end Go.Proofs.YtmemgpmijphkmaaGreatDoor
namespace Go.Proofs.YtmemgpmijphkmaaGreatDoor
set_option linter.unusedVariables false
set_option linter.unusedSimpArgs false
open Go.RowKit
/-- what the walk over readEra carries: the words, the result's block, the box -/
structure RE (t : ByteArray) (w W : World) (gw L b0 bx : Nat) (good : Bool) : Prop where
  gr : Gr w W
  z : W.heap[b0]? = some (.cells #[.int .i64 0, .string ⟨#[]⟩, .int .i64 0, .string ⟨#[]⟩, .int .i64 0] 44 (0, 0))
  bxv : Box W bx good
  cell : ∀ j, j < L → W.cell? ⟨gw, j, none⟩ = some (.string (wd t j))
  gwl : gw < w.heap.size
  b0l : w.heap.size ≤ b0
  bxl : w.heap.size ≤ bx
  ne : b0 ≠ bx

/-- the era under way -/
structure ER (w W : World) (b0 bx be : Nat) (row : Array Value) : Prop where
  h : W.heap[be]? = some (.cells row 44 (0, 0))
  l : w.heap.size ≤ be
  n0 : be ≠ b0
  n1 : be ≠ bx

section
variable {t : ByteArray} {w W W' : World} {gw L b0 bx be : Nat} {good : Bool} {row : Array Value}
theorem RE.gr' (h : RE t w W gw L b0 bx good) (g : Gr W W') : RE t w W' gw L b0 bx good :=
  { h with gr := h.gr.trans g, z := bheap_gr g h.z, bxv := h.bxv.gr g, cell := fun j hj => g.holds (h.cell j hj) }
theorem RE.set (h : RE t w W gw L b0 bx good) (u : Bool) : RE t w (W.setCell ⟨bx, 0, none⟩ (.bool u)) gw L b0 bx u :=
  { h with gr := Below.setCell h.gr h.bxl _, z := (heap_set_ne W ⟨bx, 0, none⟩ _ h.ne).trans h.z, bxv := h.bxv.set u, cell := fun j hj => (World.cell?_of_block (heap_set_ne W ⟨bx, 0, none⟩ _ (by have := h.gwl; have := h.bxl; show gw ≠ bx; omega))).trans (h.cell j hj) }
theorem RE.era (h : RE t w W gw L b0 bx good) (e : ER w W b0 bx be row) (j : Nat) (u : Value) : RE t w (W.setCell ⟨be, j, none⟩ u) gw L b0 bx good :=
  { h with gr := Below.setCell h.gr e.l _, z := (heap_set_ne W ⟨be, j, none⟩ _ (Ne.symm e.n0)).trans h.z, bxv := (heap_set_ne W ⟨be, j, none⟩ _ (Ne.symm e.n1)).trans h.bxv, cell := fun i hi => (World.cell?_of_block (heap_set_ne W ⟨be, j, none⟩ _ (by have := h.gwl; have := e.l; show gw ≠ be; omega))).trans (h.cell i hi) }
theorem ER.gr' (h : ER w W b0 bx be row) (g : Gr W W') : ER w W' b0 bx be row := { h with h := bheap_gr g h.h }
theorem ER.box (h : ER w W b0 bx be row) (u : Bool) : ER w (W.setCell ⟨bx, 0, none⟩ (.bool u)) b0 bx be row := { h with h := (heap_set_ne W ⟨bx, 0, none⟩ _ h.n1).trans h.h }
theorem ER.set (h : ER w W b0 bx be row) (j : Nat) (u : Value) : ER w (W.setCell ⟨be, j, none⟩ u) b0 bx be (row.setIfInBounds j u) := { h with h := blk_set h.h }
theorem RE.new (h : RE t w W gw L b0 bx good) (row : Array Value) : RE t w (W.alloc (.cells row 44)) gw L b0 bx good ∧ ER w (W.alloc (.cells row 44)) b0 bx W.heap.size row :=
  ⟨h.gr' (Gr.alloc _ _), bheap_new _ _, Below.size h.gr, (fun e => by have := (Array.getElem?_eq_some_iff.1 h.z).1; omega), (fun e => by have := h.bxv.lt; omega)⟩
theorem RE.first (hgw : gw < w.heap.size) (hc : ∀ j, j < L → w.cell? ⟨gw, j, none⟩ = some (.string (wd t j))) : RE t w ((w.alloc (.cells #[.int .i64 0, .string ⟨#[]⟩, .int .i64 0, .string ⟨#[]⟩, .int .i64 0] 44)).alloc (.cells #[.bool true] 4)) gw L w.heap.size (w.heap.size + 1) true := by
  have b := box_two w (.cells #[.int .i64 0, .string ⟨#[]⟩, .int .i64 0, .string ⟨#[]⟩, .int .i64 0] 44) (.cells #[.bool true] 4)
  exact ⟨b.1, b.2.1, b.2.2, fun j hj => b.1.holds (hc j hj), hgw, Nat.le_refl _, Nat.le_succ _, by omega⟩
end
end Go.Proofs.YtmemgpmijphkmaaGreatDoor
namespace Go.Proofs.YtmemgpmijphkmaaGreatDoor
set_option linter.unusedVariables false
set_option linter.unusedSimpArgs false
open Go.RowKit
theorem AddA.bool {base pb n : Nat} {w w' : World} {o : Option BkS} {e : Ending} (h : AddA base pb n w o e w') : ∃ b, e = .returned (.bool b) := by
  cases o with
  | none => exact ⟨_, h.1⟩
  | some q => exact ⟨_, h.1⟩
theorem PSt.gr {w w' : World} {base pb n : Nat} {p : BkS} (h : PSt w base pb n p) (g : Gr w w') : PSt w' base pb n p := by
  obtain ⟨v0, v1, v2, zs, h⟩ := h
  exact ⟨v0, v1, v2, zs, h.gr g⟩
theorem PSt.le {w : World} {base pb n : Nat} {p : BkS} (h : PSt w base pb n p) : base ≤ w.heap.size := by
  obtain ⟨v0, v1, v2, zs, h⟩ := h
  exact h.le
theorem BkS.Ok.step {p q : BkS} {t : ByteArray} (h : p.Ok) (hs : stepB p t = some q) : q.Ok := by
  unfold stepB at hs
  split at hs
  · split at hs
    · rename_i h0
      cases hr : ruleR t.toList with
      | none => rw [hr] at hs; cases hs
      | some r =>
        rw [hr] at hs
        injection hs with hs
        subst hs
        exact ⟨h.st3, h.st0, h.st3', h.open'⟩
    · cases hs
  split at hs
  · split at hs
    · rename_i hc
      injection hs with hs
      subst hs
      refine ⟨(show (1 : Nat) ≤ 3 by omega), ⟨(fun e => absurd (show (1 : Nat) = 0 from e) (by omega)), (fun e => absurd e.1 (by simp))⟩, ⟨(fun e => absurd (show (1 : Nat) = 3 from e) (by omega)), fun e => ?_⟩, (fun _ => by simp)⟩
      have : p.st = 3 := h.st3'.2 e
      omega
    · cases hs
  split at hs
  · split at hs
    · rename_i hc
      injection hs with hs
      subst hs
      have hz := h.open' hc.2.1
      have hne : addE p.zs (eraR t).1 ≠ [] := by
        rcases List.eq_nil_or_concat p.zs with e | ⟨zi, ⟨a, b⟩, e⟩
        · exact absurd e hz
        · rw [e, List.concat_eq_append, addE_snoc]; simp
      refine ⟨by show (if (bl t).length = 4 then 2 else 1) ≤ 3; split <;> omega, ⟨fun e => ?_, fun e => absurd e.1 hne⟩, ⟨fun e => ?_, fun e => ?_⟩, fun _ => hne⟩
      · have e' : (if (bl t).length = 4 then 2 else 1) = 0 := e
        split at e' <;> omega
      · have e' : (if (bl t).length = 4 then 2 else 1) = 3 := e
        split at e' <;> omega
      · have : p.st = 3 := h.st3'.2 e
        omega
    · cases hs
  split at hs
  · split at hs
    · injection hs with hs
      subst hs
      exact ⟨(show (3 : Nat) ≤ 3 by omega), ⟨(fun e => absurd (show (3 : Nat) = 0 from e) (by omega)), (fun e => absurd e.2 (by simp))⟩, ⟨(fun _ => by simp), (fun _ => rfl)⟩, (fun e => absurd (show (3 : Nat) = 1 from e) (by omega))⟩
    · cases hs
  · cases hs
end Go.Proofs.YtmemgpmijphkmaaGreatDoor
