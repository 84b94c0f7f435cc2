/- Bytes of texts as numbers; a text turned into bytes; the number that digits tell. -/
import Derived.Test.YtmemgpmijphkmaaDoorProg
import Derived.Test.YtmemgpmijphkmaaDoorG0
import Derived.Lib.Strings
namespace Go.Proofs.YtmemgpmijphkmaaDoor
set_option linter.unusedVariables false
set_option linter.unusedSimpArgs false
open Go.RowKit

/-- the k-th byte of a text, as a number -/
def bt (l : List UInt8) (k : Nat) : Int := ((l.getD k 0).toNat : Int)
theorem bt_bd (l : List UInt8) (k : Nat) : 0 ≤ bt l k ∧ bt l k ≤ 255 := by
  unfold bt; have := (l.getD k 0).toNat_lt; omega
theorem idx (s : ByteArray) (k : Nat) (h : k < s.size) (w : World) :
    (Instr.index 9 (.string s) (.int .i64 (k : Int))).run Tryd.prog w = .ok (.int .u8 (bt s.toList k)) w := by
  rw [run_index_string w 9 s .i64 k Tryd.underlying9, dif_pos ⟨by omega, by omega⟩]
  congr 2
  unfold bt
  rw [ByteArray.toList_eq]
  have h2 : k < s.data.size := h
  have e : s.data.toList.getD k 0 = s.data[k] := by simp [List.getD, Array.getElem?_eq_getElem h2]
  rw [e]
  rfl
theorem to_bytes (x : ByteArray) (w : World) : ∃ (cap : Nat) (w2 : World), (convert 9 77 (.string x)).run Tryd.prog w = .ok (.slice (some ⟨w.heap.size, 0, none⟩) x.size cap) w2 ∧ Gr w w2 ∧
    ∀ j, j < x.size → w2.cell? ⟨w.heap.size, j, none⟩ = some (.int .u8 (bt x.toList j)) := by
  refine ⟨_, _, run_bytes_of_string (P := Tryd.prog) w 9 77 5 x Tryd.underlying9 Tryd.underlying77 Tryd.underlying5, (Gr.drew w).alloc' _, fun j hj => ?_⟩
  have h1 := World.cell?_alloc_mark w.drew (bytesRow x (grownCap w x.size 0 5)) 5 ((bytesRow x (grownCap w x.size 0 5)).size, (bytesRow x (grownCap w x.size 0 5)).size + 1) j
  have h2 : j < x.data.size := hj
  rw [bytesRow_at x _ j h2] at h1
  have e : bt x.toList j = (x.data[j].toNat : Int) := by
    unfold bt; rw [ByteArray.toList_eq]; simp [List.getD, Array.getElem?_eq_getElem h2]
  rw [e]; exact h1
theorem bt_extract (s : ByteArray) (i n j : Nat) (h : i + n ≤ s.size) (hj : j < n) : bt (s.extract i (i + n)).toList j = bt s.toList (i + j) := by
  unfold bt
  rw [ByteArray.toList_eq, ByteArray.toList_eq, Lib.extract_data]
  have e : i + n - i = n := by omega
  rw [e]
  simp [List.getD, List.getElem?_take, List.getElem?_drop, hj]
theorem size_extract (s : ByteArray) (i n : Nat) (h : i + n ≤ s.size) : (s.extract i (i + n)).size = n := by
  rw [ByteArray.size_extract]; omega

/-- the number that n digits of a text tell, from place i on -/
def numv (l : List UInt8) (i : Nat) : Nat → Int
  | 0 => 0
  | k + 1 => 10 * numv l i k + (bt l (i + k) - 48)
theorem numv_bd (l : List UInt8) (i n : Nat) (h : ∀ j, j < n → 48 ≤ bt l (i + j) ∧ bt l (i + j) ≤ 57) : ∀ k, k ≤ n → 0 ≤ numv l i k ∧ numv l i k < 10 ^ k := by
  intro k
  induction k with
  | zero => intro _; simp [numv]
  | succ k ih =>
    intro hk
    have h1 := ih (by omega)
    have h2 := h k (by omega)
    unfold numv
    rw [Int.pow_succ]
    omega
end Go.Proofs.YtmemgpmijphkmaaDoor
