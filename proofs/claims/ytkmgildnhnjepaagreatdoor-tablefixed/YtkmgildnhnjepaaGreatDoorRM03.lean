/- The one stable order of a list by a key. No function of the program in it. Bytes of texts as numbers; a text turned into bytes; the number that digits tell. What the reference's functions on names return: letters, IsName, IsAbbr. -/
import Derived.Test.YtkmgildnhnjepaaGreatDoorRM02
import Derived.Lib.Strings
import Derived.Test.YtkmgildnhnjepaaGreatDoorProg
import Derived.Test.YtkmgildnhnjepaaGreatDoorRM01
namespace Go.Proofs.YtkmgildnhnjepaaGreatDoor
set_option linter.unusedVariables false
set_option linter.unusedSimpArgs false
open Go.Sort
section
variable {β : Type}
/-- x goes behind all that is not greater -/
def ins (key : β → Int) (x : β) : List β → List β
  | [] => [x]
  | y :: l => if key x < key y then x :: y :: l else y :: ins key x l
/-- the list in its stable order -/
def stab (key : β → Int) (l : List β) : List β := l.foldl (fun acc x => ins key x acc) []
theorem ins_perm {key : β → Int} {x : β} : ∀ l : List β, (ins key x l).Perm (x :: l)
  | [] => List.Perm.refl _
  | y :: l => by
    unfold ins
    split
    · exact List.Perm.refl _
    · exact ((ins_perm l).cons y).trans (List.Perm.swap x y l)
theorem ins_map {γ : Type} {key : β → Int} {key' : γ → Int} {f : β → γ} (hf : ∀ x, key' (f x) = key x) (x : β) : ∀ l : List β, (ins key x l).map f = ins key' (f x) (l.map f)
  | [] => rfl
  | y :: l => by
    simp only [ins, List.map_cons, hf]
    split
    · rfl
    · rw [List.map_cons, ins_map hf x l]
theorem stab_map {γ : Type} {key : β → Int} {key' : γ → Int} {f : β → γ} (hf : ∀ x, key' (f x) = key x) (l : List β) : (stab key l).map f = stab key' (l.map f) := by
  have : ∀ (l acc : List β), (l.foldl (fun acc x => ins key x acc) acc).map f = (l.map f).foldl (fun acc x => ins key' x acc) (acc.map f) := by
    intro l
    induction l with
    | nil => intro acc; rfl
    | cons x l ih => intro acc; simp only [List.foldl_cons, List.map_cons]; rw [ih, ins_map hf]
  exact this l []
theorem stab_perm {key : β → Int} (l : List β) : (stab key l).Perm l := by
  have : ∀ (l acc : List β), (l.foldl (fun acc x => ins key x acc) acc).Perm (acc ++ l) := by
    intro l
    induction l with
    | nil => intro acc; simp
    | cons x l ih =>
      intro acc
      simp only [List.foldl_cons]
      refine (ih _).trans ?_
      have := (ins_perm (key := key) (x := x) acc).append_right l
      exact this.trans (by simpa using (List.perm_middle (a := x) (l₁ := acc) (l₂ := l)).symm)
  simpa [stab] using this l []
theorem stab_len {key : β → Int} (l : List β) : (stab key l).length = l.length := (stab_perm l).length_eq
theorem stab_mem {key : β → Int} {l : List β} {x : β} : x ∈ stab key l ↔ x ∈ l := (stab_perm l).mem_iff
/-- a thing with its place as its mark -/
abbrev keyT (key : β → Int) (p : β × Nat) : Int := key p.1
abbrev tagT (p : β × Nat) : Nat := p.2
def LexLe (key : β → Int) (p q : β × Nat) : Prop := key p.1 < key q.1 ∨ (key p.1 = key q.1 ∧ p.2 ≤ q.2)
theorem ins_lex {key : β → Int} {x : β × Nat} : ∀ {l : List (β × Nat)}, (∀ y ∈ l, y.2 < x.2) → l.Pairwise (LexLe key) → (ins (keyT key) x l).Pairwise (LexLe key)
  | [], _, _ => List.pairwise_singleton _ _
  | y :: l, ht, h => by
    rw [List.pairwise_cons] at h
    unfold ins
    split
    · rename_i c
      unfold keyT at c
      rw [List.pairwise_cons, List.pairwise_cons]
      refine ⟨fun z hz => ?_, h⟩
      rcases List.mem_cons.1 hz with rfl | hz
      · exact Or.inl c
      · rcases h.1 z hz with g | g
        · exact Or.inl (by omega)
        · exact Or.inl (by omega)
    · rename_i c
      unfold keyT at c
      rw [List.pairwise_cons]
      refine ⟨fun z hz => ?_, ins_lex (fun z hz => ht z (by simp [hz])) h.2⟩
      rcases List.mem_cons.1 ((ins_perm l).mem_iff.1 hz) with rfl | hz
      · have := ht y (by simp)
        unfold LexLe
        omega
      · exact h.1 z hz
theorem foldl_lex {key : β → Int} : ∀ (l acc : List (β × Nat)), acc.Pairwise (LexLe key) → (∀ x ∈ acc, ∀ y ∈ l, x.2 < y.2) → l.Pairwise (fun x y => x.2 < y.2) → (l.foldl (fun acc x => ins (keyT key) x acc) acc).Pairwise (LexLe key)
  | [], acc, h, _, _ => h
  | x :: l, acc, h, h2, h3 => by
    rw [List.pairwise_cons] at h3
    simp only [List.foldl_cons]
    refine foldl_lex l _ (ins_lex (fun y hy => h2 y hy x (by simp)) h) (fun y hy z hz => ?_) h3.2
    rcases List.mem_cons.1 ((ins_perm acc).mem_iff.1 hy) with rfl | hy
    · exact h3.1 z hz
    · exact h2 y hy z (by simp [hz])
theorem zip_tags {l : List β} : l.zipIdx.Pairwise (fun x y => x.2 < y.2) := by
  rw [List.pairwise_iff_getElem]
  intro i j hi hj hij
  simpa using hij
/-- whatever stands in order by key and place, and is the list, is its stable order -/
theorem stab_only {key : β → Int} {l : List β} {M : List (β × Nat)} (hp : M.Perm l.zipIdx) (hs : M.Pairwise (LexLe key)) : M.map (·.1) = stab key l := by
  have h2 : (stab (keyT key) l.zipIdx).Pairwise (LexLe key) := foldl_lex l.zipIdx [] List.Pairwise.nil (fun x hx => by simp at hx) zip_tags
  have e : M = stab (keyT key) l.zipIdx := by
    refine List.Perm.eq_of_pairwise (le := LexLe key) (fun a b ha hb h1 h2 => ?_) hs h2 (hp.trans (stab_perm _).symm)
    have a1 := hp.mem_iff.1 ha
    have b1 := stab_mem.1 hb
    have e2 : a.2 = b.2 := by unfold LexLe at h1 h2; omega
    obtain ⟨a0, ai⟩ := a
    obtain ⟨b0, bi⟩ := b
    simp only at e2
    subst e2
    rw [List.mk_mem_zipIdx_iff_getElem?] at a1 b1
    rw [a1] at b1
    injection b1 with b1
    rw [b1]
  rw [e, stab_map (f := Prod.fst) (key' := key) (fun x => rfl)]
  simp
end
section
variable {β : Type} [Inhabited β]
/-- a row sorted by the library, told as a list -/
theorem sorted_list {key : β → Int} {l : List β} {d' : Array (β × Nat)} (P : PermIn 0 l.zipIdx.toArray.size l.zipIdx.toArray d') (S : SortedIn (lexB (keyT key) tagT) 0 l.zipIdx.toArray.size d') : d'.toList.map (·.1) = stab key l := by
  have hs : d'.size = l.zipIdx.toArray.size := P.1
  have hp : d'.toList.Perm l.zipIdx := by
    have := P.2.2
    rw [← hs, Array.extract_size, hs, Array.extract_size] at this
    exact this
  refine stab_only hp ?_
  rw [List.pairwise_iff_getElem]
  intro i j hi hj hij
  have h := S i j (Nat.zero_le _) hij (by rw [← hs]; simpa using hj)
  rw [lexB_no, getElem!_pos d' i (by simpa using hi), getElem!_pos d' j (by simpa using hj)] at h
  simpa [LexLe] using h
theorem zip_grow {l : List β} : ∀ p q, p < q → q < l.zipIdx.toArray.size → tagT l.zipIdx.toArray[p]! < tagT l.zipIdx.toArray[q]! := fun p q h1 h2 => by
  rw [getElem!_pos _ p (by omega), getElem!_pos _ q h2]
  simpa using h1
end
end Go.Proofs.YtkmgildnhnjepaaGreatDoor
namespace Go.Proofs.YtkmgildnhnjepaaGreatDoor
set_option linter.unusedVariables false
set_option linter.unusedSimpArgs false
open Go.RowKit
/-- the k-th byte of a text, as a number -/
def bt (l : List UInt8) (k : Nat) : Int := ((l.getD k 0).toNat : Int)
theorem bt_bd (l : List UInt8) (k : Nat) : 0 ≤ bt l k ∧ bt l k ≤ 255 := by
  unfold bt; have := (l.getD k 0).toNat_lt; omega
theorem idx (s : ByteArray) (k : Nat) (h : k < s.size) (w : World) :
    (Instr.index 9 (.string s) (.int .i64 (k : Int))).run Tryz.prog w = .ok (.int .u8 (bt s.toList k)) w := by
  rw [run_index_string w 9 s .i64 k Tryz.underlying9, dif_pos ⟨by omega, by omega⟩]
  congr 2
  unfold bt
  rw [ByteArray.toList_eq]
  have h2 : k < s.data.size := h
  have e : s.data.toList.getD k 0 = s.data[k] := by simp [List.getD, Array.getElem?_eq_getElem h2]
  rw [e]
  rfl
end Go.Proofs.YtkmgildnhnjepaaGreatDoor
namespace Go.Proofs.YtkmgildnhnjepaaGreatDoor
set_option linter.unusedVariables false
set_option linter.unusedSimpArgs false
open Go.RowKit
/-- a digit or a letter -/
def alnum (c : Int) : Bool := (decide (48 ≤ c) && decide (c ≤ 57)) || (decide (65 ≤ c) && decide (c ≤ 90)) || (decide (97 ≤ c) && decide (c ≤ 122))
/-- is it one of the first k bytes? -/
def inB (o : List UInt8) (c : Int) : Nat → Bool
  | 0 => false
  | k + 1 => inB o c k || (c == bt o k)
/-- do the first k bytes consist of digits, letters and those others? -/
def lettersB (s o : List UInt8) : Nat → Bool
  | 0 => true
  | k + 1 => lettersB s o k && (alnum (bt s k) || inB o (bt s k) o.length)
theorem lettersB_no {s o : List UInt8} {k : Nat} (h : (alnum (bt s k) || inB o (bt s k) o.length) = false) : ∀ n, k < n → lettersB s o n = false := by
  intro n
  induction n with
  | zero => intro h; omega
  | succ n ih =>
    intro hn
    unfold lettersB
    by_cases e : k = n
    · subst e; rw [h]; simp
    · rw [ih (by omega)]; simp
theorem len_toList (s : ByteArray) : s.toList.length = s.size := by rw [ByteArray.toList_eq]; exact Array.length_toList

def isAbbrB (l : List UInt8) : Bool := decide (1 ≤ l.length) && decide (l.length ≤ 8) && lettersB l [43, 45] l.length
def isNameB (l : List UInt8) : Bool := decide (1 ≤ l.length) && decide (l.length ≤ 20) && lettersB l [95, 47, 45] l.length && alnum (bt l 0) && (decide (bt l 0 < 48) || decide (57 < bt l 0))
theorem isAbbrB_eq (s : ByteArray) : isAbbrB s.toList = (decide (1 ≤ s.size) && decide (s.size ≤ 8) && lettersB s.toList [43, 45] s.size) := by unfold isAbbrB; rw [len_toList]
theorem isNameB_eq (s : ByteArray) : isNameB s.toList = (decide (1 ≤ s.size) && decide (s.size ≤ 20) && lettersB s.toList [95, 47, 45] s.size && alnum (bt s.toList 0) && (decide (bt s.toList 0 < 48) || decide (57 < bt s.toList 0))) := by unfold isNameB; rw [len_toList]
theorem lit0 : (ByteArray.mk #[]).toList = [] := ByteArray.toList_mk []

end Go.Proofs.YtkmgildnhnjepaaGreatDoor
