/- The one stable order of a list by a key. No function of the program in it. Bytes of texts as numbers; a text turned into bytes; the number that digits tell. -/
import Derived.Test.YtkmgildnhnjepaaGreatDoorTM02
import Derived.Lib.Strings
import Derived.Test.YtkmgildnhnjepaaGreatDoorProg
import Derived.Test.YtkmgildnhnjepaaGreatDoorTM01
namespace Go.Proofs.YtkmgildnhnjepaaGreatDoor
set_option linter.unusedVariables false
set_option linter.unusedSimpArgs false
open Go.Sort
section
variable {β : Type}
/-- x goes behind all that is not greater -/
def ins (key : β → Int) (x : β) : List β → List β
  | [] => [x]
  | y :: l => if key x < key y then x :: y :: l else y :: ins key x l
/-- the list in its stable order -/
def stab (key : β → Int) (l : List β) : List β := l.foldl (fun acc x => ins key x acc) []
theorem ins_split {key : β → Int} {x : β} : ∀ (A B : List β), (∀ y ∈ A, key y ≤ key x) → (∀ y, B[0]? = some y → key x < key y) → ins key x (A ++ B) = A ++ x :: B
  | [], [], _, _ => rfl
  | [], b :: B, _, h => by
    have := h b rfl
    show (if key x < key b then x :: b :: B else b :: ins key x B) = _
    rw [if_pos this]; rfl
  | a :: A, B, hA, hB => by
    have := hA a (by simp)
    show (if key x < key a then x :: a :: (A ++ B) else a :: ins key x (A ++ B)) = _
    rw [if_neg (by omega), ins_split A B (fun y hy => hA y (by simp [hy])) hB]; rfl
theorem ins_perm {key : β → Int} {x : β} : ∀ l : List β, (ins key x l).Perm (x :: l)
  | [] => List.Perm.refl _
  | y :: l => by
    unfold ins
    split
    · exact List.Perm.refl _
    · exact ((ins_perm l).cons y).trans (List.Perm.swap x y l)
theorem ins_map {γ : Type} {key : β → Int} {key' : γ → Int} {f : β → γ} (hf : ∀ x, key' (f x) = key x) (x : β) : ∀ l : List β, (ins key x l).map f = ins key' (f x) (l.map f)
  | [] => rfl
  | y :: l => by
    simp only [ins, List.map_cons, hf]
    split
    · rfl
    · rw [List.map_cons, ins_map hf x l]
theorem stab_snoc {key : β → Int} (l : List β) (x : β) : stab key (l ++ [x]) = ins key x (stab key l) := by unfold stab; rw [List.foldl_append]; rfl
theorem stab_map {γ : Type} {key : β → Int} {key' : γ → Int} {f : β → γ} (hf : ∀ x, key' (f x) = key x) (l : List β) : (stab key l).map f = stab key' (l.map f) := by
  have : ∀ (l acc : List β), (l.foldl (fun acc x => ins key x acc) acc).map f = (l.map f).foldl (fun acc x => ins key' x acc) (acc.map f) := by
    intro l
    induction l with
    | nil => intro acc; rfl
    | cons x l ih => intro acc; simp only [List.foldl_cons, List.map_cons]; rw [ih, ins_map hf]
  exact this l []
theorem stab_perm {key : β → Int} (l : List β) : (stab key l).Perm l := by
  have : ∀ (l acc : List β), (l.foldl (fun acc x => ins key x acc) acc).Perm (acc ++ l) := by
    intro l
    induction l with
    | nil => intro acc; simp
    | cons x l ih =>
      intro acc
      simp only [List.foldl_cons]
      refine (ih _).trans ?_
      have := (ins_perm (key := key) (x := x) acc).append_right l
      exact this.trans (by simpa using (List.perm_middle (a := x) (l₁ := acc) (l₂ := l)).symm)
  simpa [stab] using this l []
theorem stab_len {key : β → Int} (l : List β) : (stab key l).length = l.length := (stab_perm l).length_eq
theorem stab_mem {key : β → Int} {l : List β} {x : β} : x ∈ stab key l ↔ x ∈ l := (stab_perm l).mem_iff
/-- in order by the key -/
def Ups (key : β → Int) (l : List β) : Prop := l.Pairwise (fun x y => key x ≤ key y)
theorem ins_ups {key : β → Int} {x : β} : ∀ {l : List β}, Ups key l → Ups key (ins key x l)
  | [], _ => List.pairwise_singleton _ _
  | y :: l, h => by
    unfold Ups at h ⊢
    rw [List.pairwise_cons] at h
    unfold ins
    split
    · rename_i c
      rw [List.pairwise_cons, List.pairwise_cons]
      refine ⟨fun z hz => ?_, h⟩
      rcases List.mem_cons.1 hz with rfl | hz
      · omega
      · have := h.1 z hz; omega
    · rename_i c
      rw [List.pairwise_cons]
      refine ⟨fun z hz => ?_, ins_ups h.2⟩
      rcases List.mem_cons.1 ((ins_perm l).mem_iff.1 hz) with rfl | hz
      · omega
      · exact h.1 z hz
theorem stab_ups {key : β → Int} (l : List β) : Ups key (stab key l) := by
  have : ∀ (l acc : List β), Ups key acc → Ups key (l.foldl (fun acc x => ins key x acc) acc) := by
    intro l
    induction l with
    | nil => intro acc h; exact h
    | cons x l ih => intro acc h; simp only [List.foldl_cons]; exact ih _ (ins_ups h)
  exact this l [] List.Pairwise.nil

/-- a thing with its place as its mark -/
abbrev keyT (key : β → Int) (p : β × Nat) : Int := key p.1
abbrev tagT (p : β × Nat) : Nat := p.2
def LexLe (key : β → Int) (p q : β × Nat) : Prop := key p.1 < key q.1 ∨ (key p.1 = key q.1 ∧ p.2 ≤ q.2)
theorem ins_lex {key : β → Int} {x : β × Nat} : ∀ {l : List (β × Nat)}, (∀ y ∈ l, y.2 < x.2) → l.Pairwise (LexLe key) → (ins (keyT key) x l).Pairwise (LexLe key)
  | [], _, _ => List.pairwise_singleton _ _
  | y :: l, ht, h => by
    rw [List.pairwise_cons] at h
    unfold ins
    split
    · rename_i c
      unfold keyT at c
      rw [List.pairwise_cons, List.pairwise_cons]
      refine ⟨fun z hz => ?_, h⟩
      rcases List.mem_cons.1 hz with rfl | hz
      · exact Or.inl c
      · rcases h.1 z hz with g | g
        · exact Or.inl (by omega)
        · exact Or.inl (by omega)
    · rename_i c
      unfold keyT at c
      rw [List.pairwise_cons]
      refine ⟨fun z hz => ?_, ins_lex (fun z hz => ht z (by simp [hz])) h.2⟩
      rcases List.mem_cons.1 ((ins_perm l).mem_iff.1 hz) with rfl | hz
      · have := ht y (by simp)
        unfold LexLe
        omega
      · exact h.1 z hz
theorem foldl_lex {key : β → Int} : ∀ (l acc : List (β × Nat)), acc.Pairwise (LexLe key) → (∀ x ∈ acc, ∀ y ∈ l, x.2 < y.2) → l.Pairwise (fun x y => x.2 < y.2) → (l.foldl (fun acc x => ins (keyT key) x acc) acc).Pairwise (LexLe key)
  | [], acc, h, _, _ => h
  | x :: l, acc, h, h2, h3 => by
    rw [List.pairwise_cons] at h3
    simp only [List.foldl_cons]
    refine foldl_lex l _ (ins_lex (fun y hy => h2 y hy x (by simp)) h) (fun y hy z hz => ?_) h3.2
    rcases List.mem_cons.1 ((ins_perm acc).mem_iff.1 hy) with rfl | hy
    · exact h3.1 z hz
    · exact h2 y hy z (by simp [hz])
theorem zip_tags {l : List β} : l.zipIdx.Pairwise (fun x y => x.2 < y.2) := by
  rw [List.pairwise_iff_getElem]
  intro i j hi hj hij
  simpa using hij
/-- whatever stands in order by key and place, and is the list, is its stable order -/
theorem stab_only {key : β → Int} {l : List β} {M : List (β × Nat)} (hp : M.Perm l.zipIdx) (hs : M.Pairwise (LexLe key)) : M.map (·.1) = stab key l := by
  have h2 : (stab (keyT key) l.zipIdx).Pairwise (LexLe key) := foldl_lex l.zipIdx [] List.Pairwise.nil (fun x hx => by simp at hx) zip_tags
  have e : M = stab (keyT key) l.zipIdx := by
    refine List.Perm.eq_of_pairwise (le := LexLe key) (fun a b ha hb h1 h2 => ?_) hs h2 (hp.trans (stab_perm _).symm)
    have a1 := hp.mem_iff.1 ha
    have b1 := stab_mem.1 hb
    have e2 : a.2 = b.2 := by unfold LexLe at h1 h2; omega
    obtain ⟨a0, ai⟩ := a
    obtain ⟨b0, bi⟩ := b
    simp only at e2
    subst e2
    rw [List.mk_mem_zipIdx_iff_getElem?] at a1 b1
    rw [a1] at b1
    injection b1 with b1
    rw [b1]
  rw [e, stab_map (f := Prod.fst) (key' := key) (fun x => rfl)]
  simp
end
section
variable {β : Type} [Inhabited β]
/-- a row sorted by the library, told as a list -/
theorem sorted_list {key : β → Int} {l : List β} {d' : Array (β × Nat)} (P : PermIn 0 l.zipIdx.toArray.size l.zipIdx.toArray d') (S : SortedIn (lexB (keyT key) tagT) 0 l.zipIdx.toArray.size d') : d'.toList.map (·.1) = stab key l := by
  have hs : d'.size = l.zipIdx.toArray.size := P.1
  have hp : d'.toList.Perm l.zipIdx := by
    have := P.2.2
    rw [← hs, Array.extract_size, hs, Array.extract_size] at this
    exact this
  refine stab_only hp ?_
  rw [List.pairwise_iff_getElem]
  intro i j hi hj hij
  have h := S i j (Nat.zero_le _) hij (by rw [← hs]; simpa using hj)
  rw [lexB_no, getElem!_pos d' i (by simpa using hi), getElem!_pos d' j (by simpa using hj)] at h
  simpa [LexLe] using h
theorem zip_grow {l : List β} : ∀ p q, p < q → q < l.zipIdx.toArray.size → tagT l.zipIdx.toArray[p]! < tagT l.zipIdx.toArray[q]! := fun p q h1 h2 => by
  rw [getElem!_pos _ p (by omega), getElem!_pos _ q h2]
  simpa using h1
end
end Go.Proofs.YtkmgildnhnjepaaGreatDoor
namespace Go.Proofs.YtkmgildnhnjepaaGreatDoor
set_option linter.unusedVariables false
set_option linter.unusedSimpArgs false
open Go.RowKit
/-- the k-th byte of a text, as a number -/
def bt (l : List UInt8) (k : Nat) : Int := ((l.getD k 0).toNat : Int)
theorem bt_bd (l : List UInt8) (k : Nat) : 0 ≤ bt l k ∧ bt l k ≤ 255 := by
  unfold bt; have := (l.getD k 0).toNat_lt; omega
theorem idx (s : ByteArray) (k : Nat) (h : k < s.size) (w : World) :
    (Instr.index 9 (.string s) (.int .i64 (k : Int))).run Tryz.prog w = .ok (.int .u8 (bt s.toList k)) w := by
  rw [run_index_string w 9 s .i64 k Tryz.underlying9, dif_pos ⟨by omega, by omega⟩]
  congr 2
  unfold bt
  rw [ByteArray.toList_eq]
  have h2 : k < s.data.size := h
  have e : s.data.toList.getD k 0 = s.data[k] := by simp [List.getD, Array.getElem?_eq_getElem h2]
  rw [e]
  rfl
theorem to_bytes (x : ByteArray) (w : World) : ∃ (cap : Nat) (w2 : World), (convert 9 151 (.string x)).run Tryz.prog w = .ok (.slice (some ⟨w.heap.size, 0, none⟩) x.size cap) w2 ∧ Gr w w2 ∧
    ∀ j, j < x.size → w2.cell? ⟨w.heap.size, j, none⟩ = some (.int .u8 (bt x.toList j)) := by
  refine ⟨_, _, run_bytes_of_string (P := Tryz.prog) w 9 151 5 x Tryz.underlying9 Tryz.underlying151 Tryz.underlying5, (Gr.drew w).alloc' _, fun j hj => ?_⟩
  have h1 := World.cell?_alloc_mark w.drew (bytesRow x (grownCap w x.size 0 5)) 5 ((bytesRow x (grownCap w x.size 0 5)).size, (bytesRow x (grownCap w x.size 0 5)).size + 1) j
  have h2 : j < x.data.size := hj
  rw [bytesRow_at x _ j h2] at h1
  have e : bt x.toList j = (x.data[j].toNat : Int) := by
    unfold bt; rw [ByteArray.toList_eq]; simp [List.getD, Array.getElem?_eq_getElem h2]
  rw [e]; exact h1
theorem bt_extract (s : ByteArray) (i n j : Nat) (h : i + n ≤ s.size) (hj : j < n) : bt (s.extract i (i + n)).toList j = bt s.toList (i + j) := by
  unfold bt
  rw [ByteArray.toList_eq, ByteArray.toList_eq, Lib.extract_data]
  have e : i + n - i = n := by omega
  rw [e]
  simp [List.getD, List.getElem?_take, List.getElem?_drop, hj]
theorem size_extract (s : ByteArray) (i n : Nat) (h : i + n ≤ s.size) : (s.extract i (i + n)).size = n := by
  rw [ByteArray.size_extract]; omega

end Go.Proofs.YtkmgildnhnjepaaGreatDoor
