/- A stable sort by merging parts: what it does tto a row of things that bear a key and a mark of their place. No function of the program in it. Small things that every walk here uses: a world that only grew, results by two, three and four, texts by their bytes, the last step of a row. No program in it. Bytes of texts as numbers; a text turned into bytes; the number that digits tell. -/
import Derived.Sort.LotA
import Derived.WalkKit
import Derived.WalkSpells
import Derived.WalkLawsBesides
import Derived.Laws.IdiomStrings
import Derived.ChangeSame
import Derived.Deep.Draws
import Derived.Lib.Hide
import Derived.Lib.Strings
import Derived.Test.YtkmgildnhnjepaaProg
namespace Go.Proofs.Ytkmgildnhnjepaa
set_option linter.unusedVariables false
set_option linter.unusedSimpArgs false
open Go.Sort
/-- by the key, then by the mark -/
def lexB {α : Type} (nom : α → Int) (tag : α → Nat) (x y : α) : Bool := decide (nom x < nom y ∨ (nom x = nom y ∧ tag x < tag y))
def nomB {α : Type} (nom : α → Int) (x y : α) : Bool := decide (nom x < nom y)
section
variable {α : Type} [Inhabited α] {nom : α → Int} {tag : α → Nat}
/-- before the merge -/
structure Mrg (nom : α → Int) (tag : α → Nat) (a m b : Nat) (d : Array α) : Prop where
  l : SortedIn (lexB nom tag) a m d
  r : SortedIn (lexB nom tag) m b d
  t : ∀ p q, a ≤ p → p < m → m ≤ q → q < b → tag d[p]! < tag d[q]!
/-- where the parts are cut -/
structure Cutt (nom : α → Int) (a m b mid s : Nat) (d : Array α) : Prop where
  am : a < m
  mb : m < b
  mi : mid = (a + b) / 2
  lo : m ≤ mid → a ≤ s ∧ s ≤ m ∧ (s = a ∨ nomB nom d[mid + m - s]! d[s - 1]! = false) ∧ (s = m ∨ nomB nom d[mid + m - 1 - s]! d[s]! = true)
  hi : mid < m → mid + m - b ≤ s ∧ s ≤ mid ∧ (s = mid + m - b ∨ nomB nom d[mid + m - s]! d[s - 1]! = false) ∧ (s = mid ∨ nomB nom d[mid + m - 1 - s]! d[s]! = true)
theorem Cutt.bounds {a m b mid s : Nat} {d : Array α} (h : Cutt nom a m b mid s d) : a ≤ s ∧ s ≤ m ∧ s ≤ mid ∧ m ≤ mid + m - s ∧ mid + m - s ≤ b ∧ mid ≤ mid + m - s ∧ mid < b ∧ a ≤ mid := by
  have h1 := h.am; have h2 := h.mb; have h3 := h.mi
  by_cases c : m ≤ mid
  · have := h.lo c; omega
  · have := h.hi (by omega); omega
/-- no call is needed where one part is empty -/
theorem Mrg.none {a m b : Nat} {d : Array α} (h : Mrg nom tag a m b d) (c : m ≤ a ∨ b ≤ m) : SortedIn (lexB nom tag) a b d := by
  intro p q h1 h2 h3
  rcases c with c | c
  · exact h.r p q (by omega) h2 h3
  · exact h.l p q h1 h2 (by omega)
/-- what lies outside stays -/
theorem Mrg.kept {a m b a' b' : Nat} {d d' : Array α} (h : Mrg nom tag a m b d) (ha : a ≤ m) (hb : m ≤ b) (hp : PermIn a' b' d d') (c : b ≤ a' ∨ b' ≤ a) : Mrg nom tag a m b d' := by
  have k : ∀ t, a ≤ t → t < b → d'[t]! = d[t]! := fun t h1 h2 => hp.2.1 t (by omega)
  refine ⟨fun p q h1 h2 h3 => ?_, fun p q h1 h2 h3 => ?_, fun p q h1 h2 h3 h4 => ?_⟩
  · rw [k p h1 (by omega), k q (by omega) (by omega)]; exact h.l p q h1 h2 h3
  · rw [k p (by omega) (by omega), k q (by omega) (by omega)]; exact h.r p q h1 h2 h3
  · rw [k p h1 (by omega), k q (by omega) h4]; exact h.t p q h1 h2 h3 h4
theorem dvd_step {w x a : Nat} (hx : w ∣ x) (ha : w ∣ a) (h : x < a) : x + w ≤ a := by
  obtain ⟨k, rfl⟩ := hx
  obtain ⟨l, rfl⟩ := ha
  have hkl : k < l := Nat.lt_of_mul_lt_mul_left h
  calc w * k + w = w * (k + 1) := by rw [Nat.mul_add, Nat.mul_one]
    _ ≤ w * l := Nat.mul_le_mul_left w hkl
/-- of two runs the marks of the first are smaller -/
def Apart (tag : α → Nat) (w : Nat) (d : Array α) : Prop := ∀ x p q, w ∣ x → p < x → x ≤ q → q < d.size → tag d[p]! < tag d[q]!
theorem Apart.perm {w a b : Nat} {d d' : Array α} (h : Apart tag w d) (hw : w ∣ a) (hb : b ≤ a + w) (hn : b ≤ d.size) (P : PermIn a b d d') : Apart tag w d' := by
  intro x p q hx h1 h2 h3
  rw [P.1] at h3
  have c : x ≤ a ∨ b ≤ x := by
    by_cases e : x ≤ a
    · exact Or.inl e
    · have := dvd_step hw hx (by omega); exact Or.inr (by omega)
  have one : ∀ k, k < x → ∀ j, x ≤ j → j < d.size → tag d[k]! < tag d[j]! := fun k hk j hj hj2 => h x k j hx hk hj hj2
  have two : ∀ k, k < x → ∀ j, x ≤ j → j < d.size → tag d[k]! < tag d'[j]! := fun k hk j hj hj2 => by
    by_cases e : a ≤ j ∧ j < b
    · refine permIn_all d d' a b (fun v => tag d[k]! < tag v) hn P (fun i i1 i2 => ?_) j e.1 e.2
      rcases c with c | c
      · exact one k hk i (by omega) (by omega)
      · exact absurd e.2 (by omega)
    · rw [P.2.1 j (by omega)]; exact one k hk j hj hj2
  by_cases e : a ≤ p ∧ p < b
  · refine permIn_all d d' a b (fun v => tag v < tag d'[q]!) hn P (fun i i1 i2 => ?_) p e.1 e.2
    rcases c with c | c
    · exact absurd e.1 (by omega)
    · exact two i (by omega) q h2 h3
  · rw [P.2.1 p (by omega)]; exact two p h1 q h2 h3
/-- each run of this length stands in order -/
structure Runs (nom : α → Int) (tag : α → Nat) (w : Nat) (d : Array α) : Prop where
  s : ∀ x, w ∣ x → SortedIn (lexB nom tag) x (min (x + w) d.size) d
  t : Apart tag w d
/-- the same under way: below a stand runs of w, from a on runs of u -/
structure Ph (nom : α → Int) (tag : α → Nat) (u w a : Nat) (d : Array α) : Prop where
  s2 : ∀ x, w ∣ x → x + w ≤ a → SortedIn (lexB nom tag) x (x + w) d
  s : ∀ x, u ∣ x → a ≤ x → SortedIn (lexB nom tag) x (min (x + u) d.size) d
  t2 : Apart tag w d
  t : ∀ x p q, u ∣ x → a ≤ p → p < x → x ≤ q → q < d.size → tag d[p]! < tag d[q]!
theorem Ph.step {u w a : Nat} {d d' : Array α} (h : Ph nom tag u w a d) (hw : w ∣ a) (hn : a + w ≤ d.size) (P : PermIn a (a + w) d d') (S : SortedIn (lexB nom tag) a (a + w) d') : Ph nom tag u w (a + w) d' := by
  refine ⟨fun x h1 h2 => ?_, fun x h1 h2 => ?_, h.t2.perm hw (Nat.le_refl _) hn P, fun x p q h1 h2 h3 h4 h5 => ?_⟩
  · by_cases e : x = a
    · rw [e]; exact S
    · have := dvd_step h1 hw (by omega)
      intro p q k1 k2 k3
      rw [P.2.1 p (by omega), P.2.1 q (by omega)]
      exact h.s2 x h1 this p q k1 k2 k3
  · rw [P.1]
    intro p q k1 k2 k3
    rw [P.2.1 p (by omega), P.2.1 q (by omega)]
    exact h.s x h1 (by omega) p q k1 k2 k3
  · rw [P.1] at h5
    rw [P.2.1 p (by omega), P.2.1 q (by omega)]
    exact h.t x p q h1 (by omega) h3 h4 h5
theorem Ph.rest {u w a : Nat} {d : Array α} (h : Ph nom tag u w a d) (hu : u ∣ a) (h1 : d.size ≤ a + u) : SortedIn (lexB nom tag) a d.size d := by
  have := h.s a hu (Nat.le_refl _)
  rwa [Nat.min_eq_right h1] at this
theorem Runs.all {w : Nat} {d : Array α} (h : Runs nom tag w d) (hn : d.size ≤ w) : SortedIn (lexB nom tag) 0 d.size d := by
  have := h.s 0 (Nat.dvd_zero w)
  rwa [Nat.zero_add, Nat.min_eq_right hn] at this
end
end Go.Proofs.Ytkmgildnhnjepaa
namespace Go.Proofs.Ytkmgildnhnjepaa
set_option linter.unusedVariables false
set_option linter.unusedSimpArgs false
open Go.RowKit Go.WideShapes Go.ChangeShapes
/-- Nothing that lay in the world has changed; new blocks may lie behind it. -/
def Gr (w w' : World) : Prop := Below w.heap.size w w'
theorem Gr.refl (w : World) : Gr w w := Below.refl _ _
theorem Gr.trans {a b c : World} (h : Gr a b) (k : Gr b c) : Gr a c := Below.trans h (Below.mono k (Below.size h))
theorem Gr.alloc (w : World) (o : Obj) : Gr w (w.alloc o) := (Below.refl _ _).alloc (Nat.le_refl _) _
theorem Gr.drew (w : World) : Gr w w.drew := (Below.refl _ _).drew
theorem Gr.alloc' {a w : World} (h : Gr a w) (o : Obj) : Gr a (w.alloc o) := h.trans (Gr.alloc w o)
theorem below_drewN {B : Nat} {a w : World} (h : Below B a w) (n : Nat) : Below B a (w.drewN n) := ⟨h.os, h.tape, h.output, h.size, h.block⟩
theorem Gr.drewN {a w : World} (h : Gr a w) (n : Nat) : Gr a (w.drewN n) := below_drewN h n
theorem Gr.size {w w' : World} (h : Gr w w') : w.heap.size ≤ w'.heap.size := Below.size h
theorem Gr.cell {w w' : World} (h : Gr w w') {b o : Nat} (hb : b < w.heap.size) : w'.cell? ⟨b, o, none⟩ = w.cell? ⟨b, o, none⟩ := Below.cell (p := ⟨b, o, none⟩) h hb
theorem Gr.holds {w w' : World} (h : Gr w w') {b o : Nat} {v : Value} (hc : w.cell? ⟨b, o, none⟩ = some v) : w'.cell? ⟨b, o, none⟩ = some v :=
  (h.cell (World.block_lt_of_cell? w ⟨b, o, none⟩ hc)).trans hc

theorem ret_int {k : IntKind} {a b : Int} (h : a = b) : Ending.returned (.int k a) = .returned (.int k b) := by rw [h]
theorem ret_bool {a b : Bool} (h : a = b) : Ending.returned (.bool a) = .returned (.bool b) := by rw [h]
/-- two results -/
abbrev two (a b : Int) : Ending := .returned (.tuple #[.int .i64 a, .int .i64 b])
/-- three results -/
abbrev three (a b c : Int) : Ending := .returned (.tuple #[.int .i64 a, .int .i64 b, .int .i64 c])
/-- four results -/
abbrev four (a b c d : Int) : Ending := .returned (.tuple #[.int .i64 a, .int .i64 b, .int .i64 c, .int .i64 d])
theorem beqT {a b : Int} (h : a = b) : (a == b) = true := by simp [h]
theorem beqF {a b : Int} (h : a ≠ b) : (a == b) = false := by simp [h]
theorem bneT {a b : Int} (h : a ≠ b) : (a != b) = true := by simp [h]
theorem bneF {a b : Int} (h : a = b) : (a != b) = false := by simp [h]
theorem ltT {a b : Int} (h : a < b) : decide (a < b) = true := by simp [h]
theorem ltF {a b : Int} (h : ¬ a < b) : decide (a < b) = false := by simp at h ⊢; exact h
/-- a text, by its bytes -/
def S (l : List UInt8) : ByteArray := ⟨l.toArray⟩
@[go_sem] theorem S_size (l : List UInt8) : (S l).size = l.length := by simp [S, ByteArray.size]
@[go_sem] theorem S_append (a b : List UInt8) : S a ++ S b = S (a ++ b) := by simp [S, ByteArray.mk_append_mk]
theorem lit_S (b : Array UInt8) : ByteArray.mk b = S b.toList := by simp [S]
@[go_sem] theorem S_append_lit (a : List UInt8) (b : Array UInt8) : S a ++ ByteArray.mk b = S (a ++ b.toList) := by rw [lit_S, S_append]
@[go_sem] theorem S_lit_append (a : List UInt8) (b : Array UInt8) : ByteArray.mk b ++ S a = S (b.toList ++ a) := by rw [lit_S, S_append]
@[go_sem] theorem S_toList (l : List UInt8) : (S l).toList = l := by simp [S]
theorem S_of (s : ByteArray) : s = S s.toList := by rw [ByteArray.toList_eq]; simp [S]
/-- the byte of a number -/
def u (n : Int) : UInt8 := UInt8.ofNat n.toNat
section
variable {H : Type} {enc : TypeId × Value → H} {P : Program}
/-- The row's last step where the call left a world that only grew. -/
theorem post_of_below {f : Func} {s : ChangeSpec} {apart fresh handsOn again : Bool} {W W' : World} {args : Array Value} {v : Value} {ds gs : List (DataW H)} {before pa pv : List MemPlace}
    (hW : DataW.Whole enc P f.params.toList s.vars apart W args.toList ds gs before)
    (hres : ∀ (b : Nat) (sp : Nat → Bool) (hd : Bool), DataW.TrodAll enc P W' b sp hd f.resultTypes.toList (v.resultList f.resultTypes.size) (s.fn H (ds ++ gs)).results [])
    (hargs : ∀ sp : Nat → Bool, (∀ p ∈ before, sp p.block = true) → DataW.TrodAll enc P W' 0 sp true f.params.toList args.toList (s.fn H (ds ++ gs)).args pa)
    (hvars : ∀ sp : Nat → Bool, (∀ p ∈ before, sp p.block = true) → DataW.TrodVars enc P W' sp s.vars (s.fn H (ds ++ gs)).vars pv)
    (hps : before = pa ++ pv) (hb : Below W.heap.size W W')
    (hok : ∀ (j : Nat) (t : TypeId) (r : Value), f.resultTypes[j]? = some t → (v.resultList f.resultTypes.size)[j]? = some r → Value.okWide P W' .any 0 t r) :
    s.post enc P f apart fresh handsOn again W args v W' := by
  have hlt : ∀ p ∈ before, p.block < W.heap.size := fun p hp => hW.lt p hp
  have hold : ∀ p ∈ before, (fun b => decide (b < W.heap.size)) p.block = true := fun p hp => by simpa using hlt p hp
  refine ⟨ds, gs, before, [], pa, pv, hW, hres _ _ _, hargs _ hold, hvars _ hold, World.keptBut_mono (fun p hp => ⟨hp, ?_⟩) (hb.frame (· ∈ before)), fun _ => ?_⟩
  · rw [hps, List.mem_append] at hp
    exact Or.inr hp
  · obtain ⟨_, _, _, _, _, hz, hn⟩ := hW
    refine ⟨hok, _, _, ([] ++ pa) ++ pv, ⟨[] ++ pa, pv, trodAll_append (hargs _ (fun _ _ => rfl)) (hres _ _ _), hvars _ (fun _ _ => rfl), rfl, ?_, ?_⟩, ?_⟩
    · intro b off hp
      have hin : MemPlace.cell b off ∈ before := by rw [hps]; simpa using hp
      rw [hb.frozen (hlt _ hin)]
      exact hz b off hin
    · intro ha
      have := hn ha
      rw [hps] at this
      simpa using this
    · intro p hp _
      rw [hps]
      simpa using hp
end
end Go.Proofs.Ytkmgildnhnjepaa
namespace Go.Proofs.Ytkmgildnhnjepaa
set_option linter.unusedVariables false
set_option linter.unusedSimpArgs false
open Go.RowKit
/-- the k-th byte of a text, as a number -/
def bt (l : List UInt8) (k : Nat) : Int := ((l.getD k 0).toNat : Int)
theorem bt_bd (l : List UInt8) (k : Nat) : 0 ≤ bt l k ∧ bt l k ≤ 255 := by
  unfold bt; have := (l.getD k 0).toNat_lt; omega
theorem idx (s : ByteArray) (k : Nat) (h : k < s.size) (w : World) :
    (Instr.index 9 (.string s) (.int .i64 (k : Int))).run Try.prog w = .ok (.int .u8 (bt s.toList k)) w := by
  rw [run_index_string w 9 s .i64 k Try.underlying9, dif_pos ⟨by omega, by omega⟩]
  congr 2
  unfold bt
  rw [ByteArray.toList_eq]
  have h2 : k < s.data.size := h
  have e : s.data.toList.getD k 0 = s.data[k] := by simp [List.getD, Array.getElem?_eq_getElem h2]
  rw [e]
  rfl
theorem to_bytes (x : ByteArray) (w : World) : ∃ (cap : Nat) (w2 : World), (convert 9 46 (.string x)).run Try.prog w = .ok (.slice (some ⟨w.heap.size, 0, none⟩) x.size cap) w2 ∧ Gr w w2 ∧
    ∀ j, j < x.size → w2.cell? ⟨w.heap.size, j, none⟩ = some (.int .u8 (bt x.toList j)) := by
  refine ⟨_, _, run_bytes_of_string (P := Try.prog) w 9 46 5 x Try.underlying9 Try.underlying46 Try.underlying5, (Gr.drew w).alloc' _, fun j hj => ?_⟩
  have h1 := World.cell?_alloc_mark w.drew (bytesRow x (grownCap w x.size 0 5)) 5 ((bytesRow x (grownCap w x.size 0 5)).size, (bytesRow x (grownCap w x.size 0 5)).size + 1) j
  have h2 : j < x.data.size := hj
  rw [bytesRow_at x _ j h2] at h1
  have e : bt x.toList j = (x.data[j].toNat : Int) := by
    unfold bt; rw [ByteArray.toList_eq]; simp [List.getD, Array.getElem?_eq_getElem h2]
  rw [e]; exact h1
end Go.Proofs.Ytkmgildnhnjepaa
