/- A stable sort by merging parts: what it does tto a row of things that bear a key and a mark of their place. No function of the program in it. -/
import Derived.Sort.LotA
namespace Go.Proofs.YtkmgildnhnjepaaGreatDoor
set_option linter.unusedVariables false
set_option linter.unusedSimpArgs false
open Go.Sort
/-- by the key, then by the mark -/
def lexB {α : Type} (nom : α → Int) (tag : α → Nat) (x y : α) : Bool := decide (nom x < nom y ∨ (nom x = nom y ∧ tag x < tag y))
def nomB {α : Type} (nom : α → Int) (x y : α) : Bool := decide (nom x < nom y)
theorem lexB_no {α : Type} {nom : α → Int} {tag : α → Nat} {x y : α} : lexB nom tag x y = false ↔ (nom y < nom x ∨ (nom y = nom x ∧ tag y ≤ tag x)) := by unfold lexB; rw [decide_eq_false_iff_not]; omega
theorem nomB_no {α : Type} {nom : α → Int} {x y : α} : nomB nom x y = false ↔ nom y ≤ nom x := by unfold nomB; rw [decide_eq_false_iff_not]; omega
theorem nomB_yes {α : Type} {nom : α → Int} {x y : α} : nomB nom x y = true ↔ nom x < nom y := by unfold nomB; rw [decide_eq_true_iff]
theorem lexB_swo {α : Type} {nom : α → Int} {tag : α → Nat} : SWO (lexB nom tag) := {
  irrefl := fun x => by rw [lexB_no]; omega
  trans := fun x y z h1 h2 => by unfold lexB at *; simp only [decide_eq_true_iff] at *; omega
  ntrans := fun x y z h1 h2 => by rw [lexB_no] at *; omega }
section
variable {α : Type} [Inhabited α] {nom : α → Int} {tag : α → Nat}
/-- the marks grow from the i-th on -/
def Tags (tag : α → Nat) (a b i : Nat) (d : Array α) : Prop := ∀ p q, a ≤ p → p < q → q < b → i ≤ q → tag d[p]! < tag d[q]!
theorem insInner_tags {a : Nat} : ∀ (j : Nat) (d : Array α), j < d.size → (∀ q, a ≤ q → q < j → tag d[q]! < tag d[j]!) → insInner (nomB nom) a j d = insInner (lexB nom tag) a j d
  | 0, d, _, _ => rfl
  | j + 1, d, hj, h => by
    unfold insInner
    by_cases c : j + 1 > a
    · have ht := h j (by omega) (by omega)
      have e : nomB nom d[j + 1]! d[j]! = lexB nom tag d[j + 1]! d[j]! := by
        unfold nomB lexB
        exact decide_eq_decide.2 (by omega)
      rw [e]
      by_cases g : (decide (j + 1 > a) && lexB nom tag d[j + 1]! d[j]!) = true
      · rw [if_pos g, if_pos g]
        refine insInner_tags j _ (by rw [swp_size]; omega) (fun q hq1 hq2 => ?_)
        rw [swp_get d hj (by omega), swp_get d hj (by omega), if_neg (by omega), if_neg (by omega), if_pos rfl]
        exact h q hq1 (by omega)
      · rw [if_neg g, if_neg g]
    · have g : ¬ (decide (j + 1 > a) && nomB nom d[j + 1]! d[j]!) = true := by simp [c]
      have g' : ¬ (decide (j + 1 > a) && lexB nom tag d[j + 1]! d[j]!) = true := by simp [c]
      rw [if_neg g, if_neg g']
theorem insInner_perm {lt : α → α → Bool} {a : Nat} : ∀ (j : Nat) (d : Array α) (i : Nat), j ≤ i → i < d.size → PermIn a (i + 1) d (insInner lt a j d)
  | 0, d, i, _, _ => permIn_refl d a (i + 1)
  | j + 1, d, i, hj, hi => by
    unfold insInner
    by_cases g : (decide (j + 1 > a) && lt d[j + 1]! d[j]!) = true
    · rw [if_pos g]
      have ga : a < j + 1 := by simp at g; omega
      have s1 := swp_permIn d a (i + 1) (j + 1) j (by omega) (by omega) (by omega) (by omega) (by omega)
      exact permIn_trans _ _ _ _ _ s1 (insInner_perm j _ i (by omega) (by rw [swp_size]; exact hi))
    · rw [if_neg g]; exact permIn_refl d a (i + 1)
theorem insOuter_tags {a b : Nat} : ∀ (n i : Nat) (d : Array α), b - i ≤ n → a ≤ i → b ≤ d.size → Tags tag a b i d → insOuter (nomB nom) a b i d = insOuter (lexB nom tag) a b i d
  | 0, i, d, hn, _, _, _ => by
    rw [insOuter, if_neg (by omega)]
    conv => rhs; rw [insOuter, if_neg (by omega)]
  | n + 1, i, d, hn, ha, hb, h => by
    rw [insOuter]
    conv => rhs; rw [insOuter]
    by_cases c : i < b
    · rw [if_pos c, if_pos c, insInner_tags (tag := tag) i d (by omega) (fun q h1 h2 => h q i h1 h2 c (Nat.le_refl _))]
      have P := insInner_perm (lt := lexB nom tag) (a := a) i d i (Nat.le_refl _) (by omega)
      refine insOuter_tags n (i + 1) _ (by omega) (by omega) (by rw [P.1]; exact hb) (fun p q h1 h2 h3 h4 => ?_)
      rw [P.2.1 q (Or.inr h4)]
      by_cases hp : p < i + 1
      · exact permIn_all d _ a (i + 1) (fun x => tag x < tag d[q]!) (by omega) P (fun k k1 k2 => h k q k1 (by omega) h3 (by omega)) p h1 hp
      · rw [P.2.1 p (Or.inr (by omega))]; exact h p q h1 h2 h3 (by omega)
    · rw [if_neg c, if_neg c]
/-- the insertion sort keeps the order of what has one key -/
theorem insertion_tags {a b : Nat} {d : Array α} (hab : a ≤ b) (hb : b ≤ d.size) (h : Tags tag a b a d) : PermIn a b d (insertionSort (nomB nom) d a b) ∧ SortedIn (lexB nom tag) a b (insertionSort (nomB nom) d a b) := by
  have e : insertionSort (nomB nom) d a b = insertionSort (lexB nom tag) d a b := by
    unfold insertionSort
    exact insOuter_tags (b - (a + 1)) (a + 1) d (Nat.le_refl _) (by omega) hb (fun p q h1 h2 h3 h4 => h p q h1 h2 h3 (by omega))
  rw [e]
  exact insertionSort_holds lexB_swo d a b hab hb

def swI (a b n t : Nat) : Nat := if a ≤ t ∧ t < a + n then t - a + b else if b ≤ t ∧ t < b + n then t - b + a else t
def rotI (a m b t : Nat) : Nat := if a ≤ t ∧ t < a + (b - m) then t + (m - a) else if a + (b - m) ≤ t ∧ t < b then t - (b - m) else t
/-- d' holds what lay in d at f -/
def Idx (f : Nat → Nat) (d d' : Array α) : Prop := d'.size = d.size ∧ ∀ t : Nat, d'[t]! = d[f t]!
theorem Idx.comp {f g h : Nat → Nat} {d d' d'' : Array α} (h1 : Idx f d d') (h2 : Idx g d' d'') (e : ∀ t, f (g t) = h t) : Idx h d d'' := ⟨h2.1.trans h1.1, fun t => by rw [h2.2, h1.2, e]⟩
theorem Idx.id_ {f : Nat → Nat} (d : Array α) (e : ∀ t, f t = t) : Idx f d d := ⟨rfl, fun t => by rw [e]⟩
theorem Idx.swp {d : Array α} {i j : Nat} (hi : i < d.size) (hj : j < d.size) : Idx (swI i j 1) d (swp d i j) := ⟨swp_size d i j, fun t => by
  rw [swp_get d hi hj]
  unfold swI
  by_cases h1 : t = j
  · by_cases h2 : t = i
    · rw [if_pos h1, if_pos (by omega)]; congr 1; omega
    · rw [if_pos h1, if_neg (by omega), if_pos (by omega)]; congr 1; omega
  · rw [if_neg h1]
    by_cases h2 : t = i
    · rw [if_pos h2, if_pos (by omega)]; congr 1; omega
    · rw [if_neg h2, if_neg (by omega), if_neg (by omega)]⟩
theorem swI_step {a b n t : Nat} (h : a + (n + 1) ≤ b) : swI a b n (swI (a + n) (b + n) 1 t) = swI a b (n + 1) t := by unfold swI; (repeat' split) <;> omega
theorem swI_zero {a b t : Nat} : swI a b 0 t = t := by unfold swI; rw [if_neg (by omega), if_neg (by omega)]
/-- the rounds of rotate -/
theorem rotI_left {m i j t : Nat} (hi : i ≤ m) (h : j < i) (h0 : 0 < j) : swI (m - i) m j (rotI (m - (i - j)) m (m + j) t) = rotI (m - i) m (m + j) t := by unfold swI rotI; (repeat' split) <;> omega
theorem rotI_right {m i j t : Nat} (hi : i ≤ m) (h : i < j) (h0 : 0 < i) : swI (m - i) (m + j - i) i (rotI (m - i) m (m + (j - i)) t) = rotI (m - i) m (m + j) t := by unfold swI rotI; (repeat' split) <;> omega
theorem rotI_same {m i t : Nat} (hi : i ≤ m) : swI (m - i) m i t = rotI (m - i) m (m + i) t := by unfold swI rotI; (repeat' split) <;> omega
/-- one thing shifted up, down -/
theorem rotI_up {a k t : Nat} (h : a ≤ k) : rotI a (a + 1) (k + 1) (swI k (k + 1) 1 t) = rotI a (a + 1) (k + 2) t := by unfold swI rotI; (repeat' split) <;> omega
theorem rotI_down {m k t : Nat} (h : k + 1 ≤ m) : rotI (k + 1) m (m + 1) (swI (k + 1) k 1 t) = rotI k m (m + 1) t := by unfold swI rotI; (repeat' split) <;> omega
theorem rotI_none1 {a m t : Nat} : rotI a m m t = t := by unfold rotI; (repeat' split) <;> omega
theorem rotI_none2 {m b t : Nat} : rotI m m b t = t := by unfold rotI; (repeat' split) <;> omega
theorem rotI_lo {a m b t : Nat} (h : t < a) : rotI a m b t = t := by unfold rotI; rw [if_neg (by omega), if_neg (by omega)]
theorem rotI_hi {a m b t : Nat} (h : b ≤ t) (ha : a ≤ m) (hm : m ≤ b) : rotI a m b t = t := by unfold rotI; rw [if_neg (by omega), if_neg (by omega)]
theorem rotI_one {a m b t : Nat} (h1 : a ≤ t) (h2 : t < a + (b - m)) : rotI a m b t = t + (m - a) := by unfold rotI; rw [if_pos ⟨h1, h2⟩]
theorem rotI_two {a m b t : Nat} (h1 : a + (b - m) ≤ t) (h2 : t < b) : rotI a m b t = t - (b - m) := by unfold rotI; rw [if_neg (by omega), if_pos ⟨h1, h2⟩]

/-- before the merge -/
structure Mrg (nom : α → Int) (tag : α → Nat) (a m b : Nat) (d : Array α) : Prop where
  l : SortedIn (lexB nom tag) a m d
  r : SortedIn (lexB nom tag) m b d
  t : ∀ p q, a ≤ p → p < m → m ≤ q → q < b → tag d[p]! < tag d[q]!
theorem SortedIn.le {a b : Nat} {d : Array α} (h : SortedIn (lexB nom tag) a b d) {i j : Nat} (h1 : a ≤ i) (h2 : i ≤ j) (h3 : j < b) : lexB nom tag d[j]! d[i]! = false := by
  by_cases e : i = j
  · subst e; exact lexB_swo.irrefl _
  · exact h i j h1 (by omega) h3
/-- the one on the left goes in -/
theorem mrg_left {a b i : Nat} {d d' : Array α} (h : Mrg nom tag a (a + 1) b d) (h1 : a + 1 ≤ i) (h2 : i ≤ b) (hl : i = a + 1 ∨ nomB nom d[i - 1]! d[a]! = true) (hr : i = b ∨ nomB nom d[i]! d[a]! = false) (hI : Idx (rotI a (a + 1) i) d d') : SortedIn (lexB nom tag) a b d' := by
  intro p q h3 h4 h5
  rw [hI.2, hI.2]
  by_cases c1 : q < i
  · by_cases c2 : q = i - 1
    · rw [rotI_one (t := p) h3 (by omega), rotI_two (t := q) (by omega) c1, show q - (i - (a + 1)) = a by omega, show p + (a + 1 - a) = p + 1 by omega]
      rcases hl with hl | hl
      · omega
      · have s := SortedIn.le h.r (i := p + 1) (j := i - 1) (by omega) (by omega) (by omega)
        rw [lexB_no] at s ⊢; rw [nomB_yes] at hl; omega
    · rw [rotI_one (t := p) h3 (by omega), rotI_one (t := q) (by omega) (by omega)]
      exact SortedIn.le h.r (by omega) (by omega) (by omega)
  · rw [rotI_hi (t := q) (by omega) (by omega) (by omega)]
    by_cases c3 : p < i
    · by_cases c4 : p = i - 1
      · rw [rotI_two (t := p) (by omega) c3, show p - (i - (a + 1)) = a by omega]
        rcases hr with hr | hr
        · omega
        · have s := SortedIn.le h.r (i := i) (j := q) (by omega) (by omega) (by omega)
          have tt := h.t a q (by omega) (by omega) (by omega) (by omega)
          rw [lexB_no] at s ⊢; rw [nomB_no] at hr; omega
      · rw [rotI_one (t := p) h3 (by omega)]
        exact SortedIn.le h.r (by omega) (by omega) (by omega)
    · rw [rotI_hi (t := p) (by omega) (by omega) (by omega)]
      exact SortedIn.le h.r (by omega) (by omega) (by omega)
/-- the one on the right goes in -/
theorem mrg_right {a m i : Nat} {d d' : Array α} (h : Mrg nom tag a m (m + 1) d) (h1 : a ≤ i) (h2 : i ≤ m) (hl : i = a ∨ nomB nom d[m]! d[i - 1]! = false) (hr : i = m ∨ nomB nom d[m]! d[i]! = true) (hI : Idx (rotI i m (m + 1)) d d') : SortedIn (lexB nom tag) a (m + 1) d' := by
  intro p q h3 h4 h5
  rw [hI.2, hI.2]
  by_cases c1 : q < i
  · rw [rotI_lo (t := q) c1, rotI_lo (t := p) (by omega)]
    exact SortedIn.le h.l (by omega) (by omega) (by omega)
  · by_cases c2 : q = i
    · rw [rotI_one (t := q) (by omega) (by omega), rotI_lo (t := p) (by omega), show q + (m - i) = m by omega]
      rcases hl with hl | hl
      · omega
      · have s := SortedIn.le h.l (i := p) (j := i - 1) (by omega) (by omega) (by omega)
        have tt := h.t p m (by omega) (by omega) (by omega) (by omega)
        rw [lexB_no] at s ⊢; rw [nomB_no] at hl; omega
    · rw [rotI_two (t := q) (by omega) (by omega)]
      by_cases c3 : p = i
      · rw [rotI_one (t := p) (by omega) (by omega), show p + (m - i) = m by omega]
        rcases hr with hr | hr
        · omega
        · have s := SortedIn.le h.l (i := i) (j := q - (m + 1 - m)) (by omega) (by omega) (by omega)
          rw [lexB_no] at s ⊢; rw [nomB_yes] at hr; omega
      · by_cases c4 : p < i
        · rw [rotI_lo (t := p) c4]
          exact SortedIn.le h.l (by omega) (by omega) (by omega)
        · rw [rotI_two (t := p) (by omega) (by omega)]
          exact SortedIn.le h.l (by omega) (by omega) (by omega)

/-- where the parts are cut -/
structure Cutt (nom : α → Int) (a m b mid s : Nat) (d : Array α) : Prop where
  am : a < m
  mb : m < b
  mi : mid = (a + b) / 2
  lo : m ≤ mid → a ≤ s ∧ s ≤ m ∧ (s = a ∨ nomB nom d[mid + m - s]! d[s - 1]! = false) ∧ (s = m ∨ nomB nom d[mid + m - 1 - s]! d[s]! = true)
  hi : mid < m → mid + m - b ≤ s ∧ s ≤ mid ∧ (s = mid + m - b ∨ nomB nom d[mid + m - s]! d[s - 1]! = false) ∧ (s = mid ∨ nomB nom d[mid + m - 1 - s]! d[s]! = true)
theorem Cutt.bounds {a m b mid s : Nat} {d : Array α} (h : Cutt nom a m b mid s d) : a ≤ s ∧ s ≤ m ∧ s ≤ mid ∧ m ≤ mid + m - s ∧ mid + m - s ≤ b ∧ mid ≤ mid + m - s ∧ mid < b ∧ a ≤ mid := by
  have h1 := h.am; have h2 := h.mb; have h3 := h.mi
  by_cases c : m ≤ mid
  · have := h.lo c; omega
  · have := h.hi (by omega); omega
/-- what is so behind the rotation -/
structure Rott (nom : α → Int) (tag : α → Nat) (a m b mid s e : Nat) (d : Array α) : Prop where
  one : Mrg nom tag a s mid d
  two : Mrg nom tag mid e b d
  cross : ∀ p q, a ≤ p → p < mid → mid ≤ q → q < b → lexB nom tag d[q]! d[p]! = false
theorem mrg_rott {a m b mid s : Nat} {d d1 : Array α} (h : Mrg nom tag a m b d) (c : Cutt nom a m b mid s d) (hI : Idx (rotI s m (mid + m - s)) d d1) : Rott nom tag a m b mid s (mid + m - s) d1 := by
  obtain ⟨b1, b2, b3, b4, b5, b6, b7, b8⟩ := c.bounds
  have am := c.am; have mb := c.mb; have mi := c.mi
  obtain ⟨e, he⟩ : ∃ e, mid + m - s = e := ⟨_, rfl⟩
  have R := hI.2
  have hL : s = a ∨ e = b ∨ nom d[s - 1]! ≤ nom d[e]! := by
    by_cases q : m ≤ mid
    · rcases (c.lo q).2.2.1 with u | u
      · exact Or.inl u
      · rw [nomB_no, he] at u; exact Or.inr (Or.inr u)
    · rcases (c.hi (by omega)).2.2.1 with u | u
      · exact Or.inr (Or.inl (by omega))
      · rw [nomB_no, he] at u; exact Or.inr (Or.inr u)
  have hR : s = m ∨ e = m ∨ nom d[e - 1]! < nom d[s]! := by
    by_cases q : m ≤ mid
    · rcases (c.lo q).2.2.2 with u | u
      · exact Or.inl u
      · rw [nomB_yes, show mid + m - 1 - s = e - 1 by omega] at u; exact Or.inr (Or.inr u)
    · rcases (c.hi (by omega)).2.2.2 with u | u
      · exact Or.inr (Or.inl (by omega))
      · rw [nomB_yes, show mid + m - 1 - s = e - 1 by omega] at u; exact Or.inr (Or.inr u)
  rw [he] at R b4 b5 b6 ⊢
  have em : s + (e - m) = mid := by omega
  have r1 : ∀ t, t < s → d1[t]! = d[t]! := fun t ht => by rw [R, rotI_lo ht]
  have r2 : ∀ t, s ≤ t → t < mid → d1[t]! = d[t + (m - s)]! := fun t h1 h2 => by rw [R, rotI_one h1 (by omega)]
  have r3 : ∀ t, mid ≤ t → t < e → d1[t]! = d[t - (e - m)]! := fun t h1 h2 => by rw [R, rotI_two (by omega) h2]
  have r4 : ∀ t, e ≤ t → d1[t]! = d[t]! := fun t ht => by rw [R, rotI_hi ht (by omega) (by omega)]
  refine ⟨⟨?_, ?_, ?_⟩, ⟨?_, ?_, ?_⟩, ?_⟩
  · intro p q h1 h2 h3
    rw [r1 p (by omega), r1 q h3]; exact h.l p q h1 h2 (by omega)
  · intro p q h1 h2 h3
    rw [r2 p h1 (by omega), r2 q (by omega) h3]; exact h.r _ _ (by omega) (by omega) (by omega)
  · intro p q h1 h2 h3 h4
    rw [r1 p h2, r2 q h3 h4]; exact h.t _ _ h1 (by omega) (by omega) (by omega)
  · intro p q h1 h2 h3
    rw [r3 p h1 (by omega), r3 q (by omega) h3]; exact h.l _ _ (by omega) (by omega) (by omega)
  · intro p q h1 h2 h3
    rw [r4 p h1, r4 q (by omega)]; exact h.r _ _ (by omega) h2 h3
  · intro p q h1 h2 h3 h4
    rw [r3 p h1 h2, r4 q h3]; exact h.t _ _ (by omega) (by omega) (by omega) h4
  · intro p q h1 h2 h3 h4
    by_cases cp : p < s
    · by_cases cq : q < e
      · rw [r1 p cp, r3 q h3 cq]; exact SortedIn.le h.l h1 (by omega) (by omega)
      · rw [r1 p cp, r4 q (by omega)]
        have s1 := SortedIn.le h.l (i := p) (j := s - 1) h1 (by omega) (by omega)
        have s2 := SortedIn.le h.r (i := e) (j := q) (by omega) (by omega) h4
        have t1 := h.t p q h1 (by omega) (by omega) h4
        rw [lexB_no] at s1 s2 ⊢; omega
    · by_cases cq : q < e
      · rw [r2 p (by omega) h2, r3 q h3 cq]
        have s1 := SortedIn.le h.r (i := p + (m - s)) (j := e - 1) (by omega) (by omega) (by omega)
        have s2 := SortedIn.le h.l (i := s) (j := q - (e - m)) (by omega) (by omega) (by omega)
        rw [lexB_no] at s1 s2 ⊢; omega
      · rw [r2 p (by omega) h2, r4 q (by omega)]; exact SortedIn.le h.r (by omega) (by omega) h4
/-- no call is needed where one part is empty -/
theorem Mrg.none {a m b : Nat} {d : Array α} (h : Mrg nom tag a m b d) (c : m ≤ a ∨ b ≤ m) : SortedIn (lexB nom tag) a b d := by
  intro p q h1 h2 h3
  rcases c with c | c
  · exact h.r p q (by omega) h2 h3
  · exact h.l p q h1 h2 (by omega)
/-- what lies outside stays -/
theorem Mrg.kept {a m b a' b' : Nat} {d d' : Array α} (h : Mrg nom tag a m b d) (ha : a ≤ m) (hb : m ≤ b) (hp : PermIn a' b' d d') (c : b ≤ a' ∨ b' ≤ a) : Mrg nom tag a m b d' := by
  have k : ∀ t, a ≤ t → t < b → d'[t]! = d[t]! := fun t h1 h2 => hp.2.1 t (by omega)
  refine ⟨fun p q h1 h2 h3 => ?_, fun p q h1 h2 h3 => ?_, fun p q h1 h2 h3 h4 => ?_⟩
  · rw [k p h1 (by omega), k q (by omega) (by omega)]; exact h.l p q h1 h2 h3
  · rw [k p (by omega) (by omega), k q (by omega) (by omega)]; exact h.r p q h1 h2 h3
  · rw [k p h1 (by omega), k q (by omega) h4]; exact h.t p q h1 h2 h3 h4
/-- both halves put in order: the whole is -/
theorem rott_done {a m b mid s e : Nat} {d d2 d3 : Array α} (h : Rott nom tag a m b mid s e d) (ha : a ≤ mid) (hm : mid ≤ b) (hb : b ≤ d.size) (p2 : PermIn a mid d d2) (s2 : SortedIn (lexB nom tag) a mid d2) (p3 : PermIn mid b d2 d3) (s3 : SortedIn (lexB nom tag) mid b d3) : SortedIn (lexB nom tag) a b d3 := by
  intro p q h1 h2 h3
  by_cases c1 : q < mid
  · rw [p3.2.1 q (Or.inl c1), p3.2.1 p (Or.inl (by omega))]; exact s2 p q h1 h2 c1
  · by_cases c2 : p < mid
    · rw [p3.2.1 p (Or.inl c2)]
      refine permIn_all d2 d3 mid b (fun x => lexB nom tag x d2[p]! = false) (by rw [p2.1]; exact hb) p3 (fun k k1 k2 => ?_) q (by omega) h3
      rw [p2.2.1 k (Or.inr k1)]
      exact permIn_all d d2 a mid (fun x => lexB nom tag d[k]! x = false) (by omega) p2 (fun j j1 j2 => h.cross j k j1 j2 k1 k2) p h1 c2
    · exact s3 p q (by omega) h2 h3

theorem dvd_step {w x a : Nat} (hx : w ∣ x) (ha : w ∣ a) (h : x < a) : x + w ≤ a := by
  obtain ⟨k, rfl⟩ := hx
  obtain ⟨l, rfl⟩ := ha
  have hkl : k < l := Nat.lt_of_mul_lt_mul_left h
  calc w * k + w = w * (k + 1) := by rw [Nat.mul_add, Nat.mul_one]
    _ ≤ w * l := Nat.mul_le_mul_left w hkl
/-- of two runs the marks of the first are smaller -/
def Apart (tag : α → Nat) (w : Nat) (d : Array α) : Prop := ∀ x p q, w ∣ x → p < x → x ≤ q → q < d.size → tag d[p]! < tag d[q]!
theorem Apart.perm {w a b : Nat} {d d' : Array α} (h : Apart tag w d) (hw : w ∣ a) (hb : b ≤ a + w) (hn : b ≤ d.size) (P : PermIn a b d d') : Apart tag w d' := by
  intro x p q hx h1 h2 h3
  rw [P.1] at h3
  have c : x ≤ a ∨ b ≤ x := by
    by_cases e : x ≤ a
    · exact Or.inl e
    · have := dvd_step hw hx (by omega); exact Or.inr (by omega)
  have one : ∀ k, k < x → ∀ j, x ≤ j → j < d.size → tag d[k]! < tag d[j]! := fun k hk j hj hj2 => h x k j hx hk hj hj2
  have two : ∀ k, k < x → ∀ j, x ≤ j → j < d.size → tag d[k]! < tag d'[j]! := fun k hk j hj hj2 => by
    by_cases e : a ≤ j ∧ j < b
    · refine permIn_all d d' a b (fun v => tag d[k]! < tag v) hn P (fun i i1 i2 => ?_) j e.1 e.2
      rcases c with c | c
      · exact one k hk i (by omega) (by omega)
      · exact absurd e.2 (by omega)
    · rw [P.2.1 j (by omega)]; exact one k hk j hj hj2
  by_cases e : a ≤ p ∧ p < b
  · refine permIn_all d d' a b (fun v => tag v < tag d'[q]!) hn P (fun i i1 i2 => ?_) p e.1 e.2
    rcases c with c | c
    · exact absurd e.1 (by omega)
    · exact two i (by omega) q h2 h3
  · rw [P.2.1 p (by omega)]; exact two p h1 q h2 h3
/-- each run of this length stands in order -/
structure Runs (nom : α → Int) (tag : α → Nat) (w : Nat) (d : Array α) : Prop where
  s : ∀ x, w ∣ x → SortedIn (lexB nom tag) x (min (x + w) d.size) d
  t : Apart tag w d
/-- the same under way: below a stand runs of w, from a on runs of u -/
structure Ph (nom : α → Int) (tag : α → Nat) (u w a : Nat) (d : Array α) : Prop where
  s2 : ∀ x, w ∣ x → x + w ≤ a → SortedIn (lexB nom tag) x (x + w) d
  s : ∀ x, u ∣ x → a ≤ x → SortedIn (lexB nom tag) x (min (x + u) d.size) d
  t2 : Apart tag w d
  t : ∀ x p q, u ∣ x → a ≤ p → p < x → x ≤ q → q < d.size → tag d[p]! < tag d[q]!
theorem Runs.ph {u w : Nat} {d : Array α} (h : Runs nom tag u d) (hu : u ∣ w) (hw : 0 < w) : Ph nom tag u w 0 d :=
  ⟨fun x _ h2 => absurd h2 (by omega), fun x h1 _ => h.s x h1, fun x p q h1 => h.t x p q (Nat.dvd_trans hu h1), fun x p q h1 _ => h.t x p q h1⟩
theorem Ph.step {u w a : Nat} {d d' : Array α} (h : Ph nom tag u w a d) (hw : w ∣ a) (hn : a + w ≤ d.size) (P : PermIn a (a + w) d d') (S : SortedIn (lexB nom tag) a (a + w) d') : Ph nom tag u w (a + w) d' := by
  refine ⟨fun x h1 h2 => ?_, fun x h1 h2 => ?_, h.t2.perm hw (Nat.le_refl _) hn P, fun x p q h1 h2 h3 h4 h5 => ?_⟩
  · by_cases e : x = a
    · rw [e]; exact S
    · have := dvd_step h1 hw (by omega)
      intro p q k1 k2 k3
      rw [P.2.1 p (by omega), P.2.1 q (by omega)]
      exact h.s2 x h1 this p q k1 k2 k3
  · rw [P.1]
    intro p q k1 k2 k3
    rw [P.2.1 p (by omega), P.2.1 q (by omega)]
    exact h.s x h1 (by omega) p q k1 k2 k3
  · rw [P.1] at h5
    rw [P.2.1 p (by omega), P.2.1 q (by omega)]
    exact h.t x p q h1 (by omega) h3 h4 h5
theorem Ph.done {u w a : Nat} {d d' : Array α} (h : Ph nom tag u w a d) (hw : w ∣ a) (ha : a ≤ d.size) (hn : d.size ≤ a + w) (P : PermIn a d.size d d') (S : SortedIn (lexB nom tag) a d.size d') : Runs nom tag w d' := by
  refine ⟨fun x h1 => ?_, h.t2.perm hw hn (Nat.le_refl _) P⟩
  rw [P.1]
  intro p q k1 k2 k3
  by_cases e : x < a
  · have := dvd_step h1 hw e
    rw [P.2.1 p (by omega), P.2.1 q (by omega)]
    exact h.s2 x h1 this p q k1 k2 (by omega)
  · by_cases e2 : x = a
    · exact S p q (by omega) k2 (by omega)
    · have := dvd_step hw h1 (by omega); omega
/-- what the merge asks -/
theorem Ph.mrg {u w a b : Nat} {d : Array α} (h : Ph nom tag u w a d) (hu : u ∣ a) (h1 : a + u ≤ d.size) (h2 : b ≤ a + u + u) (h3 : b ≤ d.size) : Mrg nom tag a (a + u) b d := by
  have ha : u ∣ a + u := (Nat.dvd_add_right hu).2 (Nat.dvd_refl u)
  refine ⟨?_, ?_, fun p q k1 k2 k3 k4 => h.t (a + u) p q ha k1 k2 k3 (by omega)⟩
  · have := h.s a hu (Nat.le_refl _)
    rwa [Nat.min_eq_left h1] at this
  · intro p q k1 k2 k3
    exact h.s (a + u) ha (by omega) p q k1 k2 (by omega)
theorem Ph.rest {u w a : Nat} {d : Array α} (h : Ph nom tag u w a d) (hu : u ∣ a) (h1 : d.size ≤ a + u) : SortedIn (lexB nom tag) a d.size d := by
  have := h.s a hu (Nat.le_refl _)
  rwa [Nat.min_eq_right h1] at this
theorem Ph.tags {w a b : Nat} {d : Array α} (h : Ph nom tag 1 w a d) (hb : b ≤ d.size) : Tags tag a b a d := fun p q k1 k2 k3 _ => h.t q p q (Nat.one_dvd q) k1 k2 (Nat.le_refl _) (by omega)
theorem Runs.all {w : Nat} {d : Array α} (h : Runs nom tag w d) (hn : d.size ≤ w) : SortedIn (lexB nom tag) 0 d.size d := by
  have := h.s 0 (Nat.dvd_zero w)
  rwa [Nat.zero_add, Nat.min_eq_right hn] at this
theorem runs_one {d : Array α} (h : ∀ p q, p < q → q < d.size → tag d[p]! < tag d[q]!) : Runs nom tag 1 d :=
  ⟨fun x _ p q h1 h2 h3 => absurd h3 (by omega), fun x p q _ h1 h2 h3 => h p q (by omega) h3⟩
end
end Go.Proofs.YtkmgildnhnjepaaGreatDoor
