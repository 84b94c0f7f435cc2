/- Tables as data: the times at which a function of times turns, and the table that lists them. No function of the program in it. What Make of package table answers, as data: the times at which a zone's local time turns, the errors, the table. No function of the program in it. Tables as data and in memory: what Check and At of package table answer. No function of the program in it. -/
import Derived.Test.YtkmgildnhnjepaaGreatDoorTM31
namespace Go.Proofs.YtkmgildnhnjepaaGreatDoor
set_option linter.unusedVariables false
set_option linter.unusedSimpArgs false
instance : DecidableEq TypD := fun a b => decidable_of_iff (a.off = b.off ∧ a.sv = b.sv ∧ a.nm = b.nm) ⟨fun h => by cases a; cases b; obtain ⟨rfl, rfl, rfl⟩ := h; rfl, fun h => by subst h; exact ⟨rfl, rfl, rfl⟩⟩

section
variable {β : Type}
/-- where it does not turn it is one thing -/
theorem still {f : Int → β} {a : Int} : ∀ {n : Nat}, (∀ t, a < t → t ≤ a + n → f t = f (t - 1)) → f (a + n) = f a
  | 0, _ => by simp
  | n + 1, h => by
    have h1 := still (n := n) fun t h1 h2 => h t h1 (by omega)
    have h2 := h (a + (n + 1 : Nat)) (by omega) (by omega)
    rw [h2, show a + ((n + 1 : Nat) : Int) - 1 = a + n by omega]
    exact h1
theorem still_to {f : Int → β} {a b : Int} (hab : a ≤ b) (h : ∀ t, a < t → t ≤ b → f t = f (t - 1)) : f b = f a := by
  have := still (f := f) (a := a) (n := (b - a).toNat) fun t h1 h2 => h t h1 (by omega)
  rwa [show a + (((b - a).toNat : Nat) : Int) = b by omega] at this
end
section
variable {β : Type} [DecidableEq β]
/-- the times behind F and ahead of T -/
def inner (F T : Int) : List Int := (List.range (T - F - 1).toNat).map fun (i : Nat) => F + 1 + i
theorem mem_inner {F T t : Int} : t ∈ inner F T ↔ F < t ∧ t < T := by
  unfold inner
  rw [List.mem_map]
  constructor
  · rintro ⟨i, hi, rfl⟩
    have := List.mem_range.1 hi
    omega
  · rintro ⟨h1, h2⟩
    exact ⟨(t - F - 1).toNat, List.mem_range.2 (by omega), by omega⟩
theorem inner_sorted (F T : Int) : (inner F T).Pairwise (· < ·) := by
  unfold inner
  rw [List.pairwise_map]
  exact List.pairwise_lt_range.imp fun h => by omega
/-- the times at which f turns, behind F and ahead of T -/
def tls (f : Int → β) (F T : Int) : List Int := (inner F T).filter fun t => decide (f t ≠ f (t - 1))
theorem mem_tls {f : Int → β} {F T t : Int} : t ∈ tls f F T ↔ (F < t ∧ t < T) ∧ f t ≠ f (t - 1) := by
  unfold tls
  rw [List.mem_filter, mem_inner]
  simp
theorem tls_sorted (f : Int → β) (F T : Int) : (tls f F T).Pairwise (· < ·) := (inner_sorted F T).filter _
/-- two rising lists with the same members are one -/
theorem sorted_ext : ∀ {l m : List Int}, l.Pairwise (· < ·) → m.Pairwise (· < ·) → (∀ x, x ∈ l ↔ x ∈ m) → l = m
  | [], [], _, _, _ => rfl
  | [], b :: m, _, _, h => by have := (h b).2 (by simp); simp at this
  | a :: l, [], _, _, h => by have := (h a).1 (by simp); simp at this
  | a :: l, b :: m, hl, hm, h => by
    have hl' := List.pairwise_cons.1 hl
    have hm' := List.pairwise_cons.1 hm
    have e : a = b := by
      have h1 := (h a).1 (by simp)
      have h2 := (h b).2 (by simp)
      rcases List.mem_cons.1 h1 with q | q
      · exact q
      · rcases List.mem_cons.1 h2 with p | p
        · exact p.symm
        · have := hm'.1 a q; have := hl'.1 b p; omega
    subst e
    congr 1
    refine sorted_ext hl'.2 hm'.2 fun x => ?_
    have hx := h x
    simp only [List.mem_cons] at hx
    constructor
    · intro q
      rcases hx.1 (Or.inr q) with p | p
      · subst p; have := hl'.1 x q; omega
      · exact p
    · intro q
      rcases hx.2 (Or.inr q) with p | p
      · subst p; have := hm'.1 x q; omega
      · exact p

/-- types, changes, the last type -/
structure BlS (β : Type) where
  ty : List β
  ch : List (Int × Nat)
  la : β
def bstep (f : Int → β) (s : BlS β) (t : Int) : BlS β :=
  if f t = s.la then s else ⟨if f t ∈ s.ty then s.ty else s.ty ++ [f t], s.ch ++ [(t, s.ty.idxOf (f t))], f t⟩
def bld (f : Int → β) (s : BlS β) (l : List Int) : BlS β := l.foldl (bstep f) s
theorem bld_nil (f : Int → β) (s : BlS β) : bld f s [] = s := rfl
theorem bld_cons (f : Int → β) (s : BlS β) (t : Int) (l : List Int) : bld f s (t :: l) = bld f (bstep f s t) l := rfl
theorem bld_app (f : Int → β) (s : BlS β) (l m : List Int) : bld f s (l ++ m) = bld f (bld f s l) m := List.foldl_append
theorem bstep_la (f : Int → β) (s : BlS β) (t : Int) : (bstep f s t).la = f t := by
  unfold bstep
  split
  · rename_i h; exact h.symm
  · rfl
/-- times at which f does not turn may be left out -/
theorem bld_filter {f : Int → β} : ∀ (l : List Int) (s : BlS β) (p : Int), s.la = f p → l.Pairwise (· < ·) → (∀ t ∈ l, p < t) → (∀ t, p < t → (∃ u ∈ l, t ≤ u) → f t ≠ f (t - 1) → t ∈ l) →
    bld f s l = bld f s (l.filter fun t => decide (f t ≠ f (t - 1)))
  | [], _, _, _, _, _, _ => rfl
  | a :: l, s, p, hs, hl, hp, hc => by
    obtain ⟨hl1, hl2⟩ := List.pairwise_cons.1 hl
    have hpa := hp a (by simp)
    have st : f (a - 1) = f p := still_to (by omega) fun t h1 h2 => by
      by_cases e : f t = f (t - 1)
      · exact e
      · have := hc t h1 ⟨a, by simp, by omega⟩ e
        rcases List.mem_cons.1 this with q | q
        · omega
        · have := hl1 t q; omega
    have ih := bld_filter l (bstep f s a) a (bstep_la f s a) hl2 hl1 fun t h1 h2 h3 => by
      obtain ⟨u, hu, h4⟩ := h2
      rcases List.mem_cons.1 (hc t (by omega) ⟨u, by simp [hu], h4⟩ h3) with q | q
      · omega
      · exact q
    rw [bld_cons, ih]
    by_cases e : f a = f (a - 1)
    · have e2 : bstep f s a = s := by unfold bstep; rw [if_pos (by rw [e, st, hs])]
      rw [List.filter_cons, if_neg (by simp [e]), e2]
    · rw [List.filter_cons, if_pos (by simp [e]), bld_cons]
/-- the table of a function of times within a span -/
def tab (f : Int → β) (F T : Int) : BlS β := bld f ⟨[f F], [], f F⟩ (tls f F T)
/-- whatever times are looked at, if all at which it turns are among them -/
theorem bld_tab {f : Int → β} {F T : Int} {l : List Int} (hl : l.Pairwise (· < ·)) (h1 : ∀ t ∈ l, F < t ∧ t < T) (h2 : ∀ t, F < t → t < T → f t ≠ f (t - 1) → t ∈ l) : bld f ⟨[f F], [], f F⟩ l = tab f F T := by
  rw [bld_filter l _ F rfl hl (fun t ht => (h1 t ht).1) (fun t p1 p2 p3 => by
    obtain ⟨u, hu, p4⟩ := p2
    exact h2 t p1 (by have := (h1 u hu).2; omega) p3)]
  unfold tab
  congr 1
  refine sorted_ext (hl.filter _) (tls_sorted f F T) fun t => ?_
  rw [List.mem_filter, mem_tls]
  simp only [decide_eq_true_eq]
  exact ⟨fun h => ⟨h1 t h.1, h.2⟩, fun h => ⟨h2 t h.1.1 h.1.2 h.2, h.2⟩⟩

end
section
variable {β : Type}
/-- the number of the type that applies at a time -/
def numAt (k0 : Nat) (ch : List (Int × Nat)) (t : Int) : Nat := ch.foldl (fun k c => if c.1 ≤ t then c.2 else k) k0
theorem numAt_app (k0 : Nat) (a b : List (Int × Nat)) (t : Int) : numAt k0 (a ++ b) t = numAt (numAt k0 a t) b t := List.foldl_append
theorem numAt_late {k0 : Nat} {ch : List (Int × Nat)} {t : Int} (h : ∀ c ∈ ch, t < c.1) : numAt k0 ch t = k0 := by
  induction ch with
  | nil => rfl
  | cons c l ih =>
    unfold numAt at *
    rw [List.foldl_cons, if_neg (by have := h c (by simp); omega)]
    exact ih fun d hd => h d (by simp [hd])
/-- what is known of a table under way: all types are there, each once, and each change leads tto its own -/
structure BOk (f : Int → β) (F : Int) (p : Int) (s : BlS β) : Prop where
  la : s.la = f p
  nd : s.ty.Nodup
  fst : s.ty[0]? = some (f F)
  num : ∀ t, F ≤ t → t ≤ p → s.ty[numAt 0 s.ch t]? = some (f t)
  tim : ∀ c ∈ s.ch, F < c.1 ∧ c.1 ≤ p
  has : f p ∈ s.ty
theorem BOk.start (f : Int → β) (F : Int) : BOk f F F ⟨[f F], [], f F⟩ :=
  ⟨rfl, by simp, rfl, fun t h1 h2 => by
    have : t = F := by omega
    subst this; rfl, fun c hc => by simp at hc, by simp⟩
/-- going on tto a later time with no turn between -/
theorem BOk.wait {f : Int → β} {F p q : Int} {s : BlS β} (h : BOk f F p s) (hF : F ≤ p) (hq : p ≤ q) (hs : ∀ t, p < t → t ≤ q → f t = f (t - 1)) : BOk f F q s := by
  have e : ∀ t, p ≤ t → t ≤ q → f t = f p := fun t h1 h2 => still_to h1 fun u h3 h4 => hs u h3 (by omega)
  refine ⟨h.la.trans (e q hq (Int.le_refl _)).symm, h.nd, h.fst, fun t h1 h2 => ?_, fun c hc => ⟨(h.tim c hc).1, by have := (h.tim c hc).2; omega⟩, by rw [e q hq (Int.le_refl _)]; exact h.has⟩
  by_cases c : t ≤ p
  · exact h.num t h1 c
  · have e2 : numAt 0 s.ch t = numAt 0 s.ch p := by
      have : ∀ (l : List (Int × Nat)) (k : Nat), (∀ c ∈ l, c.1 ≤ p) → numAt k l t = numAt k l p := fun l => by
        induction l with
        | nil => intro k _; rfl
        | cons a l ih =>
          intro k hl
          unfold numAt at *
          have ha := hl a (by simp)
          rw [List.foldl_cons, List.foldl_cons, if_pos (by omega), if_pos ha]
          exact ih _ fun c hc => hl c (by simp [hc])
      exact this s.ch 0 fun c hc => (h.tim c hc).2
    rw [e2, e t (by omega) h2]
    exact h.num p hF (Int.le_refl _)
end
section
variable {β : Type} [DecidableEq β]
/-- a turn -/
theorem BOk.turn {f : Int → β} {F p : Int} {s : BlS β} (h : BOk f F p s) (hF : F ≤ p) : BOk f F (p + 1) (bstep f s (p + 1)) := by
  by_cases e : f (p + 1) = s.la
  · have : bstep f s (p + 1) = s := by unfold bstep; rw [if_pos e]
    rw [this]
    exact h.wait hF (by omega) fun t h1 h2 => by
      have : t = p + 1 := by omega
      subst this
      rw [show p + 1 - 1 = p by omega, e, h.la]
  · unfold bstep
    rw [if_neg e]
    by_cases m : f (p + 1) ∈ s.ty
    · rw [if_pos m]
      refine ⟨rfl, h.nd, h.fst, fun t h1 h2 => ?_, fun c hc => ?_, m⟩
      · rw [numAt_app]
        by_cases c : t ≤ p
        · rw [numAt_late (ch := [(p + 1, _)]) (by intro c hc; simp at hc; subst hc; show t < p + 1; omega)]
          exact h.num t h1 c
        · have : t = p + 1 := by omega
          subst this
          show s.ty[if p + 1 ≤ p + 1 then _ else _]? = _
          rw [if_pos (Int.le_refl _)]
          rw [List.getElem?_eq_getElem (List.idxOf_lt_length_of_mem m), List.getElem_idxOf]
      · rcases List.mem_append.1 hc with q | q
        · exact ⟨(h.tim c q).1, by have := (h.tim c q).2; omega⟩
        · simp at q; subst q; exact ⟨by show F < p + 1; omega, Int.le_refl _⟩
    · rw [if_neg m]
      have ei : s.ty.idxOf (f (p + 1)) = s.ty.length := List.idxOf_eq_length m
      have h0 : 0 < s.ty.length := by have := (List.getElem?_eq_some_iff.1 h.fst).1; exact this
      refine ⟨rfl, ?_, ?_, fun t h1 h2 => ?_, fun c hc => ?_, by simp⟩
      · rw [List.nodup_append]
        exact ⟨h.nd, by simp, fun a ha b hb => by simp at hb; subst hb; intro q; subst q; exact m ha⟩
      · show (s.ty ++ [f (p + 1)])[0]? = _
        rw [List.getElem?_append_left h0]; exact h.fst
      · show (s.ty ++ [f (p + 1)])[numAt 0 (s.ch ++ [(p + 1, s.ty.idxOf (f (p + 1)))]) t]? = _
        rw [numAt_app]
        by_cases c : t ≤ p
        · rw [numAt_late (ch := [(p + 1, _)]) (by intro c hc; simp at hc; subst hc; show t < p + 1; omega)]
          have := h.num t h1 c
          rw [List.getElem?_append_left (List.getElem?_eq_some_iff.1 this).1]; exact this
        · have : t = p + 1 := by omega
          subst this
          show (s.ty ++ [f (p + 1)])[if p + 1 ≤ p + 1 then _ else _]? = _
          rw [if_pos (Int.le_refl _), ei, List.getElem?_append_right (Nat.le_refl _)]
          simp
      · rcases List.mem_append.1 hc with q | q
        · exact ⟨(h.tim c q).1, by have := (h.tim c q).2; omega⟩
        · simp at q; subst q; exact ⟨by show F < p + 1; omega, Int.le_refl _⟩
end
end Go.Proofs.YtkmgildnhnjepaaGreatDoor
namespace Go.Proofs.YtkmgildnhnjepaaGreatDoor
set_option linter.unusedVariables false
set_option linter.unusedSimpArgs false
section
variable {β : Type} [DecidableEq β]
theorem tls_one (f : Int → β) (F : Int) : tls f F (F + 1) = [] := by
  refine List.eq_nil_iff_forall_not_mem.2 fun t ht => ?_
  have := (mem_tls.1 ht).1
  omega
/-- two spans that meet -/
theorem tls_join (f : Int → β) {F a T : Int} (h1 : F < a) (h2 : a < T) : tls f F T = tls f F a ++ ((if f a ≠ f (a - 1) then [a] else []) ++ tls f a T) := by
  refine sorted_ext (tls_sorted f F T) ?_ fun t => ?_
  · rw [List.pairwise_append]
    refine ⟨tls_sorted f F a, ?_, fun x hx y hy => ?_⟩
    · rw [List.pairwise_append]
      refine ⟨by split <;> simp, tls_sorted f a T, fun x hx y hy => ?_⟩
      have : x = a := by split at hx <;> simp at hx; exact hx
      have := (mem_tls.1 hy).1
      omega
    · have hx' := (mem_tls.1 hx).1
      rcases List.mem_append.1 hy with q | q
      · have : y = a := by split at q <;> simp at q; exact q
        omega
      · have := (mem_tls.1 q).1; omega
  · rw [List.mem_append, List.mem_append, mem_tls, mem_tls, mem_tls]
    constructor
    · rintro ⟨⟨p1, p2⟩, p3⟩
      by_cases c : t < a
      · exact Or.inl ⟨⟨p1, c⟩, p3⟩
      · by_cases d : t = a
        · subst d; exact Or.inr (Or.inl (by rw [if_pos p3]; simp))
        · exact Or.inr (Or.inr ⟨⟨by omega, p2⟩, p3⟩)
    · rintro (⟨⟨p1, p2⟩, p3⟩ | q | ⟨⟨p1, p2⟩, p3⟩)
      · exact ⟨⟨p1, by omega⟩, p3⟩
      · split at q
        · rename_i c
          have : t = a := by simpa using q
          subst this; exact ⟨⟨h1, h2⟩, c⟩
        · simp at q
      · exact ⟨⟨by omega, p2⟩, p3⟩
theorem tls_succ (f : Int → β) {F p : Int} (h : F ≤ p) : tls f F (p + 1 + 1) = tls f F (p + 1) ++ (if f (p + 1) ≠ f p then [p + 1] else []) := by
  have := tls_join f (F := F) (a := p + 1) (T := p + 1 + 1) (by omega) (by omega)
  rw [tls_one f (p + 1), List.append_nil, show p + 1 - 1 = p by omega] at this
  exact this
theorem tab_ok (f : Int → β) (F : Int) : ∀ n : Nat, BOk f F (F + n) (tab f F (F + n + 1))
  | 0 => by
    unfold tab
    rw [show F + ((0 : Nat) : Int) + 1 = F + 1 by omega, tls_one, bld_nil, show F + ((0 : Nat) : Int) = F by omega]
    exact BOk.start f F
  | n + 1 => by
    have ih := tab_ok f F n
    have e : tab f F (F + ((n + 1 : Nat) : Int) + 1) = bld f (tab f F (F + n + 1)) (if f (F + n + 1) ≠ f (F + n) then [F + n + 1] else []) := by
      unfold tab
      rw [show F + ((n + 1 : Nat) : Int) + 1 = F + n + 1 + 1 by omega, tls_succ f (by omega), bld_app]
    rw [e, show F + ((n + 1 : Nat) : Int) = F + n + 1 by omega]
    by_cases c : f (F + n + 1) = f (F + n)
    · rw [if_neg (by simp [c]), bld_nil]
      exact ih.wait (by omega) (by omega) fun t h1 h2 => by
        have : t = F + n + 1 := by omega
        subst this
        rw [show F + (n : Int) + 1 - 1 = F + n by omega]; exact c
    · rw [if_pos c]
      exact ih.turn (by omega)
theorem tab_is (f : Int → β) {F T : Int} (h : F < T) : BOk f F (T - 1) (tab f F T) := by
  have := tab_ok f F (T - 1 - F).toNat
  rwa [show F + (((T - 1 - F).toNat : Nat) : Int) = T - 1 by omega, show T - 1 + 1 = T by omega] at this
end
/-- the first error of the rules of the eras -/
def eraF (rs : List RuD) (zs : List ZonD) (ls : List LinD) (es : List EraD) : Int := fe (fun k => match es[k]? with
  | some e => eraK rs zs ls e
  | none => 0) es.length
theorem eraF_zero {rs : List RuD} {zs : List ZonD} {ls : List LinD} {es : List EraD} : eraF rs zs ls es = 0 ↔ ∀ (k : Nat) (e : EraD), es[k]? = some e → eraK rs zs ls e = 0 := by
  unfold eraF
  rw [fe_zero]
  constructor
  · intro h k e he
    have := h k (List.getElem?_eq_some_iff.1 he).1
    simp only [he] at this
    exact this
  · intro h k hk
    obtain ⟨e, he⟩ := get_lt hk
    simp only [he]
    exact h k e he
/-- the local time of the eras of a name, at a time -/
def locT (rs : List RuD) (zs : List ZonD) (ls : List LinD) (es : List EraD) (t : Int) : TypD := typE (eraE es t) (eraT rs zs ls (eraE es t)) t
theorem atT_loc {rs : List RuD} {zs : List ZonD} {ls : List LinD} {nm : ByteArray} {t : Int} (h : resC rs zs ls nm = 0) (ht : tmB t = true) (he : eraF rs zs ls (erasN zs ls nm) = 0) :
    atC rs zs ls nm t = 0 ∧ atT rs zs ls nm t = locT rs zs ls (erasN zs ls nm) t := by
  obtain ⟨l1, _, _⟩ := good_erasN h
  have h0 : atC rs zs ls nm t = 0 := atC_zero.2 ⟨h, ht, eraF_zero.1 he _ _ (eraE_get l1)⟩
  exact ⟨h0, atT_yes h0⟩
/-- the table -/
def mkT (rs : List RuD) (zs : List ZonD) (ls : List LinD) (nm : ByteArray) (F T : Int) : BlS TypD := tab (locT rs zs ls (erasN zs ls nm)) F T
/-- the error of Make -/
def mkC (rs : List RuD) (zs : List ZonD) (ls : List LinD) (nm : ByteArray) (F T : Int) : Int :=
  if resC rs zs ls nm ≠ 0 then resC rs zs ls nm
  else if tmB F = false ∨ tmB T = false ∨ T ≤ F then 1
  else if eraF rs zs ls (erasN zs ls nm) ≠ 0 then eraF rs zs ls (erasN zs ls nm)
  else if 250 < (mkT rs zs ls nm F T).ty.length ∨ 1000 < (mkT rs zs ls nm F T).ch.length then 2 else 0
theorem mkC_zero {rs : List RuD} {zs : List ZonD} {ls : List LinD} {nm : ByteArray} {F T : Int} : mkC rs zs ls nm F T = 0 ↔ resC rs zs ls nm = 0 ∧ (tmB F = true ∧ tmB T = true ∧ F < T) ∧ eraF rs zs ls (erasN zs ls nm) = 0 ∧ (mkT rs zs ls nm F T).ty.length ≤ 250 ∧ (mkT rs zs ls nm F T).ch.length ≤ 1000 := by
  unfold mkC
  by_cases a : resC rs zs ls nm = 0
  · rw [if_neg (by simp [a])]
    by_cases b : tmB F = false ∨ tmB T = false ∨ T ≤ F
    · rw [if_pos b]
      constructor
      · intro h; omega
      · rintro ⟨_, ⟨h1, h2, h3⟩, _⟩
        rcases b with q | q | q
        · rw [q] at h1; cases h1
        · rw [q] at h2; cases h2
        · omega
    · rw [if_neg b]
      have b' : tmB F = true ∧ tmB T = true ∧ F < T := by
        simp only [not_or, Bool.not_eq_false] at b
        exact ⟨b.1, b.2.1, by omega⟩
      by_cases c : eraF rs zs ls (erasN zs ls nm) = 0
      · rw [if_neg (by simp [c])]
        by_cases d : 250 < (mkT rs zs ls nm F T).ty.length ∨ 1000 < (mkT rs zs ls nm F T).ch.length
        · rw [if_pos d]
          constructor
          · intro h; omega
          · rintro ⟨_, _, _, h1, h2⟩; omega
        · rw [if_neg d]
          simp only [a, b', c, true_and, and_self, true_iff]
          omega
      · rw [if_pos c]
        simp [c]
  · rw [if_pos a]
    simp [a]
/-- where the local time may turn: at the end of an era, or at a transition of the era that applies just ahead and then -/
theorem turn_where {rs : List RuD} {zs : List ZonD} {ls : List LinD} {es : List EraD} {t : Int} (hl : 1 ≤ es.length) (h : locT rs zs ls es t ≠ locT rs zs ls es (t - 1)) :
    (∃ k e, k + 1 < es.length ∧ es[k]? = some e ∧ e.un = t) ∨ (eraI es t = eraI es (t - 1) ∧ (eraE es t).ru.toList ≠ [] ∧ ∃ u ∈ eraT rs zs ls (eraE es t), u.at' = t) := by
  by_cases he : ∃ k e, k + 1 < es.length ∧ es[k]? = some e ∧ e.un = t
  · exact Or.inl he
  · refine Or.inr ?_
    have same : eraI es t = eraI es (t - 1) := by
      unfold eraI
      have : ∀ x ∈ es.dropLast, decide (t < x.un) = decide (t - 1 < x.un) := fun x hx => by
        obtain ⟨k, hk, ek⟩ := List.getElem_of_mem hx
        have hk' : k + 1 < es.length := by simp at hk; omega
        have hne : x.un ≠ t := fun q => he ⟨k, x, hk', by rw [List.getElem_dropLast] at ek; rw [List.getElem?_eq_getElem (by omega), ek], q⟩
        exact decide_eq_decide.2 (by omega)
      generalize es.dropLast = l at this
      clear he h hl
      induction l with
      | nil => rfl
      | cons a l ih =>
        rw [List.findIdx_cons, List.findIdx_cons, this a (by simp), ih fun x hx => this x (by simp [hx])]
    have ee : eraE es t = eraE es (t - 1) := by unfold eraE; rw [same]
    refine ⟨same, ?_⟩
    unfold locT at h
    rw [← ee] at h
    by_cases hn : (eraE es t).ru.toList = []
    · exfalso
      apply h
      unfold typE
      rw [savP_fix hn, savP_fix hn]
    · refine ⟨hn, ?_⟩
      by_cases c : ∃ u ∈ eraT rs zs ls (eraE es t), u.at' = t
      · exact c
      · exfalso
        apply h
        have : lateI (eraT rs zs ls (eraE es t)) t = lateI (eraT rs zs ls (eraE es t)) (t - 1) := by
          unfold lateI
          refine List.countP_congr fun u hu => ?_
          have hne : u.at' ≠ t := fun q => c ⟨u, hu, q⟩
          simp only [decide_eq_true_eq]
          omega
        unfold typE savP
        rw [if_neg hn, if_neg hn, this]
end Go.Proofs.YtkmgildnhnjepaaGreatDoor
namespace Go.Proofs.YtkmgildnhnjepaaGreatDoor
set_option linter.unusedVariables false
set_option linter.unusedSimpArgs false
open Go.RowKit
/-- a change -/
structure ChaD where
  at' : Int
  ty : Int
instance : Inhabited TypD := ⟨⟨0, false, .empty⟩⟩
instance : Inhabited ChaD := ⟨⟨0, 0⟩⟩
def TypD.cells (x : TypD) : List Value := [.int .i64 x.off, .bool x.sv, .string x.nm]
def ChaD.cells (x : ChaD) : List Value := [.int .i64 x.at', .int .i64 x.ty]
theorem ty_len (x : TypD) : x.cells.length = 3 := rfl
theorem ch_len (x : ChaD) : x.cells.length = 2 := rfl
theorem ty_one (x : TypD) : ∀ u ∈ x.cells, u.oneCell' = true := fun u hu => by simp [TypD.cells] at hu; rcases hu with rfl | rfl | rfl <;> rfl
theorem ch_one (x : ChaD) : ∀ u ∈ x.cells, u.oneCell' = true := fun u hu => by simp [ChaD.cells] at hu; rcases hu with rfl | rfl <;> rfl
def I64 (n : Int) : Prop := -9223372036854775808 ≤ n ∧ n ≤ 9223372036854775807
def TypD.In (x : TypD) : Prop := x.nm.size ≤ maxLen ∧ I64 x.off
def ChaD.In (x : ChaD) : Prop := I64 x.at' ∧ I64 x.ty
/-- a table and where its parts lie -/
structure TabD where
  At : Option Addr
  ct : Nat
  ty : List TypD
  fst : Int
  Ac : Option Addr
  cc : Nat
  ch : List ChaD
def TysAt (w : World) (A : Option Addr) (c : Nat) (l : List TypD) : Prop := SlOk l.length c ∧ Row w 3 TypD.cells A l ∧ ∀ x ∈ l, x.In
def ChsAt (w : World) (A : Option Addr) (c : Nat) (l : List ChaD) : Prop := SlOk l.length c ∧ Row w 2 ChaD.cells A l ∧ ∀ x ∈ l, x.In
theorem TysAt.gr {w w' : World} {A : Option Addr} {c : Nat} {l : List TypD} (h : TysAt w A c l) (g : Gr w w') : TysAt w' A c l := ⟨h.1, h.2.1.gr g, h.2.2⟩
theorem ChsAt.gr {w w' : World} {A : Option Addr} {c : Nat} {l : List ChaD} (h : ChsAt w A c l) (g : Gr w w') : ChsAt w' A c l := ⟨h.1, h.2.1.gr g, h.2.2⟩
def TabD.Lies (w : World) (x : TabD) : Prop := TysAt w x.At x.ct x.ty ∧ I64 x.fst ∧ ChsAt w x.Ac x.cc x.ch
theorem TabD.Lies.gr {w w' : World} {x : TabD} (h : x.Lies w) (g : Gr w w') : x.Lies w' := ⟨h.1.gr g, h.2.1, h.2.2.gr g⟩

/-- the error of a type, of a change -/
def tyE (x : TypD) : Int := if x.off < -75600 ∨ 75600 < x.off then 1 else if isAbbrB x.nm.toList = false then 3 else 0
def tyC (l : List TypD) (i : Nat) : Int := match l[i]? with
  | some x => tyE x
  | none => 0
theorem tyC_at {l : List TypD} {i : Nat} {x : TypD} (h : l[i]? = some x) : tyC l i = tyE x := by unfold tyC; rw [h]
/-- is the change before it not earlier? -/
def preB (l : List ChaD) (i : Nat) (t : Int) : Bool := match i with
  | 0 => false
  | j + 1 => match l[j]? with
    | some p => decide (t ≤ p.at')
    | none => false
def chC (n : Nat) (l : List ChaD) (i : Nat) : Int := match l[i]? with
  | some c => if (c.at' < -1099511627776 ∨ 1099511627776 < c.at') ∨ (c.ty < 0 ∨ (n : Int) - 1 < c.ty) then 1 else if preB l i c.at' = true then 5 else 0
  | none => 0
theorem chC_at {n : Nat} {l : List ChaD} {i : Nat} {c : ChaD} (h : l[i]? = some c) : chC n l i = if (c.at' < -1099511627776 ∨ 1099511627776 < c.at') ∨ (c.ty < 0 ∨ (n : Int) - 1 < c.ty) then 1 else if preB l i c.at' = true then 5 else 0 := by unfold chC; rw [h]
def tabC (ty : List TypD) (fst : Int) (ch : List ChaD) : Int :=
  if 250 < ty.length ∨ 1000 < ch.length then 2
  else if ty.length = 0 then 5
  else if fe (tyC ty) ty.length ≠ 0 then fe (tyC ty) ty.length
  else if fst < 0 ∨ (ty.length : Int) - 1 < fst then 1
  else fe (chC ty.length ch) ch.length
theorem tabC_ok {ty : List TypD} {fst : Int} {ch : List ChaD} : tabC ty fst ch = 0 ↔ (ty.length ≤ 250 ∧ ch.length ≤ 1000) ∧ 0 < ty.length ∧ fe (tyC ty) ty.length = 0 ∧ (0 ≤ fst ∧ fst < ty.length) ∧ fe (chC ty.length ch) ch.length = 0 := by
  unfold tabC
  by_cases a : 250 < ty.length ∨ 1000 < ch.length
  · rw [if_pos a]
    constructor
    · intro h; omega
    · rintro ⟨h, _⟩; omega
  · rw [if_neg a]
    by_cases b : ty.length = 0
    · rw [if_pos b]
      constructor
      · intro h; omega
      · rintro ⟨_, h, _⟩; omega
    · rw [if_neg b]
      by_cases c : fe (tyC ty) ty.length = 0
      · rw [if_neg (by simp [c])]
        by_cases d : fst < 0 ∨ (ty.length : Int) - 1 < fst
        · rw [if_pos d]
          constructor
          · intro h; omega
          · rintro ⟨_, _, _, h, _⟩; omega
        · rw [if_neg d]
          constructor
          · intro h; exact ⟨by omega, by omega, c, by omega, h⟩
          · rintro ⟨_, _, _, _, h⟩; exact h
      · rw [if_pos c]
        constructor
        · intro h; exact absurd h c
        · rintro ⟨_, _, h, _⟩; exact absurd h c
/-- the number of the type that applies -/
def numZ (fst : Int) (ch : List ChaD) (t : Int) : Int := ch.foldl (fun k c => if c.at' ≤ t then c.ty else k) fst
theorem chs_ok {n : Nat} {ch : List ChaD} (h : fe (chC n ch) ch.length = 0) {k : Nat} {c : ChaD} (hc : ch[k]? = some c) : (-1099511627776 ≤ c.at' ∧ c.at' ≤ 1099511627776) ∧ (0 ≤ c.ty ∧ c.ty < n) ∧ preB ch k c.at' = false := by
  have h0 := (fe_zero _).1 h k (List.getElem?_eq_some_iff.1 hc).1
  rw [chC_at hc] at h0
  split at h0
  · cases h0
  · rename_i q
    split at h0
    · cases h0
    · rename_i q2
      exact ⟨by omega, by omega, by simpa using q2⟩
/-- the type that applies at a time -/
def tabO (ty : List TypD) (fst : Int) (ch : List ChaD) (t : Int) : TypD := ty.getD (numZ fst ch t).toNat default
/-- a table out of times, as a table -/
def BlS.chs {β : Type} (s : BlS β) : List ChaD := s.ch.map fun c => ⟨c.1, c.2⟩
theorem numZ_chs (k0 : Nat) (ch : List (Int × Nat)) (t : Int) : numZ k0 (ch.map fun c => ⟨c.1, c.2⟩) t = (numAt k0 ch t : Nat) := by
  induction ch generalizing k0 with
  | nil => rfl
  | cons c l ih =>
    unfold numZ numAt at *
    rw [List.map_cons, List.foldl_cons, List.foldl_cons]
    by_cases q : c.1 ≤ t
    · rw [if_pos q, if_pos q]; exact ih c.2
    · rw [if_neg q, if_neg q]; exact ih k0
end Go.Proofs.YtkmgildnhnjepaaGreatDoor
