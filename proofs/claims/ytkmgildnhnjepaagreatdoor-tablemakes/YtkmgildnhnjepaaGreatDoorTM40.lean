/- A compiled table may be, and says what the local time is. No function of the program in it. What the laws on compiled tables say, as data. No function of the program in it. The map of the types of a table under way: what its keys read as, what it answers, what a store leaves. -/
import Derived.Test.YtkmgildnhnjepaaGreatDoorTM37
import Derived.Test.YtkmgildnhnjepaaGreatDoorTM09
import Derived.Maps.OwnSet
import Derived.Maps.Views
import Derived.DeepKeys4
import Derived.Test.YtkmgildnhnjepaaGreatDoorTM19
namespace Go.Proofs.YtkmgildnhnjepaaGreatDoor
set_option linter.unusedVariables false
set_option linter.unusedSimpArgs false
namespace abb
theorem letters_mem {l o : List UInt8} : lettersB l o l.length = true ↔ ∀ c ∈ l, (alnum (c.toNat : Int) || inB o (c.toNat : Int) o.length) = true := by
  constructor
  · intro h c hc
    obtain ⟨j, hj, e⟩ := List.getElem_of_mem hc
    have := lettersB_all h j hj
    rw [show bt l j = (c.toNat : Int) by unfold bt; simp [List.getD, List.getElem?_eq_getElem hj, e]] at this
    exact this
  · intro h
    have key : ∀ n, n ≤ l.length → lettersB l o n = true := by
      intro n
      induction n with
      | zero => intro _; rfl
      | succ n ih =>
        intro hn
        unfold lettersB
        rw [ih (by omega), Bool.true_and]
        have := h l[n] (List.getElem_mem _)
        rw [show bt l n = (l[n].toNat : Int) by unfold bt; simp [List.getD, List.getElem?_eq_getElem (show n < l.length by omega)]]
        exact this
    exact key _ (Nat.le_refl _)
def okc (c : UInt8) : Prop := (alnum (c.toNat : Int) || inB [43, 45] (c.toNat : Int) 2) = true
theorem abbr_iff {l : List UInt8} : isAbbrB l = true ↔ 1 ≤ l.length ∧ l.length ≤ 8 ∧ ∀ c ∈ l, okc c := by
  unfold isAbbrB
  simp only [Bool.and_eq_true, decide_eq_true_eq]
  rw [letters_mem, and_assoc]
  exact Iff.rfl
theorem abbr_good {f lt x : List UInt8} {sv : Int} (h : abbrR f sv lt = (x, 0)) : isAbbrB x = true ∧ (isAbbrB f = true → x = f) := by
  unfold abbrR at h
  cases ho : fmtOut f sv lt with
  | none => rw [ho] at h; simp [abbrOf] at h
  | some l =>
    rw [ho] at h
    have hl : l = x ∧ l.length ≤ 8 ∧ l ≠ [] := by
      simp only [abbrOf] at h
      split at h
      · simp at h
      · split at h
        · simp at h
        · split at h
          · simp at h
          · rename_i a b c
            injection h with h1 _
            exact ⟨h1, by omega, c⟩
    obtain ⟨rfl, h8, hne⟩ := hl
    have h1 : 1 ≤ l.length := by cases l with | nil => exact absurd rfl hne | cons a b => simp
    unfold fmtOut at ho
    split at ho
    · cases ho
    split at ho
    · cases ho
    rename_i hlt
    have hlt' : isAbbrB lt = true := by simpa using hlt
    split at ho
    · rename_i p hp
      split at ho
      · rename_i hab
        injection ho with ho
        refine ⟨by rw [← ho]; split; exact hab.1; exact hab.2, fun hf => ?_⟩
        rw [cutAt_no (abbr_no47 hf)] at hp
        cases hp
      · cases ho
    · split at ho
      · rename_i p hp
        split at ho
        · rename_i hab
          injection ho with ho
          refine ⟨abbr_iff.2 ⟨h1, h8, fun c hc => ?_⟩, fun hf => ?_⟩
          · rw [← ho] at hc
            have hin : c ∈ p.1 ++ p.2 ∨ c ∈ lt := by
              simp only [List.mem_append] at hc ⊢
              rcases hc with (hc | hc) | hc
              · exact Or.inl (Or.inl hc)
              · split at hc
                · cases hc
                · exact Or.inr hc
              · exact Or.inl (Or.inr hc)
            rcases hin with hin | hin
            · rcases hab with hab | hab
              · rw [hab] at hin; cases hin
              · exact (abbr_iff.1 hab).2.2 c hin
            · exact (abbr_iff.1 hlt').2.2 c hin
          · rw [cutAt_no (abbr_no37 hf)] at hp
            cases hp
        · cases ho
      · split at ho
        · rename_i hf
          injection ho with ho
          exact ⟨by rw [← ho]; exact hf, fun _ => ho.symm⟩
        · cases ho
end abb
theorem bld_vals (f : Int → TypD) : ∀ (l : List Int) (s : BlS TypD) (y : TypD), y ∈ (bld f s l).ty → y ∈ s.ty ∨ ∃ t, y = f t
  | [], s, y, h => Or.inl h
  | a :: l, s, y, h => by
    rw [bld_cons] at h
    rcases bld_vals f l _ y h with q | q
    · unfold bstep at q
      split at q
      · exact Or.inl q
      · have q' : y ∈ (if f a ∈ s.ty then s.ty else s.ty ++ [f a]) := q
        split at q'
        · exact Or.inl q'
        · rcases List.mem_append.1 q' with r | r
          · exact Or.inl r
          · exact Or.inr ⟨a, by simpa using r⟩
    · exact Or.inr q
theorem tab_vals (f : Int → TypD) {F T : Int} {y : TypD} (h : y ∈ (tab f F T).ty) : ∃ t, y = f t := by
  rcases bld_vals f _ _ y h with q | q
  · exact ⟨F, by simpa using q⟩
  · exact q
/-- a type of an era that may be -/
theorem typE_ok {rs : List RuD} (zs : List ZonD) (ls : List LinD) {e : EraD} (t : Int) (h : eraA rs e = 0) : tyE (typE e (eraT rs zs ls e) t) = 0 ∧ (typE e (eraT rs zs ls e) t).In := by
  have n := eraA_num h
  have z := savP_ok zs ls t h
  have s := abbrC_zero z
  have g := (abb.abbr_good (f := e.fm.toList) (lt := (savP e (eraT rs zs ls e) t).2.toList) (x := (abbrR e.fm.toList (savP e (eraT rs zs ls e) t).1 (savP e (eraT rs zs ls e) t).2.toList).1) (sv := (savP e (eraT rs zs ls e) t).1) (Prod.ext rfl z)).1
  constructor
  · unfold tyE
    have e1 : (typE e (eraT rs zs ls e) t).off = e.off + (savP e (eraT rs zs ls e) t).1 := rfl
    have e2 : (typE e (eraT rs zs ls e) t).nm = S (abbrR e.fm.toList (savP e (eraT rs zs ls e) t).1 (savP e (eraT rs zs ls e) t).2.toList).1 := rfl
    rw [e1, e2, S_toList, if_neg (by omega), if_neg (by rw [g]; decide)]
  · refine ⟨?_, ?_⟩
    · show (S _).size ≤ maxLen
      rw [S_size]
      unfold maxLen
      omega
    · show I64 (e.off + (savP e (eraT rs zs ls e) t).1)
      unfold I64
      omega
theorem loc_ok {rs : List RuD} {zs : List ZonD} {ls : List LinD} {es : List EraD} (hl : 1 ≤ es.length) (h : ∀ (k : Nat) (e : EraD), es[k]? = some e → eraA rs e = 0) (t : Int) : tyE (locT rs zs ls es t) = 0 ∧ (locT rs zs ls es t).In :=
  typE_ok zs ls t (h _ _ (eraE_get hl))

theorem bld_inv (f : Int → TypD) : ∀ (l : List Int) (s : BlS TypD), s.la ∈ s.ty → (∀ c ∈ s.ch, c.2 < s.ty.length) → l.Pairwise (· < ·) → s.ch.Pairwise (fun a b => a.1 < b.1) → (∀ c ∈ s.ch, ∀ t ∈ l, c.1 < t) →
    (∀ c ∈ (bld f s l).ch, c.2 < (bld f s l).ty.length) ∧ (bld f s l).ch.Pairwise (fun a b => a.1 < b.1)
  | [], s, _, h2, _, h4, _ => ⟨h2, h4⟩
  | a :: l, s, h1, h2, h3, h4, h5 => by
    obtain ⟨p1, p2⟩ := List.pairwise_cons.1 h3
    rw [bld_cons]
    by_cases e : f a = s.la
    · have : bstep f s a = s := by unfold bstep; rw [if_pos e]
      rw [this]
      exact bld_inv f l s h1 h2 p2 h4 fun c hc t ht => h5 c hc t (by simp [ht])
    · have eb : bstep f s a = ⟨if f a ∈ s.ty then s.ty else s.ty ++ [f a], s.ch ++ [(a, s.ty.idxOf (f a))], f a⟩ := by unfold bstep; rw [if_neg e]
      rw [eb]
      have hm : f a ∈ (if f a ∈ s.ty then s.ty else s.ty ++ [f a]) := by
        split
        · assumption
        · simp
      have hi : s.ty.idxOf (f a) < (if f a ∈ s.ty then s.ty else s.ty ++ [f a]).length := by
        split
        · rename_i m; exact List.idxOf_lt_length_of_mem m
        · rename_i m; rw [List.idxOf_eq_length m]; simp
      have hle : s.ty.length ≤ (if f a ∈ s.ty then s.ty else s.ty ++ [f a]).length := by split <;> simp
      refine bld_inv f l _ hm (fun c hc => ?_) p2 ?_ fun c hc t ht => ?_
      · rcases List.mem_append.1 hc with q | q
        · exact Nat.lt_of_lt_of_le (h2 c q) hle
        · simp at q; subst q; exact hi
      · rw [List.pairwise_append]
        exact ⟨h4, by simp, fun x hx y hy => by simp at hy; subst hy; exact h5 x hx a (by simp)⟩
      · rcases List.mem_append.1 hc with q | q
        · exact h5 c q t (by simp [ht])
        · simp at q; subst q; exact p1 t ht
theorem tab_inv (f : Int → TypD) (F T : Int) : (∀ c ∈ (tab f F T).ch, c.2 < (tab f F T).ty.length) ∧ (tab f F T).ch.Pairwise (fun a b => a.1 < b.1) :=
  bld_inv f _ _ (by simp) (fun c hc => by cases hc) (tls_sorted f F T) List.Pairwise.nil (fun c hc => by cases hc)
theorem chs_get {β : Type} {s : BlS β} {i : Nat} {c : ChaD} (h : s.chs[i]? = some c) : ∃ p, s.ch[i]? = some p ∧ c = ⟨p.1, p.2⟩ := by
  unfold BlS.chs at h
  rw [List.getElem?_map] at h
  cases hp : s.ch[i]? with
  | none => rw [hp] at h; cases h
  | some p => rw [hp] at h; exact ⟨p, rfl, (Option.some.inj h).symm⟩
theorem chs_len {β : Type} (s : BlS β) : s.chs.length = s.ch.length := by unfold BlS.chs; simp
/-- a compiled table may be -/
theorem tabC_tab {f : Int → TypD} {F T : Int} (hF : F < T) (ht : -1099511627776 ≤ F ∧ T ≤ 1099511627776) (hf : ∀ t, tyE (f t) = 0) (h1 : (tab f F T).ty.length ≤ 250) (h2 : (tab f F T).ch.length ≤ 1000) : tabC (tab f F T).ty 0 (tab f F T).chs = 0 := by
  have ok := tab_is f hF
  have iv := tab_inv f F T
  have h0 : 0 < (tab f F T).ty.length := (List.getElem?_eq_some_iff.1 ok.fst).1
  refine tabC_ok.2 ⟨⟨h1, by rw [chs_len]; exact h2⟩, h0, (fe_zero _).2 fun i hi => ?_, ⟨by omega, by omega⟩, (fe_zero _).2 fun i hi => ?_⟩
  · obtain ⟨x, hx⟩ := get_lt hi
    obtain ⟨t, rfl⟩ := tab_vals f (List.mem_of_getElem? hx)
    rw [tyC_at hx]; exact hf t
  · obtain ⟨c, hc⟩ := get_lt hi
    obtain ⟨p, hp, rfl⟩ := chs_get hc
    have m := ok.tim p (List.mem_of_getElem? hp)
    have n := iv.1 p (List.mem_of_getElem? hp)
    rw [chC_at hc, if_neg (by show ¬ ((p.1 < _ ∨ _ < p.1) ∨ ((p.2 : Int) < 0 ∨ _ < (p.2 : Int))); omega), if_neg ?_]
    unfold preB
    cases i with
    | zero => simp
    | succ j =>
      obtain ⟨d, hd⟩ := get_lt (show j < (tab f F T).chs.length by omega)
      obtain ⟨q, hq, rfl⟩ := chs_get hd
      simp only [hd]
      have hl := List.pairwise_iff_getElem.1 iv.2 j (j + 1) (List.getElem?_eq_some_iff.1 hq).1 (List.getElem?_eq_some_iff.1 hp).1 (by omega)
      rw [(List.getElem?_eq_some_iff.1 hq).2, (List.getElem?_eq_some_iff.1 hp).2] at hl
      simp only [decide_eq_true_eq]
      show ¬ p.1 ≤ q.1
      omega
/-- and says what the function is -/
theorem tabO_tab {f : Int → TypD} {F T t : Int} (h1 : F ≤ t) (h2 : t < T) : tabO (tab f F T).ty 0 (tab f F T).chs t = f t := by
  have ok := tab_is f (show F < T by omega)
  have := ok.num t h1 (by omega)
  unfold tabO
  have e : numZ 0 (tab f F T).chs t = (numAt 0 (tab f F T).ch t : Nat) := numZ_chs 0 _ t
  rw [e, List.getD_eq_getElem?_getD, Int.toNat_natCast, this]; rfl
/-- of the table of a name -/
theorem mkT_ok {rs : List RuD} {zs : List ZonD} {ls : List LinD} {nm : ByteArray} {F T : Int} (h : mkC rs zs ls nm F T = 0) :
    tabC (mkT rs zs ls nm F T).ty 0 (mkT rs zs ls nm F T).chs = 0 ∧ (∀ x ∈ (mkT rs zs ls nm F T).ty, x.In) ∧ ∀ t, F ≤ t → t < T → atC rs zs ls nm t = 0 ∧ atT rs zs ls nm t = tabO (mkT rs zs ls nm F T).ty 0 (mkT rs zs ls nm F T).chs t := by
  obtain ⟨h0, ⟨t1, t2, hF⟩, he, n1, n2⟩ := mkC_zero.1 h
  obtain ⟨l1, l2, hE⟩ := good_erasN h0
  have b1 := tmB_yes.1 t1
  have b2 := tmB_yes.1 t2
  have lo := loc_ok (zs := zs) (ls := ls) l1 fun k e q => (hE k e q).1
  refine ⟨tabC_tab hF ⟨by omega, by omega⟩ (fun t => (lo t).1) n1 n2, fun x hx => ?_, fun t p1 p2 => ?_⟩
  · obtain ⟨t, rfl⟩ := tab_vals _ hx
    exact (lo t).2
  · have := atT_loc h0 (tmB_yes.2 ⟨by omega, by omega⟩ : tmB t = true) he
    refine ⟨this.1, ?_⟩
    rw [this.2]
    exact (tabO_tab p1 p2).symm
end Go.Proofs.YtkmgildnhnjepaaGreatDoor
namespace Go.Proofs.YtkmgildnhnjepaaGreatDoor
set_option linter.unusedVariables false
set_option linter.unusedSimpArgs false
theorem mkC_res {rs : List RuD} {zs : List ZonD} {ls : List LinD} {nm : ByteArray} {F T : Int} (r : resC rs zs ls nm ≠ 0) : mkC rs zs ls nm F T = resC rs zs ls nm := by unfold mkC; rw [if_pos r]
theorem mkC_era {rs : List RuD} {zs : List ZonD} {ls : List LinD} {nm : ByteArray} {F T : Int} (r : resC rs zs ls nm = 0) (t1 : tmB F = true) (t2 : tmB T = true) (h : F < T) (e : eraF rs zs ls (erasN zs ls nm) ≠ 0) : mkC rs zs ls nm F T = eraF rs zs ls (erasN zs ls nm) := by
  unfold mkC
  have q : ¬ (tmB F = false ∨ tmB T = false ∨ T ≤ F) := by simp [t1, t2]; omega
  rw [if_neg (by simp [r]), if_neg q, if_pos e]
end Go.Proofs.YtkmgildnhnjepaaGreatDoor
namespace Go.Proofs.YtkmgildnhnjepaaGreatDoor
set_option linter.unusedVariables false
set_option linter.unusedSimpArgs false
open Go.RowKit Go.Maps
theorem laidOutTyp : laidOutB Tryz.prog = true := by kernel_rfl

theorem keyTypTyp : Tryz.prog.keyTypeAt 2 46 = true := by kernel_rfl

theorem keyTypeTyp : Tryz.prog.keyType 46 = true := by kernel_rfl

theorem wideTyp : (match Tryz.prog.underlying 46 with | some (.array _ _) | some (.struct _) => true | _ => false) = true := by kernel_rfl

theorem rowTyp : 46 < Tryz.prog.types.size := of_decide_eq_true (by kernel_rfl)

set_option maxRecDepth 100000 in
theorem lawTyp : Maps.Keyed Tryz.prog 46 := Maps.Keyed.of_law (deep_law_laid laidOutTyp (m := 2) (by omega) rowTyp keyTypTyp wideTyp)

theorem sizeTyp : ∃ m, Tryz.prog.types.size = m + 1 := Nat.exists_eq_succ_of_ne_zero (Nat.ne_of_gt (Nat.lt_of_le_of_lt (Nat.zero_le _) rowTyp))

theorem cellsT3 : Tryz.prog.cellsOf 46 = 3 := by kernel_rfl

theorem cellsI1 : Tryz.prog.cellsOf 3 = 1 := by kernel_rfl

theorem cellsB1 : Tryz.prog.cellsOf 4 = 1 := by kernel_rfl

theorem cellsS1 : Tryz.prog.cellsOf 9 = 1 := by kernel_rfl

/-- what a type reads as, as a key -/
def klT (x : TypD) : Lit := .string (keyBytes [.int .i64 x.off, .bool x.sv, .string x.nm.data.toList])

set_option maxRecDepth 100000 in
theorem keyTyp (x : TypD) (h : x.In) : keyOf Tryz.prog 46 (.agg #[.int .i64 x.off, .bool x.sv, .string x.nm]) = some (klT x) := by
  obtain ⟨m, hm⟩ := sizeTyp
  obtain ⟨o, s, n⟩ := x
  obtain ⟨h2, h1⟩ := h
  simp only at h1 h2 ⊢
  have hw := WalkArith.wf_i64 h1
  have f : (Value.agg #[.int .i64 o, .bool s, .string n]).formed Tryz.prog 46 = true := by
    unfold Value.formed
    rw [Tryz.underlying46]
    simp [cellsT3]
  unfold keyOf
  rw [Tryz.underlying46]
  simp only [keyTypeTyp, f, Bool.and_self, if_true]
  rw [hm]
  unfold Program.keyLits
  rw [Tryz.underlying46]
  unfold Program.keyLits
  simp [Value.cells, cellsT3, cellsI1, cellsB1, cellsS1, Tryz.underlying3, Tryz.underlying4, Tryz.underlying9, hw, h2, klT]

theorem klT_inj {x y : TypD} (hx : x.In) (hy : y.In) (h : klT x = klT y) : x = y := by
  have a := keyTyp x hx
  have b := keyTyp y hy
  rw [h] at a
  have e := lawTyp.inj a b
  obtain ⟨o, s, n⟩ := x
  obtain ⟨o', s', n'⟩ := y
  simp only [Value.agg.injEq, Array.mk.injEq, List.cons.injEq, Value.int.injEq, Value.bool.injEq, Value.string.injEq, and_true, true_and] at e
  obtain ⟨rfl, rfl, rfl⟩ := e
  rfl
theorem klT_key (x : TypD) : WideAt.IsKeyLit (klT x) := by unfold klT; trivial

/-- the map holds each type's number -/
def PlT (D : DataW Unit) (ty : List TypD) : Prop := ∀ x : TypD, x.In → Maps.has D (klT x) = decide (x ∈ ty) ∧ (x ∈ ty → D.atKey (klT x) (.lit (.int .i64 0)) = .lit (.int .i64 (ty.idxOf x)))
theorem PlT.start : PlT (.map []) [] := fun x _ => ⟨by simp [Maps.has], fun h => by cases h⟩
theorem PlT.more {D : DataW Unit} {ty : List TypD} {x : TypD} (h : PlT D ty) (hD : Maps.IsMap D) (hx : x.In) (hn : x ∉ ty) : PlT (D.put (klT x) (.lit (.int .i64 (ty.length : Int)))) (ty ++ [x]) := fun y hy => by
  by_cases e : y = x
  · subst e
    refine ⟨?_, fun _ => ?_⟩
    · rw [Maps.has_put_same hD (klT_key y)]; simp
    · rw [Maps.atKey_put_same hD (klT_key y), List.idxOf_append, if_neg hn]; simp
  · have hk : klT y ≠ klT x := fun q => e (klT_inj hy hx q)
    obtain ⟨a, b⟩ := h y hy
    refine ⟨?_, fun hm => ?_⟩
    · rw [Maps.has_put_other hk, a]
      simp [e]
    · have hm' : y ∈ ty := by
        rcases List.mem_append.1 hm with q | q
        · exact q
        · simp at q; exact absurd q e
      rw [Maps.atKey_put_other hk, b hm', List.idxOf_append, if_pos hm']

/-- it lies in a block -/
def MapT (w : World) (mb : Nat) (ty : List TypD) : Prop := ∃ (n : Nat) (D : DataW Unit), n ≤ ty.length ∧ w.ownsMap Tryz.prog 46 (plainElem Tryz.prog 3) mb n D ∧ PlT D ty

theorem MapT.kept {w w' : World} {mb : Nat} {ty : List TypD} {row : Option Nat} (h : MapT w mb ty) (g : w.grownBy w' row) (hne : some mb ≠ row) : MapT w' mb ty := by
  obtain ⟨n, D, hn, h1, h2⟩ := h
  exact ⟨n, D, hn, h1.kept g hne, h2⟩

theorem MapT.gr {w w' : World} {mb : Nat} {ty : List TypD} (h : MapT w mb ty) (g : Gr w w') : MapT w' mb ty := h.kept (gr_none g) (by simp)

theorem MapT.set {w : World} {mb : Nat} {ty : List TypD} (h : MapT w mb ty) {a : Addr} (ha : mb ≠ a.block) (u : Value) : MapT (w.setCell a u) mb ty := by
  obtain ⟨n, D, hn, h1, h2⟩ := h
  exact ⟨n, D, hn, h1.setCell ha u, h2⟩

theorem MapT.lt {w : World} {mb : Nat} {ty : List TypD} (h : MapT w mb ty) : mb < w.heap.size := by
  obtain ⟨n, D, hn, h1, h2⟩ := h
  exact h1.lt

theorem MapT.made (w : World) : MapT (w.alloc (.map #[] 0)) w.heap.size [] := ⟨0, .map [], Nat.le_refl _, World.ownsMap_made _ _ _ _, PlT.start⟩

/-- what it answers -/
def numT (ty : List TypD) (x : TypD) : Int := if x ∈ ty then (ty.idxOf x : Nat) else 0

set_option maxRecDepth 100000 in
theorem lookT {w : World} {mb : Nat} {ty : List TypD} (h : MapT w mb ty) {x : TypD} (hx : x.In) :
    (Instr.lookup 64 (.map (some mb)) (.agg #[.int .i64 x.off, .bool x.sv, .string x.nm]) true).run Tryz.prog w = .ok (.tuple #[.int .i64 (numT ty x), .bool (decide (x ∈ ty))]) w := by
  obtain ⟨n, D, hn, h1, h2⟩ := h
  obtain ⟨v, ps, hrun, hv⟩ := h1.look_ok lawTyp Tryz.underlying64 (zero3 w) (plainElem_int Tryz.underlying3 (by decide)) (keyTyp x hx)
  obtain ⟨c, rfl, hc, _⟩ := plainElem_int_inv Tryz.underlying3 hv
  obtain ⟨a, b⟩ := h2 x hx
  rw [a] at hrun
  have e : c = numT ty x := by
    have hc1 : D.atKey (klT x) (.lit (.int .i64 0)) = .lit (.int .i64 c) := congrArg Prod.fst hc
    unfold numT
    by_cases m : x ∈ ty
    · rw [if_pos m]
      rw [b m] at hc1
      simpa using hc1.symm
    · rw [if_neg m]
      rw [Maps.atKey_of_not_has (by rw [a]; simpa using m)] at hc1
      simpa using hc1.symm
  rw [← e]
  exact hrun

set_option maxRecDepth 100000 in
theorem storeT {w : World} {mb : Nat} {ty : List TypD} (h : MapT w mb ty) {x : TypD} (hx : x.In) (hn : x ∉ ty) (hl : ty.length ≤ 1000000000) :
    ∃ w', (Instr.mapUpdate 64 (.map (some mb)) (.agg #[.int .i64 x.off, .bool x.sv, .string x.nm]) (.int .i64 (ty.length : Int))).run Tryz.prog w = .ok () w' ∧ MapT w' mb (ty ++ [x]) ∧ w.grownBy w' (some mb) := by
  obtain ⟨n, D, hnl, h1, h2⟩ := h
  obtain ⟨w', hrun, h3, hg⟩ := h1.update lawTyp Tryz.underlying64 (by unfold maxLen; omega) (keyTyp x hx) (plainElem_int Tryz.underlying3 (WalkArith.wf_i64 (n := (ty.length : Int)) (by omega)))
  exact ⟨w', hrun, ⟨n + 1, _, by simp; omega, h3, h2.more h1.isMap hx hn⟩, hg⟩

end Go.Proofs.YtkmgildnhnjepaaGreatDoor
