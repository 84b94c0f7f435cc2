/- A compiled table may be, and says what the local time is. No function of the program in it. What the laws on compiled tables say, as data. No function of the program in it. -/
import Derived.Test.YtkmgildnhnjepaaGreatDoorRM35
import Derived.Test.YtkmgildnhnjepaaGreatDoorRM07
namespace Go.Proofs.YtkmgildnhnjepaaGreatDoor
set_option linter.unusedVariables false
set_option linter.unusedSimpArgs false
namespace abb
theorem letters_mem {l o : List UInt8} : lettersB l o l.length = true ↔ ∀ c ∈ l, (alnum (c.toNat : Int) || inB o (c.toNat : Int) o.length) = true := by
  constructor
  · intro h c hc
    obtain ⟨j, hj, e⟩ := List.getElem_of_mem hc
    have := lettersB_all h j hj
    rw [show bt l j = (c.toNat : Int) by unfold bt; simp [List.getD, List.getElem?_eq_getElem hj, e]] at this
    exact this
  · intro h
    have key : ∀ n, n ≤ l.length → lettersB l o n = true := by
      intro n
      induction n with
      | zero => intro _; rfl
      | succ n ih =>
        intro hn
        unfold lettersB
        rw [ih (by omega), Bool.true_and]
        have := h l[n] (List.getElem_mem _)
        rw [show bt l n = (l[n].toNat : Int) by unfold bt; simp [List.getD, List.getElem?_eq_getElem (show n < l.length by omega)]]
        exact this
    exact key _ (Nat.le_refl _)
def okc (c : UInt8) : Prop := (alnum (c.toNat : Int) || inB [43, 45] (c.toNat : Int) 2) = true
theorem abbr_iff {l : List UInt8} : isAbbrB l = true ↔ 1 ≤ l.length ∧ l.length ≤ 8 ∧ ∀ c ∈ l, okc c := by
  unfold isAbbrB
  simp only [Bool.and_eq_true, decide_eq_true_eq]
  rw [letters_mem, and_assoc]
  exact Iff.rfl
theorem abbr_good {f lt x : List UInt8} {sv : Int} (h : abbrR f sv lt = (x, 0)) : isAbbrB x = true ∧ (isAbbrB f = true → x = f) := by
  unfold abbrR at h
  cases ho : fmtOut f sv lt with
  | none => rw [ho] at h; simp [abbrOf] at h
  | some l =>
    rw [ho] at h
    have hl : l = x ∧ l.length ≤ 8 ∧ l ≠ [] := by
      simp only [abbrOf] at h
      split at h
      · simp at h
      · split at h
        · simp at h
        · split at h
          · simp at h
          · rename_i a b c
            injection h with h1 _
            exact ⟨h1, by omega, c⟩
    obtain ⟨rfl, h8, hne⟩ := hl
    have h1 : 1 ≤ l.length := by cases l with | nil => exact absurd rfl hne | cons a b => simp
    unfold fmtOut at ho
    split at ho
    · cases ho
    split at ho
    · cases ho
    rename_i hlt
    have hlt' : isAbbrB lt = true := by simpa using hlt
    split at ho
    · rename_i p hp
      split at ho
      · rename_i hab
        injection ho with ho
        refine ⟨by rw [← ho]; split; exact hab.1; exact hab.2, fun hf => ?_⟩
        rw [cutAt_no (abbr_no47 hf)] at hp
        cases hp
      · cases ho
    · split at ho
      · rename_i p hp
        split at ho
        · rename_i hab
          injection ho with ho
          refine ⟨abbr_iff.2 ⟨h1, h8, fun c hc => ?_⟩, fun hf => ?_⟩
          · rw [← ho] at hc
            have hin : c ∈ p.1 ++ p.2 ∨ c ∈ lt := by
              simp only [List.mem_append] at hc ⊢
              rcases hc with (hc | hc) | hc
              · exact Or.inl (Or.inl hc)
              · split at hc
                · cases hc
                · exact Or.inr hc
              · exact Or.inl (Or.inr hc)
            rcases hin with hin | hin
            · rcases hab with hab | hab
              · rw [hab] at hin; cases hin
              · exact (abbr_iff.1 hab).2.2 c hin
            · exact (abbr_iff.1 hlt').2.2 c hin
          · rw [cutAt_no (abbr_no37 hf)] at hp
            cases hp
        · cases ho
      · split at ho
        · rename_i hf
          injection ho with ho
          exact ⟨by rw [← ho]; exact hf, fun _ => ho.symm⟩
        · cases ho
end abb
theorem bld_vals (f : Int → TypD) : ∀ (l : List Int) (s : BlS TypD) (y : TypD), y ∈ (bld f s l).ty → y ∈ s.ty ∨ ∃ t, y = f t
  | [], s, y, h => Or.inl h
  | a :: l, s, y, h => by
    rw [bld_cons] at h
    rcases bld_vals f l _ y h with q | q
    · unfold bstep at q
      split at q
      · exact Or.inl q
      · have q' : y ∈ (if f a ∈ s.ty then s.ty else s.ty ++ [f a]) := q
        split at q'
        · exact Or.inl q'
        · rcases List.mem_append.1 q' with r | r
          · exact Or.inl r
          · exact Or.inr ⟨a, by simpa using r⟩
    · exact Or.inr q
theorem tab_vals (f : Int → TypD) {F T : Int} {y : TypD} (h : y ∈ (tab f F T).ty) : ∃ t, y = f t := by
  rcases bld_vals f _ _ y h with q | q
  · exact ⟨F, by simpa using q⟩
  · exact q
/-- a type of an era that may be -/
theorem typE_ok {rs : List RuD} (zs : List ZonD) (ls : List LinD) {e : EraD} (t : Int) (h : eraA rs e = 0) : tyE (typE e (eraT rs zs ls e) t) = 0 ∧ (typE e (eraT rs zs ls e) t).In := by
  have n := eraA_num h
  have z := savP_ok zs ls t h
  have s := abbrC_zero z
  have g := (abb.abbr_good (f := e.fm.toList) (lt := (savP e (eraT rs zs ls e) t).2.toList) (x := (abbrR e.fm.toList (savP e (eraT rs zs ls e) t).1 (savP e (eraT rs zs ls e) t).2.toList).1) (sv := (savP e (eraT rs zs ls e) t).1) (Prod.ext rfl z)).1
  constructor
  · unfold tyE
    have e1 : (typE e (eraT rs zs ls e) t).off = e.off + (savP e (eraT rs zs ls e) t).1 := rfl
    have e2 : (typE e (eraT rs zs ls e) t).nm = S (abbrR e.fm.toList (savP e (eraT rs zs ls e) t).1 (savP e (eraT rs zs ls e) t).2.toList).1 := rfl
    rw [e1, e2, S_toList, if_neg (by omega), if_neg (by rw [g]; decide)]
  · refine ⟨?_, ?_⟩
    · show (S _).size ≤ maxLen
      rw [S_size]
      unfold maxLen
      omega
    · show I64 (e.off + (savP e (eraT rs zs ls e) t).1)
      unfold I64
      omega
theorem loc_ok {rs : List RuD} {zs : List ZonD} {ls : List LinD} {es : List EraD} (hl : 1 ≤ es.length) (h : ∀ (k : Nat) (e : EraD), es[k]? = some e → eraA rs e = 0) (t : Int) : tyE (locT rs zs ls es t) = 0 ∧ (locT rs zs ls es t).In :=
  typE_ok zs ls t (h _ _ (eraE_get hl))

theorem bld_inv (f : Int → TypD) : ∀ (l : List Int) (s : BlS TypD), s.la ∈ s.ty → (∀ c ∈ s.ch, c.2 < s.ty.length) → l.Pairwise (· < ·) → s.ch.Pairwise (fun a b => a.1 < b.1) → (∀ c ∈ s.ch, ∀ t ∈ l, c.1 < t) →
    (∀ c ∈ (bld f s l).ch, c.2 < (bld f s l).ty.length) ∧ (bld f s l).ch.Pairwise (fun a b => a.1 < b.1)
  | [], s, _, h2, _, h4, _ => ⟨h2, h4⟩
  | a :: l, s, h1, h2, h3, h4, h5 => by
    obtain ⟨p1, p2⟩ := List.pairwise_cons.1 h3
    rw [bld_cons]
    by_cases e : f a = s.la
    · have : bstep f s a = s := by unfold bstep; rw [if_pos e]
      rw [this]
      exact bld_inv f l s h1 h2 p2 h4 fun c hc t ht => h5 c hc t (by simp [ht])
    · have eb : bstep f s a = ⟨if f a ∈ s.ty then s.ty else s.ty ++ [f a], s.ch ++ [(a, s.ty.idxOf (f a))], f a⟩ := by unfold bstep; rw [if_neg e]
      rw [eb]
      have hm : f a ∈ (if f a ∈ s.ty then s.ty else s.ty ++ [f a]) := by
        split
        · assumption
        · simp
      have hi : s.ty.idxOf (f a) < (if f a ∈ s.ty then s.ty else s.ty ++ [f a]).length := by
        split
        · rename_i m; exact List.idxOf_lt_length_of_mem m
        · rename_i m; rw [List.idxOf_eq_length m]; simp
      have hle : s.ty.length ≤ (if f a ∈ s.ty then s.ty else s.ty ++ [f a]).length := by split <;> simp
      refine bld_inv f l _ hm (fun c hc => ?_) p2 ?_ fun c hc t ht => ?_
      · rcases List.mem_append.1 hc with q | q
        · exact Nat.lt_of_lt_of_le (h2 c q) hle
        · simp at q; subst q; exact hi
      · rw [List.pairwise_append]
        exact ⟨h4, by simp, fun x hx y hy => by simp at hy; subst hy; exact h5 x hx a (by simp)⟩
      · rcases List.mem_append.1 hc with q | q
        · exact h5 c q t (by simp [ht])
        · simp at q; subst q; exact p1 t ht
theorem tab_inv (f : Int → TypD) (F T : Int) : (∀ c ∈ (tab f F T).ch, c.2 < (tab f F T).ty.length) ∧ (tab f F T).ch.Pairwise (fun a b => a.1 < b.1) :=
  bld_inv f _ _ (by simp) (fun c hc => by cases hc) (tls_sorted f F T) List.Pairwise.nil (fun c hc => by cases hc)
theorem chs_get {β : Type} {s : BlS β} {i : Nat} {c : ChaD} (h : s.chs[i]? = some c) : ∃ p, s.ch[i]? = some p ∧ c = ⟨p.1, p.2⟩ := by
  unfold BlS.chs at h
  rw [List.getElem?_map] at h
  cases hp : s.ch[i]? with
  | none => rw [hp] at h; cases h
  | some p => rw [hp] at h; exact ⟨p, rfl, (Option.some.inj h).symm⟩
theorem chs_len {β : Type} (s : BlS β) : s.chs.length = s.ch.length := by unfold BlS.chs; simp
/-- a compiled table may be -/
theorem tabC_tab {f : Int → TypD} {F T : Int} (hF : F < T) (ht : -1099511627776 ≤ F ∧ T ≤ 1099511627776) (hf : ∀ t, tyE (f t) = 0) (h1 : (tab f F T).ty.length ≤ 250) (h2 : (tab f F T).ch.length ≤ 1000) : tabC (tab f F T).ty 0 (tab f F T).chs = 0 := by
  have ok := tab_is f hF
  have iv := tab_inv f F T
  have h0 : 0 < (tab f F T).ty.length := (List.getElem?_eq_some_iff.1 ok.fst).1
  refine tabC_ok.2 ⟨⟨h1, by rw [chs_len]; exact h2⟩, h0, (fe_zero _).2 fun i hi => ?_, ⟨by omega, by omega⟩, (fe_zero _).2 fun i hi => ?_⟩
  · obtain ⟨x, hx⟩ := get_lt hi
    obtain ⟨t, rfl⟩ := tab_vals f (List.mem_of_getElem? hx)
    rw [tyC_at hx]; exact hf t
  · obtain ⟨c, hc⟩ := get_lt hi
    obtain ⟨p, hp, rfl⟩ := chs_get hc
    have m := ok.tim p (List.mem_of_getElem? hp)
    have n := iv.1 p (List.mem_of_getElem? hp)
    rw [chC_at hc, if_neg (by show ¬ ((p.1 < _ ∨ _ < p.1) ∨ ((p.2 : Int) < 0 ∨ _ < (p.2 : Int))); omega), if_neg ?_]
    unfold preB
    cases i with
    | zero => simp
    | succ j =>
      obtain ⟨d, hd⟩ := get_lt (show j < (tab f F T).chs.length by omega)
      obtain ⟨q, hq, rfl⟩ := chs_get hd
      simp only [hd]
      have hl := List.pairwise_iff_getElem.1 iv.2 j (j + 1) (List.getElem?_eq_some_iff.1 hq).1 (List.getElem?_eq_some_iff.1 hp).1 (by omega)
      rw [(List.getElem?_eq_some_iff.1 hq).2, (List.getElem?_eq_some_iff.1 hp).2] at hl
      simp only [decide_eq_true_eq]
      show ¬ p.1 ≤ q.1
      omega
/-- and says what the function is -/
theorem tabO_tab {f : Int → TypD} {F T t : Int} (h1 : F ≤ t) (h2 : t < T) : tabO (tab f F T).ty 0 (tab f F T).chs t = f t := by
  have ok := tab_is f (show F < T by omega)
  have := ok.num t h1 (by omega)
  unfold tabO
  have e : numZ 0 (tab f F T).chs t = (numAt 0 (tab f F T).ch t : Nat) := numZ_chs 0 _ t
  rw [e, List.getD_eq_getElem?_getD, Int.toNat_natCast, this]; rfl
/-- of the table of a name -/
theorem mkT_ok {rs : List RuD} {zs : List ZonD} {ls : List LinD} {nm : ByteArray} {F T : Int} (h : mkC rs zs ls nm F T = 0) :
    tabC (mkT rs zs ls nm F T).ty 0 (mkT rs zs ls nm F T).chs = 0 ∧ (∀ x ∈ (mkT rs zs ls nm F T).ty, x.In) ∧ ∀ t, F ≤ t → t < T → atC rs zs ls nm t = 0 ∧ atT rs zs ls nm t = tabO (mkT rs zs ls nm F T).ty 0 (mkT rs zs ls nm F T).chs t := by
  obtain ⟨h0, ⟨t1, t2, hF⟩, he, n1, n2⟩ := mkC_zero.1 h
  obtain ⟨l1, l2, hE⟩ := good_erasN h0
  have b1 := tmB_yes.1 t1
  have b2 := tmB_yes.1 t2
  have lo := loc_ok (zs := zs) (ls := ls) l1 fun k e q => (hE k e q).1
  refine ⟨tabC_tab hF ⟨by omega, by omega⟩ (fun t => (lo t).1) n1 n2, fun x hx => ?_, fun t p1 p2 => ?_⟩
  · obtain ⟨t, rfl⟩ := tab_vals _ hx
    exact (lo t).2
  · have := atT_loc h0 (tmB_yes.2 ⟨by omega, by omega⟩ : tmB t = true) he
    refine ⟨this.1, ?_⟩
    rw [this.2]
    exact (tabO_tab p1 p2).symm
end Go.Proofs.YtkmgildnhnjepaaGreatDoor
namespace Go.Proofs.YtkmgildnhnjepaaGreatDoor
set_option linter.unusedVariables false
set_option linter.unusedSimpArgs false
theorem mk_same {rs : List RuD} {zs : List ZonD} {ls : List LinD} {a b : ByteArray} {F T : Int} (h1 : resC rs zs ls a = resC rs zs ls b) (h2 : resC rs zs ls b = 0 → endN zs ls a.toList = endN zs ls b.toList) :
    mkC rs zs ls a F T = mkC rs zs ls b F T ∧ (mkC rs zs ls b F T = 0 → mkT rs zs ls a F T = mkT rs zs ls b F T) := by
  by_cases c : resC rs zs ls b = 0
  · have e : erasN zs ls a = erasN zs ls b := by unfold erasN; rw [h2 c]
    have eT : mkT rs zs ls a F T = mkT rs zs ls b F T := by unfold mkT; rw [e]
    exact ⟨by unfold mkC; rw [h1, e, eT], fun _ => eT⟩
  · have hb : mkC rs zs ls b F T = resC rs zs ls b := by unfold mkC; rw [if_pos c]
    have ha : mkC rs zs ls a F T = resC rs zs ls a := by unfold mkC; rw [if_pos (by rw [h1]; exact c)]
    exact ⟨by rw [ha, hb, h1], fun h => absurd (hb ▸ h) c⟩
/-- a link has the table of its target -/
theorem mk_link {rs : List RuD} {zs : List ZonD} {ls : List LinD} {i : Nat} {x : LinD} (hx : ls[i]? = some x) (F T : Int) :
    mkC rs zs ls x.to' F T = mkC rs zs ls x.nm F T ∧ (mkC rs zs ls x.nm F T = 0 → mkT rs zs ls x.to' F T = mkT rs zs ls x.nm F T) := by
  by_cases h0 : bokC rs zs ls = 0
  · obtain ⟨a, b, _⟩ := res_link h0 hx
    exact mk_same a b
  · exact mk_same (by rw [resC_bad h0, resC_bad h0]) (fun h => absurd (by rw [resC_bad h0] at h; exact h) h0)

theorem mk_ch {rs : List RuD} {zs : List ZonD} {ls : List LinD} {nm : ByteArray} {F T : Int} (hF : F < T) {t : Int} : (∃ c ∈ (mkT rs zs ls nm F T).chs, c.at' = t) ↔ t ∈ tls (locT rs zs ls (erasN zs ls nm)) F T := by
  rw [← tab_ch _ hF]
  unfold BlS.chs mkT
  rw [List.mem_map]
  constructor
  · rintro ⟨c, hc, rfl⟩
    obtain ⟨p, hp, rfl⟩ := List.mem_map.1 hc
    exact ⟨p, hp, rfl⟩
  · rintro ⟨p, hp, rfl⟩
    exact ⟨⟨p.1, p.2⟩, List.mem_map.2 ⟨p, hp, rfl⟩, rfl⟩
theorem mk_steady {rs : List RuD} {zs : List ZonD} {ls : List LinD} {nm : ByteArray} {F T x y : Int} (h : mkC rs zs ls nm F T = 0) (x1 : F ≤ x) (x2 : x < T) (y1 : F ≤ y) (y2 : y < T)
    (hn : ∀ c ∈ (mkT rs zs ls nm F T).chs, ¬ (min x y < c.at' ∧ c.at' ≤ max x y)) : atC rs zs ls nm x = 0 ∧ atC rs zs ls nm y = 0 ∧ atT rs zs ls nm x = atT rs zs ls nm y := by
  obtain ⟨h0, ⟨t1, t2, hF⟩, he, n1, n2⟩ := mkC_zero.1 h
  have b1 := tmB_yes.1 t1
  have b2 := tmB_yes.1 t2
  have px := atT_loc h0 (tmB_yes.2 ⟨by omega, by omega⟩ : tmB x = true) he
  have py := atT_loc h0 (tmB_yes.2 ⟨by omega, by omega⟩ : tmB y = true) he
  refine ⟨px.1, py.1, ?_⟩
  rw [px.2, py.2]
  have key : ∀ a b : Int, F ≤ a → a ≤ b → b < T → (∀ t ∈ tls (locT rs zs ls (erasN zs ls nm)) F T, ¬ (a < t ∧ t ≤ b)) → locT rs zs ls (erasN zs ls nm) b = locT rs zs ls (erasN zs ls nm) a := fun a b q1 q2 q3 q4 => tls_still q1 q2 q3 q4
  have hn' : ∀ t ∈ tls (locT rs zs ls (erasN zs ls nm)) F T, ¬ (min x y < t ∧ t ≤ max x y) := fun t ht => by
    obtain ⟨c, hc, rfl⟩ := (mk_ch hF).2 ht
    exact hn c hc
  by_cases c : x ≤ y
  · exact (key x y x1 c y2 fun t ht => by have := hn' t ht; omega).symm
  · exact key y x y1 (by omega) x2 fun t ht => by have := hn' t ht; omega

theorem mk_fixed {rs : List RuD} {zs : List ZonD} {ls : List LinD} {i : Nat} {z : ZonD} (hz : zs[i]? = some z) {F T : Int} (h : mkC rs zs ls z.nm F T = 0) (hn : ∀ e ∈ z.eras, e.ru.toList = []) : ∀ c ∈ (mkT rs zs ls z.nm F T).chs, ∃ e ∈ z.eras, e.un = c.at' := by
  obtain ⟨h0, ⟨t1, t2, hF⟩, he, n1, n2⟩ := mkC_zero.1 h
  have hb := (resC_zero.1 h0).1
  have ee : erasN zs ls z.nm = z.eras := by
    have := end_zone (good_of hb) hz
    exact erasN_at (by rw [this]; exact hz)
  obtain ⟨l1, _, _⟩ := good_erasN h0
  rw [ee] at l1
  intro c hc
  have ht := (mk_ch hF).1 ⟨c, hc, rfl⟩
  rw [ee] at ht
  rcases turn_where l1 (mem_tls.1 ht).2 with ⟨k, e, _, hk, hu⟩ | ⟨_, hr, _⟩
  · exact ⟨e, List.mem_of_getElem? hk, hu⟩
  · exact absurd (hn _ (List.mem_of_getElem? (eraE_get l1))) hr

theorem bld_vals2 (f : Int → TypD) : ∀ (l : List Int) (s : BlS TypD) (y : TypD), y ∈ (bld f s l).ty → y ∈ s.ty ∨ ∃ t ∈ l, y = f t
  | [], s, y, h => Or.inl h
  | a :: l, s, y, h => by
    rw [bld_cons] at h
    rcases bld_vals2 f l _ y h with q | ⟨t, ht, q⟩
    · unfold bstep at q
      split at q
      · exact Or.inl q
      · have q' : y ∈ (if f a ∈ s.ty then s.ty else s.ty ++ [f a]) := q
        split at q'
        · exact Or.inl q'
        · rcases List.mem_append.1 q' with r | r
          · exact Or.inl r
          · exact Or.inr ⟨a, by simp, by simpa using r⟩
    · exact Or.inr ⟨t, by simp [ht], q⟩
theorem tab_vals2 (f : Int → TypD) {F T : Int} (hF : F < T) {y : TypD} (h : y ∈ (tab f F T).ty) : ∃ t, F ≤ t ∧ t < T ∧ y = f t := by
  rcases bld_vals2 f _ _ y h with q | ⟨t, ht, q⟩
  · exact ⟨F, by omega, hF, by simpa using q⟩
  · have := (mem_tls.1 ht).1
    exact ⟨t, by omega, by omega, q⟩
theorem sub_len {l m : List TypD} (h : l.Nodup) (hs : ∀ x ∈ l, x ∈ m) : l.length ≤ m.length := List.Nodup.length_le_of_subset h hs
theorem tab_part (f : Int → TypD) {F T a b : Int} (h1 : F ≤ a) (h2 : b ≤ T) (hab : a < b) : (tab f a b).ty.length ≤ (tab f F T).ty.length ∧ (tab f a b).ch.length ≤ (tab f F T).ch.length := by
  have ok := tab_is f hab
  have ok2 := tab_is f (show F < T by omega)
  constructor
  · refine sub_len ok.nd fun x hx => ?_
    obtain ⟨t, t1, t2, rfl⟩ := tab_vals2 f hab hx
    exact List.mem_of_getElem? (ok2.num t (by omega) (by omega))
  · have e1 := congrArg List.length (tab_ch f hab)
    have e2 := congrArg List.length (tab_ch f (show F < T by omega))
    rw [List.length_map] at e1 e2
    rw [e1, e2, tls_part f h1 h2]
    exact List.length_filter_le _ _
theorem mk_part {rs : List RuD} {zs : List ZonD} {ls : List LinD} {nm : ByteArray} {F T a b : Int} (h : mkC rs zs ls nm F T = 0) (h1 : F ≤ a) (h2 : b ≤ T) (hab : a < b) : mkC rs zs ls nm a b = 0 := by
  obtain ⟨h0, ⟨t1, t2, hF⟩, he, n1, n2⟩ := mkC_zero.1 h
  have b1 := tmB_yes.1 t1
  have b2 := tmB_yes.1 t2
  have p := tab_part (locT rs zs ls (erasN zs ls nm)) h1 h2 hab
  exact mkC_zero.2 ⟨h0, ⟨tmB_yes.2 ⟨by omega, by omega⟩, tmB_yes.2 ⟨by omega, by omega⟩, hab⟩, he, Nat.le_trans p.1 n1, Nat.le_trans p.2 n2⟩
theorem mkC_res {rs : List RuD} {zs : List ZonD} {ls : List LinD} {nm : ByteArray} {F T : Int} (r : resC rs zs ls nm ≠ 0) : mkC rs zs ls nm F T = resC rs zs ls nm := by unfold mkC; rw [if_pos r]
theorem mkC_era {rs : List RuD} {zs : List ZonD} {ls : List LinD} {nm : ByteArray} {F T : Int} (r : resC rs zs ls nm = 0) (t1 : tmB F = true) (t2 : tmB T = true) (h : F < T) (e : eraF rs zs ls (erasN zs ls nm) ≠ 0) : mkC rs zs ls nm F T = eraF rs zs ls (erasN zs ls nm) := by
  unfold mkC
  have q : ¬ (tmB F = false ∨ tmB T = false ∨ T ≤ F) := by simp [t1, t2]; omega
  rw [if_neg (by simp [r]), if_neg q, if_pos e]
/-- the errors of two spans that meet, and of both together -/
theorem mk_errs {rs : List RuD} {zs : List ZonD} {ls : List LinD} {nm : ByteArray} {F T a : Int} (t1 : tmB F = true) (t2 : tmB T = true) (h1 : F < a) (h2 : a < T) (hne : mkC rs zs ls nm F T ≠ 0 ∨ mkC rs zs ls nm F a ≠ 0 ∨ mkC rs zs ls nm a T ≠ 0) :
    (mkC rs zs ls nm F T = mkC rs zs ls nm F a ∧ mkC rs zs ls nm F a = mkC rs zs ls nm a T) ∨ mkC rs zs ls nm F T = 2 := by
  have b1 := tmB_yes.1 t1
  have b2 := tmB_yes.1 t2
  have ta : tmB a = true := tmB_yes.2 ⟨by omega, by omega⟩
  by_cases c : mkC rs zs ls nm F T = 0
  · exfalso
    have := mk_part c (Int.le_refl _) (show a ≤ T by omega) h1
    have := mk_part c (show F ≤ a by omega) (Int.le_refl _) h2
    omega
  · by_cases d : mkC rs zs ls nm F T = 2
    · exact Or.inr d
    · left
      by_cases r : resC rs zs ls nm = 0
      · by_cases e : eraF rs zs ls (erasN zs ls nm) = 0
        · exfalso
          unfold mkC at c d
          have q : ¬ (tmB F = false ∨ tmB T = false ∨ T ≤ F) := by simp [t1, t2]; omega
          rw [if_neg (by simp [r]), if_neg q, if_neg (by simp [e])] at c d
          split at c
          · rename_i q; rw [if_pos q] at d; exact d rfl
          · exact c rfl
        · rw [mkC_era r t1 t2 (by omega) e, mkC_era r t1 ta h1 e, mkC_era r ta t2 h2 e]; exact ⟨rfl, rfl⟩
      · rw [mkC_res r, mkC_res r, mkC_res r]; exact ⟨rfl, rfl⟩
theorem mk_join {rs : List RuD} {zs : List ZonD} {ls : List LinD} {nm : ByteArray} {F T a : Int} (h1 : F < a) (h2 : a < T) :
    (mkT rs zs ls nm F T).chs.length = (mkT rs zs ls nm F a).chs.length + (if ∃ c ∈ (mkT rs zs ls nm F T).chs, c.at' = a then 1 else 0) + (mkT rs zs ls nm a T).chs.length := by
  have key : ∀ {F T : Int}, F < T → (mkT rs zs ls nm F T).chs.length = (tls (locT rs zs ls (erasN zs ls nm)) F T).length := fun {F T} h => by
    rw [chs_len, ← tab_ch _ h, List.length_map]; rfl
  rw [key h1, key h2, key (show F < T by omega), tls_join _ h1 h2]
  have e : (∃ c ∈ (mkT rs zs ls nm F T).chs, c.at' = a) ↔ locT rs zs ls (erasN zs ls nm) a ≠ locT rs zs ls (erasN zs ls nm) (a - 1) := by
    rw [mk_ch (show F < T by omega), mem_tls]
    exact ⟨fun h => h.2, fun h => ⟨⟨h1, h2⟩, h⟩⟩
  by_cases c : locT rs zs ls (erasN zs ls nm) a = locT rs zs ls (erasN zs ls nm) (a - 1)
  · rw [if_neg (fun q => q c), if_neg (fun q => e.1 q c)]
    simp
  · rw [if_pos c, if_pos (e.2 c)]
    simp only [List.length_append, List.length_singleton]
    omega
end Go.Proofs.YtkmgildnhnjepaaGreatDoor
