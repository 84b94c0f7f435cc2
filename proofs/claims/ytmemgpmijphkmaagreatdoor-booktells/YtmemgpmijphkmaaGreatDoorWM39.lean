/- Rows of texts; what is so of the parts of a book that Check lets pass. No function of the program in it. The text of a book: its lines, how long they are, none of them empty. No function of the program in it. -/
import Derived.Test.YtmemgpmijphkmaaGreatDoorWM38
namespace Go.Proofs.YtmemgpmijphkmaaGreatDoor
set_option linter.unusedVariables false
set_option linter.unusedSimpArgs false
open Go.RowKit
theorem infoStr : (Tryz.prog.info? 9).map (fun i => (i.zero, i.size, i.bytes)) = some (some (.string .empty), 1, 16) := by kernel_rfl

/-- texts, by their bytes -/
def txts (l : List (List UInt8)) : List ByteArray := l.map S
theorem txts_snoc (l : List (List UInt8)) (x : List UInt8) : txts (l ++ [x]) = txts l ++ [S x] := by simp [txts]
theorem txts_len (l : List (List UInt8)) : (txts l).length = l.length := by simp [txts]
theorem txts_lists (l : List (List UInt8)) : (txts l).map (·.toList) = l := by
  unfold txts
  rw [List.map_map]
  conv => rhs; rw [← List.map_id l]
  exact List.map_congr_left fun x _ => by simp [S_toList]
theorem map_take {α β : Type} (f : α → β) {l : List α} {k : Nat} {x : α} (h : l[k]? = some x) : (l.take (k + 1)).map f = (l.take k).map f ++ [f x] := by
  have hk : k < l.length := (List.getElem?_eq_some_iff.1 h).1
  have e : l[k] = x := (List.getElem?_eq_some_iff.1 h).2
  rw [List.take_succ_eq_append_getElem hk, List.map_append, e]; rfl
theorem flatMap_take {α β : Type} (f : α → List β) {l : List α} {k : Nat} {x : α} (h : l[k]? = some x) : (l.take (k + 1)).flatMap f = (l.take k).flatMap f ++ f x := by
  have hk : k < l.length := (List.getElem?_eq_some_iff.1 h).1
  have e : l[k] = x := (List.getElem?_eq_some_iff.1 h).2
  rw [List.take_succ_eq_append_getElem hk, List.flatMap_append, e]; simp
/-- the rules of a book that may be -/
theorem ok_rule {rs : List RuD} {zs : List ZonD} {ls : List LinD} (h : bokC rs zs ls = 0) : ∀ r ∈ rs, r.chk = 0 := fun r hr => by
  obtain ⟨i, hi, e⟩ := List.getElem_of_mem hr
  have := (fe_zero _).1 (bokC_ok.1 h).2.1 i hi
  rwa [rusC_at (r := r) (by rw [List.getElem?_eq_getElem hi, e])] at this
theorem rule_name {r : RuD} (h : r.chk = 0) : r.nm.size ≤ 20 := by
  have := name_len (ruleSyn_iff.1 (ruleC_zero.1 h).1).1
  rw [size_toList]; omega
/-- an era that may be -/
structure EraOk (e : EraD) : Prop where
  o1 : -64800 ≤ e.off
  o2 : e.off ≤ 64800
  s1 : 0 ≤ e.sv
  s2 : e.sv ≤ 10800
  ru : e.ru.size ≤ 20
  fm : e.fm.size ≤ 12
theorem abbrC_fmt {f : ByteArray} {sv : Int} {lt : ByteArray} (h : abbrC f sv lt = 0) : f.size ≤ 12 := by
  by_cases c : 12 < f.size
  · unfold abbrC abbrR at h
    rw [fmt_long (by rw [← size_toList]; exact c)] at h
    cases h
  · omega
theorem ok_era {rs : List RuD} {e : EraD} (hr : ∀ r ∈ rs, r.chk = 0) (h : eraA rs e = 0) : EraOk e := by
  unfold eraA at h
  split at h
  · cases h
  rename_i h1
  have hs : svB e.sv = true := by
    cases q : svB e.sv with
    | true => rfl
    | false => exact absurd (Or.inr (Or.inr q)) h1
  have hs' := svB_yes.1 hs
  split at h
  · rename_i hn
    exact ⟨by omega, by omega, by omega, by omega, by rw [size_toList, hn]; simp, abbrC_fmt h⟩
  · split at h
    · cases h
    · have hh : hasR rs e.ru = true ∧ abbrC e.fm 0 dash = 0 := by
        unfold rulC at h
        split at h
        · cases h
        · rename_i q
          split at h
          · exact ⟨by simpa using q, h⟩
          · rename_i q2; exact absurd h q2
      refine ⟨by omega, by omega, by omega, by omega, ?_, abbrC_fmt hh.2⟩
      obtain ⟨r, hm, e'⟩ := List.any_eq_true.1 hh.1
      have := rule_name (hr r hm)
      rw [size_toList, ← eq_of_beq e', ← size_toList]
      exact this
/-- a zone that may be -/
theorem ok_zone {rs : List RuD} {zs : List ZonD} {ls : List LinD} (h : bokC rs zs ls = 0) : ∀ z ∈ zs, z.nm.size ≤ 20 ∧ 1 ≤ z.eras.length ∧ z.eras.length ≤ 700 ∧ (∀ e ∈ z.eras, EraOk e) ∧ ∀ k e, z.eras[k]? = some e → k + 1 < z.eras.length → tmB e.un = true := fun z hz => by
  obtain ⟨i, hi, e⟩ := List.getElem_of_mem hz
  have h0 := (fe_zero _).1 (bokC_ok.1 h).2.2.1 i hi
  rw [zonC_at (z := z) (by rw [List.getElem?_eq_getElem hi, e])] at h0
  split at h0
  · cases h0
  rename_i hn
  have hn' : isNameB z.nm.toList = true := by simpa using hn
  split at h0
  · cases h0
  split at h0
  · cases h0
  split at h0
  · cases h0
  rename_i h1 h2
  have hl := name_len hn'
  have hall := (fe_zero _).1 h0
  refine ⟨by rw [size_toList]; omega, by omega, by omega, fun x hx => ?_, fun k x hx hk => ?_⟩
  · obtain ⟨j, hj, ej⟩ := List.getElem_of_mem hx
    have hc := hall j hj
    rw [eraC_at (e := x) (by rw [List.getElem?_eq_getElem hj, ej])] at hc
    split at hc
    · rename_i q; exact ok_era (ok_rule h) q
    · rename_i q; exact absurd hc q
  · have hc := hall k (List.getElem?_eq_some_iff.1 hx).1
    rw [eraC_at hx] at hc
    split at hc
    · rw [untC_at hx, if_neg (by omega)] at hc
      split at hc
      · cases hc
      · rename_i q; simpa using q
    · rename_i q; exact absurd hc q
theorem ok_link {rs : List RuD} {zs : List ZonD} {ls : List LinD} (h : bokC rs zs ls = 0) : ∀ x ∈ ls, x.nm.size ≤ 20 ∧ x.to'.size ≤ 20 := fun x hx => by
  obtain ⟨i, hi, e⟩ := List.getElem_of_mem hx
  have h0 := (fe_zero _).1 (bokC_ok.1 h).2.2.2 i hi
  rw [linC_at (x := x) (by rw [List.getElem?_eq_getElem hi, e])] at h0
  split at h0
  · cases h0
  rename_i hn
  have hn' : (isNameB x.nm.toList && isNameB x.to'.toList) = true := by simpa using hn
  simp only [Bool.and_eq_true] at hn'
  have a := name_len hn'.1
  have b := name_len hn'.2
  exact ⟨by rw [size_toList]; omega, by rw [size_toList]; omega⟩
end Go.Proofs.YtmemgpmijphkmaaGreatDoor
namespace Go.Proofs.YtmemgpmijphkmaaGreatDoor
set_option linter.unusedVariables false
set_option linter.unusedSimpArgs false
open Go.RowKit
theorem bruleL_len {nm lt : List UInt8} {fr tt mo k d n at' by' sv : Int} (h : ruleC nm lt fr tt mo k d n at' by' sv = 0) : (ruleL nm lt fr tt mo k d n at' by' sv).length ≤ 1000 := by
  obtain ⟨a, ⟨⟨f1, f2⟩, ⟨t1, t2⟩, ft, o1, o2⟩, c, ⟨_, ⟨a1, a2⟩, ⟨b1, b2⟩, s1, s2⟩⟩ := ruleC_zero.1 h
  have x1 := name_len (ruleSyn_iff.1 a).1
  have x2 := abbr_len (ruleSyn_iff.1 a).2
  have x3 := dz_len 8 fr (by omega) (by omega)
  have x4 := dz_len 8 tt (by omega) (by omega)
  have x5 := dz_len 8 mo (by omega) (by omega)
  have x6 := dayL_len c
  have x7 := spanL_len a1 a2
  have x8 := spanL_len (n := sv) (by omega) (by omega)
  have x9 := suf_len by'
  unfold ruleL
  simp only [List.length_append, List.length_cons, List.length_nil]
  omega
theorem stampT_len (t : Int) : (stampT t).length ≤ 19 := by
  cases h : tmB t with
  | true =>
    obtain ⟨y, m, d, r, _, _, _, _, e⟩ := stampT_of h
    rw [e]; unfold stampL
    simp only [List.length_append, List.length_cons, d2_length, d4_length]
    omega
  | false => rw [stampT_no h]; simp
theorem eraL_len {e : EraD} (h : EraOk e) : (eraL e).length ≤ 100 := by
  have h1 := spanL_len (n := e.off) (by have := h.o1; omega) (by have := h.o2; omega)
  have h2 := spanL_len (n := e.sv) (by have := h.s1; omega) (by have := h.s2; omega)
  have h3 := h.ru
  have h4 := h.fm
  rw [size_toList] at h3 h4
  have := jn_len 32 [wEra, spanL e.off, if e.ru.toList = [] then 45 :: spanL e.sv else e.ru.toList, e.fm.toList]
  have hif : (if e.ru.toList = [] then 45 :: spanL e.sv else e.ru.toList).length ≤ 22 := by
    split
    · simp; omega
    · omega
  have lw : wEra.length = 3 := rfl
  simp only [List.map_cons, List.map_nil, List.sum_cons, List.sum_nil, List.length_cons, List.length_nil] at this
  unfold eraL
  omega
theorem eraLn_len {e : EraD} (h : EraOk e) : (eraLn e).length ≤ 200 := by
  have h1 := eraL_len h
  have h2 := stampT_len e.un
  have := jn_len 32 [eraL e, stampT e.un]
  simp only [List.map_cons, List.map_nil, List.sum_cons, List.sum_nil, List.length_cons, List.length_nil] at this
  unfold eraLn
  omega
theorem jn_head {c : UInt8} {w : List UInt8} (h : w ≠ []) : ∀ ws, jn c (w :: ws) ≠ []
  | [] => h
  | v :: ws => by unfold jn; simp
theorem wEra_ne : wEra ≠ [] := by decide
theorem wZone_ne : wZone ≠ [] := by decide
theorem wLink_ne : wLink ≠ [] := by decide
theorem ruleL_ne (nm lt : List UInt8) (fr tt mo k d n at' by' sv : Int) : ruleL nm lt fr tt mo k d n at' by' sv ≠ [] := by unfold ruleL; simp
/-- lines that are short and not empty -/
def LinesOk (L : List (List UInt8)) : Prop := ∀ x ∈ L, x.length ≤ 1000 ∧ x ≠ []
theorem LinesOk.app {a b : List (List UInt8)} (h : LinesOk a) (k : LinesOk b) : LinesOk (a ++ b) := fun x hx => (List.mem_append.1 hx).elim (h x) (k x)
theorem LinesOk.nil_ : LinesOk [] := fun x hx => by cases hx
theorem eraLs_ok {l : List EraD} (h : ∀ e ∈ l, EraOk e) : LinesOk (eraLs l) := by
  unfold eraLs
  refine LinesOk.app (fun x hx => ?_) (fun x hx => ?_)
  · obtain ⟨e, he, rfl⟩ := List.mem_map.1 hx
    have := eraLn_len (h e (List.dropLast_subset _ he))
    exact ⟨by omega, jn_head (by unfold eraL; exact jn_head wEra_ne _) _⟩
  · cases hl : l.getLast? with
    | none => rw [hl] at hx; cases hx
    | some e =>
      rw [hl] at hx
      have ex : x = eraL e := by simpa using hx
      subst ex
      have := eraL_len (h e (List.mem_of_getLast? hl))
      exact ⟨by omega, jn_head wEra_ne _⟩
theorem zline_ok {nm : ByteArray} (h : nm.size ≤ 20) : (jn 32 [wZone, nm.toList]).length ≤ 1000 ∧ jn 32 [wZone, nm.toList] ≠ [] := by
  rw [size_toList] at h
  have := jn_len 32 [wZone, nm.toList]
  have lw : wZone.length = 4 := rfl
  simp only [List.map_cons, List.map_nil, List.sum_cons, List.sum_nil, List.length_cons, List.length_nil] at this
  exact ⟨by omega, jn_head wZone_ne _⟩
theorem linL_ok {x : LinD} (h : x.nm.size ≤ 20 ∧ x.to'.size ≤ 20) : (linL x).length ≤ 1000 ∧ linL x ≠ [] := by
  have h1 := h.1
  have h2 := h.2
  rw [size_toList] at h1 h2
  have := jn_len 32 [wLink, x.nm.toList, x.to'.toList]
  have lw : wLink.length = 4 := rfl
  simp only [List.map_cons, List.map_nil, List.sum_cons, List.sum_nil, List.length_cons, List.length_nil] at this
  unfold linL
  exact ⟨by omega, jn_head wLink_ne _⟩
theorem bokL_ok {rs : List RuD} {zs : List ZonD} {ls : List LinD} (h : bokC rs zs ls = 0) : LinesOk (bokL rs zs ls) := by
  unfold bokL
  refine LinesOk.app (LinesOk.app (fun x hx => ?_) (fun x hx => ?_)) (fun x hx => ?_)
  · obtain ⟨r, hr, rfl⟩ := List.mem_map.1 hx
    exact ⟨bruleL_len (ok_rule h r hr), ruleL_ne _ _ _ _ _ _ _ _ _ _ _⟩
  · obtain ⟨z, hz, hx⟩ := List.mem_flatMap.1 hx
    obtain ⟨h1, h2, h3, h4, _⟩ := ok_zone h z hz
    unfold zonL at hx
    rcases List.mem_cons.1 hx with rfl | hx
    · exact zline_ok h1
    · exact eraLs_ok h4 x hx
  · obtain ⟨l, hl, rfl⟩ := List.mem_map.1 hx
    exact linL_ok (ok_link h l hl)
theorem eraLs_length (l : List EraD) : (eraLs l).length ≤ l.length := by
  unfold eraLs
  cases hl : l.getLast? with
  | none => simp
  | some e =>
    have : l ≠ [] := by intro h; rw [h] at hl; cases hl
    have := List.length_pos_iff.2 this
    simp; omega
theorem flat_bound {α : Type} {f : α → List (List UInt8)} {m : Nat} : ∀ (l : List α), (∀ x ∈ l, (f x).length ≤ m) → (l.flatMap f).length ≤ l.length * m
  | [], _ => by simp
  | x :: l, h => by
    have h1 := h x (by simp)
    have h2 := flat_bound l (fun y hy => h y (List.mem_cons_of_mem _ hy))
    rw [List.flatMap_cons, List.length_append, List.length_cons, Nat.add_mul]
    omega
theorem bokC_le {rs : List RuD} {zs : List ZonD} {ls : List LinD} (h : bokC rs zs ls = 0) : rs.length ≤ 40 ∧ zs.length ≤ 20 ∧ ls.length ≤ 20 := by
  by_cases c : 40 < rs.length ∨ 20 < zs.length ∨ 20 < ls.length
  · rw [bokC_big c] at h; cases h
  · omega
theorem zos_len {rs : List RuD} {zs : List ZonD} {ls : List LinD} (h : bokC rs zs ls = 0) : (zs.flatMap zonL).length ≤ 14020 := by
  have := flat_bound (f := zonL) (m := 701) zs (fun z hz => by
    obtain ⟨_, _, h3, _, _⟩ := ok_zone h z hz
    have := eraLs_length z.eras
    unfold zonL
    simp; omega)
  have := (bokC_le h).2.1
  have : zs.length * 701 ≤ 20 * 701 := Nat.mul_le_mul_right _ this
  omega
theorem bokL_len {rs : List RuD} {zs : List ZonD} {ls : List LinD} (h : bokC rs zs ls = 0) : (bokL rs zs ls).length ≤ 14080 := by
  have h1 := bokC_le h
  have h2 := zos_len h
  unfold bokL
  simp only [List.length_append, List.length_map]
  omega
theorem sum_bound {m : Nat} : ∀ (L : List (List UInt8)), (∀ x ∈ L, x.length ≤ m) → (L.map List.length).sum ≤ L.length * m
  | [], _ => by simp
  | x :: L, h => by
    have h1 := h x (by simp)
    have h2 := sum_bound L (fun y hy => h y (List.mem_cons_of_mem _ hy))
    rw [List.map_cons, List.sum_cons, List.length_cons, Nat.add_mul]
    omega
theorem LinesOk.jlen {L : List (List UInt8)} (h : LinesOk L) (c : UInt8) (hl : L.length ≤ 20000) : (jn c L).length ≤ 30000000 := by
  have h1 := jn_len c L
  have h2 := sum_bound L (fun x hx => (h x hx).1)
  have : L.length * 1000 ≤ 20000 * 1000 := Nat.mul_le_mul_right _ hl
  omega
/-- the text of a book -/
noncomputable def bokT (rs : List RuD) (zs : List ZonD) (ls : List LinD) : List UInt8 := jn 10 (bokL rs zs ls)
/-- what Text answers -/
noncomputable def bokTA (rs : List RuD) (zs : List ZonD) (ls : List LinD) : Ending := if bokC rs zs ls = 0 then strInt (S (bokT rs zs ls)) 0 else strInt (S []) (bokC rs zs ls)
theorem bokTA_yes {rs : List RuD} {zs : List ZonD} {ls : List LinD} (h : bokC rs zs ls = 0) : bokTA rs zs ls = strInt (S (jn 10 (bokL rs zs ls))) 0 := by unfold bokTA; rw [if_pos h]; rfl
theorem bokTA_no {rs : List RuD} {zs : List ZonD} {ls : List LinD} (h : ¬ bokC rs zs ls = 0) : bokTA rs zs ls = strInt (S []) (bokC rs zs ls) := by unfold bokTA; rw [if_neg h]
theorem bokTA_two (rs : List RuD) (zs : List ZonD) (ls : List LinD) : ∃ (a : List UInt8) (b : Int), bokTA rs zs ls = strInt (S a) b := by
  unfold bokTA
  split
  · exact ⟨_, _, rfl⟩
  · exact ⟨_, _, rfl⟩
/-- lines put behind one another, as the reference does it -/
theorem jn_snoc (c : UInt8) : ∀ (L : List (List UInt8)) (x : List UInt8), L ≠ [] → jn c (L ++ [x]) = jn c L ++ c :: x
  | [], _, h => absurd rfl h
  | [a], x, _ => rfl
  | a :: b :: L, x, _ => by
    have ih := jn_snoc c (b :: L) x (by simp)
    simp only [List.cons_append] at ih ⊢
    unfold jn
    rw [ih]
    simp
theorem jn_ne {c : UInt8} : ∀ {L : List (List UInt8)}, LinesOk L → L ≠ [] → jn c L ≠ []
  | [], _, h => absurd rfl h
  | x :: L, h, _ => jn_head (h x (by simp)).2 L
theorem LinesOk.left {a b : List (List UInt8)} (h : LinesOk (a ++ b)) : LinesOk a := fun x hx => h x (List.mem_append_left _ hx)
theorem LinesOk.right {a b : List (List UInt8)} (h : LinesOk (a ++ b)) : LinesOk b := fun x hx => h x (List.mem_append_right _ hx)
/-- one line more -/
theorem jn_line {c : UInt8} {L : List (List UInt8)} (h : LinesOk L) (x : List UInt8) : jn c (L ++ [x]) = if jn c L = [] then x else jn c L ++ c :: x := by
  cases L with
  | nil => rfl
  | cons a l =>
    rw [if_neg (jn_ne h (by simp)), jn_snoc c _ _ (by simp)]
theorem eraLs_snoc (l : List EraD) (e : EraD) : eraLs (l ++ [e]) = l.map eraLn ++ [eraL e] := by
  unfold eraLs
  simp
end Go.Proofs.YtmemgpmijphkmaaGreatDoor
