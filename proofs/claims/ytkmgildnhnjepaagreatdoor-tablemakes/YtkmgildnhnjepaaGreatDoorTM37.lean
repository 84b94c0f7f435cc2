/- A book of given rules and of one zone with one era; types compared; stated, the closed fact of the laws of states. The times at which the reference's TableMake looks. No function of the program in it. The times at which the project's Make looks, and the table that it builds out of them. No function of the program in it. The literal of StateUntil: an era of the zone alone in a book. -/
import Derived.Test.YtkmgildnhnjepaaGreatDoorTM36
import Derived.Test.YtkmgildnhnjepaaGreatDoorTM17
import Derived.Test.YtkmgildnhnjepaaGreatDoorTM32
namespace Go.Proofs.YtkmgildnhnjepaaGreatDoor
set_option linter.unusedVariables false
set_option linter.unusedSimpArgs false
open Go.RowKit
theorem bsn_era1 (w : World) (a c e : Int) (b d : ByteArray) : (Instr.buildSlice 55 1 #[(0, Value.agg #[.int .i64 a, .string b, .int .i64 c, .string d, .int .i64 e])]).run Tryz.prog w = .ok (.slice (some ⟨w.heap.size, 0, none⟩) 1 1) (w.alloc (.cells #[.int .i64 a, .string b, .int .i64 c, .string d, .int .i64 e] 59)) := by kernel_rfl

theorem bsn_zone1 (w : World) (a : ByteArray) (A : Option Addr) (n c : Nat) : (Instr.buildSlice 23 1 #[(0, Value.agg #[.string a, .slice A n c])]).run Tryz.prog w = .ok (.slice (some ⟨w.heap.size, 0, none⟩) 1 1) (w.alloc (.cells #[.string a, .slice A n c] 57)) := by kernel_rfl

/-- a book of these rules and of one zone with one era -/
def aloneB (Ar : Option Addr) (cr : Nat) (rs : List RuD) (q q2 : Nat) (nm : ByteArray) (e : EraD) : BokD := ⟨Ar, cr, rs, some ⟨q2, 0, none⟩, 1, [⟨nm, some ⟨q, 0, none⟩, 1, [e]⟩], none, 0, []⟩
theorem aloneB_at {w : World} {Ar : Option Addr} {cr : Nat} {rs : List RuD} {q q2 : Nat} {nm : ByteArray} {e : EraD} (hr : RusAt w Ar cr rs) (hn : nm.size ≤ maxLen) (he : e.In)
    (h1 : w.heap[q]? = some (.cells #[.int .i64 e.off, .string e.ru, .int .i64 e.sv, .string e.fm, .int .i64 e.un] 59 (0, 0)))
    (h2 : w.heap[q2]? = some (.cells #[.string nm, .slice (some ⟨q, 0, none⟩) 1 1] 57 (0, 0))) : (aloneB Ar cr rs q q2 nm e).At w := by
  refine ⟨hr, ⟨⟨Nat.le_refl _, by show (1 : Nat) ≤ maxLen; unfold maxLen; omega⟩, row_sgl (enc := ZonD.cells) (x := ⟨nm, some ⟨q, 0, none⟩, 1, [e]⟩) h2 rfl, fun z hz => ?_⟩, ⟨⟨Nat.le_refl _, by unfold maxLen; exact Nat.zero_le _⟩, Row.nil _ _ _ _, fun x hx => by cases hx⟩⟩
  have : z = ⟨nm, some ⟨q, 0, none⟩, 1, [e]⟩ := by simpa [aloneB] using hz
  subst this
  exact ⟨hn, ⟨Nat.le_refl _, by show (1 : Nat) ≤ maxLen; unfold maxLen; omega⟩, row_sgl (enc := EraD.cells) (x := e) h1 rfl, fun x hx => by
    have : x = e := by simpa using hx
    rw [this]; exact he⟩

end Go.Proofs.YtkmgildnhnjepaaGreatDoor
namespace Go.Proofs.YtkmgildnhnjepaaGreatDoor
set_option linter.unusedVariables false
set_option linter.unusedSimpArgs false
/-- the end of an era, by its place -/
def unK (es : List EraD) (k : Nat) : Int := (es.getD k default).un
theorem unK_at {es : List EraD} {k : Nat} {e : EraD} (h : es[k]? = some e) : unK es k = e.un := by unfold unK; rw [List.getD_eq_getElem?_getD, h]; rfl
/-- the first and the last time of an era within a span -/
def frK (es : List EraD) (F : Int) (k : Nat) : Int := if k = 0 then F + 1 else max (F + 1) (unK es (k - 1))
def toK (es : List EraD) (T : Int) (k : Nat) : Int := if k + 1 < es.length then min (T - 1) (unK es k - 1) else T - 1
/-- what is looked at in an era -/
def cand1 (L : List TurD) (fr tt : Int) : List Int := if tt < fr then [] else fr :: ((L.filter fun u => decide (fr < u.at' ∧ u.at' ≤ tt)).map TurD.at')
def candK (rs : List RuD) (zs : List ZonD) (ls : List LinD) (es : List EraD) (F T : Int) (k : Nat) : List Int := match es[k]? with
  | some e => cand1 (eraT rs zs ls e) (frK es F k) (toK es T k)
  | none => []
def candN (rs : List RuD) (zs : List ZonD) (ls : List LinD) (es : List EraD) (F T : Int) (n : Nat) : List Int := (List.range n).flatMap (candK rs zs ls es F T)
theorem candN_succ (rs : List RuD) (zs : List ZonD) (ls : List LinD) (es : List EraD) (F T : Int) (n : Nat) : candN rs zs ls es F T (n + 1) = candN rs zs ls es F T n ++ candK rs zs ls es F T n := by
  unfold candN
  rw [List.range_succ, List.flatMap_append]; simp
theorem mem_cand1 {L : List TurD} {fr tt t : Int} : t ∈ cand1 L fr tt ↔ fr ≤ tt ∧ (t = fr ∨ ∃ u ∈ L, u.at' = t ∧ fr < t ∧ t ≤ tt) := by
  unfold cand1
  by_cases c : tt < fr
  · rw [if_pos c]
    simp only [List.not_mem_nil, false_iff]
    omega
  · rw [if_neg c, List.mem_cons, List.mem_map]
    constructor
    · rintro (h | ⟨u, hu, rfl⟩)
      · exact ⟨by omega, Or.inl h⟩
      · rw [List.mem_filter] at hu
        have := hu.2
        simp only [decide_eq_true_eq] at this
        exact ⟨by omega, Or.inr ⟨u, hu.1, rfl, this⟩⟩
    · rintro ⟨_, h | ⟨u, hu, rfl, h1, h2⟩⟩
      · exact Or.inl h
      · exact Or.inr ⟨u, List.mem_filter.2 ⟨hu, decide_eq_true ⟨h1, h2⟩⟩, rfl⟩
theorem rise_pair {L : List TurD} (h : Rise L) : (L.map TurD.at').Pairwise (· < ·) := by
  rw [List.pairwise_map, List.pairwise_iff_getElem]
  intro i j hi hj hij
  exact rise_lt h j i _ _ hij (List.getElem?_eq_getElem hi) (List.getElem?_eq_getElem hj)
theorem cand1_sorted {L : List TurD} {fr tt : Int} (h : Rise L) : (cand1 L fr tt).Pairwise (· < ·) := by
  unfold cand1
  split
  · exact List.Pairwise.nil
  · rw [List.pairwise_cons]
    constructor
    · intro t ht
      obtain ⟨u, hu, rfl⟩ := List.mem_map.1 ht
      have := (List.mem_filter.1 hu).2
      simp only [decide_eq_true_eq] at this
      exact this.1
    · have := rise_pair h
      rw [List.pairwise_map] at this ⊢
      exact this.filter _
section
variable {rs : List RuD} {zs : List ZonD} {ls : List LinD} {es : List EraD} {F T : Int}
/-- the ends of eras rise -/
def UnOk (es : List EraD) : Prop := ∀ (k : Nat) (e : EraD), es[k]? = some e → untC es k = 0
theorem unK_lt (h : UnOk es) {j k : Nat} (hj : j < k) (hk : k + 1 < es.length) : unK es j < unK es k := by
  obtain ⟨p, hp⟩ := get_lt (show j < es.length by omega)
  obtain ⟨e, he⟩ := get_lt (show k < es.length by omega)
  rw [unK_at hp, unK_at he]
  exact un_lt h k j p e hj hk hp he
theorem mem_candK {k : Nat} {e : EraD} (he : es[k]? = some e) {t : Int} : t ∈ candK rs zs ls es F T k ↔ frK es F k ≤ toK es T k ∧ (t = frK es F k ∨ ∃ u ∈ eraT rs zs ls e, u.at' = t ∧ frK es F k < t ∧ t ≤ toK es T k) := by
  unfold candK
  simp only [he]
  exact mem_cand1
theorem candK_in {k : Nat} {t : Int} (ht : t ∈ candK rs zs ls es F T k) : frK es F k ≤ t ∧ t ≤ toK es T k := by
  cases he : es[k]? with
  | none => unfold candK at ht; simp only [he] at ht; cases ht
  | some e =>
    obtain ⟨h1, h2⟩ := (mem_candK he).1 ht
    rcases h2 with h2 | ⟨u, _, _, h3, h4⟩ <;> omega
theorem frK_ge (k : Nat) : F + 1 ≤ frK es F k := by unfold frK; split <;> omega
theorem toK_le (k : Nat) : toK es T k ≤ T - 1 := by unfold toK; split <;> omega
theorem toK_un {k : Nat} (h : k + 1 < es.length) : toK es T k ≤ unK es k - 1 := by unfold toK; rw [if_pos h]; omega
theorem frK_un (k : Nat) : unK es k ≤ frK es F (k + 1) := by
  unfold frK
  rw [if_neg (by omega), show k + 1 - 1 = k by omega]
  omega
theorem candN_sorted (h : UnOk es) : ∀ n, n ≤ es.length → (candN rs zs ls es F T n).Pairwise (· < ·)
  | 0, _ => by unfold candN; simp
  | n + 1, hn => by
    rw [candN_succ, List.pairwise_append]
    obtain ⟨e, he⟩ := get_lt (show n < es.length by omega)
    refine ⟨candN_sorted h n (by omega), ?_, fun a ha b hb => ?_⟩
    · unfold candK
      simp only [he]
      exact cand1_sorted eraT_rise
    · unfold candN at ha
      obtain ⟨j, hj, ha⟩ := List.mem_flatMap.1 ha
      have hj' := List.mem_range.1 hj
      have h1 := (candK_in ha).2
      have h2 := (candK_in hb).1
      have h3 := toK_un (es := es) (T := T) (show j + 1 < es.length by omega)
      cases n with
      | zero => omega
      | succ m =>
        have h4 := frK_un (es := es) (F := F) m
        by_cases c : j = m
        · subst c; omega
        · have := unK_lt h (show j < m by omega) (by omega); omega
theorem candN_in {n : Nat} {t : Int} (ht : t ∈ candN rs zs ls es F T n) : F < t ∧ t < T := by
  unfold candN at ht
  obtain ⟨k, _, ht⟩ := List.mem_flatMap.1 ht
  have h1 := candK_in ht
  have h2 := frK_ge (es := es) (F := F) k
  have h3 := toK_le (es := es) (T := T) k
  omega
theorem mem_candN {n k : Nat} (hk : k < n) {t : Int} (ht : t ∈ candK rs zs ls es F T k) : t ∈ candN rs zs ls es F T n := by
  unfold candN
  exact List.mem_flatMap.2 ⟨k, List.mem_range.2 hk, ht⟩
/-- an era lies about a time at which it applies -/
theorem eraI_un (h : UnOk es) (hl : 1 ≤ es.length) (t : Int) : (eraI es t + 1 < es.length → t < unK es (eraI es t)) ∧ (∀ j, j < eraI es t → unK es j ≤ t) := by
  have hle := eraI_le es t
  constructor
  · intro hk
    obtain ⟨e, he⟩ := get_lt (show eraI es t < es.length by omega)
    rw [unK_at he]
    unfold eraI at he hk
    have hd : es.dropLast.findIdx (fun e => decide (t < e.un)) < es.dropLast.length := by simp; omega
    have := List.findIdx_getElem (w := hd)
    simp only [decide_eq_true_eq] at this
    rw [List.getElem_dropLast] at this
    have hget := List.getElem?_eq_some_iff.1 he
    obtain ⟨g1, g2⟩ := hget
    rw [g2] at this
    exact this
  · intro j hj
    obtain ⟨e, he⟩ := get_lt (show j < es.length by omega)
    rw [unK_at he]
    unfold eraI at hj
    have hjl : j < es.dropLast.length := by have := List.findIdx_le_length (xs := es.dropLast) (p := fun e => decide (t < e.un)); omega
    have this := of_decide_eq_false (List.not_of_lt_findIdx hj)
    rw [List.getElem_dropLast] at this
    obtain ⟨g1, g2⟩ := List.getElem?_eq_some_iff.1 he
    rw [g2] at this
    omega
/-- all times at which the local time turns are looked at -/
theorem candN_all (h : UnOk es) (hl : 1 ≤ es.length) {t : Int} (h1 : F < t) (h2 : t < T) (ht : locT rs zs ls es t ≠ locT rs zs ls es (t - 1)) : t ∈ candN rs zs ls es F T es.length := by
  rcases turn_where hl ht with ⟨k, e, hk, he, hu⟩ | ⟨same, hn, u, hu, hut⟩
  · obtain ⟨e2, he2⟩ := get_lt hk
    refine mem_candN hk ((mem_candK he2).2 ?_)
    have hf : frK es F (k + 1) = t := by
      unfold frK
      rw [if_neg (by omega), show k + 1 - 1 = k by omega, unK_at he]
      omega
    have htt : t ≤ toK es T (k + 1) := by
      unfold toK
      split
      · rename_i c
        have := unK_lt h (show k < k + 1 by omega) c
        rw [unK_at he] at this
        omega
      · omega
    exact ⟨by omega, Or.inl hf.symm⟩
  · have hle := eraI_le es t
    have hk : eraI es t < es.length := by omega
    have he := eraE_get (t := t) hl
    obtain ⟨u1, u2⟩ := eraI_un h hl t
    have u3 := (eraI_un h hl (t - 1)).2
    rw [← same] at u3
    refine mem_candN hk ((mem_candK he).2 ?_)
    have hf : frK es F (eraI es t) ≤ t := by
      unfold frK
      split
      · omega
      · have := u3 (eraI es t - 1) (by omega); omega
    have htt : t ≤ toK es T (eraI es t) := by
      unfold toK
      split
      · rename_i c; have := u1 c; omega
      · omega
    refine ⟨by omega, ?_⟩
    by_cases c : t = frK es F (eraI es t)
    · exact Or.inl c
    · exact Or.inr ⟨u, hu, hut, by omega, htt⟩
/-- the table that is built of them -/
theorem cand_tab (h : UnOk es) (hl : 1 ≤ es.length) : bld (locT rs zs ls es) ⟨[locT rs zs ls es F], [], locT rs zs ls es F⟩ (candN rs zs ls es F T es.length) = tab (locT rs zs ls es) F T :=
  bld_tab (candN_sorted h _ (Nat.le_refl _)) (fun t ht => candN_in ht) fun t h1 h2 h3 => candN_all h hl h1 h2 h3
end
end Go.Proofs.YtkmgildnhnjepaaGreatDoor
namespace Go.Proofs.YtkmgildnhnjepaaGreatDoor
set_option linter.unusedVariables false
set_option linter.unusedSimpArgs false
/-- the end of an era's part of a span -/
def toP (es : List EraD) (T : Int) (k : Nat) : Int := if k + 1 < es.length then min (unK es k) T else T
/-- and where it begins -/
def rfP (es : List EraD) (F T : Int) : Nat → Int
  | 0 => F
  | k + 1 => max (toP es T k) (rfP es F T k)
/-- the times of an era -/
def pK (rs : List RuD) (zs : List ZonD) (ls : List LinD) (es : List EraD) (F T : Int) (k : Nat) : List Int := match es[k]? with
  | some e => cand1 (eraT rs zs ls e) (rfP es F T k) (toP es T k - 1)
  | none => []
def pN (rs : List RuD) (zs : List ZonD) (ls : List LinD) (es : List EraD) (F T : Int) (n : Nat) : List Int := (List.range n).flatMap (pK rs zs ls es F T)
theorem pN_succ (rs : List RuD) (zs : List ZonD) (ls : List LinD) (es : List EraD) (F T : Int) (n : Nat) : pN rs zs ls es F T (n + 1) = pN rs zs ls es F T n ++ pK rs zs ls es F T n := by
  unfold pN
  rw [List.range_succ, List.flatMap_append]; simp
theorem pK_at {rs : List RuD} {zs : List ZonD} {ls : List LinD} {es : List EraD} {F T : Int} {k : Nat} {e : EraD} (he : es[k]? = some e) : pK rs zs ls es F T k = cand1 (eraT rs zs ls e) (rfP es F T k) (toP es T k - 1) := by
  unfold pK; simp only [he]
section
variable {rs : List RuD} {zs : List ZonD} {ls : List LinD} {es : List EraD} {F T : Int}
theorem rfP_ge : ∀ k, F ≤ rfP es F T k
  | 0 => Int.le_refl _
  | k + 1 => by have := rfP_ge k; unfold rfP; omega
theorem rfP_step (k : Nat) : rfP es F T (k + 1) = max (toP es T k) (rfP es F T k) := rfl
theorem rfP_mono {j k : Nat} (h : j ≤ k) : rfP es F T j ≤ rfP es F T k := by
  induction h with
  | refl => exact Int.le_refl _
  | step _ ih => rw [rfP_step]; omega
theorem toP_le (k : Nat) : toP es T k ≤ T := by unfold toP; split <;> omega
theorem toP_rf {j k : Nat} (h : j < k) : toP es T j ≤ rfP es F T k := by
  have := rfP_mono (es := es) (F := F) (T := T) (show j + 1 ≤ k by omega)
  rw [rfP_step] at this
  omega
theorem rfP_val (h : UnOk es) : ∀ k, k < es.length → rfP es F T k = if k = 0 then F else max F (min (unK es (k - 1)) T)
  | 0, _ => rfl
  | k + 1, hk => by
    rw [rfP_step, rfP_val h k (by omega), show k + 1 - 1 = k by omega, if_neg (show ¬ k + 1 = 0 by omega)]
    unfold toP
    rw [if_pos hk]
    by_cases c : k = 0
    · rw [if_pos c]; omega
    · rw [if_neg c]
      have := unK_lt h (show k - 1 < k by omega) hk
      omega
theorem mem_pK {k : Nat} {e : EraD} (he : es[k]? = some e) {t : Int} : t ∈ pK rs zs ls es F T k ↔ rfP es F T k ≤ toP es T k - 1 ∧ (t = rfP es F T k ∨ ∃ u ∈ eraT rs zs ls e, u.at' = t ∧ rfP es F T k < t ∧ t ≤ toP es T k - 1) := by
  rw [pK_at he]
  exact mem_cand1
theorem pK_in {k : Nat} {t : Int} (ht : t ∈ pK rs zs ls es F T k) : rfP es F T k ≤ t ∧ t ≤ toP es T k - 1 := by
  cases he : es[k]? with
  | none => unfold pK at ht; simp only [he] at ht; cases ht
  | some e =>
    obtain ⟨h1, h2⟩ := (mem_pK he).1 ht
    rcases h2 with h2 | ⟨u, _, _, h3, h4⟩ <;> omega
theorem pN_sorted : ∀ n, n ≤ es.length → (pN rs zs ls es F T n).Pairwise (· < ·)
  | 0, _ => by unfold pN; simp
  | n + 1, hn => by
    rw [pN_succ, List.pairwise_append]
    obtain ⟨e, he⟩ := get_lt (show n < es.length by omega)
    refine ⟨pN_sorted n (by omega), ?_, fun a ha b hb => ?_⟩
    · rw [pK_at he]
      exact cand1_sorted eraT_rise
    · unfold pN at ha
      obtain ⟨j, hj, ha⟩ := List.mem_flatMap.1 ha
      have hj' := List.mem_range.1 hj
      have h1 := (pK_in ha).2
      have h2 := (pK_in hb).1
      have h3 := toP_rf (es := es) (F := F) (T := T) hj'
      omega
theorem pN_in {n : Nat} {t : Int} (ht : t ∈ pN rs zs ls es F T n) : F ≤ t ∧ t < T := by
  unfold pN at ht
  obtain ⟨k, _, ht⟩ := List.mem_flatMap.1 ht
  have h1 := pK_in ht
  have h2 := rfP_ge (es := es) (F := F) (T := T) k
  have h3 := toP_le (es := es) (T := T) k
  omega
theorem mem_pN {n k : Nat} (hk : k < n) {t : Int} (ht : t ∈ pK rs zs ls es F T k) : t ∈ pN rs zs ls es F T n := by
  unfold pN
  exact List.mem_flatMap.2 ⟨k, List.mem_range.2 hk, ht⟩
/-- the era of a time within the span -/
theorem part_of (h : UnOk es) (hl : 1 ≤ es.length) {t : Int} (h1 : F ≤ t) (h2 : t < T) : rfP es F T (eraI es t) ≤ t ∧ t ≤ toP es T (eraI es t) - 1 := by
  have hle := eraI_le es t
  obtain ⟨u1, u2⟩ := eraI_un h hl t
  constructor
  · rw [rfP_val h _ (by omega)]
    split
    · omega
    · have := u2 (eraI es t - 1) (by omega); omega
  · unfold toP
    split
    · rename_i c; have := u1 c; omega
    · omega
/-- within its part an era is the one that applies -/
theorem part_era (h : UnOk es) {k : Nat} (hk : k < es.length) {t : Int} (h1 : rfP es F T k ≤ t) (h2 : t ≤ toP es T k - 1) : eraI es t = k := by
  have hF := rfP_ge (es := es) (F := F) (T := T) k
  have hT := toP_le (es := es) (T := T) k
  have hb : ∀ j x, j < k → es[j]? = some x → ¬ t < x.un := fun j x hj hx => by
    have h3 := toP_rf (es := es) (F := F) (T := T) hj
    unfold toP at h3
    rw [if_pos (by omega), unK_at hx] at h3
    omega
  by_cases c : k + 1 < es.length
  · obtain ⟨e, he⟩ := get_lt hk
    refine eraI_hit c he ?_ hb
    unfold toP at h2
    rw [if_pos c, unK_at he] at h2
    omega
  · rw [eraI_end fun j x hj hx => hb j x (by omega) hx]; omega
/-- the span's begin is looked at -/
theorem pN_from (h : UnOk es) (hl : 1 ≤ es.length) (hF : F < T) : F ∈ pN rs zs ls es F T es.length := by
  have hle := eraI_le es F
  have he := eraE_get (t := F) hl
  have p := part_of (T := T) h hl (Int.le_refl F) hF
  have g := rfP_ge (es := es) (F := F) (T := T) (eraI es F)
  exact mem_pN (show eraI es F < es.length by omega) ((mem_pK he).2 ⟨by omega, Or.inl (by omega)⟩)
/-- all times at which the local time turns are looked at -/
theorem pN_all (h : UnOk es) (hl : 1 ≤ es.length) {t : Int} (h1 : F < t) (h2 : t < T) (ht : locT rs zs ls es t ≠ locT rs zs ls es (t - 1)) : t ∈ pN rs zs ls es F T es.length := by
  rcases turn_where hl ht with ⟨k, e, hk, he, hu⟩ | ⟨same, hn, u, hu, hut⟩
  · obtain ⟨e2, he2⟩ := get_lt hk
    refine mem_pN hk ((mem_pK he2).2 ?_)
    have hf : rfP es F T (k + 1) = t := by
      rw [rfP_val h _ hk, if_neg (by omega), show k + 1 - 1 = k by omega, unK_at he]
      omega
    have htt : t ≤ toP es T (k + 1) - 1 := by
      unfold toP
      split
      · rename_i c
        have := unK_lt h (show k < k + 1 by omega) c
        rw [unK_at he] at this
        omega
      · omega
    exact ⟨by omega, Or.inl hf.symm⟩
  · have hle := eraI_le es t
    have he := eraE_get (t := t) hl
    obtain ⟨p1, p2⟩ := part_of (T := T) h hl (show F ≤ t by omega) h2
    refine mem_pN (show eraI es t < es.length by omega) ((mem_pK he).2 ⟨by omega, ?_⟩)
    by_cases c : t = rfP es F T (eraI es t)
    · exact Or.inl c
    · exact Or.inr ⟨u, hu, hut, by omega, p2⟩
/-- all times: the span's begin ahead of the others -/
theorem pN_list (h : UnOk es) (hl : 1 ≤ es.length) (hF : F < T) : ∃ l, pN rs zs ls es F T es.length = F :: l ∧ bld (locT rs zs ls es) ⟨[locT rs zs ls es F], [], locT rs zs ls es F⟩ l = tab (locT rs zs ls es) F T := by
  have hm := pN_from (rs := rs) (zs := zs) (ls := ls) h hl hF
  have hs := pN_sorted (rs := rs) (zs := zs) (ls := ls) (es := es) (F := F) (T := T) es.length (Nat.le_refl _)
  have hi : ∀ t ∈ pN rs zs ls es F T es.length, F ≤ t ∧ t < T := fun t ht => pN_in ht
  have ha : ∀ t, F < t → t < T → locT rs zs ls es t ≠ locT rs zs ls es (t - 1) → t ∈ pN rs zs ls es F T es.length := fun t h1 h2 h3 => pN_all h hl h1 h2 h3
  generalize pN rs zs ls es F T es.length = L at hm hs hi ha
  cases L with
  | nil => cases hm
  | cons a l =>
    obtain ⟨s1, s2⟩ := List.pairwise_cons.1 hs
    have ea : a = F := by
      have := (hi a (by simp)).1
      rcases List.mem_cons.1 hm with q | q
      · exact q.symm
      · have := s1 F q; omega
    subst ea
    refine ⟨l, rfl, bld_tab s2 (fun t ht => ⟨s1 t ht, (hi t (by simp [ht])).2⟩) fun t h1 h2 h3 => ?_⟩
    rcases List.mem_cons.1 (ha t h1 h2 h3) with q | q
    · omega
    · exact q
end
/-- types, changes, the number of the last type -/
structure PS where
  ty : List TypD
  ch : List (Int × Nat)
  la : Nat
/-- a type applies from a time on -/
def PS.put (s : PS) (t : Int) (x : TypD) : PS :=
  ⟨if x ∈ s.ty then s.ty else s.ty ++ [x], if s.ty.idxOf x = s.la then s.ch else s.ch ++ [(t, s.ty.idxOf x)], s.ty.idxOf x⟩
def PS.zero : PS := ⟨[], [], 0⟩
def pst (f : Int → TypD) (s : PS) (l : List Int) : PS := l.foldl (fun s t => s.put t (f t)) s
theorem pst_app (f : Int → TypD) (s : PS) (l m : List Int) : pst f s (l ++ m) = pst f (pst f s l) m := List.foldl_append
theorem pst_cons (f : Int → TypD) (s : PS) (t : Int) (l : List Int) : pst f s (t :: l) = pst f (s.put t (f t)) l := rfl
theorem pst_nil (f : Int → TypD) (s : PS) : pst f s [] = s := rfl
/-- the same table with its last type told by its number -/
def numB (s : BlS TypD) : PS := ⟨s.ty, s.ch, s.ty.idxOf s.la⟩
theorem put_num {f : Int → TypD} {s : BlS TypD} (h : s.la ∈ s.ty) (t : Int) : (numB s).put t (f t) = numB (bstep f s t) ∧ (bstep f s t).la ∈ (bstep f s t).ty := by
  unfold bstep
  by_cases e : f t = s.la
  · rw [if_pos e]
    refine ⟨?_, h⟩
    unfold PS.put numB
    simp only [e, if_pos h, if_true]
  · rw [if_neg e]
    have hl := List.idxOf_lt_length_of_mem h
    by_cases m : f t ∈ s.ty
    · have hm := List.idxOf_lt_length_of_mem m
      have ne : s.ty.idxOf (f t) ≠ s.ty.idxOf s.la := fun q => e (by
        have h1 : s.ty[s.ty.idxOf (f t)]? = some (f t) := by rw [List.getElem?_eq_getElem hm, List.getElem_idxOf]
        have h2 : s.ty[s.ty.idxOf s.la]? = some s.la := by rw [List.getElem?_eq_getElem hl, List.getElem_idxOf]
        rw [q, h2] at h1
        exact (Option.some.inj h1).symm)
      rw [if_pos m]
      refine ⟨?_, m⟩
      unfold PS.put numB
      simp only [if_pos m, if_neg ne]
    · have hi : s.ty.idxOf (f t) = s.ty.length := List.idxOf_eq_length m
      rw [if_neg m]
      refine ⟨?_, by simp⟩
      unfold PS.put numB
      simp only [if_neg m, hi]
      rw [if_neg (by omega)]
      congr 1
      rw [List.idxOf_append, if_neg m]
      simp
theorem pst_num (f : Int → TypD) : ∀ (l : List Int) (s : BlS TypD), s.la ∈ s.ty → pst f (numB s) l = numB (bld f s l)
  | [], _, _ => rfl
  | t :: l, s, h => by
    obtain ⟨h1, h2⟩ := put_num (f := f) h t
    rw [pst_cons, bld_cons, h1]
    exact pst_num f l _ h2
theorem pst_zero (f : Int → TypD) (t : Int) (l : List Int) : pst f PS.zero (t :: l) = numB (bld f ⟨[f t], [], f t⟩ l) := by
  rw [pst_cons, ← pst_num f l _ (by simp)]
  congr 1
  unfold PS.put PS.zero numB
  simp
def PS.chs (s : PS) : List ChaD := s.ch.map fun c => ⟨c.1, c.2⟩
/-- what the builder holds in the end -/
theorem pst_tab {rs : List RuD} {zs : List ZonD} {ls : List LinD} {es : List EraD} {F T : Int} (h : UnOk es) (hl : 1 ≤ es.length) (hF : F < T) :
    (pst (locT rs zs ls es) PS.zero (pN rs zs ls es F T es.length)).ty = (tab (locT rs zs ls es) F T).ty ∧ (pst (locT rs zs ls es) PS.zero (pN rs zs ls es F T es.length)).ch = (tab (locT rs zs ls es) F T).ch := by
  obtain ⟨l, e1, e2⟩ := pN_list (rs := rs) (zs := zs) (ls := ls) h hl hF
  rw [e1, pst_zero, e2]
  exact ⟨rfl, rfl⟩
/-- how many types and changes there are -/
theorem put_len (s : PS) (t : Int) (x : TypD) : (s.put t x).ty.length ≤ s.ty.length + 1 ∧ (s.put t x).ch.length ≤ s.ch.length + 1 := by
  unfold PS.put
  constructor
  · show (if _ then _ else _ : List TypD).length ≤ _
    split <;> simp
  · show (if _ then _ else _ : List (Int × Nat)).length ≤ _
    split <;> simp
/-- the type that applies from a transition on -/
theorem loc_turn {rs : List RuD} {zs : List ZonD} {ls : List LinD} {es : List EraD} {F T : Int} (h : UnOk es) {k : Nat} {e : EraD} (he : es[k]? = some e) {u : TurD} (hu : u ∈ eraT rs zs ls e) (h1 : rfP es F T k ≤ u.at') (h2 : u.at' ≤ toP es T k - 1) :
    locT rs zs ls es u.at' = typP e (u.sv, u.lt) := by
  have hk := (List.getElem?_eq_some_iff.1 he).1
  have e1 : eraE es u.at' = e := eraE_at (part_era h hk h1 h2) he
  unfold locT typE
  rw [e1]
  congr 1
  unfold savP
  have hn : e.ru.toList ≠ [] := fun q => by unfold eraT at hu; rw [if_pos q] at hu; cases hu
  rw [if_neg hn]
  obtain ⟨i, hi⟩ := List.getElem?_of_mem hu
  have hr : Rise (eraT rs zs ls e) := eraT_rise
  have hc := (late_spec (t := u.at') hr i u hi).1 (Int.le_refl _)
  have hil := (List.getElem?_eq_some_iff.1 hi).1
  have hi2 : lateI (eraT rs zs ls e) u.at' = i + 1 := by
    have hle := lateI_le (eraT rs zs ls e) u.at'
    by_cases c : i + 1 < lateI (eraT rs zs ls e) u.at'
    · obtain ⟨y, hy⟩ := get_lt (show i + 1 < (eraT rs zs ls e).length by omega)
      have p := (late_spec (t := u.at') hr (i + 1) y hy).2 c
      have q := hr i u y hi hy
      omega
    · omega
  exact lastP_at (by omega) (by rw [hi2]; exact hi)
/-- the type at the begin of an era's part -/
theorem loc_from {rs : List RuD} {zs : List ZonD} {ls : List LinD} {es : List EraD} {F T : Int} (h : UnOk es) {k : Nat} {e : EraD} (he : es[k]? = some e) (h1 : rfP es F T k ≤ toP es T k - 1) :
    locT rs zs ls es (rfP es F T k) = typE e (eraT rs zs ls e) (rfP es F T k) := by
  have hk := (List.getElem?_eq_some_iff.1 he).1
  have e1 : eraE es (rfP es F T k) = e := eraE_at (part_era h hk (Int.le_refl _) h1) he
  unfold locT
  rw [e1]
end Go.Proofs.YtkmgildnhnjepaaGreatDoor
namespace Go.Proofs.YtkmgildnhnjepaaGreatDoor
set_option linter.unusedVariables false
set_option linter.unusedSimpArgs false
open Go.RowKit
theorem box_4 (w : World) (o1 o2 o3 o4 : Obj) : Gr w ((((w.alloc o1).alloc o2).alloc o3).alloc o4) ∧ ((((w.alloc o1).alloc o2).alloc o3).alloc o4).heap[w.heap.size]? = some o1 ∧ ((((w.alloc o1).alloc o2).alloc o3).alloc o4).heap[w.heap.size + 1]? = some o2 ∧ ((((w.alloc o1).alloc o2).alloc o3).alloc o4).heap[w.heap.size + 1 + 1]? = some o3 ∧ ((((w.alloc o1).alloc o2).alloc o3).alloc o4).heap[w.heap.size + 1 + 1 + 1]? = some o4 := by
  obtain ⟨g1, h1, h2, h3⟩ := box_three w o1 o2 o3
  have g4 := Gr.alloc (((w.alloc o1).alloc o2).alloc o3) o4
  refine ⟨g1.trans g4, bheap_gr g4 h1, bheap_gr g4 h2, bheap_gr g4 h3, ?_⟩
  have := bheap_new (((w.alloc o1).alloc o2).alloc o3) o4
  have sz : ∀ (W : World) (o : Obj), (W.alloc o).heap.size = W.heap.size + 1 := fun W o => by unfold World.alloc; simp
  rwa [sz, sz, sz] at this

end Go.Proofs.YtkmgildnhnjepaaGreatDoor
