/- A book's text and what Parse makes of it: each is the other's way back. No function of the program in it. -/
import Derived.Test.YtmemgpmijphkmaaGreatDoorXM44
import Derived.Test.YtmemgpmijphkmaaGreatDoorXM43
namespace Go.Proofs.YtmemgpmijphkmaaGreatDoor
set_option linter.unusedVariables false
set_option linter.unusedSimpArgs false
open Go.RowKit
/-- a line feed or a blank -/
abbrev Gap (c : UInt8) : Prop := c = 10 ∨ c = 32
theorem gap_low {c : UInt8} (h : Gap c) : (c.toNat : Int) ≤ 32 := by rcases h with rfl | rfl <;> decide
theorem name_gap {c : UInt8} (hc : Gap c) {l : List UInt8} (h : isNameB l = true) : c ∉ l := by
  unfold isNameB at h
  simp only [Bool.and_eq_true] at h
  exact no_sign fun j hj e => by
    have := lettersB_all h.1.1.2 j hj
    rw [e] at this
    rcases hc with rfl | rfl <;> (revert this; decide)
theorem abbr_gap {c : UInt8} (hc : Gap c) {l : List UInt8} (h : isAbbrB l = true) : c ∉ l := by
  unfold isAbbrB at h
  simp only [Bool.and_eq_true] at h
  exact no_sign fun j hj e => by
    have := lettersB_all h.2 j hj
    rw [e] at this
    rcases hc with rfl | rfl <;> (revert this; decide)
theorem dz_gap {c : UInt8} (hc : Gap c) {n : Int} (h1 : 0 ≤ n) (h2 : n < 1000000000) : c ∉ dz n := no_sign fun j hj e => by
  have := (tells_all 8 n h1 (by omega)).1 j hj
  have := gap_low hc
  omega
theorem d2_gap {c : UInt8} (hc : Gap c) {n : Int} (h1 : 0 ≤ n) (h2 : n < 100) : c ∉ d2 n := no_sign fun j hj e => by
  have := (tells2 h1 h2).1 j hj
  have := gap_low hc
  omega
theorem wk_gap {c : UInt8} (hc : Gap c) {d : Int} (h1 : 0 ≤ d) (h2 : d ≤ 6) : c ∉ wk d := by
  have x : d = 0 ∨ d = 1 ∨ d = 2 ∨ d = 3 ∨ d = 4 ∨ d = 5 ∨ d = 6 := by omega
  rcases hc with rfl | rfl <;> (rcases x with rfl | rfl | rfl | rfl | rfl | rfl | rfl <;> decide)
theorem gap_not {c : UInt8} (hc : Gap c) (k : UInt8) (h : (32 : Nat) < k.toNat) : c ≠ k := by
  rintro rfl
  have := gap_low hc
  omega
theorem dayL_gap {c : UInt8} (hc : Gap c) {k d n : Int} (h : DayOk k d n) : c ∉ dayL k d n := by
  have b := dayOk_bd h
  have z := dz_gap hc (n := n) (by omega) (by omega)
  have y := wk_gap hc (d := d) (by omega) (by omega)
  have e1 := gap_not hc 108 (by decide)
  have e2 := gap_not hc 97 (by decide)
  have e3 := gap_not hc 115 (by decide)
  have e4 := gap_not hc 116 (by decide)
  have e5 := gap_not hc 61 (by decide)
  have e6 := gap_not hc 62 (by decide)
  have e7 := gap_not hc 60 (by decide)
  unfold dayL
  split
  · exact z
  · split
    · simp [y, e1, e2, e3, e4]
    · split <;> simp [y, z, e5, e6, e7]
theorem span0_gap {c : UInt8} (hc : Gap c) {n : Int} (h1 : 0 ≤ n) (h2 : n ≤ 604800) : c ∉ spanL0 n := by
  have x := dz_gap hc (n := n / 3600) (by omega) (by omega)
  have y := d2_gap hc (n := n / 60 % 60) (by omega) (by omega)
  have z := d2_gap hc (n := n % 60) (by omega) (by omega)
  have e1 := gap_not hc 58 (by decide)
  unfold spanL0
  split <;> simp [x, y, z, e1]
theorem span_gap {c : UInt8} (hc : Gap c) {n : Int} (h1 : -604800 ≤ n) (h2 : n ≤ 604800) : c ∉ spanL n := by
  have e1 := gap_not hc 45 (by decide)
  unfold spanL
  split
  · simp [span0_gap hc (n := -n) (by omega) (by omega), e1]
  · exact span0_gap hc (by omega) h2
theorem suf_gap {c : UInt8} (hc : Gap c) (by' : Int) : c ∉ suf by' := by
  unfold suf
  rcases hc with rfl | rfl <;> (split <;> (try split) <;> decide)
theorem d4_gap {c : UInt8} (hc : Gap c) {n : Int} (h1 : 0 ≤ n) (h2 : n < 10000) : c ∉ d4 n := by
  have f : ∀ x : Int, 0 ≤ x → x < 10 → c ≠ u (48 + x) := fun x x1 x2 e => by
    have := gap_low hc
    rw [e, u_toNat (by omega) (by omega)] at this
    omega
  unfold d4
  simp [f (n / 1000) (by omega) (by omega), f (n / 100 % 10) (by omega) (by omega), f (n / 10 % 10) (by omega) (by omega), f (n % 10) (by omega) (by omega)]
theorem stampT_gap {c : UInt8} (hc : Gap c) (t : Int) : c ∉ stampT t := by
  cases h : tmB t with
  | false => rw [stampT_no h]; simp
  | true =>
    obtain ⟨y, m, d, r, hv, h1, h2, _, e⟩ := stampT_of h
    have e1 := gap_not hc 45 (by decide)
    have e2 := gap_not hc 84 (by decide)
    have e3 := gap_not hc 58 (by decide)
    have hv' := hv
    unfold Cal.Valid at hv'
    have hd := Cal.ml_bd y (m := m) (by omega) (by omega)
    rw [e]; unfold stampL
    simp [d4_gap hc (n := y) (by omega) (by omega), d2_gap hc (n := m) (by omega) (by omega), d2_gap hc (n := d) (by omega) (by omega), d2_gap hc (n := r / 3600) (by omega) (by omega), d2_gap hc (n := r / 60 % 60) (by omega) (by omega), d2_gap hc (n := r % 60) (by omega) (by omega), e1, e2, e3]
theorem fmt_gap {c : UInt8} (hc : Gap c) {f : List UInt8} (h : isFmtB f = true) : c ∉ f := by
  unfold isFmtB at h
  simp only [Bool.and_eq_true] at h
  have h2 := h.2
  have e1 := gap_not hc 47 (by decide)
  have e2 := gap_not hc 37 (by decide)
  rcases fmt_ways f with ⟨a, b, rfl, ha⟩ | ⟨h47, a, b, rfl, ha⟩ | ⟨h47, h37⟩
  · rw [cutAt_yes b ha] at h2
    simp only [Bool.and_eq_true] at h2
    simp [abbr_gap hc h2.1, abbr_gap hc h2.2, e1]
  · rw [cutAt_no h47, cutAt_yes b ha] at h2
    have : c ∉ a ++ b := by
      simp only [Bool.or_eq_true, decide_eq_true_eq] at h2
      rcases h2 with h2 | h2
      · rw [h2]; simp
      · exact abbr_gap hc h2
    simp at this
    simp [this.1, this.2, e2]
  · rw [cutAt_no h47, cutAt_no h37] at h2
    exact abbr_gap hc h2
theorem abbrC_isfmt {f : ByteArray} {sv : Int} {lt : ByteArray} (h : abbrC f sv lt = 0) : isFmtB f.toList = true := by
  unfold abbrC abbrR at h
  rw [fmt_exp] at h
  by_cases q : isFmtB f.toList = true
  · exact q
  · rw [if_neg (fun k => q k.1)] at h; cases h
theorem jn_gap {c k : UInt8} (h : c ≠ k) : ∀ {ws : List (List UInt8)}, (∀ w ∈ ws, c ∉ w) → c ∉ jn k ws
  | [], _ => by simp [jn]
  | [w], hw => hw w (by simp)
  | w :: v :: ws, hw => by
    have := jn_gap h (ws := v :: ws) (fun x hx => hw x (List.mem_cons_of_mem _ hx))
    unfold jn
    simp [hw w (by simp), h, this]
theorem rule_no10 {r : RuD} (h : r.chk = 0) : (10 : UInt8) ∉ r.text := by
  obtain ⟨a, ⟨⟨f1, f2⟩, ⟨t1, t2⟩, ft, o1, o2⟩, c, ⟨_, ⟨a1, a2⟩, ⟨b1, b2⟩, s1, s2⟩⟩ := ruleC_zero.1 h
  have hc : Gap 10 := Or.inl rfl
  unfold RuD.text
  rw [ruleL_jn]
  refine jn_gap (by decide) (fun w hw => ?_)
  unfold ruleW at hw
  simp only [List.mem_cons, List.not_mem_nil, or_false] at hw
  rcases hw with rfl | rfl | rfl | rfl | rfl | rfl | rfl | rfl | rfl
  · decide
  · exact name_gap hc (ruleSyn_iff.1 a).1
  · exact dz_gap hc (by omega) (by omega)
  · exact dz_gap hc (by omega) (by omega)
  · exact dz_gap hc (by omega) (by omega)
  · exact dayL_gap hc c
  · simp [span_gap hc a1 a2, suf_gap hc]
  · exact span_gap hc (by omega) (by omega)
  · exact abbr_gap hc (ruleSyn_iff.1 a).2
/-- an era whose words can be told -/
structure EraG (e : EraD) : Prop where
  ok : EraOk e
  ru : (e.ru = ⟨#[]⟩) ∨ (isNameB e.ru.toList = true ∧ e.sv = 0)
  fm : isFmtB e.fm.toList = true
theorem ok_eraG {rs : List RuD} {e : EraD} (hr : ∀ r ∈ rs, r.chk = 0) (h : eraA rs e = 0) : EraG e := by
  refine ⟨ok_era hr h, ?_, ?_⟩
  · unfold eraA at h
    split at h
    · cases h
    split at h
    · rename_i hn; exact Or.inl (str_nil2 hn)
    · split at h
      · cases h
      · rename_i hs
        have hh : hasR rs e.ru = true := by
          unfold rulC at h
          split at h
          · cases h
          · rename_i q; simpa using q
        obtain ⟨r, hm, e'⟩ := List.any_eq_true.1 hh
        refine Or.inr ⟨?_, by omega⟩
        rw [← eq_of_beq e']
        exact (ruleSyn_iff.1 (ruleC_zero.1 (hr r hm)).1).1
  · unfold eraA at h
    split at h
    · cases h
    split at h
    · exact abbrC_isfmt h
    · split at h
      · cases h
      · have hh : abbrC e.fm 0 dash = 0 := by
          unfold rulC at h
          split at h
          · cases h
          · split at h
            · exact h
            · rename_i q2; exact absurd h q2
        exact abbrC_isfmt hh
/-- the third word of an era's line -/
def eraW2 (e : EraD) : List UInt8 := if e.ru.toList = [] then 45 :: spanL e.sv else e.ru.toList
theorem eraW2_gap {c : UInt8} (hc : Gap c) {e : EraD} (h : EraG e) : c ∉ eraW2 e := by
  unfold eraW2
  split
  · have := span_gap hc (n := e.sv) (by have := h.ok.s1; omega) (by have := h.ok.s2; omega)
    simp [this, gap_not hc 45 (by decide)]
  · rcases h.ru with q | q
    · rename_i n; exact absurd (by rw [q]; exact lit0) n
    · exact name_gap hc q.1
theorem eraL_w (e : EraD) : eraL e = jn 32 [wEra, spanL e.off, eraW2 e, e.fm.toList] := rfl
theorem eraLn_w (e : EraD) : eraLn e = jn 32 [wEra, spanL e.off, eraW2 e, e.fm.toList, stampT e.un] := by
  unfold eraLn
  rw [eraL_w]
  simp [jn]
theorem wEra_gap {c : UInt8} (hc : Gap c) : c ∉ wEra := by rcases hc with rfl | rfl <;> decide
theorem wZone_gap {c : UInt8} (hc : Gap c) : c ∉ wZone := by rcases hc with rfl | rfl <;> decide
theorem wLink_gap {c : UInt8} (hc : Gap c) : c ∉ wLink := by rcases hc with rfl | rfl <;> decide
theorem era_words {c : UInt8} (hc : Gap c) {e : EraD} (h : EraG e) : ∀ w ∈ [wEra, spanL e.off, eraW2 e, e.fm.toList, stampT e.un], c ∉ w := fun w hw => by
  simp only [List.mem_cons, List.not_mem_nil, or_false] at hw
  rcases hw with rfl | rfl | rfl | rfl | rfl
  · exact wEra_gap hc
  · exact span_gap hc (by have := h.ok.o1; omega) (by have := h.ok.o2; omega)
  · exact eraW2_gap hc h
  · exact fmt_gap hc h.fm
  · exact stampT_gap hc _
theorem era_words4 {c : UInt8} (hc : Gap c) {e : EraD} (h : EraG e) : ∀ w ∈ [wEra, spanL e.off, eraW2 e, e.fm.toList], c ∉ w := fun w hw => era_words hc h w (by simp at hw ⊢; rcases hw with q | q | q | q <;> simp [q])
theorem eraL_split {e : EraD} (h : EraG e) : Lib.split (eraL e) [32] = [wEra, spanL e.off, eraW2 e, e.fm.toList] := by
  rw [eraL_w]; exact split_jn (by simp) (era_words4 (Or.inr rfl) h)
theorem eraLn_split {e : EraD} (h : EraG e) : Lib.split (eraLn e) [32] = [wEra, spanL e.off, eraW2 e, e.fm.toList, stampT e.un] := by
  rw [eraLn_w]; exact split_jn (by simp) (era_words (Or.inr rfl) h)
theorem eraL_no10 {e : EraD} (h : EraG e) : (10 : UInt8) ∉ eraL e := by rw [eraL_w]; exact jn_gap (by decide) (era_words4 (Or.inl rfl) h)
theorem eraLn_no10 {e : EraD} (h : EraG e) : (10 : UInt8) ∉ eraLn e := by rw [eraLn_w]; exact jn_gap (by decide) (era_words (Or.inl rfl) h)
theorem name_no45 {l : List UInt8} (h : isNameB l = true) : Lib.hasPrefix l [45] = false := by
  cases l with
  | nil => rfl
  | cons x l =>
    unfold isNameB at h
    simp only [Bool.and_eq_true] at h
    have h1 := h.1.2
    cases hx : (x == 45) with
    | true =>
      have : x = 45 := by simpa using hx
      subst this
      have e : bt (45 :: l) 0 = 45 := rfl
      rw [e] at h1
      exact absurd h1 (by decide)
    | false =>
      unfold Lib.hasPrefix
      have : (45 == x) = false := by
        cases q : (45 == x) with
        | true => have : 45 = x := by simpa using q
                  subst this; cases hx
        | false => rfl
      simp [List.isPrefixOf, this]
/-- the third word read -/
theorem eraW2_read {e : EraD} (h : EraG e) : (if Lib.hasPrefix (eraW2 e) [45] = true then ByteArray.mk #[] else S (eraW2 e)) = e.ru ∧ (if Lib.hasPrefix (eraW2 e) [45] = true then (spanV (Lib.trimPrefix (eraW2 e) [45])).1 else 0) = e.sv ∧
    (if Lib.hasPrefix (eraW2 e) [45] = true then (spanV (Lib.trimPrefix (eraW2 e) [45])).2 == 0 else isNameB (eraW2 e)) = true := by
  rcases h.ru with q | ⟨q, hs⟩
  · have e1 : eraW2 e = 45 :: spanL e.sv := by unfold eraW2; rw [if_pos (by rw [q]; exact lit0)]
    have e2 : Lib.hasPrefix (45 :: spanL e.sv) [45] = true := by simp [Lib.hasPrefix, List.isPrefixOf]
    have e3 : Lib.trimPrefix (45 :: spanL e.sv) [45] = spanL e.sv := by unfold Lib.trimPrefix; rw [if_pos e2]; rfl
    have e4 : spanV (spanL e.sv) = (e.sv, 0) := spanV_of ⟨⟨by have := h.ok.s1; omega, by have := h.ok.s2; omega⟩, rfl⟩
    rw [e1, if_pos e2, if_pos e2, if_pos e2, e3, e4, q]
    exact ⟨rfl, rfl, rfl⟩
  · have e1 : eraW2 e = e.ru.toList := by
      unfold eraW2
      rw [if_neg (fun k => by rw [k] at q; revert q; decide)]
    have e2 := name_no45 q
    rw [e1, if_neg (by rw [e2]; simp), if_neg (by rw [e2]; simp), if_neg (by rw [e2]; simp), ← S_of]
    exact ⟨rfl, hs.symm, q⟩
theorem off_read {e : EraD} (h : EraG e) : spanV (spanL e.off) = (e.off, 0) := spanV_of ⟨⟨by have := h.ok.o1; omega, by have := h.ok.o2; omega⟩, rfl⟩
theorem stmp_read {t : Int} (h : tmB t = true) : stmpV (stampT t) = (t, 0) := by
  obtain ⟨y, m, d, r, hv, h1, h2, e, el⟩ := stampT_of h
  obtain ⟨a, b⟩ := stamped_of y m d r hv h1 h2
  unfold stmpV
  rw [el, if_pos a, b, e]
theorem era_read4 {e : EraD} (h : EraG e) (h0 : e.un = 0) : (bl (S (eraL e))).length = 4 ∧ (wd (S (eraL e)) 0).toList = wEra ∧ eraR (S (eraL e)) = (e, true) := by
  have sp := eraL_split h
  have l4 : (bl (S (eraL e))).length = 4 := by rw [bl_of sp]; rfl
  refine ⟨l4, by rw [wd_of sp]; exact S_toList _, ?_⟩
  have w1 : wd (S (eraL e)) 1 = S (spanL e.off) := wd_of sp 1
  have w2 : wd (S (eraL e)) 2 = S (eraW2 e) := wd_of sp 2
  have w3 : wd (S (eraL e)) 3 = S e.fm.toList := wd_of sp 3
  obtain ⟨r1, r2, r3⟩ := eraW2_read h
  unfold eraR
  simp only [w1, w2, w3, S_toList, off_read h, l4, ← S_of e.fm]
  rw [r1, r2, r3]
  obtain ⟨off, ru, sv, fm, un⟩ := e
  simp only at h0
  subst h0
  rfl
theorem era_read5 {e : EraD} (h : EraG e) (h0 : tmB e.un = true) : (bl (S (eraLn e))).length = 5 ∧ (wd (S (eraLn e)) 0).toList = wEra ∧ eraR (S (eraLn e)) = (e, true) := by
  have sp := eraLn_split h
  have l4 : (bl (S (eraLn e))).length = 5 := by rw [bl_of sp]; rfl
  refine ⟨l4, by rw [wd_of sp]; exact S_toList _, ?_⟩
  have w1 : wd (S (eraLn e)) 1 = S (spanL e.off) := wd_of sp 1
  have w2 : wd (S (eraLn e)) 2 = S (eraW2 e) := wd_of sp 2
  have w3 : wd (S (eraLn e)) 3 = S e.fm.toList := wd_of sp 3
  have w4 : wd (S (eraLn e)) 4 = S (stampT e.un) := wd_of sp 4
  obtain ⟨r1, r2, r3⟩ := eraW2_read h
  unfold eraR
  simp only [w1, w2, w3, w4, S_toList, off_read h, l4, stmp_read h0, ← S_of e.fm]
  rw [r1, r2, r3]
  rfl
theorem step_rule_ok {r : RuD} (h : r.chk = 0) {p : BkS} (h0 : p.st = 0) : stepB p (S r.text) = some { p with rs := p.rs ++ [r] } := by
  have gw := good_words (s := S r.text) h (by rw [S_toList]; rfl)
  rw [step_rule gw.2.1, if_pos h0, S_toList, ruleR_of ⟨h, rfl⟩]
  rfl
theorem zone_split {nm : ByteArray} (h : isNameB nm.toList = true) : Lib.split (jn 32 [wZone, nm.toList]) [32] = [wZone, nm.toList] := split_jn (by simp) (fun w hw => by
  simp only [List.mem_cons, List.not_mem_nil, or_false] at hw
  rcases hw with rfl | rfl
  · exact wZone_gap (Or.inr rfl)
  · exact name_gap (Or.inr rfl) h)
theorem zone_no10 {nm : ByteArray} (h : isNameB nm.toList = true) : (10 : UInt8) ∉ jn 32 [wZone, nm.toList] := jn_gap (by decide) (fun w hw => by
  simp only [List.mem_cons, List.not_mem_nil, or_false] at hw
  rcases hw with rfl | rfl
  · exact wZone_gap (Or.inl rfl)
  · exact name_gap (Or.inl rfl) h)
theorem link_words {c : UInt8} (hc : Gap c) {x : LinD} (h : isNameB x.nm.toList = true ∧ isNameB x.to'.toList = true) : ∀ w ∈ [wLink, x.nm.toList, x.to'.toList], c ∉ w := fun w hw => by
  simp only [List.mem_cons, List.not_mem_nil, or_false] at hw
  rcases hw with rfl | rfl | rfl
  · exact wLink_gap hc
  · exact name_gap hc h.1
  · exact name_gap hc h.2
theorem step_zone_ok {nm : ByteArray} (h : isNameB nm.toList = true) {p : BkS} (h0 : p.st = 0 ∨ p.st = 2) : stepB p (S (jn 32 [wZone, nm.toList])) = some { p with zs := p.zs ++ [(nm, [])], st := 1 } := by
  have sp := zone_split h
  have w1 : wd (S (jn 32 [wZone, nm.toList])) 1 = S nm.toList := wd_of sp 1
  rw [step_zone (by rw [wd_of sp]; exact S_toList _), if_pos ⟨by rw [bl_of sp]; rfl, h0⟩, w1, ← S_of]
theorem step_link_ok {x : LinD} (h : isNameB x.nm.toList = true ∧ isNameB x.to'.toList = true) {p : BkS} (h0 : p.st ≠ 1) : stepB p (S (linL x)) = some { p with ls := p.ls ++ [x], st := 3 } := by
  have sp : Lib.split (linL x) [32] = [wLink, x.nm.toList, x.to'.toList] := split_jn (by simp) (link_words (Or.inr rfl) h)
  have w1 : wd (S (linL x)) 1 = S x.nm.toList := wd_of sp 1
  have w2 : wd (S (linL x)) 2 = S x.to'.toList := wd_of sp 2
  rw [step_link (by rw [wd_of sp]; exact S_toList _), if_pos ⟨by rw [bl_of sp]; rfl, h0⟩, w1, w2, ← S_of, ← S_of]
theorem step_era4 {e : EraD} (h : EraG e) (h0 : e.un = 0) {p : BkS} (h1 : p.st = 1) : stepB p (S (eraL e)) = some { p with zs := addE p.zs e, st := 2 } := by
  obtain ⟨a, b, c⟩ := era_read4 h h0
  rw [step_era b, if_pos ⟨Or.inl a, h1, by rw [c]⟩, c, if_pos a]
theorem step_era5 {e : EraD} (h : EraG e) (h0 : tmB e.un = true) {p : BkS} (h1 : p.st = 1) : stepB p (S (eraLn e)) = some { p with zs := addE p.zs e, st := 1 } := by
  obtain ⟨a, b, c⟩ := era_read5 h h0
  rw [step_era b, if_pos ⟨Or.inr a, h1, by rw [c]⟩, c, if_neg (by omega)]
theorem runB_app : ∀ {l m : List ByteArray} {p q : BkS} {k : Nat}, runB p l k = .inr q → runB p (l ++ m) k = runB q m (k + l.length)
  | [], m, p, q, k, h => by
    have : p = q := by simpa [runB] using h
    subst this; rfl
  | t :: l, m, p, q, k, h => by
    cases hs : stepB p t with
    | none => rw [runB, hs] at h; cases h
    | some p' =>
      rw [runB, hs] at h
      rw [List.cons_append, runB, hs]
      have := runB_app (m := m) h
      simp only at this ⊢
      rw [this, List.length_cons, Nat.add_assoc, Nat.add_comm 1]
theorem runB_one {p q : BkS} {t : ByteArray} {k : Nat} (h : stepB p t = some q) : runB p [t] k = .inr q := by rw [runB, h]; rfl
theorem runB_cons {p q : BkS} {t : ByteArray} {l : List ByteArray} {k : Nat} (h : stepB p t = some q) : runB p (t :: l) k = runB q l (k + 1) := by rw [runB, h]
theorem run_rules : ∀ (l : List RuD) (p : BkS) (k : Nat), (∀ r ∈ l, r.chk = 0) → p.st = 0 → runB p (txts (l.map RuD.text)) k = .inr { p with rs := p.rs ++ l }
  | [], p, k, _, _ => by simp [txts, runB]
  | r :: l, p, k, h, h0 => by
    have := run_rules l { p with rs := p.rs ++ [r] } (k + 1) (fun x hx => h x (List.mem_cons_of_mem _ hx)) h0
    show runB p (S r.text :: txts (l.map RuD.text)) k = _
    rw [runB_cons (step_rule_ok (h r (by simp)) h0), this]
    simp
theorem run_eras : ∀ (l : List EraD) (p : BkS) (Z : List (ByteArray × List EraD)) (nm : ByteArray) (es : List EraD) (k : Nat), (∀ e ∈ l, EraG e ∧ tmB e.un = true) → p.st = 1 → p.zs = Z ++ [(nm, es)] → runB p (txts (l.map eraLn)) k = .inr { p with zs := Z ++ [(nm, es ++ l)] }
  | [], p, Z, nm, es, k, _, _, hz => by simp [txts, runB, ← hz]
  | e :: l, p, Z, nm, es, k, h, h1, hz => by
    have := run_eras l { p with zs := Z ++ [(nm, es ++ [e])], st := 1 } Z nm (es ++ [e]) (k + 1) (fun x hx => h x (List.mem_cons_of_mem _ hx)) rfl rfl
    show runB p (S (eraLn e) :: txts (l.map eraLn)) k = _
    rw [runB_cons (step_era5 (h e (by simp)).1 (h e (by simp)).2 h1), hz, addE_snoc, this]
    simp [h1]
theorem run_zone {z : ZonD} {p : BkS} {k : Nat} (hn : isNameB z.nm.toList = true) (hne : 1 ≤ z.eras.length) (hg : ∀ e ∈ z.eras, EraG e) (ht : ∀ j e, z.eras[j]? = some e → j + 1 < z.eras.length → tmB e.un = true) (hl : ∀ j e, z.eras[j]? = some e → j + 1 = z.eras.length → e.un = 0) (h0 : p.st = 0 ∨ p.st = 2) :
    runB p (txts (zonL z)) k = .inr { p with zs := p.zs ++ [(z.nm, z.eras)], st := 2 } := by
  obtain ⟨es, e, he⟩ : ∃ es e, z.eras = es ++ [e] := by
    rcases List.eq_nil_or_concat z.eras with q | ⟨a, b, q⟩
    · rw [q] at hne; simp at hne
    · exact ⟨a, b, by rw [q, List.concat_eq_append]⟩
  have t1 : txts (zonL z) = S (jn 32 [wZone, z.nm.toList]) :: (txts (es.map eraLn) ++ [S (eraL e)]) := by
    unfold zonL
    rw [he, eraLs_snoc]
    simp [txts]
  have r1 := run_eras es { p with zs := p.zs ++ [(z.nm, [])], st := 1 } p.zs z.nm [] (k + 1) (fun x hx => ⟨hg x (by rw [he]; simp [hx]), by
    obtain ⟨j, hj, ej⟩ := List.getElem_of_mem hx
    exact ht j x (by rw [he, List.getElem?_append_left hj, List.getElem?_eq_getElem hj, ej]) (by rw [he]; simp; omega)⟩) rfl rfl
  rw [t1, runB_cons (step_zone_ok hn h0), runB_app r1]
  rw [runB_one (step_era4 (hg e (by rw [he]; simp)) (hl es.length e (by rw [he]; simp) (by rw [he]; simp)) rfl)]
  simp only [addE_snoc, List.nil_append, he]
theorem run_zones : ∀ (l : List ZonD) (p : BkS) (k : Nat), (∀ z ∈ l, ∀ (q : BkS) (j : Nat), (q.st = 0 ∨ q.st = 2) → runB q (txts (zonL z)) j = .inr { q with zs := q.zs ++ [(z.nm, z.eras)], st := 2 }) → (p.st = 0 ∨ p.st = 2) → ∃ s : Nat, (s = 0 ∨ s = 2) ∧ runB p (txts (l.flatMap zonL)) k = .inr { p with zs := p.zs ++ l.map (fun z => (z.nm, z.eras)), st := s }
  | [], p, k, _, h0 => ⟨p.st, h0, by simp [txts, runB]⟩
  | z :: l, p, k, h, h0 => by
    obtain ⟨s, hs, this⟩ := run_zones l { p with zs := p.zs ++ [(z.nm, z.eras)], st := 2 } (k + (txts (zonL z)).length) (fun x hx => h x (List.mem_cons_of_mem _ hx)) (Or.inr rfl)
    refine ⟨s, hs, ?_⟩
    have e : txts ((z :: l).flatMap zonL) = txts (zonL z) ++ txts (l.flatMap zonL) := by simp [txts]
    rw [e, runB_app (h z (by simp) p k h0), this]
    simp
theorem run_links : ∀ (l : List LinD) (p : BkS) (k : Nat), (∀ x ∈ l, isNameB x.nm.toList = true ∧ isNameB x.to'.toList = true) → p.st ≠ 1 → ∃ s : Nat, s ≠ 1 ∧ runB p (txts (l.map linL)) k = .inr { p with ls := p.ls ++ l, st := s }
  | [], p, k, _, h0 => ⟨p.st, h0, by simp [txts, runB]⟩
  | x :: l, p, k, h, h0 => by
    obtain ⟨s, hs, this⟩ := run_links l { p with ls := p.ls ++ [x], st := 3 } (k + 1) (fun y hy => h y (List.mem_cons_of_mem _ hy)) (by show (3 : Nat) ≠ 1; omega)
    refine ⟨s, hs, ?_⟩
    show runB p (S (linL x) :: txts (l.map linL)) k = _
    rw [runB_cons (step_link_ok (h x (by simp)) h0), this]
    simp
/-- the parts of a book that may be, as its lines want them -/
theorem ok_parts {rs : List RuD} {zs : List ZonD} {ls : List LinD} (h : bokC rs zs ls = 0) : (∀ z ∈ zs, isNameB z.nm.toList = true ∧ (∀ e ∈ z.eras, EraG e) ∧ ∀ j e, z.eras[j]? = some e → j + 1 = z.eras.length → e.un = 0) ∧ ∀ x ∈ ls, isNameB x.nm.toList = true ∧ isNameB x.to'.toList = true := by
  refine ⟨fun z hz => ?_, fun x hx => ?_⟩
  · obtain ⟨i, hi, e⟩ := List.getElem_of_mem hz
    have h0 := (fe_zero _).1 (bokC_ok.1 h).2.2.1 i hi
    rw [zonC_at (z := z) (by rw [List.getElem?_eq_getElem hi, e])] at h0
    split at h0
    · cases h0
    rename_i hn
    split at h0
    · cases h0
    split at h0
    · cases h0
    split at h0
    · cases h0
    have hall := (fe_zero _).1 h0
    refine ⟨by simpa using hn, fun x hx => ?_, fun k x hx hk => ?_⟩
    · obtain ⟨j, hj, ej⟩ := List.getElem_of_mem hx
      have hc := hall j hj
      rw [eraC_at (e := x) (by rw [List.getElem?_eq_getElem hj, ej])] at hc
      split at hc
      · rename_i q; exact ok_eraG (ok_rule h) q
      · rename_i q; exact absurd hc q
    · have hc := hall k (List.getElem?_eq_some_iff.1 hx).1
      rw [eraC_at hx] at hc
      split at hc
      · rw [untC_at hx, if_pos hk] at hc
        split at hc
        · rename_i q; exact q
        · cases hc
      · rename_i q; exact absurd hc q
  · obtain ⟨i, hi, e⟩ := List.getElem_of_mem hx
    have h0 := (fe_zero _).1 (bokC_ok.1 h).2.2.2 i hi
    rw [linC_at (x := x) (by rw [List.getElem?_eq_getElem hi, e])] at h0
    split at h0
    · cases h0
    rename_i hn
    have hn' : (isNameB x.nm.toList && isNameB x.to'.toList) = true := by simpa using hn
    simpa [Bool.and_eq_true] using hn'
theorem run_book {rs : List RuD} {zs : List ZonD} {ls : List LinD} (h : bokC rs zs ls = 0) : ∃ p : BkS, runB BkS.zero (txts (bokL rs zs ls)) 0 = .inr p ∧ p.rs = rs ∧ p.zs = zs.map (fun z => (z.nm, z.eras)) ∧ p.ls = ls ∧ p.st ≠ 1 := by
  obtain ⟨hz, hl⟩ := ok_parts h
  have e : txts (bokL rs zs ls) = txts (rs.map RuD.text) ++ (txts (zs.flatMap zonL) ++ txts (ls.map linL)) := by unfold bokL; simp [txts]
  have r1 := run_rules rs BkS.zero 0 (ok_rule h) rfl
  obtain ⟨s, hs, r2⟩ := run_zones zs { BkS.zero with rs := BkS.zero.rs ++ rs } (0 + (txts (rs.map RuD.text)).length) (fun z hz' q j hq => by
    obtain ⟨a, b, c⟩ := hz z hz'
    obtain ⟨_, d, _, _, f⟩ := ok_zone h z hz'
    exact run_zone a d b f c hq) (Or.inl rfl)
  obtain ⟨s', hs', r3⟩ := run_links ls { BkS.zero with rs := BkS.zero.rs ++ rs, zs := BkS.zero.zs ++ zs.map (fun z => (z.nm, z.eras)), st := s } (0 + (txts (rs.map RuD.text)).length + (txts (zs.flatMap zonL)).length) hl (by show s ≠ 1; omega)
  refine ⟨⟨rs, zs.map (fun z => (z.nm, z.eras)), ls, s'⟩, ?_, rfl, rfl, rfl, hs'⟩
  rw [e, runB_app r1, runB_app r2, r3]
  rfl
theorem bokL_no10 {rs : List RuD} {zs : List ZonD} {ls : List LinD} (h : bokC rs zs ls = 0) : ∀ w ∈ bokL rs zs ls, (10 : UInt8) ∉ w := fun w hw => by
  obtain ⟨hz, hl⟩ := ok_parts h
  unfold bokL at hw
  rcases List.mem_append.1 hw with hw | hw
  · rcases List.mem_append.1 hw with hw | hw
    · obtain ⟨r, hr, rfl⟩ := List.mem_map.1 hw
      exact rule_no10 (ok_rule h r hr)
    · obtain ⟨z, hzm, hw⟩ := List.mem_flatMap.1 hw
      obtain ⟨a, b, c⟩ := hz z hzm
      unfold zonL at hw
      rcases List.mem_cons.1 hw with rfl | hw
      · exact zone_no10 a
      · unfold eraLs at hw
        rcases List.mem_append.1 hw with hw | hw
        · obtain ⟨e, he, rfl⟩ := List.mem_map.1 hw
          exact eraLn_no10 (b e (List.dropLast_subset _ he))
        · cases hq : z.eras.getLast? with
          | none => rw [hq] at hw; cases hw
          | some e =>
            rw [hq] at hw
            have ex : w = eraL e := by simpa using hw
            subst ex
            exact eraL_no10 (b e (List.mem_of_getLast? hq))
  · obtain ⟨x, hx, rfl⟩ := List.mem_map.1 hw
    exact jn_gap (by decide) (link_words (Or.inl rfl) (hl x hx))
theorem bokL_nil {rs : List RuD} {zs : List ZonD} {ls : List LinD} (h : bokL rs zs ls = []) : rs = [] ∧ zs = [] ∧ ls = [] := by
  unfold bokL at h
  rw [List.append_eq_nil_iff, List.append_eq_nil_iff] at h
  obtain ⟨⟨a, b⟩, c⟩ := h
  refine ⟨by simpa using a, ?_, by simpa using c⟩
  cases zs with
  | nil => rfl
  | cons z l => rw [List.flatMap_cons] at b; unfold zonL at b; simp at b
/-- the text of a book that may be is parsed as that book -/
theorem parB_text {rs : List RuD} {zs : List ZonD} {ls : List LinD} (h : bokC rs zs ls = 0) (hs : (bokT rs zs ls).length ≤ 60000) : ∃ p : BkS, parB (S (bokT rs zs ls)) = (p, 0, 0) ∧ p.rs = rs ∧ p.zs = zs.map (fun z => (z.nm, z.eras)) ∧ p.ls = ls := by
  have hsz : ¬ 60000 < (S (bokT rs zs ls)).size := by rw [S_size]; omega
  by_cases hn : bokT rs zs ls = []
  · have hb : bokL rs zs ls = [] := by
      cases q : bokL rs zs ls with
      | nil => rfl
      | cons a l =>
        have := jn_ne (c := 10) (bokL_ok h) (by rw [q]; simp)
        exact absurd hn this
    obtain ⟨rfl, rfl, rfl⟩ := bokL_nil hb
    exact ⟨BkS.zero, parB_nil (by rw [S_toList]; exact hn), rfl, rfl, rfl⟩
  · obtain ⟨p, hr, h1, h2, h3, h4⟩ := run_book h
    have hbn : bokL rs zs ls ≠ [] := fun q => hn (by unfold bokT; rw [q]; rfl)
    have hlns : lns (S (bokT rs zs ls)) = txts (bokL rs zs ls) := lns_of (by rw [S_toList]; exact split_jn hbn (bokL_no10 h))
    refine ⟨p, parB_ok hsz (by rw [S_toList]; exact hn) (by rw [hlns]; exact hr) h4 ?_, h1, h2, h3⟩
    unfold BkS.chk
    rw [h1, h2, h3, List.map_map]
    have := bokC_bare rs zs ls
    rw [h] at this
    exact this
/-- the lines of a zone that is whole, or not -/
noncomputable def zoP (z : ByteArray × List EraD) : List (List UInt8) := jn 32 [wZone, z.1.toList] :: eraLs z.2
noncomputable def zoO (z : ByteArray × List EraD) : List (List UInt8) := jn 32 [wZone, z.1.toList] :: z.2.map eraLn
/-- the lines of a book under way -/
noncomputable def stL (p : BkS) : List (List UInt8) :=
  p.rs.map RuD.text ++ (if p.st = 1 then p.zs.dropLast.flatMap zoP ++ (match p.zs.getLast? with
    | none => []
    | some z => zoO z) else p.zs.flatMap zoP) ++ p.ls.map linL
theorem stamp_back {l : List UInt8} (h : Stamped l) : stampT (stampV l) = l := by
  obtain ⟨y, m, d, r, hv, h1, h2, hl, hV⟩ := stamped_to l h
  have hb : tmB (stampV l) = true := by
    rw [hV, tmB_days]
    have := Cal.days_bd hv
    omega
  obtain ⟨y2, m2, d2, r2, hv2, h12, h22, e2, el2⟩ := stampT_of hb
  rw [hV] at e2
  have ed : Cal.days y2 m2 d2 = Cal.days y m d := by omega
  have er : r2 = r := by omega
  obtain ⟨rfl, rfl, rfl⟩ := Cal.days_inj hv2 hv ed
  rw [el2, er, ← hl]
theorem words_jn (t : ByteArray) : t.toList = jn 32 ((bl t).map (·.toList)) := by
  rw [bl_split]; exact (jn_split 32 _ t.toList (Nat.le_refl _)).symm
theorem bl_words {t : ByteArray} : ∀ {n : Nat}, (bl t).length = n → (bl t).map (·.toList) = (List.range n).map fun k => (wd t k).toList := fun {n} h => by
  apply List.ext_getElem?
  intro i
  by_cases hi : i < n
  · rw [List.getElem?_map, List.getElem?_map, List.getElem?_range hi, List.getElem?_eq_getElem (by omega)]
    unfold wd
    simp [List.getD, List.getElem?_eq_getElem (show i < (bl t).length by omega)]
  · rw [List.getElem?_eq_none (by simp; omega), List.getElem?_eq_none (by simp; omega)]
theorem era_text {t : ByteArray} (h : (eraR t).2 = true) (h0 : (wd t 0).toList = wEra) : ((bl t).length = 4 → eraL (eraR t).1 = t.toList) ∧ ((bl t).length = 5 → eraLn (eraR t).1 = t.toList) := by
  have hw2 : eraW2 (eraR t).1 = (wd t 2).toList ∧ spanL (eraR t).1.off = (wd t 1).toList ∧ (eraR t).1.fm = wd t 3 ∧ ((bl t).length = 5 → stampT (eraR t).1.un = (wd t 4).toList) := by
    unfold eraR at h ⊢
    simp only [Bool.and_eq_true, beq_iff_eq] at h
    obtain ⟨⟨ha, hc⟩, hu⟩ := h
    refine ⟨?_, ?_, rfl, fun h5 => ?_⟩
    · unfold eraW2
      simp only
      cases hp : Lib.hasPrefix (wd t 2).toList [45] with
      | true =>
        rw [hp] at hc
        simp only [if_true, beq_iff_eq] at hc ⊢
        rcases spanV_cases (Lib.trimPrefix (wd t 2).toList [45]) with ⟨_, b⟩ | ⟨b, _⟩
        · rw [if_pos lit0, b.2]
          unfold Lib.trimPrefix
          rw [if_pos hp]
          have hp2 := hp
          unfold Lib.hasPrefix at hp2
          obtain ⟨r, hr⟩ := List.isPrefixOf_iff_prefix.1 hp2
          rw [← hr]; rfl
        · rw [b] at hc; cases hc
      | false =>
        rw [hp] at hc
        simp only [Bool.false_eq_true, if_false] at hc ⊢
        rw [if_neg (fun k => by rw [k] at hc; revert hc; decide)]
    · rcases spanV_cases (wd t 1).toList with ⟨_, b⟩ | ⟨b, _⟩
      · exact b.2
      · rw [b] at ha; cases ha
    · rw [show decide ((bl t).length = 5) = true from decide_eq_true h5] at hu ⊢
      simp only [if_true, beq_iff_eq] at hu ⊢
      unfold stmpV at hu ⊢
      split at hu
      · rename_i q
        rw [if_pos q]
        exact stamp_back q
      · cases hu
  obtain ⟨a, b, c, d⟩ := hw2
  constructor
  · intro h4
    rw [words_jn t, bl_words h4, eraL_w, a, b, c, ← h0]
    rfl
  · intro h5
    rw [words_jn t, bl_words h5, eraLn_w, a, b, c, d h5, ← h0]
    rfl
theorem stL_step {p q : BkS} {t : ByteArray} (h : p.Ok) (hs : stepB p t = some q) : stL q = stL p ++ [t.toList] := by
  unfold stepB at hs
  split at hs
  · split at hs
    · rename_i h0
      cases hr : ruleR t.toList with
      | none => rw [hr] at hs; cases hs
      | some r =>
        rw [hr] at hs
        injection hs with hs
        subst hs
        obtain ⟨hz, hl⟩ := h.st0.1 h0
        have ht := (ruleR_some hr).2
        unfold stL
        rw [if_neg (show ¬ p.st = 1 by omega), hz, hl]
        simp [ht]
    · cases hs
  split at hs
  · split at hs
    · rename_i hw hc
      injection hs with hs
      subst hs
      have hl : p.ls = [] := by
        cases hq : p.ls with
        | nil => rfl
        | cons a l => have := h.st3'.2 (by rw [hq]; simp); omega
      have ht : t.toList = jn 32 [wZone, (wd t 1).toList] := by
        rw [words_jn t, bl_words hc.1, ← hw]; rfl
      unfold stL
      rw [if_pos rfl, if_neg (by omega), hl]
      simp [zoO, ht]
    · cases hs
  split at hs
  · split at hs
    · rename_i hw hc
      injection hs with hs
      subst hs
      have hz := h.open' hc.2.1
      have hl : p.ls = [] := by
        cases hq : p.ls with
        | nil => rfl
        | cons a l => have := h.st3'.2 (by rw [hq]; simp); omega
      obtain ⟨t4, t5⟩ := era_text hc.2.2 hw
      rcases List.eq_nil_or_concat p.zs with e | ⟨zi, ⟨a, b⟩, e⟩
      · exact absurd e hz
      · rw [List.concat_eq_append] at e
        unfold stL
        rw [if_pos hc.2.1, hl, e, addE_snoc]
        rcases hc.1 with h4 | h5
        · rw [if_pos h4, if_neg (by show ¬ (2 : Nat) = 1; omega), ← t4 h4]
          simp [zoO, zoP, eraLs_snoc]
        · rw [if_neg (by omega), if_pos rfl, ← t5 h5]
          simp [zoO, zoP]
    · cases hs
  split at hs
  · split at hs
    · rename_i hw hc
      injection hs with hs
      subst hs
      have ht : t.toList = linL ⟨wd t 1, wd t 2⟩ := by
        rw [words_jn t, bl_words hc.1, show linL ⟨wd t 1, wd t 2⟩ = jn 32 [wLink, (wd t 1).toList, (wd t 2).toList] from rfl, ← hw]; rfl
      unfold stL
      rw [if_neg (by show ¬ (3 : Nat) = 1; omega), if_neg hc.2]
      simp [ht]
    · cases hs
  · cases hs
theorem stL_run : ∀ (l : List ByteArray) (p q : BkS) (k : Nat), p.Ok → runB p l k = .inr q → stL q = stL p ++ l.map (·.toList)
  | [], p, q, k, _, hr => by
    have : p = q := by simpa [runB] using hr
    subst this; simp
  | t :: l, p, q, k, h, hr => by
    cases hs : stepB p t with
    | none => rw [runB, hs] at hr; cases hr
    | some p' =>
      rw [runB, hs] at hr
      have := stL_run l p' q (k + 1) (h.step hs) hr
      rw [this, stL_step h hs]
      simp
theorem stL_end {p : BkS} (h : p.st ≠ 1) : stL p = bokL p.rs (p.zs.map zonP) p.ls := by
  unfold stL bokL
  rw [if_neg h, List.flatMap_map]
  rfl
theorem bokL_bare (rs : List RuD) (zs : List ZonD) (ls : List LinD) : bokL rs (zs.map bareZ) ls = bokL rs zs ls := by
  unfold bokL
  rw [List.flatMap_map]
  rfl
/-- what is parsed is the text of what Parse gives -/
theorem parB_back {s : ByteArray} (h : (parB s).2.2 = 0) : (parB s).2.1 = 0 ∧ bokC (parB s).1.rs ((parB s).1.zs.map zonP) (parB s).1.ls = 0 ∧ bokT (parB s).1.rs ((parB s).1.zs.map zonP) (parB s).1.ls = s.toList := by
  by_cases hbig : 60000 < s.size
  · rw [parB_big hbig] at h; cases h
  by_cases hn : s.toList = []
  · rw [parB_nil hn, hn]
    exact ⟨rfl, by decide, rfl⟩
  cases hr : runB BkS.zero (lns s) 0 with
  | inl m => rw [parB_bad hbig hn hr] at h; cases h
  | inr p =>
    by_cases h1 : p.st = 1
    · rw [parB_open hbig hn hr h1] at h; cases h
    by_cases hc : p.chk = 0
    · rw [parB_ok hbig hn hr h1 hc]
      refine ⟨rfl, hc, ?_⟩
      have e := stL_run _ _ _ _ BkS.Ok.zero hr
      have e0 : stL BkS.zero = [] := rfl
      unfold bokT
      rw [← stL_end h1, e, e0, List.nil_append, lns_split]
      exact jn_split 10 _ s.toList (Nat.le_refl _)
    · rw [parB_chk hbig hn hr h1 hc] at h
      exact absurd h hc
/-- where Parse gives an error, there is no book -/
theorem parB_err {s : ByteArray} (h : ¬ (parB s).2.2 = 0) : (parB s).1 = BkS.zero ∧ 0 ≤ (parB s).2.1 := by
  by_cases hbig : 60000 < s.size
  · rw [parB_big hbig]; exact ⟨rfl, Int.le_refl _⟩
  by_cases hn : s.toList = []
  · rw [parB_nil hn]; exact ⟨rfl, Int.le_refl _⟩
  cases hr : runB BkS.zero (lns s) 0 with
  | inl m => rw [parB_bad hbig hn hr]; exact ⟨rfl, by simp⟩
  | inr p =>
    by_cases h1 : p.st = 1
    · rw [parB_open hbig hn hr h1]; exact ⟨rfl, by simp; omega⟩
    by_cases hc : p.chk = 0
    · rw [parB_ok hbig hn hr h1 hc] at h; exact absurd rfl h
    · rw [parB_chk hbig hn hr h1 hc]; exact ⟨rfl, Int.le_refl _⟩
end Go.Proofs.YtmemgpmijphkmaaGreatDoor
