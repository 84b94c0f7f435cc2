/- Durations as texts: what the reference's SpanRead answers is: the duration whose text it is, if there is one. No program in it. Texts cut at a sign, words between signs. No program in it. Words between blanks: a rule's text and its words. No program in it. What the reference's RuleText returns, for every rule. -/
import Derived.Test.YtmemgpmijphkmaaGreatDoorXM05
import Derived.Lib.SplitLaws
import Derived.Test.YtmemgpmijphkmaaGreatDoorXM04
namespace Go.Proofs.YtmemgpmijphkmaaGreatDoor
set_option linter.unusedVariables false
set_option linter.unusedSimpArgs false
theorem index_nf (b : List UInt8) : ∀ a : List UInt8, 58 ∉ a → Lib.index (a ++ 58 :: b) [58] = a.length
  | [], _ => by simp [Lib.index, List.isPrefixOf]
  | c :: a, h => by
    have hc : (58 == c) = false := by
      have : ¬ 58 = c := fun e => h (by simp [e])
      simpa using this
    have ih := index_nf b a (fun hm => h (List.mem_cons_of_mem _ hm))
    simp only [List.cons_append, Lib.index, List.isPrefixOf, hc, Bool.false_and, ih]
    have hn : ((a.length : Int) == -1) = false := by simp
    simp [hn]
theorem index_none : ∀ a : List UInt8, 58 ∉ a → Lib.index a [58] = -1
  | [], _ => by simp [Lib.index]
  | c :: a, h => by
    have hc : (58 == c) = false := by
      have : ¬ 58 = c := fun e => h (by simp [e])
      simpa using this
    have ih := index_none a (fun hm => h (List.mem_cons_of_mem _ hm))
    simp [Lib.index, List.isPrefixOf, hc, ih]
theorem split_one {a : List UInt8} (h : 58 ∉ a) : Lib.split a [58] = [a] := by
  unfold Lib.split
  rw [Lib.count_miss (index_none a h)]
  rfl
theorem split_cons {a : List UInt8} (b : List UInt8) (h : 58 ∉ a) : Lib.split (a ++ 58 :: b) [58] = a :: Lib.split b [58] := by
  unfold Lib.split
  have hi := index_nf b a h
  have hc := Lib.count_hit (s := a ++ 58 :: b) (sub := [58]) (i := a.length) (by simp) hi
  have hd : (a ++ 58 :: b).drop (a.length + 1) = b := by simp
  simp only [List.length_cons, List.length_nil, Nat.zero_add] at hc
  rw [hd] at hc
  rw [hc, Nat.add_comm, Lib.splitK]
  have hm : ¬ (Lib.index (a ++ 58 :: b) [58] == -1) = true := fun e => by have := beq_iff_eq.1 e; omega
  rw [if_neg hm, hi]
  simp
/-- the pieces of a duration's text -/
def spanPs (n : Int) : List (List UInt8) := if n % 60 = 0 then [dz (n / 3600), d2 (n / 60 % 60)] else [dz (n / 3600), d2 (n / 60 % 60), d2 (n % 60)]
theorem split_span {n : Int} (h1 : 0 ≤ n) (h2 : n ≤ 604800) : Lib.split (spanL0 n) [58] = spanPs n := by
  have a := dz_no 8 (n / 3600) (by omega) (by omega)
  have b := d2_no (n := n / 60 % 60) (by omega) (by omega)
  have c := d2_no (n := n % 60) (by omega) (by omega)
  unfold spanL0 spanPs
  by_cases h : n % 60 = 0
  · rw [if_pos h, if_pos h, split_cons _ a, List.append_nil, split_one b]
  · rw [if_neg h, if_neg h, split_cons _ a, split_cons _ b, split_one c]

theorem of_map {ps : List ByteArray} {L : List (List UInt8)} (h : ps.map (·.toList) = L) : ps.length = L.length ∧ ∀ k, k < L.length → (ps.getD k ByteArray.empty).toList = L.getD k [] ∧ (ps.getD k ByteArray.empty).size = (L.getD k []).length := by
  subst h
  refine ⟨by simp, fun k hk => ?_⟩
  have hk' : k < ps.length := by simpa using hk
  have e1 : ps.getD k ByteArray.empty = ps[k] := by simp [List.getD, List.getElem?_eq_getElem hk']
  have e2 : (ps.map (·.toList)).getD k [] = ps[k].toList := by simp [List.getD, List.getElem?_eq_getElem hk']
  rw [e1, e2]
  refine ⟨rfl, ?_⟩
  rw [ByteArray.toList_eq]; exact Array.length_toList.symm
theorem gp_of {k : Nat} {x : ByteArray} {l : List UInt8} {n : Int} (h1 : x.toList = l) (h2 : x.size = l.length) (ht : Tells l n) (a : 0 < k → l.length = 2) (b : 1 ≤ l.length) (c : l.length ≤ 3) : gp k x ∧ numv x.toList 0 x.size = n := by
  subst h1
  refine ⟨⟨fun hk => by rw [h2]; exact a hk, by omega, by omega, fun j hj => ht.1 j (by omega)⟩, ?_⟩
  rw [h2]; exact ht.2
theorem span_ok {n : Int} {ps : List ByteArray} (h1 : 0 ≤ n) (h2 : n ≤ 604800) (h : ps.map (·.toList) = spanPs n) : ps.length ≤ 3 ∧ (∀ k, k < ps.length → gp k (ps.getD k ByteArray.empty)) ∧ tot ps ps.length = n := by
  obtain ⟨hl, hk⟩ := of_map h
  have ta := tells_dz (n := n / 3600) (by omega) (by omega)
  have tb := tells2 (n := n / 60 % 60) (by omega) (by omega)
  have tc := tells2 (n := n % 60) (by omega) (by omega)
  by_cases c : n % 60 = 0
  · have e : spanPs n = [dz (n / 3600), d2 (n / 60 % 60)] := by simp [spanPs, c]
    rw [e] at hl hk
    have k0 := hk 0 (by simp)
    have k1 := hk 1 (by simp)
    have g0 := gp_of (k := 0) k0.1 k0.2 ta.1 (fun h => absurd h (by omega)) ta.2.1 ta.2.2
    have g1 := gp_of (k := 1) k1.1 k1.2 tb (fun _ => rfl) (by simp [d2]) (by simp [d2])
    have hl2 : ps.length = 2 := by simpa using hl
    refine ⟨by omega, fun k hk => ?_, ?_⟩
    · have : k = 0 ∨ k = 1 := by omega
      rcases this with e | e <;> subst e
      · exact g0.1
      · exact g1.1
    · rw [hl2]; simp only [tot, wt]; rw [g0.2, g1.2]; omega
  · have e : spanPs n = [dz (n / 3600), d2 (n / 60 % 60), d2 (n % 60)] := by simp [spanPs, c]
    rw [e] at hl hk
    have k0 := hk 0 (by simp)
    have k1 := hk 1 (by simp)
    have k2 := hk 2 (by simp)
    have g0 := gp_of (k := 0) k0.1 k0.2 ta.1 (fun h => absurd h (by omega)) ta.2.1 ta.2.2
    have g1 := gp_of (k := 1) k1.1 k1.2 tb (fun _ => rfl) (by simp [d2]) (by simp [d2])
    have g2 := gp_of (k := 2) k2.1 k2.2 tc (fun _ => rfl) (by simp [d2]) (by simp [d2])
    have hl3 : ps.length = 3 := by simpa using hl
    refine ⟨by omega, fun k hk => ?_, ?_⟩
    · have : k = 0 ∨ k = 1 ∨ k = 2 := by omega
      rcases this with e | e | e <;> subst e
      · exact g0.1
      · exact g1.1
      · exact g2.1
    · rw [hl3]; simp only [tot, wt]; rw [g0.2, g1.2, g2.2]; omega

theorem head0 {n : Int} (h1 : 0 ≤ n) (h2 : n ≤ 604800) : ∃ c r, spanL0 n = c :: r ∧ ¬ c = 45 := by
  obtain ⟨t, l1, _⟩ := tells_dz (n := n / 3600) (by omega) (by omega)
  unfold spanL0
  cases hd : dz (n / 3600) with
  | nil => rw [hd] at l1; simp at l1
  | cons c r =>
    refine ⟨c, _, rfl, fun e => ?_⟩
    have := t.1 0 (by omega)
    rw [hd] at this
    subst e
    simp [bt] at this
theorem exists_ps (L : List (List UInt8)) : ∃ ps : List ByteArray, ps.map (·.toList) = L := ⟨L.map S, by simp [List.map_map, Function.comp_def, S_toList]⟩
theorem spanL0_inj {a b : Int} (a1 : 0 ≤ a) (a2 : a ≤ 604800) (b1 : 0 ≤ b) (b2 : b ≤ 604800) (h : spanL0 a = spanL0 b) : a = b := by
  have e : spanPs a = spanPs b := by rw [← split_span a1 a2, ← split_span b1 b2, h]
  obtain ⟨ps, hp⟩ := exists_ps (spanPs a)
  have ha := (span_ok a1 a2 hp).2.2
  have hb := (span_ok b1 b2 (hp.trans e)).2.2
  omega
theorem spanL_inj {a b : Int} (ha : -604800 ≤ a ∧ a ≤ 604800) (hb : -604800 ≤ b ∧ b ≤ 604800) (h : spanL a = spanL b) : a = b := by
  unfold spanL at h
  by_cases x : a < 0
  · by_cases y : b < 0
    · rw [if_pos x, if_pos y] at h
      have := spanL0_inj (a := -a) (b := -b) (by omega) (by omega) (by omega) (by omega) (by simpa using h)
      omega
    · rw [if_pos x, if_neg y] at h
      obtain ⟨c, r, e, ne⟩ := head0 (n := b) (by omega) (by omega)
      rw [e] at h
      injection h with h' _
      exact absurd h'.symm ne
  · by_cases y : b < 0
    · rw [if_neg x, if_pos y] at h
      obtain ⟨c, r, e, ne⟩ := head0 (n := a) (by omega) (by omega)
      rw [e] at h
      injection h with h' _
      exact absurd h' ne
    · rw [if_neg x, if_neg y] at h
      exact spanL0_inj (by omega) (by omega) (by omega) (by omega) h

/-- is the text that of a duration? -/
def IsSpan (l : List UInt8) (n : Int) : Prop := (-604800 ≤ n ∧ n ≤ 604800) ∧ spanL n = l
/-- what reading a text as a duration answers -/
def SpanAns (l : List UInt8) (e : Ending) : Prop := (∀ n, IsSpan l n → e = two n 0) ∧ ((¬ ∃ n, IsSpan l n) → e = two 0 3)
end Go.Proofs.YtmemgpmijphkmaaGreatDoor
namespace Go.Proofs.YtmemgpmijphkmaaGreatDoor
set_option linter.unusedVariables false
set_option linter.unusedSimpArgs false
theorem index_sep (c : UInt8) (b : List UInt8) : ∀ a : List UInt8, c ∉ a → Lib.index (a ++ c :: b) [c] = a.length
  | [], _ => by simp [Lib.index, List.isPrefixOf]
  | x :: a, h => by
    have hc : (c == x) = false := by
      have : ¬ c = x := fun e => h (by simp [e])
      simpa using this
    have ih := index_sep c b a (fun hm => h (List.mem_cons_of_mem _ hm))
    simp only [List.cons_append, Lib.index, List.isPrefixOf, hc, Bool.false_and, ih]
    have hn : ((a.length : Int) == -1) = false := by simp
    simp [hn]
theorem index_nosep (c : UInt8) : ∀ a : List UInt8, c ∉ a → Lib.index a [c] = -1
  | [], _ => by simp [Lib.index]
  | x :: a, h => by
    have hc : (c == x) = false := by
      have : ¬ c = x := fun e => h (by simp [e])
      simpa using this
    have ih := index_nosep c a (fun hm => h (List.mem_cons_of_mem _ hm))
    simp [Lib.index, List.isPrefixOf, hc, ih]
theorem split_no {c : UInt8} {a : List UInt8} (h : c ∉ a) : Lib.split a [c] = [a] := by
  unfold Lib.split
  rw [Lib.count_miss (index_nosep c a h)]
  rfl
theorem split_at {c : UInt8} {a : List UInt8} (b : List UInt8) (h : c ∉ a) : Lib.split (a ++ c :: b) [c] = a :: Lib.split b [c] := by
  unfold Lib.split
  have hi := index_sep c b a h
  have hc := Lib.count_hit (s := a ++ c :: b) (sub := [c]) (i := a.length) (by simp) hi
  have hd : (a ++ c :: b).drop (a.length + 1) = b := by simp
  simp only [List.length_cons, List.length_nil, Nat.zero_add] at hc
  rw [hd] at hc
  rw [hc, Nat.add_comm, Lib.splitK]
  have hm : ¬ (Lib.index (a ++ c :: b) [c] == -1) = true := fun e => by have := beq_iff_eq.1 e; omega
  rw [if_neg hm, hi]
  simp
theorem sep_cases (c : UInt8) (l : List UInt8) : c ∉ l ∨ ∃ a b, l = a ++ c :: b ∧ c ∉ a := by
  by_cases h : c ∈ l
  · right
    induction l with
    | nil => simp at h
    | cons x l ih =>
      by_cases e : x = c
      · exact ⟨[], l, by simp [e], by simp⟩
      · have hm : c ∈ l := by
          rcases List.mem_cons.1 h with q | q
          · exact absurd q.symm e
          · exact q
        obtain ⟨a, b, rfl, ha⟩ := ih hm
        exact ⟨x :: a, b, rfl, by intro q; rcases List.mem_cons.1 q with q | q; exact e q.symm; exact ha q⟩
  · exact Or.inl h
/-- words with a sign between them -/
def jn (c : UInt8) : List (List UInt8) → List UInt8
  | [] => []
  | [w] => w
  | w :: v :: ws => w ++ c :: jn c (v :: ws)
theorem split_ne (c : UInt8) (l : List UInt8) : ∃ w ws, Lib.split l [c] = w :: ws := by
  rcases sep_cases c l with h | ⟨a, b, rfl, h⟩
  · exact ⟨l, [], split_no h⟩
  · exact ⟨a, _, split_at b h⟩
theorem jn_split (c : UInt8) : ∀ (n : Nat) (l : List UInt8), l.length ≤ n → jn c (Lib.split l [c]) = l := by
  intro n
  induction n with
  | zero => intro l h; have e : l = [] := List.length_eq_zero_iff.1 (by omega); subst e; rw [split_no (by simp)]; rfl
  | succ n ih =>
    intro l h
    rcases sep_cases c l with h' | ⟨a, b, rfl, h'⟩
    · rw [split_no h']; rfl
    · rw [split_at b h']
      obtain ⟨w, ws, e⟩ := split_ne c b
      rw [e]
      unfold jn
      rw [← e, ih b (by simp at h; omega)]
theorem split_jn {c : UInt8} : ∀ {ws : List (List UInt8)} (_ : ws ≠ []) (_ : ∀ w ∈ ws, c ∉ w), Lib.split (jn c ws) [c] = ws
  | [], h, _ => absurd rfl h
  | [w], _, h => split_no (h w (by simp))
  | w :: v :: ws, _, h => by
    unfold jn
    rw [split_at _ (h w (by simp)), split_jn (ws := v :: ws) (by simp) (fun x hx => h x (List.mem_cons_of_mem _ hx))]
theorem lettersB_all {s o : List UInt8} : ∀ {n : Nat}, lettersB s o n = true → ∀ j, j < n → (alnum (bt s j) || inB o (bt s j) o.length) = true := by
  intro n
  induction n with
  | zero => intro _ j hj; omega
  | succ n ih =>
    intro h j hj
    unfold lettersB at h
    simp only [Bool.and_eq_true] at h
    by_cases e : j = n
    · rw [e]; exact h.2
    · exact ih h.1 j (by omega)
theorem no_blank_of {l : List UInt8} (h : ∀ j, j < l.length → ¬ bt l j = 32) : 32 ∉ l := fun hm => by
  obtain ⟨j, hj, e⟩ := List.getElem_of_mem hm
  refine h j hj ?_
  unfold bt
  simp [List.getD, List.getElem?_eq_getElem hj, e]
theorem name_blank {l : List UInt8} (h : isNameB l = true) : 32 ∉ l := by
  unfold isNameB at h
  simp only [Bool.and_eq_true] at h
  exact no_blank_of fun j hj e => by
    have := lettersB_all h.1.1.2 j hj
    rw [e] at this
    revert this; decide
theorem abbr_blank {l : List UInt8} (h : isAbbrB l = true) : 32 ∉ l := by
  unfold isAbbrB at h
  simp only [Bool.and_eq_true] at h
  exact no_blank_of fun j hj e => by
    have := lettersB_all h.2 j hj
    rw [e] at this
    revert this; decide
end Go.Proofs.YtmemgpmijphkmaaGreatDoor
namespace Go.Proofs.YtmemgpmijphkmaaGreatDoor
set_option linter.unusedVariables false
set_option linter.unusedSimpArgs false
/-- the words of a rule's text -/
def ruleW (nm lt : List UInt8) (fr t0 mo k d n at' by' sv : Int) : List (List UInt8) :=
  [[114, 117, 108, 101], nm, dz fr, dz t0, dz mo, dayL k d n, spanL at' ++ suf by', spanL sv, lt]
theorem ruleL_jn (nm lt : List UInt8) (fr t0 mo k d n at' by' sv : Int) : ruleL nm lt fr t0 mo k d n at' by' sv = jn 32 (ruleW nm lt fr t0 mo k d n at' by' sv) := by
  unfold ruleL ruleW jn jn jn jn jn jn jn jn jn
  simp
theorem dz_blank {n : Int} (h1 : 0 ≤ n) (h2 : n < 1000000000) : 32 ∉ dz n := no_blank_of fun j hj e => by
  have := (tells_all 8 n h1 (by omega)).1 j hj
  omega
theorem d2_blank {n : Int} (h1 : 0 ≤ n) (h2 : n < 100) : 32 ∉ d2 n := no_blank_of fun j hj e => by
  have := (tells2 h1 h2).1 j hj
  omega
theorem wk_blank {d : Int} (h1 : 0 ≤ d) (h2 : d ≤ 6) : 32 ∉ wk d := by
  have x : d = 0 ∨ d = 1 ∨ d = 2 ∨ d = 3 ∨ d = 4 ∨ d = 5 ∨ d = 6 := by omega
  rcases x with rfl | rfl | rfl | rfl | rfl | rfl | rfl <;> decide
theorem dayL_blank {k d n : Int} (h : DayOk k d n) : 32 ∉ dayL k d n := by
  have b := dayOk_bd h
  have z := dz_blank (n := n) (by omega) (by omega)
  have y := wk_blank (d := d) (by omega) (by omega)
  unfold dayL
  split
  · exact z
  · split
    · simp [y]
    · split <;> simp [y, z]
theorem span0_blank {n : Int} (h1 : 0 ≤ n) (h2 : n ≤ 604800) : 32 ∉ spanL0 n := by
  have a := dz_blank (n := n / 3600) (by omega) (by omega)
  have b := d2_blank (n := n / 60 % 60) (by omega) (by omega)
  have c := d2_blank (n := n % 60) (by omega) (by omega)
  unfold spanL0
  split <;> simp [a, b, c]
theorem span_blank {n : Int} (h1 : -604800 ≤ n) (h2 : n ≤ 604800) : 32 ∉ spanL n := by
  unfold spanL
  split
  · simp [span0_blank (n := -n) (by omega) (by omega)]
  · exact span0_blank (by omega) h2
theorem suf_blank (by' : Int) : 32 ∉ suf by' := by unfold suf; split <;> (try split) <;> decide
/-- the text of a rule falls into its words -/
theorem rule_split {nm lt : List UInt8} {fr t0 mo k d n at' by' sv : Int} (hy : RuleSyn nm lt) (hm : RuleNum fr t0 mo) (hd : DayOk k d n) (hr : RuleRest mo n at' by' sv) :
    Lib.split (ruleL nm lt fr t0 mo k d n at' by' sv) [32] = ruleW nm lt fr t0 mo k d n at' by' sv := by
  rw [ruleL_jn]
  obtain ⟨⟨f1, f2⟩, ⟨t1, t2⟩, ft, o1, o2⟩ := hm
  obtain ⟨_, ⟨a1, a2⟩, ⟨b1, b2⟩, s1, s2⟩ := hr
  refine split_jn (by unfold ruleW; simp) ?_
  intro w hw
  unfold ruleW at hw
  simp only [List.mem_cons, List.not_mem_nil, or_false] at hw
  rcases hw with rfl | rfl | rfl | rfl | rfl | rfl | rfl | rfl | rfl
  · decide
  · exact name_blank hy.1
  · exact dz_blank (by omega) (by omega)
  · exact dz_blank (by omega) (by omega)
  · exact dz_blank (by omega) (by omega)
  · exact dayL_blank hd
  · simp [span_blank a1 a2, suf_blank]
  · exact span_blank (by omega) (by omega)
  · rcases hy.2 with h | h
    · rw [h]; decide
    · exact abbr_blank h
end Go.Proofs.YtmemgpmijphkmaaGreatDoor
namespace Go.Proofs.YtmemgpmijphkmaaGreatDoor
set_option linter.unusedVariables false
set_option linter.unusedSimpArgs false
open Go.RowKit
theorem ruleC_zero {nm lt : List UInt8} {fr tto mo k d n at' by' sv : Int} : ruleC nm lt fr tto mo k d n at' by' sv = 0 ↔ RuleSyn nm lt ∧ RuleNum fr tto mo ∧ DayOk k d n ∧ RuleRest mo n at' by' sv := by
  unfold ruleC
  constructor
  · intro h
    split at h
    · split at h
      · split at h
        · split at h
          · rename_i a b c d'; exact ⟨a, b, c, d'⟩
          · cases h
        · cases h
      · cases h
    · cases h
  · rintro ⟨a, b, c, d'⟩
    rw [if_pos a, if_pos b, if_pos c, if_pos d']
/-- what RuleText answers -/
def ruleTextA (nm lt : List UInt8) (fr tto mo k d n at' by' sv : Int) : Ending :=
  if ruleC nm lt fr tto mo k d n at' by' sv = 0 then strInt (S (ruleL nm lt fr tto mo k d n at' by' sv)) 0 else strInt (S []) (ruleC nm lt fr tto mo k d n at' by' sv)

end Go.Proofs.YtmemgpmijphkmaaGreatDoor
