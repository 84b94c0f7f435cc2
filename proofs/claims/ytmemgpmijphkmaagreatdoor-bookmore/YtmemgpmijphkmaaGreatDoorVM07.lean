/- What the reference's SpanRead returns, for every text that is not too long. Durations as texts: what the reference's SpanRead answers is: the duration whose text it is, if there is one. No program in it. Texts cut at a sign, words between signs. No program in it. -/
import Derived.Lib.SplitLaws
import Derived.Deep.QuietTactic
import Derived.BigQuiet
import Derived.Test.YtmemgpmijphkmaaGreatDoorVM01
import Derived.Test.YtmemgpmijphkmaaGreatDoorVM05
import Derived.Test.YtmemgpmijphkmaaGreatDoorVM02
import Derived.Test.YtmemgpmijphkmaaGreatDoorVM06
namespace Go.Proofs.YtmemgpmijphkmaaGreatDoor
set_option linter.unusedVariables false
set_option linter.unusedSimpArgs false
open Go.RowKit
/-- the pieces of a text between its colons -/
def pieces (t : ByteArray) : List ByteArray := Lib.splitB ⟨#[58]⟩ 0 (Lib.countB t ⟨#[58]⟩) t
/-- what Split leaves -/
def Split (t : ByteArray) (w : World) (e : Ending) (w' : World) : Prop := ∃ g : Nat, e = .returned (.slice (some ⟨g, 0, none⟩) (pieces t).length (pieces t).length) ∧ Gr w w' ∧ ∀ j, j < (pieces t).length → w'.cell? ⟨g, j, none⟩ = some (.string ((pieces t).getD j ByteArray.empty))
/-- a piece that may stand at place k -/
def gp (k : Nat) (x : ByteArray) : Prop := (0 < k → x.size = 2) ∧ 1 ≤ x.size ∧ x.size ≤ 3 ∧ ∀ j, j < x.size → 48 ≤ bt x.toList j ∧ bt x.toList j ≤ 57
def wt : Nat → Int
  | 0 => 3600
  | 1 => 60
  | _ => 1
/-- what the first k pieces tell -/
def tot (ps : List ByteArray) : Nat → Int
  | 0 => 0
  | k + 1 => tot ps k + numv (ps.getD k ByteArray.empty).toList 0 (ps.getD k ByteArray.empty).size * wt k
end Go.Proofs.YtmemgpmijphkmaaGreatDoor
namespace Go.Proofs.YtmemgpmijphkmaaGreatDoor
set_option linter.unusedVariables false
set_option linter.unusedSimpArgs false
theorem index_nf (b : List UInt8) : ∀ a : List UInt8, 58 ∉ a → Lib.index (a ++ 58 :: b) [58] = a.length
  | [], _ => by simp [Lib.index, List.isPrefixOf]
  | c :: a, h => by
    have hc : (58 == c) = false := by
      have : ¬ 58 = c := fun e => h (by simp [e])
      simpa using this
    have ih := index_nf b a (fun hm => h (List.mem_cons_of_mem _ hm))
    simp only [List.cons_append, Lib.index, List.isPrefixOf, hc, Bool.false_and, ih]
    have hn : ((a.length : Int) == -1) = false := by simp
    simp [hn]
theorem index_none : ∀ a : List UInt8, 58 ∉ a → Lib.index a [58] = -1
  | [], _ => by simp [Lib.index]
  | c :: a, h => by
    have hc : (58 == c) = false := by
      have : ¬ 58 = c := fun e => h (by simp [e])
      simpa using this
    have ih := index_none a (fun hm => h (List.mem_cons_of_mem _ hm))
    simp [Lib.index, List.isPrefixOf, hc, ih]
theorem split_one {a : List UInt8} (h : 58 ∉ a) : Lib.split a [58] = [a] := by
  unfold Lib.split
  rw [Lib.count_miss (index_none a h)]
  rfl
theorem split_cons {a : List UInt8} (b : List UInt8) (h : 58 ∉ a) : Lib.split (a ++ 58 :: b) [58] = a :: Lib.split b [58] := by
  unfold Lib.split
  have hi := index_nf b a h
  have hc := Lib.count_hit (s := a ++ 58 :: b) (sub := [58]) (i := a.length) (by simp) hi
  have hd : (a ++ 58 :: b).drop (a.length + 1) = b := by simp
  simp only [List.length_cons, List.length_nil, Nat.zero_add] at hc
  rw [hd] at hc
  rw [hc, Nat.add_comm, Lib.splitK]
  have hm : ¬ (Lib.index (a ++ 58 :: b) [58] == -1) = true := fun e => by have := beq_iff_eq.1 e; omega
  rw [if_neg hm, hi]
  simp
/-- the pieces of a duration's text -/
def spanPs (n : Int) : List (List UInt8) := if n % 60 = 0 then [dz (n / 3600), d2 (n / 60 % 60)] else [dz (n / 3600), d2 (n / 60 % 60), d2 (n % 60)]
theorem split_span {n : Int} (h1 : 0 ≤ n) (h2 : n ≤ 604800) : Lib.split (spanL0 n) [58] = spanPs n := by
  have a := dz_no 8 (n / 3600) (by omega) (by omega)
  have b := d2_no (n := n / 60 % 60) (by omega) (by omega)
  have c := d2_no (n := n % 60) (by omega) (by omega)
  unfold spanL0 spanPs
  by_cases h : n % 60 = 0
  · rw [if_pos h, if_pos h, split_cons _ a, List.append_nil, split_one b]
  · rw [if_neg h, if_neg h, split_cons _ a, split_cons _ b, split_one c]

theorem of_map {ps : List ByteArray} {L : List (List UInt8)} (h : ps.map (·.toList) = L) : ps.length = L.length ∧ ∀ k, k < L.length → (ps.getD k ByteArray.empty).toList = L.getD k [] ∧ (ps.getD k ByteArray.empty).size = (L.getD k []).length := by
  subst h
  refine ⟨by simp, fun k hk => ?_⟩
  have hk' : k < ps.length := by simpa using hk
  have e1 : ps.getD k ByteArray.empty = ps[k] := by simp [List.getD, List.getElem?_eq_getElem hk']
  have e2 : (ps.map (·.toList)).getD k [] = ps[k].toList := by simp [List.getD, List.getElem?_eq_getElem hk']
  rw [e1, e2]
  refine ⟨rfl, ?_⟩
  rw [ByteArray.toList_eq]; exact Array.length_toList.symm
theorem gp_of {k : Nat} {x : ByteArray} {l : List UInt8} {n : Int} (h1 : x.toList = l) (h2 : x.size = l.length) (ht : Tells l n) (a : 0 < k → l.length = 2) (b : 1 ≤ l.length) (c : l.length ≤ 3) : gp k x ∧ numv x.toList 0 x.size = n := by
  subst h1
  refine ⟨⟨fun hk => by rw [h2]; exact a hk, by omega, by omega, fun j hj => ht.1 j (by omega)⟩, ?_⟩
  rw [h2]; exact ht.2
theorem span_ok {n : Int} {ps : List ByteArray} (h1 : 0 ≤ n) (h2 : n ≤ 604800) (h : ps.map (·.toList) = spanPs n) : ps.length ≤ 3 ∧ (∀ k, k < ps.length → gp k (ps.getD k ByteArray.empty)) ∧ tot ps ps.length = n := by
  obtain ⟨hl, hk⟩ := of_map h
  have ta := tells_dz (n := n / 3600) (by omega) (by omega)
  have tb := tells2 (n := n / 60 % 60) (by omega) (by omega)
  have tc := tells2 (n := n % 60) (by omega) (by omega)
  by_cases c : n % 60 = 0
  · have e : spanPs n = [dz (n / 3600), d2 (n / 60 % 60)] := by simp [spanPs, c]
    rw [e] at hl hk
    have k0 := hk 0 (by simp)
    have k1 := hk 1 (by simp)
    have g0 := gp_of (k := 0) k0.1 k0.2 ta.1 (fun h => absurd h (by omega)) ta.2.1 ta.2.2
    have g1 := gp_of (k := 1) k1.1 k1.2 tb (fun _ => rfl) (by simp [d2]) (by simp [d2])
    have hl2 : ps.length = 2 := by simpa using hl
    refine ⟨by omega, fun k hk => ?_, ?_⟩
    · have : k = 0 ∨ k = 1 := by omega
      rcases this with e | e <;> subst e
      · exact g0.1
      · exact g1.1
    · rw [hl2]; simp only [tot, wt]; rw [g0.2, g1.2]; omega
  · have e : spanPs n = [dz (n / 3600), d2 (n / 60 % 60), d2 (n % 60)] := by simp [spanPs, c]
    rw [e] at hl hk
    have k0 := hk 0 (by simp)
    have k1 := hk 1 (by simp)
    have k2 := hk 2 (by simp)
    have g0 := gp_of (k := 0) k0.1 k0.2 ta.1 (fun h => absurd h (by omega)) ta.2.1 ta.2.2
    have g1 := gp_of (k := 1) k1.1 k1.2 tb (fun _ => rfl) (by simp [d2]) (by simp [d2])
    have g2 := gp_of (k := 2) k2.1 k2.2 tc (fun _ => rfl) (by simp [d2]) (by simp [d2])
    have hl3 : ps.length = 3 := by simpa using hl
    refine ⟨by omega, fun k hk => ?_, ?_⟩
    · have : k = 0 ∨ k = 1 ∨ k = 2 := by omega
      rcases this with e | e | e <;> subst e
      · exact g0.1
      · exact g1.1
      · exact g2.1
    · rw [hl3]; simp only [tot, wt]; rw [g0.2, g1.2, g2.2]; omega

theorem head0 {n : Int} (h1 : 0 ≤ n) (h2 : n ≤ 604800) : ∃ c r, spanL0 n = c :: r ∧ ¬ c = 45 := by
  obtain ⟨t, l1, _⟩ := tells_dz (n := n / 3600) (by omega) (by omega)
  unfold spanL0
  cases hd : dz (n / 3600) with
  | nil => rw [hd] at l1; simp at l1
  | cons c r =>
    refine ⟨c, _, rfl, fun e => ?_⟩
    have := t.1 0 (by omega)
    rw [hd] at this
    subst e
    simp [bt] at this
theorem exists_ps (L : List (List UInt8)) : ∃ ps : List ByteArray, ps.map (·.toList) = L := ⟨L.map S, by simp [List.map_map, Function.comp_def, S_toList]⟩
theorem spanL0_inj {a b : Int} (a1 : 0 ≤ a) (a2 : a ≤ 604800) (b1 : 0 ≤ b) (b2 : b ≤ 604800) (h : spanL0 a = spanL0 b) : a = b := by
  have e : spanPs a = spanPs b := by rw [← split_span a1 a2, ← split_span b1 b2, h]
  obtain ⟨ps, hp⟩ := exists_ps (spanPs a)
  have ha := (span_ok a1 a2 hp).2.2
  have hb := (span_ok b1 b2 (hp.trans e)).2.2
  omega
theorem spanL_inj {a b : Int} (ha : -604800 ≤ a ∧ a ≤ 604800) (hb : -604800 ≤ b ∧ b ≤ 604800) (h : spanL a = spanL b) : a = b := by
  unfold spanL at h
  by_cases x : a < 0
  · by_cases y : b < 0
    · rw [if_pos x, if_pos y] at h
      have := spanL0_inj (a := -a) (b := -b) (by omega) (by omega) (by omega) (by omega) (by simpa using h)
      omega
    · rw [if_pos x, if_neg y] at h
      obtain ⟨c, r, e, ne⟩ := head0 (n := b) (by omega) (by omega)
      rw [e] at h
      injection h with h' _
      exact absurd h'.symm ne
  · by_cases y : b < 0
    · rw [if_neg x, if_pos y] at h
      obtain ⟨c, r, e, ne⟩ := head0 (n := a) (by omega) (by omega)
      rw [e] at h
      injection h with h' _
      exact absurd h' ne
    · rw [if_neg x, if_neg y] at h
      exact spanL0_inj (by omega) (by omega) (by omega) (by omega) h

/-- is the text that of a duration? -/
def IsSpan (l : List UInt8) (n : Int) : Prop := (-604800 ≤ n ∧ n ≤ 604800) ∧ spanL n = l
/-- what reading a text as a duration answers -/
def SpanAns (l : List UInt8) (e : Ending) : Prop := (∀ n, IsSpan l n → e = two n 0) ∧ ((¬ ∃ n, IsSpan l n) → e = two 0 3)
end Go.Proofs.YtmemgpmijphkmaaGreatDoor
namespace Go.Proofs.YtmemgpmijphkmaaGreatDoor
set_option linter.unusedVariables false
set_option linter.unusedSimpArgs false
theorem index_sep (c : UInt8) (b : List UInt8) : ∀ a : List UInt8, c ∉ a → Lib.index (a ++ c :: b) [c] = a.length
  | [], _ => by simp [Lib.index, List.isPrefixOf]
  | x :: a, h => by
    have hc : (c == x) = false := by
      have : ¬ c = x := fun e => h (by simp [e])
      simpa using this
    have ih := index_sep c b a (fun hm => h (List.mem_cons_of_mem _ hm))
    simp only [List.cons_append, Lib.index, List.isPrefixOf, hc, Bool.false_and, ih]
    have hn : ((a.length : Int) == -1) = false := by simp
    simp [hn]
theorem index_nosep (c : UInt8) : ∀ a : List UInt8, c ∉ a → Lib.index a [c] = -1
  | [], _ => by simp [Lib.index]
  | x :: a, h => by
    have hc : (c == x) = false := by
      have : ¬ c = x := fun e => h (by simp [e])
      simpa using this
    have ih := index_nosep c a (fun hm => h (List.mem_cons_of_mem _ hm))
    simp [Lib.index, List.isPrefixOf, hc, ih]
theorem split_no {c : UInt8} {a : List UInt8} (h : c ∉ a) : Lib.split a [c] = [a] := by
  unfold Lib.split
  rw [Lib.count_miss (index_nosep c a h)]
  rfl
theorem split_at {c : UInt8} {a : List UInt8} (b : List UInt8) (h : c ∉ a) : Lib.split (a ++ c :: b) [c] = a :: Lib.split b [c] := by
  unfold Lib.split
  have hi := index_sep c b a h
  have hc := Lib.count_hit (s := a ++ c :: b) (sub := [c]) (i := a.length) (by simp) hi
  have hd : (a ++ c :: b).drop (a.length + 1) = b := by simp
  simp only [List.length_cons, List.length_nil, Nat.zero_add] at hc
  rw [hd] at hc
  rw [hc, Nat.add_comm, Lib.splitK]
  have hm : ¬ (Lib.index (a ++ c :: b) [c] == -1) = true := fun e => by have := beq_iff_eq.1 e; omega
  rw [if_neg hm, hi]
  simp
theorem sep_cases (c : UInt8) (l : List UInt8) : c ∉ l ∨ ∃ a b, l = a ++ c :: b ∧ c ∉ a := by
  by_cases h : c ∈ l
  · right
    induction l with
    | nil => simp at h
    | cons x l ih =>
      by_cases e : x = c
      · exact ⟨[], l, by simp [e], by simp⟩
      · have hm : c ∈ l := by
          rcases List.mem_cons.1 h with q | q
          · exact absurd q.symm e
          · exact q
        obtain ⟨a, b, rfl, ha⟩ := ih hm
        exact ⟨x :: a, b, rfl, by intro q; rcases List.mem_cons.1 q with q | q; exact e q.symm; exact ha q⟩
  · exact Or.inl h
/-- words with a sign between them -/
def jn (c : UInt8) : List (List UInt8) → List UInt8
  | [] => []
  | [w] => w
  | w :: v :: ws => w ++ c :: jn c (v :: ws)
theorem split_jn {c : UInt8} : ∀ {ws : List (List UInt8)} (_ : ws ≠ []) (_ : ∀ w ∈ ws, c ∉ w), Lib.split (jn c ws) [c] = ws
  | [], h, _ => absurd rfl h
  | [w], _, h => split_no (h w (by simp))
  | w :: v :: ws, _, h => by
    unfold jn
    rw [split_at _ (h w (by simp)), split_jn (ws := v :: ws) (by simp) (fun x hx => h x (List.mem_cons_of_mem _ hx))]
theorem lettersB_all {s o : List UInt8} : ∀ {n : Nat}, lettersB s o n = true → ∀ j, j < n → (alnum (bt s j) || inB o (bt s j) o.length) = true := by
  intro n
  induction n with
  | zero => intro _ j hj; omega
  | succ n ih =>
    intro h j hj
    unfold lettersB at h
    simp only [Bool.and_eq_true] at h
    by_cases e : j = n
    · rw [e]; exact h.2
    · exact ih h.1 j (by omega)
theorem no_blank_of {l : List UInt8} (h : ∀ j, j < l.length → ¬ bt l j = 32) : 32 ∉ l := fun hm => by
  obtain ⟨j, hj, e⟩ := List.getElem_of_mem hm
  refine h j hj ?_
  unfold bt
  simp [List.getD, List.getElem?_eq_getElem hj, e]
theorem name_blank {l : List UInt8} (h : isNameB l = true) : 32 ∉ l := by
  unfold isNameB at h
  simp only [Bool.and_eq_true] at h
  exact no_blank_of fun j hj e => by
    have := lettersB_all h.1.1.2 j hj
    rw [e] at this
    revert this; decide
theorem abbr_blank {l : List UInt8} (h : isAbbrB l = true) : 32 ∉ l := by
  unfold isAbbrB at h
  simp only [Bool.and_eq_true] at h
  exact no_blank_of fun j hj e => by
    have := lettersB_all h.2 j hj
    rw [e] at this
    revert this; decide
end Go.Proofs.YtmemgpmijphkmaaGreatDoor
