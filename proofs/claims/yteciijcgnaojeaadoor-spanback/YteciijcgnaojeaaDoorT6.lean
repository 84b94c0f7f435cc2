/- Durations as texts: what the reference's SpanRead answers is: the duration whose text it is, if there is one. No program in it. -/
import Derived.Test.YteciijcgnaojeaaDoorT5
namespace Go.Proofs.YteciijcgnaojeaaDoor
set_option linter.unusedVariables false
set_option linter.unusedSimpArgs false

theorem index_nf (b : List UInt8) : ∀ a : List UInt8, 58 ∉ a → Lib.index (a ++ 58 :: b) [58] = a.length
  | [], _ => by simp [Lib.index, List.isPrefixOf]
  | c :: a, h => by
    have hc : (58 == c) = false := by
      have : ¬ 58 = c := fun e => h (by simp [e])
      simpa using this
    have ih := index_nf b a (fun hm => h (List.mem_cons_of_mem _ hm))
    simp only [List.cons_append, Lib.index, List.isPrefixOf, hc, Bool.false_and, ih]
    have hn : ((a.length : Int) == -1) = false := by simp
    simp [hn]
theorem index_none : ∀ a : List UInt8, 58 ∉ a → Lib.index a [58] = -1
  | [], _ => by simp [Lib.index]
  | c :: a, h => by
    have hc : (58 == c) = false := by
      have : ¬ 58 = c := fun e => h (by simp [e])
      simpa using this
    have ih := index_none a (fun hm => h (List.mem_cons_of_mem _ hm))
    simp [Lib.index, List.isPrefixOf, hc, ih]
theorem split_one {a : List UInt8} (h : 58 ∉ a) : Lib.split a [58] = [a] := by
  unfold Lib.split
  rw [Lib.count_miss (index_none a h)]
  rfl
theorem split_cons {a : List UInt8} (b : List UInt8) (h : 58 ∉ a) : Lib.split (a ++ 58 :: b) [58] = a :: Lib.split b [58] := by
  unfold Lib.split
  have hi := index_nf b a h
  have hc := Lib.count_hit (s := a ++ 58 :: b) (sub := [58]) (i := a.length) (by simp) hi
  have hd : (a ++ 58 :: b).drop (a.length + 1) = b := by simp
  simp only [List.length_cons, List.length_nil, Nat.zero_add] at hc
  rw [hd] at hc
  rw [hc, Nat.add_comm, Lib.splitK]
  have hm : ¬ (Lib.index (a ++ 58 :: b) [58] == -1) = true := fun e => by have := beq_iff_eq.1 e; omega
  rw [if_neg hm, hi]
  simp
theorem pieces_split (t : ByteArray) : (pieces t).map (·.toList) = Lib.split t.toList [58] := by
  unfold pieces
  have := Lib.splitB_data ⟨#[58]⟩ 0 (Lib.countB t ⟨#[58]⟩) t
  have e : (fun x : ByteArray => x.toList) = fun x => x.data.toList := by funext x; exact ByteArray.toList_eq x
  rw [e, this, ByteArray.toList_eq]
  rfl

theorem u_ne {n : Int} (h1 : 48 ≤ n) (h2 : n ≤ 57) : ¬ (58 : UInt8) = u n := fun e => by
  have h := congrArg UInt8.toNat e
  have := u_toNat (n := n) (by omega) (by omega)
  have h3 : (58 : UInt8).toNat = 58 := rfl
  omega
theorem d2_no {n : Int} (h1 : 0 ≤ n) (h2 : n < 100) : 58 ∉ d2 n := by
  unfold d2
  simp only [List.mem_cons, List.not_mem_nil, or_false]
  rintro (h | h)
  · exact u_ne (by omega) (by omega) h
  · exact u_ne (by omega) (by omega) h
theorem dz_no : ∀ (k : Nat) (n : Int), 0 ≤ n → n < 10 ^ (k + 1) → 58 ∉ dz n := by
  intro k
  induction k with
  | zero =>
    intro n h0 h
    have h10 : n < 10 := by simpa using h
    rw [dz_small h0 h10]; simp only [List.mem_cons, List.not_mem_nil, or_false]; exact u_ne (by omega) (by omega)
  | succ k ih =>
    intro n h0 h
    by_cases c : n < 10
    · rw [dz_small h0 c]; simp only [List.mem_cons, List.not_mem_nil, or_false]; exact u_ne (by omega) (by omega)
    · rw [dz_big h0 c]
      simp only [List.mem_append, List.mem_cons, List.not_mem_nil, or_false]
      rintro (h' | h')
      · exact ih (n / 10) (by omega) (by rw [Int.pow_succ] at h; omega) h'
      · exact u_ne (by omega) (by omega) h'

/-- a list of digits that tells a number -/
def Tells (l : List UInt8) (n : Int) : Prop := (∀ j, j < l.length → 48 ≤ bt l j ∧ bt l j ≤ 57) ∧ numv l 0 l.length = n
theorem tells1 {n : Int} (h1 : 0 ≤ n) (h2 : n < 10) : Tells [u (48 + n)] n := by
  have k := u_toNat (n := 48 + n) (by omega) (by omega)
  refine ⟨fun j hj => ?_, ?_⟩
  · obtain rfl : j = 0 := by simpa using hj
    simp only [bt, List.getD_cons_zero]; omega
  · simp [numv, bt]; omega
theorem tells2 {n : Int} (h1 : 0 ≤ n) (h2 : n < 100) : Tells (d2 n) n := by
  have k := u_toNat (n := 48 + n / 10) (by omega) (by omega)
  have k' := u_toNat (n := 48 + n % 10) (by omega) (by omega)
  unfold d2
  refine ⟨fun j hj => ?_, ?_⟩
  · have : j = 0 ∨ j = 1 := by simp at hj; omega
    rcases this with e | e <;> subst e <;> simp [bt] <;> omega
  · simp [numv, bt]; omega
theorem tells3 {n : Int} (h1 : 100 ≤ n) (h2 : n < 1000) : Tells (dz n) n ∧ (dz n).length = 3 := by
  have k := u_toNat (n := 48 + n / 10 / 10) (by omega) (by omega)
  have k' := u_toNat (n := 48 + n / 10 % 10) (by omega) (by omega)
  have k'' := u_toNat (n := 48 + n % 10) (by omega) (by omega)
  have e : dz n = [u (48 + n / 10 / 10), u (48 + n / 10 % 10), u (48 + n % 10)] := by
    rw [dz_big (by omega) (by omega), dz_big (by omega) (by omega), dz_small (by omega) (by omega)]; rfl
  rw [e]
  refine ⟨⟨fun j hj => ?_, ?_⟩, rfl⟩
  · have : j = 0 ∨ j = 1 ∨ j = 2 := by simp at hj; omega
    rcases this with e | e | e <;> subst e <;> simp [bt] <;> omega
  · simp [numv, bt]; omega
theorem tells_dz {n : Int} (h1 : 0 ≤ n) (h2 : n < 1000) : Tells (dz n) n ∧ 1 ≤ (dz n).length ∧ (dz n).length ≤ 3 := by
  by_cases a : n < 10
  · rw [dz_small h1 a]; exact ⟨tells1 h1 a, by simp, by simp⟩
  · by_cases b : n < 100
    · rw [dz_d2 (by omega) b]; exact ⟨tells2 h1 b, by simp [d2], by simp [d2]⟩
    · have := tells3 (n := n) (by omega) h2
      exact ⟨this.1, by omega, by omega⟩

/-- the pieces of a duration's text -/
def spanPs (n : Int) : List (List UInt8) := if n % 60 = 0 then [dz (n / 3600), d2 (n / 60 % 60)] else [dz (n / 3600), d2 (n / 60 % 60), d2 (n % 60)]
theorem split_span {n : Int} (h1 : 0 ≤ n) (h2 : n ≤ 604800) : Lib.split (spanL0 n) [58] = spanPs n := by
  have a := dz_no 8 (n / 3600) (by omega) (by omega)
  have b := d2_no (n := n / 60 % 60) (by omega) (by omega)
  have c := d2_no (n := n % 60) (by omega) (by omega)
  unfold spanL0 spanPs
  by_cases h : n % 60 = 0
  · rw [if_pos h, if_pos h, split_cons _ a, List.append_nil, split_one b]
  · rw [if_neg h, if_neg h, split_cons _ a, split_cons _ b, split_one c]

theorem of_map {ps : List ByteArray} {L : List (List UInt8)} (h : ps.map (·.toList) = L) : ps.length = L.length ∧ ∀ k, k < L.length → (ps.getD k ByteArray.empty).toList = L.getD k [] ∧ (ps.getD k ByteArray.empty).size = (L.getD k []).length := by
  subst h
  refine ⟨by simp, fun k hk => ?_⟩
  have hk' : k < ps.length := by simpa using hk
  have e1 : ps.getD k ByteArray.empty = ps[k] := by simp [List.getD, List.getElem?_eq_getElem hk']
  have e2 : (ps.map (·.toList)).getD k [] = ps[k].toList := by simp [List.getD, List.getElem?_eq_getElem hk']
  rw [e1, e2]
  refine ⟨rfl, ?_⟩
  rw [ByteArray.toList_eq]; exact Array.length_toList.symm
theorem gp_of {k : Nat} {x : ByteArray} {l : List UInt8} {n : Int} (h1 : x.toList = l) (h2 : x.size = l.length) (ht : Tells l n) (a : 0 < k → l.length = 2) (b : 1 ≤ l.length) (c : l.length ≤ 3) : gp k x ∧ numv x.toList 0 x.size = n := by
  subst h1
  refine ⟨⟨fun hk => by rw [h2]; exact a hk, by omega, by omega, fun j hj => ht.1 j (by omega)⟩, ?_⟩
  rw [h2]; exact ht.2
theorem span_ok {n : Int} {ps : List ByteArray} (h1 : 0 ≤ n) (h2 : n ≤ 604800) (h : ps.map (·.toList) = spanPs n) : ps.length ≤ 3 ∧ (∀ k, k < ps.length → gp k (ps.getD k ByteArray.empty)) ∧ tot ps ps.length = n := by
  obtain ⟨hl, hk⟩ := of_map h
  have ta := tells_dz (n := n / 3600) (by omega) (by omega)
  have tb := tells2 (n := n / 60 % 60) (by omega) (by omega)
  have tc := tells2 (n := n % 60) (by omega) (by omega)
  by_cases c : n % 60 = 0
  · have e : spanPs n = [dz (n / 3600), d2 (n / 60 % 60)] := by simp [spanPs, c]
    rw [e] at hl hk
    have k0 := hk 0 (by simp)
    have k1 := hk 1 (by simp)
    have g0 := gp_of (k := 0) k0.1 k0.2 ta.1 (fun h => absurd h (by omega)) ta.2.1 ta.2.2
    have g1 := gp_of (k := 1) k1.1 k1.2 tb (fun _ => rfl) (by simp [d2]) (by simp [d2])
    have hl2 : ps.length = 2 := by simpa using hl
    refine ⟨by omega, fun k hk => ?_, ?_⟩
    · have : k = 0 ∨ k = 1 := by omega
      rcases this with e | e <;> subst e
      · exact g0.1
      · exact g1.1
    · rw [hl2]; simp only [tot, wt]; rw [g0.2, g1.2]; omega
  · have e : spanPs n = [dz (n / 3600), d2 (n / 60 % 60), d2 (n % 60)] := by simp [spanPs, c]
    rw [e] at hl hk
    have k0 := hk 0 (by simp)
    have k1 := hk 1 (by simp)
    have k2 := hk 2 (by simp)
    have g0 := gp_of (k := 0) k0.1 k0.2 ta.1 (fun h => absurd h (by omega)) ta.2.1 ta.2.2
    have g1 := gp_of (k := 1) k1.1 k1.2 tb (fun _ => rfl) (by simp [d2]) (by simp [d2])
    have g2 := gp_of (k := 2) k2.1 k2.2 tc (fun _ => rfl) (by simp [d2]) (by simp [d2])
    have hl3 : ps.length = 3 := by simpa using hl
    refine ⟨by omega, fun k hk => ?_, ?_⟩
    · have : k = 0 ∨ k = 1 ∨ k = 2 := by omega
      rcases this with e | e | e <;> subst e
      · exact g0.1
      · exact g1.1
      · exact g2.1
    · rw [hl3]; simp only [tot, wt]; rw [g0.2, g1.2, g2.2]; omega

theorem head0 {n : Int} (h1 : 0 ≤ n) (h2 : n ≤ 604800) : ∃ c r, spanL0 n = c :: r ∧ ¬ c = 45 := by
  obtain ⟨t, l1, _⟩ := tells_dz (n := n / 3600) (by omega) (by omega)
  unfold spanL0
  cases hd : dz (n / 3600) with
  | nil => rw [hd] at l1; simp at l1
  | cons c r =>
    refine ⟨c, _, rfl, fun e => ?_⟩
    have := t.1 0 (by omega)
    rw [hd] at this
    subst e
    simp [bt] at this
theorem exists_ps (L : List (List UInt8)) : ∃ ps : List ByteArray, ps.map (·.toList) = L := ⟨L.map S, by simp [List.map_map, Function.comp_def, S_toList]⟩
theorem spanL0_inj {a b : Int} (a1 : 0 ≤ a) (a2 : a ≤ 604800) (b1 : 0 ≤ b) (b2 : b ≤ 604800) (h : spanL0 a = spanL0 b) : a = b := by
  have e : spanPs a = spanPs b := by rw [← split_span a1 a2, ← split_span b1 b2, h]
  obtain ⟨ps, hp⟩ := exists_ps (spanPs a)
  have ha := (span_ok a1 a2 hp).2.2
  have hb := (span_ok b1 b2 (hp.trans e)).2.2
  omega
theorem spanL_inj {a b : Int} (ha : -604800 ≤ a ∧ a ≤ 604800) (hb : -604800 ≤ b ∧ b ≤ 604800) (h : spanL a = spanL b) : a = b := by
  unfold spanL at h
  by_cases x : a < 0
  · by_cases y : b < 0
    · rw [if_pos x, if_pos y] at h
      have := spanL0_inj (a := -a) (b := -b) (by omega) (by omega) (by omega) (by omega) (by simpa using h)
      omega
    · rw [if_pos x, if_neg y] at h
      obtain ⟨c, r, e, ne⟩ := head0 (n := b) (by omega) (by omega)
      rw [e] at h
      injection h with h' _
      exact absurd h'.symm ne
  · by_cases y : b < 0
    · rw [if_neg x, if_pos y] at h
      obtain ⟨c, r, e, ne⟩ := head0 (n := a) (by omega) (by omega)
      rw [e] at h
      injection h with h' _
      exact absurd h' ne
    · rw [if_neg x, if_neg y] at h
      exact spanL0_inj (by omega) (by omega) (by omega) (by omega) h

/-- is the text that of a duration? -/
def IsSpan (l : List UInt8) (n : Int) : Prop := (-604800 ≤ n ∧ n ≤ 604800) ∧ spanL n = l
/-- what reading a text as a duration answers -/
def SpanAns (l : List UInt8) (e : Ending) : Prop := (∀ n, IsSpan l n → e = two n 0) ∧ ((¬ ∃ n, IsSpan l n) → e = two 0 3)
theorem ans_of {l : List UInt8} {sg : Int} {ps : List ByteArray} (hy : ∀ n, IsSpan l n → ps.length ≤ 3 ∧ (∀ k, k < ps.length → gp k (ps.getD k ByteArray.empty)) ∧ sg * tot ps ps.length = n) : SpanAns l (spanRd l sg ps) := by
  refine ⟨fun n hn => ?_, fun hno => ?_⟩
  · obtain ⟨a, b, c⟩ := hy n hn
    have ok : SpanOk l sg ps := ⟨a, b, by rw [c]; exact hn.1, by rw [c]; exact hn.2⟩
    rw [← spanRd_yes ok, c]
  · exact (spanRd_no fun ok => hno ⟨_, ok.2.2.1, ok.2.2.2⟩).symm
theorem ans_pos (s : ByteArray) (hp : Lib.hasPrefix s.data.toList [45] = false) : SpanAns s.toList (spanRd s.toList 1 (pieces s)) := by
  refine ans_of fun n hn => ?_
  have h0 : 0 ≤ n := by
    by_cases x : n < 0
    · have e := hn.2
      unfold spanL at e
      rw [if_pos x] at e
      rw [ByteArray.toList_eq] at e
      rw [← e] at hp
      simp [Lib.hasPrefix, List.isPrefixOf] at hp
    · omega
  have e : spanL0 n = s.toList := by have := hn.2; unfold spanL at this; rwa [if_neg (by omega)] at this
  have hps : (pieces s).map (·.toList) = spanPs n := by rw [pieces_split, ← e, split_span h0 hn.1.2]
  obtain ⟨a, b, c⟩ := span_ok h0 hn.1.2 hps
  exact ⟨a, b, by rw [c]; omega⟩
theorem ans_neg (s : ByteArray) (hp : Lib.hasPrefix s.data.toList [45] = true) : SpanAns s.toList (spanRd s.toList (-1) (pieces (s.extract 1 s.size))) := by
  refine ans_of fun n hn => ?_
  have h0 : n < 0 := by
    by_cases x : n < 0
    · exact x
    · have e := hn.2
      unfold spanL at e
      rw [if_neg x] at e
      obtain ⟨c, r, e1, ne⟩ := head0 (n := n) (by omega) hn.1.2
      rw [ByteArray.toList_eq, e1] at e
      rw [← e] at hp
      simp [Lib.hasPrefix, List.isPrefixOf] at hp
      exact absurd hp.symm ne
  have hn1 := hn.1.1
  have e : 45 :: spanL0 (-n) = s.toList := by have := hn.2; unfold spanL at this; rwa [if_pos h0] at this
  have et : (s.extract 1 s.size).toList = spanL0 (-n) := by
    rw [ByteArray.toList_eq, Lib.extract_to_end, ← ByteArray.toList_eq, ← e]; rfl
  have hps : (pieces (s.extract 1 s.size)).map (·.toList) = spanPs (-n) := by rw [pieces_split, et, split_span (by omega) (by omega)]
  obtain ⟨a, b, c⟩ := span_ok (n := -n) (by omega) (by omega) hps
  exact ⟨a, b, by rw [c]; omega⟩
theorem prefix_size (s : ByteArray) (hp : Lib.hasPrefix s.data.toList [45] = true) : 1 ≤ s.size := by
  have hl : s.data.toList.length = s.size := Array.length_toList
  cases h : s.data.toList with
  | nil => rw [h] at hp; simp [Lib.hasPrefix, List.isPrefixOf] at hp
  | cons c r => rw [h] at hl; simp at hl; omega

/-- what the reference's ReadSpan leaves -/
def SpanRead (s : ByteArray) (w : World) (e : Ending) (w' : World) : Prop := SpanAns s.toList e ∧ Gr w w'
theorem rspanRead (s : ByteArray) (mx : Int) (w : World) (hs : s.size ≤ 1048576) (hm : w.cell? ⟨1, 0, none⟩ = some (.int .i64 mx)) :
    Calls Tryd.prog 17 #[.string s] w (SpanRead s w) := by
  cases hp : Lib.hasPrefix s.data.toList [45]
  · refine (rspanRead_pos s mx w hs hm hp).mono ?_
    rintro e w' ⟨rfl, hg⟩
    exact ⟨ans_pos s hp, hg⟩
  · refine (rspanRead_neg s mx w hs hm hp (prefix_size s hp)).mono ?_
    rintro e w' ⟨rfl, hg⟩
    exact ⟨ans_neg s hp, hg⟩
end Go.Proofs.YteciijcgnaojeaaDoor
