/- Durations as texts: what the reference's SpanRead answers is: the duration whose text it is, if there is one. No program in it. Words between blanks: a rule's text and its words. No program in it. What the reference's RuleParse returns: the state that its walk carries. -/
import Derived.Test.YtkkilmmpmiichaaGreatDoorYM18
import Derived.Test.YtkkilmmpmiichaaGreatDoorYM07
import Derived.Lib.SplitLaws
import Derived.Laws.Rows
import Derived.Test.YtkkilmmpmiichaaGreatDoorYM16
import Derived.Test.YtkkilmmpmiichaaGreatDoorYM08
namespace Go.Proofs.YtkkilmmpmiichaaGreatDoor
set_option linter.unusedVariables false
set_option linter.unusedSimpArgs false
theorem index_nf (b : List UInt8) : ∀ a : List UInt8, 58 ∉ a → Lib.index (a ++ 58 :: b) [58] = a.length
  | [], _ => by simp [Lib.index, List.isPrefixOf]
  | c :: a, h => by
    have hc : (58 == c) = false := by
      have : ¬ 58 = c := fun e => h (by simp [e])
      simpa using this
    have ih := index_nf b a (fun hm => h (List.mem_cons_of_mem _ hm))
    simp only [List.cons_append, Lib.index, List.isPrefixOf, hc, Bool.false_and, ih]
    have hn : ((a.length : Int) == -1) = false := by simp
    simp [hn]
theorem index_none : ∀ a : List UInt8, 58 ∉ a → Lib.index a [58] = -1
  | [], _ => by simp [Lib.index]
  | c :: a, h => by
    have hc : (58 == c) = false := by
      have : ¬ 58 = c := fun e => h (by simp [e])
      simpa using this
    have ih := index_none a (fun hm => h (List.mem_cons_of_mem _ hm))
    simp [Lib.index, List.isPrefixOf, hc, ih]
theorem split_one {a : List UInt8} (h : 58 ∉ a) : Lib.split a [58] = [a] := by
  unfold Lib.split
  rw [Lib.count_miss (index_none a h)]
  rfl
theorem split_cons {a : List UInt8} (b : List UInt8) (h : 58 ∉ a) : Lib.split (a ++ 58 :: b) [58] = a :: Lib.split b [58] := by
  unfold Lib.split
  have hi := index_nf b a h
  have hc := Lib.count_hit (s := a ++ 58 :: b) (sub := [58]) (i := a.length) (by simp) hi
  have hd : (a ++ 58 :: b).drop (a.length + 1) = b := by simp
  simp only [List.length_cons, List.length_nil, Nat.zero_add] at hc
  rw [hd] at hc
  rw [hc, Nat.add_comm, Lib.splitK]
  have hm : ¬ (Lib.index (a ++ 58 :: b) [58] == -1) = true := fun e => by have := beq_iff_eq.1 e; omega
  rw [if_neg hm, hi]
  simp
theorem pieces_split (t : ByteArray) : (pieces t).map (·.toList) = Lib.split t.toList [58] := by
  unfold pieces
  have := Lib.splitB_data ⟨#[58]⟩ 0 (Lib.countB t ⟨#[58]⟩) t
  have e : (fun x : ByteArray => x.toList) = fun x => x.data.toList := by funext x; exact ByteArray.toList_eq x
  rw [e, this, ByteArray.toList_eq]
  rfl

/-- the pieces of a duration's text -/
def spanPs (n : Int) : List (List UInt8) := if n % 60 = 0 then [dz (n / 3600), d2 (n / 60 % 60)] else [dz (n / 3600), d2 (n / 60 % 60), d2 (n % 60)]
theorem split_span {n : Int} (h1 : 0 ≤ n) (h2 : n ≤ 604800) : Lib.split (spanL0 n) [58] = spanPs n := by
  have a := dz_no 8 (n / 3600) (by omega) (by omega)
  have b := d2_no (n := n / 60 % 60) (by omega) (by omega)
  have c := d2_no (n := n % 60) (by omega) (by omega)
  unfold spanL0 spanPs
  by_cases h : n % 60 = 0
  · rw [if_pos h, if_pos h, split_cons _ a, List.append_nil, split_one b]
  · rw [if_neg h, if_neg h, split_cons _ a, split_cons _ b, split_one c]

theorem of_map {ps : List ByteArray} {L : List (List UInt8)} (h : ps.map (·.toList) = L) : ps.length = L.length ∧ ∀ k, k < L.length → (ps.getD k ByteArray.empty).toList = L.getD k [] ∧ (ps.getD k ByteArray.empty).size = (L.getD k []).length := by
  subst h
  refine ⟨by simp, fun k hk => ?_⟩
  have hk' : k < ps.length := by simpa using hk
  have e1 : ps.getD k ByteArray.empty = ps[k] := by simp [List.getD, List.getElem?_eq_getElem hk']
  have e2 : (ps.map (·.toList)).getD k [] = ps[k].toList := by simp [List.getD, List.getElem?_eq_getElem hk']
  rw [e1, e2]
  refine ⟨rfl, ?_⟩
  rw [ByteArray.toList_eq]; exact Array.length_toList.symm
theorem gp_of {k : Nat} {x : ByteArray} {l : List UInt8} {n : Int} (h1 : x.toList = l) (h2 : x.size = l.length) (ht : Tells l n) (a : 0 < k → l.length = 2) (b : 1 ≤ l.length) (c : l.length ≤ 3) : gp k x ∧ numv x.toList 0 x.size = n := by
  subst h1
  refine ⟨⟨fun hk => by rw [h2]; exact a hk, by omega, by omega, fun j hj => ht.1 j (by omega)⟩, ?_⟩
  rw [h2]; exact ht.2
theorem span_ok {n : Int} {ps : List ByteArray} (h1 : 0 ≤ n) (h2 : n ≤ 604800) (h : ps.map (·.toList) = spanPs n) : ps.length ≤ 3 ∧ (∀ k, k < ps.length → gp k (ps.getD k ByteArray.empty)) ∧ tot ps ps.length = n := by
  obtain ⟨hl, hk⟩ := of_map h
  have ta := tells_dz (n := n / 3600) (by omega) (by omega)
  have tb := tells2 (n := n / 60 % 60) (by omega) (by omega)
  have tc := tells2 (n := n % 60) (by omega) (by omega)
  by_cases c : n % 60 = 0
  · have e : spanPs n = [dz (n / 3600), d2 (n / 60 % 60)] := by simp [spanPs, c]
    rw [e] at hl hk
    have k0 := hk 0 (by simp)
    have k1 := hk 1 (by simp)
    have g0 := gp_of (k := 0) k0.1 k0.2 ta.1 (fun h => absurd h (by omega)) ta.2.1 ta.2.2
    have g1 := gp_of (k := 1) k1.1 k1.2 tb (fun _ => rfl) (by simp [d2]) (by simp [d2])
    have hl2 : ps.length = 2 := by simpa using hl
    refine ⟨by omega, fun k hk => ?_, ?_⟩
    · have : k = 0 ∨ k = 1 := by omega
      rcases this with e | e <;> subst e
      · exact g0.1
      · exact g1.1
    · rw [hl2]; simp only [tot, wt]; rw [g0.2, g1.2]; omega
  · have e : spanPs n = [dz (n / 3600), d2 (n / 60 % 60), d2 (n % 60)] := by simp [spanPs, c]
    rw [e] at hl hk
    have k0 := hk 0 (by simp)
    have k1 := hk 1 (by simp)
    have k2 := hk 2 (by simp)
    have g0 := gp_of (k := 0) k0.1 k0.2 ta.1 (fun h => absurd h (by omega)) ta.2.1 ta.2.2
    have g1 := gp_of (k := 1) k1.1 k1.2 tb (fun _ => rfl) (by simp [d2]) (by simp [d2])
    have g2 := gp_of (k := 2) k2.1 k2.2 tc (fun _ => rfl) (by simp [d2]) (by simp [d2])
    have hl3 : ps.length = 3 := by simpa using hl
    refine ⟨by omega, fun k hk => ?_, ?_⟩
    · have : k = 0 ∨ k = 1 ∨ k = 2 := by omega
      rcases this with e | e | e <;> subst e
      · exact g0.1
      · exact g1.1
      · exact g2.1
    · rw [hl3]; simp only [tot, wt]; rw [g0.2, g1.2, g2.2]; omega

theorem head0 {n : Int} (h1 : 0 ≤ n) (h2 : n ≤ 604800) : ∃ c r, spanL0 n = c :: r ∧ ¬ c = 45 := by
  obtain ⟨t, l1, _⟩ := tells_dz (n := n / 3600) (by omega) (by omega)
  unfold spanL0
  cases hd : dz (n / 3600) with
  | nil => rw [hd] at l1; simp at l1
  | cons c r =>
    refine ⟨c, _, rfl, fun e => ?_⟩
    have := t.1 0 (by omega)
    rw [hd] at this
    subst e
    simp [bt] at this
theorem exists_ps (L : List (List UInt8)) : ∃ ps : List ByteArray, ps.map (·.toList) = L := ⟨L.map S, by simp [List.map_map, Function.comp_def, S_toList]⟩
theorem spanL0_inj {a b : Int} (a1 : 0 ≤ a) (a2 : a ≤ 604800) (b1 : 0 ≤ b) (b2 : b ≤ 604800) (h : spanL0 a = spanL0 b) : a = b := by
  have e : spanPs a = spanPs b := by rw [← split_span a1 a2, ← split_span b1 b2, h]
  obtain ⟨ps, hp⟩ := exists_ps (spanPs a)
  have ha := (span_ok a1 a2 hp).2.2
  have hb := (span_ok b1 b2 (hp.trans e)).2.2
  omega
theorem spanL_inj {a b : Int} (ha : -604800 ≤ a ∧ a ≤ 604800) (hb : -604800 ≤ b ∧ b ≤ 604800) (h : spanL a = spanL b) : a = b := by
  unfold spanL at h
  by_cases x : a < 0
  · by_cases y : b < 0
    · rw [if_pos x, if_pos y] at h
      have := spanL0_inj (a := -a) (b := -b) (by omega) (by omega) (by omega) (by omega) (by simpa using h)
      omega
    · rw [if_pos x, if_neg y] at h
      obtain ⟨c, r, e, ne⟩ := head0 (n := b) (by omega) (by omega)
      rw [e] at h
      injection h with h' _
      exact absurd h'.symm ne
  · by_cases y : b < 0
    · rw [if_neg x, if_pos y] at h
      obtain ⟨c, r, e, ne⟩ := head0 (n := a) (by omega) (by omega)
      rw [e] at h
      injection h with h' _
      exact absurd h' ne
    · rw [if_neg x, if_neg y] at h
      exact spanL0_inj (by omega) (by omega) (by omega) (by omega) h

/-- is the text that of a duration? -/
def IsSpan (l : List UInt8) (n : Int) : Prop := (-604800 ≤ n ∧ n ≤ 604800) ∧ spanL n = l
/-- what reading a text as a duration answers -/
def SpanAns (l : List UInt8) (e : Ending) : Prop := (∀ n, IsSpan l n → e = two n 0) ∧ ((¬ ∃ n, IsSpan l n) → e = two 0 3)
theorem ans_of {l : List UInt8} {sg : Int} {ps : List ByteArray} (hy : ∀ n, IsSpan l n → ps.length ≤ 3 ∧ (∀ k, k < ps.length → gp k (ps.getD k ByteArray.empty)) ∧ sg * tot ps ps.length = n) : SpanAns l (spanRd l sg ps) := by
  refine ⟨fun n hn => ?_, fun hno => ?_⟩
  · obtain ⟨a, b, c⟩ := hy n hn
    have ok : SpanOk l sg ps := ⟨a, b, by rw [c]; exact hn.1, by rw [c]; exact hn.2⟩
    rw [← spanRd_yes ok, c]
  · exact (spanRd_no fun ok => hno ⟨_, ok.2.2.1, ok.2.2.2⟩).symm
theorem ans_pos (s : ByteArray) (hp : Lib.hasPrefix s.data.toList [45] = false) : SpanAns s.toList (spanRd s.toList 1 (pieces s)) := by
  refine ans_of fun n hn => ?_
  have h0 : 0 ≤ n := by
    by_cases x : n < 0
    · have e := hn.2
      unfold spanL at e
      rw [if_pos x] at e
      rw [ByteArray.toList_eq] at e
      rw [← e] at hp
      simp [Lib.hasPrefix, List.isPrefixOf] at hp
    · omega
  have e : spanL0 n = s.toList := by have := hn.2; unfold spanL at this; rwa [if_neg (by omega)] at this
  have hps : (pieces s).map (·.toList) = spanPs n := by rw [pieces_split, ← e, split_span h0 hn.1.2]
  obtain ⟨a, b, c⟩ := span_ok h0 hn.1.2 hps
  exact ⟨a, b, by rw [c]; omega⟩
theorem ans_neg (s : ByteArray) (hp : Lib.hasPrefix s.data.toList [45] = true) : SpanAns s.toList (spanRd s.toList (-1) (pieces (s.extract 1 s.size))) := by
  refine ans_of fun n hn => ?_
  have h0 : n < 0 := by
    by_cases x : n < 0
    · exact x
    · have e := hn.2
      unfold spanL at e
      rw [if_neg x] at e
      obtain ⟨c, r, e1, ne⟩ := head0 (n := n) (by omega) hn.1.2
      rw [ByteArray.toList_eq, e1] at e
      rw [← e] at hp
      simp [Lib.hasPrefix, List.isPrefixOf] at hp
      exact absurd hp.symm ne
  have hn1 := hn.1.1
  have e : 45 :: spanL0 (-n) = s.toList := by have := hn.2; unfold spanL at this; rwa [if_pos h0] at this
  have et : (s.extract 1 s.size).toList = spanL0 (-n) := by
    rw [ByteArray.toList_eq, Lib.extract_to_end, ← ByteArray.toList_eq, ← e]; rfl
  have hps : (pieces (s.extract 1 s.size)).map (·.toList) = spanPs (-n) := by rw [pieces_split, et, split_span (by omega) (by omega)]
  obtain ⟨a, b, c⟩ := span_ok (n := -n) (by omega) (by omega) hps
  exact ⟨a, b, by rw [c]; omega⟩
theorem prefix_size (s : ByteArray) (hp : Lib.hasPrefix s.data.toList [45] = true) : 1 ≤ s.size := by
  have hl : s.data.toList.length = s.size := Array.length_toList
  cases h : s.data.toList with
  | nil => rw [h] at hp; simp [Lib.hasPrefix, List.isPrefixOf] at hp
  | cons c r => rw [h] at hl; simp at hl; omega

/-- what the reference's ReadSpan leaves -/
def SpanRead (s : ByteArray) (w : World) (e : Ending) (w' : World) : Prop := SpanAns s.toList e ∧ Gr w w'
theorem rspanRead (s : ByteArray) (mx : Int) (w : World) (hs : s.size ≤ 1048576) (hm : w.cell? ⟨0, 0, none⟩ = some (.int .i64 mx)) :
    Calls Tryz.prog 13 #[.string s] w (SpanRead s w) := by
  cases hp : Lib.hasPrefix s.data.toList [45]
  · refine (rspanRead_pos s mx w hs hm hp).mono ?_
    rintro e w' ⟨rfl, hg⟩
    exact ⟨ans_pos s hp, hg⟩
  · refine (rspanRead_neg s mx w hs hm hp (prefix_size s hp)).mono ?_
    rintro e w' ⟨rfl, hg⟩
    exact ⟨ans_neg s hp, hg⟩
end Go.Proofs.YtkkilmmpmiichaaGreatDoor
namespace Go.Proofs.YtkkilmmpmiichaaGreatDoor
set_option linter.unusedVariables false
set_option linter.unusedSimpArgs false
/-- the words of a rule's text -/
def ruleW (nm lt : List UInt8) (fr t0 mo k d n at' by' sv : Int) : List (List UInt8) :=
  [[114, 117, 108, 101], nm, dz fr, dz t0, dz mo, dayL k d n, spanL at' ++ suf by', spanL sv, lt]
theorem ruleL_jn (nm lt : List UInt8) (fr t0 mo k d n at' by' sv : Int) : ruleL nm lt fr t0 mo k d n at' by' sv = jn 32 (ruleW nm lt fr t0 mo k d n at' by' sv) := by
  unfold ruleL ruleW jn jn jn jn jn jn jn jn jn
  simp
theorem dz_blank {n : Int} (h1 : 0 ≤ n) (h2 : n < 1000000000) : 32 ∉ dz n := no_blank_of fun j hj e => by
  have := (tells_all 8 n h1 (by omega)).1 j hj
  omega
theorem d2_blank {n : Int} (h1 : 0 ≤ n) (h2 : n < 100) : 32 ∉ d2 n := no_blank_of fun j hj e => by
  have := (tells2 h1 h2).1 j hj
  omega
theorem wk_blank {d : Int} (h1 : 0 ≤ d) (h2 : d ≤ 6) : 32 ∉ wk d := by
  have x : d = 0 ∨ d = 1 ∨ d = 2 ∨ d = 3 ∨ d = 4 ∨ d = 5 ∨ d = 6 := by omega
  rcases x with rfl | rfl | rfl | rfl | rfl | rfl | rfl <;> decide
theorem dayL_blank {k d n : Int} (h : DayOk k d n) : 32 ∉ dayL k d n := by
  have b := dayOk_bd h
  have z := dz_blank (n := n) (by omega) (by omega)
  have y := wk_blank (d := d) (by omega) (by omega)
  unfold dayL
  split
  · exact z
  · split
    · simp [y]
    · split <;> simp [y, z]
theorem span0_blank {n : Int} (h1 : 0 ≤ n) (h2 : n ≤ 604800) : 32 ∉ spanL0 n := by
  have a := dz_blank (n := n / 3600) (by omega) (by omega)
  have b := d2_blank (n := n / 60 % 60) (by omega) (by omega)
  have c := d2_blank (n := n % 60) (by omega) (by omega)
  unfold spanL0
  split <;> simp [a, b, c]
theorem span_blank {n : Int} (h1 : -604800 ≤ n) (h2 : n ≤ 604800) : 32 ∉ spanL n := by
  unfold spanL
  split
  · simp [span0_blank (n := -n) (by omega) (by omega)]
  · exact span0_blank (by omega) h2
theorem suf_blank (by' : Int) : 32 ∉ suf by' := by unfold suf; split <;> (try split) <;> decide
/-- the text of a rule falls into its words -/
theorem rule_split {nm lt : List UInt8} {fr t0 mo k d n at' by' sv : Int} (hy : RuleSyn nm lt) (hm : RuleNum fr t0 mo) (hd : DayOk k d n) (hr : RuleRest mo n at' by' sv) :
    Lib.split (ruleL nm lt fr t0 mo k d n at' by' sv) [32] = ruleW nm lt fr t0 mo k d n at' by' sv := by
  rw [ruleL_jn]
  obtain ⟨⟨f1, f2⟩, ⟨t1, t2⟩, ft, o1, o2⟩ := hm
  obtain ⟨_, ⟨a1, a2⟩, ⟨b1, b2⟩, s1, s2⟩ := hr
  refine split_jn (by unfold ruleW; simp) ?_
  intro w hw
  unfold ruleW at hw
  simp only [List.mem_cons, List.not_mem_nil, or_false] at hw
  rcases hw with rfl | rfl | rfl | rfl | rfl | rfl | rfl | rfl | rfl
  · decide
  · exact name_blank hy.1
  · exact dz_blank (by omega) (by omega)
  · exact dz_blank (by omega) (by omega)
  · exact dz_blank (by omega) (by omega)
  · exact dayL_blank hd
  · simp [span_blank a1 a2, suf_blank]
  · exact span_blank (by omega) (by omega)
  · rcases hy.2 with h | h
    · rw [h]; decide
    · exact abbr_blank h
end Go.Proofs.YtkkilmmpmiichaaGreatDoor
namespace Go.Proofs.YtkkilmmpmiichaaGreatDoor
set_option linter.unusedVariables false
set_option linter.unusedSimpArgs false
open Go.RowKit
/-- the words of a text -/
def bl (t : ByteArray) : List ByteArray := Lib.splitB ⟨#[32]⟩ 0 (Lib.countB t ⟨#[32]⟩) t
theorem bl_len (t : ByteArray) : (bl t).length = Lib.countB t ⟨#[32]⟩ + 1 := Lib.splitB_all ⟨#[32]⟩ (by decide) 0 _ t rfl
theorem bl_split (t : ByteArray) : (bl t).map (·.toList) = Lib.split t.toList [32] := by
  unfold bl
  have := Lib.splitB_data ⟨#[32]⟩ 0 (Lib.countB t ⟨#[32]⟩) t
  have e : (fun x : ByteArray => x.toList) = fun x => x.data.toList := by funext x; exact ByteArray.toList_eq x
  rw [e, this, ByteArray.toList_eq]
  rfl
/-- the k-th word -/
def wd (t : ByteArray) (k : Nat) : ByteArray := (bl t).getD k ByteArray.empty
theorem split_size (c : UInt8) : ∀ (n : Nat) (l : List UInt8), l.length ≤ n → ∀ w, w ∈ Lib.split l [c] → w.length ≤ l.length := by
  intro n
  induction n with
  | zero => intro l h w hw; have e : l = [] := List.length_eq_zero_iff.1 (by omega); subst e; rw [split_no (by simp)] at hw; simp at hw; simp [hw]
  | succ n ih =>
    intro l h w hw
    rcases sep_cases c l with h' | ⟨a, b, rfl, h'⟩
    · rw [split_no h'] at hw; simp at hw; simp [hw]
    · rw [split_at b h'] at hw
      simp at h
      rcases List.mem_cons.1 hw with rfl | hw
      · simp
      · have := ih b (by omega) w hw
        simp; omega
theorem wd_size {t : ByteArray} (k : Nat) : (wd t k).size ≤ t.size := by
  by_cases h : k < (bl t).length
  · have m : wd t k ∈ bl t := by unfold wd; simp [List.getD, List.getElem?_eq_getElem h]
    have m2 : (wd t k).toList ∈ Lib.split t.toList [32] := by rw [← bl_split]; exact List.mem_map_of_mem m
    have := split_size 32 _ t.toList (Nat.le_refl _) _ m2
    rw [toList_size, toList_size] at this
    exact this
  · unfold wd; rw [List.getD, List.getElem?_eq_none (by omega)]; simp

/-- what Split leaves -/
def Split32 (t : ByteArray) (w : World) (e : Ending) (w' : World) : Prop := ∃ g : Nat, w.heap.size ≤ g ∧ e = .returned (.slice (some ⟨g, 0, none⟩) (bl t).length (bl t).length) ∧ Gr w w' ∧ ∀ j, j < (bl t).length → w'.cell? ⟨g, j, none⟩ = some (.string (wd t j))
theorem split32 (t : ByteArray) (m : Int) (w : World) (hs : t.size ≤ 1048576) (hm : w.cell? ⟨0, 0, none⟩ = some (.int .i64 m)) :
    Calls Tryz.prog 8 #[.string t, .string ⟨#[32]⟩] w (Split32 t w) := by
  refine (Tryz.strings_Split t ⟨#[32]⟩ m w (by omega) hm (by decide)).mono ?_
  rintro e w' ⟨rfl, rfl⟩
  refine ⟨w.heap.size, Nat.le_refl _, by rw [bl_len], Gr.alloc _ _, fun j hj => ?_⟩
  rw [World.cell?_alloc_new]
  show ((bl t).map Value.string).toArray[j]? = _
  unfold wd
  simp [List.getD, List.getElem?_eq_getElem hj]

/-- the cells of an empty rule -/
abbrev zrow : Array Value := #[.string ⟨#[]⟩, .int .i64 0, .int .i64 0, .int .i64 0, .int .i64 0, .int .i64 0, .int .i64 0, .int .i64 0, .int .i64 0, .int .i64 0, .string ⟨#[]⟩]
/-- the state of the walk: the words, the rule that is built, the result that is still empty -/
def PS (w W : World) (g q : Nat) (t : ByteArray) (row : Array Value) : Prop :=
  (∀ i, i < (bl t).length → W.cell? ⟨g, i, none⟩ = some (.string (wd t i))) ∧ W.heap[q]? = some (.cells row 42 (0, 0)) ∧ W.heap[w.heap.size]? = some (.cells zrow 42 (0, 0)) ∧ Gr w W ∧ w.heap.size < g ∧ g < q
theorem heap_lt {W : World} {b : Nat} {o : Obj} (h : W.heap[b]? = some o) : b < W.heap.size := by
  by_cases c : b < W.heap.size
  · exact c
  · rw [Array.getElem?_eq_none (by omega)] at h; cases h
theorem PS.gr {w W W' : World} {g q : Nat} {t : ByteArray} {row : Array Value} (h : PS w W g q t row) (k : Gr W W') : PS w W' g q t row := by
  obtain ⟨a, b, c, d, e, f⟩ := h
  exact ⟨fun i hi => k.holds (a i hi), by rw [Below.block k q (heap_lt b)]; exact b, by rw [Below.block k _ (heap_lt c)]; exact c, d.trans k, e, f⟩
theorem PS.set {w W : World} {g q : Nat} {t : ByteArray} {row : Array Value} (h : PS w W g q t row) (i : Nat) (v : Value) : PS w (W.setCell ⟨q, i, none⟩ v) g q t (row.setIfInBounds i v) := by
  obtain ⟨a, b, c, d, e, f⟩ := h
  refine ⟨fun j hj => ?_, heap_setCell_same W q i row 42 v b, ?_, Below.setCell d (by show w.heap.size ≤ q; omega) _, e, f⟩
  · rw [World.cell?_setCell_other W _ _ _ (by intro x; have := congrArg Addr.block x; simp at this; omega)]; exact a j hj
  · rw [heap_setCell_other W ⟨q, i, none⟩ _ v (by show ¬ w.heap.size = q; omega)]; exact c
theorem PS.drewN {w W : World} {g q : Nat} {t : ByteArray} {row : Array Value} (h : PS w W g q t row) (n : Nat) : PS w (W.drewN n) g q t row := ⟨h.1, h.2.1, h.2.2.1, h.2.2.2.1.drewN n, h.2.2.2.2⟩
theorem PS.cell {w W : World} {g q : Nat} {t : ByteArray} {row : Array Value} (h : PS w W g q t row) {i : Nat} {v : Value} (hv : row[i]? = some v) : W.cell? ⟨q, i, none⟩ = some v := by
  have := h.2.1
  simp [World.cell?, this, hv]
theorem PS.frozen {w W : World} {g q : Nat} {t : ByteArray} {row : Array Value} (h : PS w W g q t row) (i : Nat) : W.frozen? ⟨q, i, none⟩ = false := by
  have := h.2.1
  simp [World.frozen?, this]
theorem PS.pcell {w W : World} {g q : Nat} {t : ByteArray} {row : Array Value} (h : PS w W g q t row) {i : Nat} {v : Value} (hv : zrow[i]? = some v) : W.cell? ⟨w.heap.size, i, none⟩ = some v := by
  have := h.2.2.1
  simp only [World.cell?, this]
  exact hv
theorem PS.pfrozen {w W : World} {g q : Nat} {t : ByteArray} {row : Array Value} (h : PS w W g q t row) (i : Nat) : W.frozen? ⟨w.heap.size, i, none⟩ = false := by
  have := h.2.2.1
  simp [World.frozen?, this]
end Go.Proofs.YtkkilmmpmiichaaGreatDoor
