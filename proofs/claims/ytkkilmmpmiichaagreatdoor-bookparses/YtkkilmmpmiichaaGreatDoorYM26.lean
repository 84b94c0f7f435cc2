/- What the project's ReadSpan returns: the duration whose text it is, if there is one. -/
import Derived.Test.YtkkilmmpmiichaaGreatDoorYM25
import Derived.Test.YtkkilmmpmiichaaGreatDoorYM19
namespace Go.Proofs.YtkkilmmpmiichaaGreatDoor
set_option linter.unusedVariables false
set_option linter.unusedSimpArgs false
open Go.RowKit
theorem cut_hit {a : List UInt8} (b : List UInt8) (h : 58 ∉ a) : cutL (a ++ 58 :: b) = (a, b, true) := by
  unfold cutL Lib.cut
  rw [index_nf b a h, if_pos (by omega)]
  simp
theorem cut_miss {a : List UInt8} (h : 58 ∉ a) : cutL a = (a, [], false) := by
  unfold cutL Lib.cut
  rw [index_none a h, if_neg (by omega)]
theorem cut_cases (l : List UInt8) : (cutL l = (l, [], false)) ∨ (∃ a b, l = a ++ 58 :: b ∧ cutL l = (a, b, true)) := by
  by_cases h : 58 ∈ l
  · right
    obtain ⟨a, b, rfl, ha⟩ : ∃ a b, l = a ++ 58 :: b ∧ 58 ∉ a := by
      induction l with
      | nil => simp at h
      | cons c l ih =>
        by_cases e : c = 58
        · exact ⟨[], l, by simp [e], by simp⟩
        · have hm : 58 ∈ l := by
            rcases List.mem_cons.1 h with q | q
            · exact absurd q.symm e
            · exact q
          obtain ⟨a, b, rfl, ha⟩ := ih hm
          exact ⟨c :: a, b, rfl, by intro q; rcases List.mem_cons.1 q with q | q; exact e q.symm; exact ha q⟩
    exact ⟨a, b, rfl, cut_hit b ha⟩
  · left
    exact cut_miss h
theorem cut_len (l : List UInt8) : (cutL l).1.length ≤ l.length ∧ (cutL l).2.1.length ≤ l.length := by
  rcases cut_cases l with e | ⟨a, b, e0, e⟩
  · rw [e]; simp
  · rw [e, e0]; simp; omega

/-- the number that an unsigned text tells, by its parts -/
noncomputable def spanN (t : List UInt8) : Int :=
  if (cutL (cutL t).2.1).2.2 = true then nv (cutL t).1 * 3600 + nv (cutL (cutL t).2.1).1 * 60 + nv (cutL (cutL t).2.1).2.1
  else nv (cutL t).1 * 3600 + nv (cutL (cutL t).2.1).1 * 60
/-- are the parts good? -/
noncomputable def spanG (t : List UInt8) : Bool :=
  if (cutL (cutL t).2.1).2.2 = true then chk (cutL t).1 (wid (cutL t).1) 0 168 && chk (cutL (cutL t).2.1).1 2 0 59 && chk (cutL (cutL t).2.1).2.1 2 1 59
  else chk (cutL t).1 (wid (cutL t).1) 0 168 && chk (cutL (cutL t).2.1).1 2 0 59
theorem u_back {c : UInt8} {n : Int} (h : n = (c.toNat : Int)) : u n = c := by subst h; unfold u; simp
theorem len1 {l : List UInt8} (h : l.length = 1) : ∃ a, l = [a] := by
  match l, h with
  | [a], _ => exact ⟨a, rfl⟩
theorem len2 {l : List UInt8} (h : l.length = 2) : ∃ a b, l = [a, b] := by
  match l, h with
  | [a, b], _ => exact ⟨a, b, rfl⟩
theorem len3 {l : List UInt8} (h : l.length = 3) : ∃ a b c, l = [a, b, c] := by
  match l, h with
  | [a, b, c], _ => exact ⟨a, b, c, rfl⟩
theorem len4 {l : List UInt8} (h : l.length = 4) : ∃ a b c d, l = [a, b, c, d] := by
  match l, h with
  | [a, b, c, d], _ => exact ⟨a, b, c, d, rfl⟩
theorem chk_iff {l : List UInt8} {d lo hi : Int} (h : chk l d lo hi = true) : okN l ∧ (l.length : Int) = d ∧ lo ≤ nv l ∧ nv l ≤ hi := by
  unfold chk at h
  simp only [Bool.and_eq_true, decide_eq_true_eq] at h
  obtain ⟨⟨⟨a, b⟩, c⟩, d⟩ := h
  refine ⟨?_, b, c, d⟩
  by_cases o : okN l
  · exact o
  · rw [nok_no o] at a; cases a
theorem chk_of {l : List UInt8} {d lo hi : Int} (h1 : okN l) (h2 : (l.length : Int) = d) (h3 : lo ≤ nv l) (h4 : nv l ≤ hi) : chk l d lo hi = true := by
  unfold chk
  simp [nok_yes h1, h2, h3, h4]
theorem two_back {l : List UInt8} (ok : okN l) (hl : l.length = 2) : d2 (nv l) = l := by
  obtain ⟨a, b, rfl⟩ := len2 hl
  rw [nv_yes ok]
  have h0 := ok.2.2 0 (by simp)
  have h1 := ok.2.2 1 (by simp)
  simp [bt] at h0 h1
  have e : numv [a, b] 0 [a, b].length = 10 * ((a.toNat : Int) - 48) + ((b.toNat : Int) - 48) := by simp [numv, bt]
  rw [e]
  unfold d2
  rw [u_back (c := a) (by omega), u_back (c := b) (by omega)]
theorem lead {c : UInt8} {r : List UInt8} (hr : 1 ≤ r.length) (h : ((c :: r).length : Int) = wid (c :: r)) : ¬ c = 48 := by
  intro e
  subst e
  unfold wid at h
  have e1 : ((48 : UInt8) :: r).dropWhile (· == 48) = r.dropWhile (· == 48) := by simp [List.dropWhile]
  rw [e1] at h
  have := (List.dropWhile_suffix (l := r) (· == (48 : UInt8))).length_le
  simp only [List.length_cons] at h
  omega
theorem ne48 {c : UInt8} (h : ¬ c = 48) : ¬ (c.toNat : Int) = 48 := fun e => h (by
  have : c.toNat = (48 : UInt8).toNat := by have h3 : (48 : UInt8).toNat = 48 := rfl; omega
  exact UInt8.toNat_inj.1 this)
theorem hours_back {l : List UInt8} (ok : okN l) (hw : (l.length : Int) = wid l) (hb : nv l ≤ 168) : dz (nv l) = l := by
  have l1 := ok.1
  have l2 := ok.2.1
  have hd := ok.2.2
  have hv := nv_yes ok
  have : l.length = 1 ∨ l.length = 2 ∨ l.length = 3 ∨ l.length = 4 := by omega
  rcases this with e | e | e | e
  · obtain ⟨a, rfl⟩ := len1 e
    have h0 := hd 0 (by simp)
    simp [bt] at h0
    have q : numv [a] 0 [a].length = (a.toNat : Int) - 48 := by simp [numv, bt]
    rw [hv, q, dz_small (by omega) (by omega), u_back (c := a) (by omega)]
  · obtain ⟨a, b, rfl⟩ := len2 e
    have n0 := ne48 (lead (by simp) hw)
    have h0 := hd 0 (by simp)
    have h1 := hd 1 (by simp)
    simp [bt] at h0 h1
    have q : numv [a, b] 0 [a, b].length = 10 * ((a.toNat : Int) - 48) + ((b.toNat : Int) - 48) := by simp [numv, bt]
    have := two_back ok e
    rw [hv, q] at this ⊢
    rw [dz_d2 (by omega) (by omega)]
    exact this
  · obtain ⟨a, b, c, rfl⟩ := len3 e
    have n0 := ne48 (lead (by simp) hw)
    have h0 := hd 0 (by simp)
    have h1 := hd 1 (by simp)
    have h2 := hd 2 (by simp)
    simp [bt] at h0 h1 h2
    have q : numv [a, b, c] 0 [a, b, c].length = 100 * ((a.toNat : Int) - 48) + 10 * ((b.toNat : Int) - 48) + ((c.toNat : Int) - 48) := by simp [numv, bt]; omega
    rw [hv, q, dz_big (by omega) (by omega), dz_big (by omega) (by omega), dz_small (by omega) (by omega)]
    rw [u_back (c := a) (by omega), u_back (c := b) (by omega), u_back (c := c) (by omega)]
    rfl
  · exfalso
    obtain ⟨a, b, c, d, rfl⟩ := len4 e
    have n0 := ne48 (lead (by simp) hw)
    have h0 := hd 0 (by simp)
    have h1 := hd 1 (by simp)
    have h2 := hd 2 (by simp)
    have h3 := hd 3 (by simp)
    simp [bt] at h0 h1 h2 h3
    have q : numv [a, b, c, d] 0 [a, b, c, d].length = 1000 * ((a.toNat : Int) - 48) + 100 * ((b.toNat : Int) - 48) + 10 * ((c.toNat : Int) - 48) + ((d.toNat : Int) - 48) := by simp [numv, bt]; omega
    rw [hv, q] at hb
    omega
/-- what is good is the text of what it tells -/
theorem good_text {t : List UInt8} (h : spanG t = true) : 0 ≤ spanN t ∧ t = spanL0 (spanN t) := by
  unfold spanG at h
  unfold spanN
  rcases cut_cases t with e1 | ⟨a, b, e0, e1⟩
  · exfalso
    have e2 : cutL ([] : List UInt8) = ([], [], false) := cut_miss (by simp)
    rw [e1] at h
    simp only [e2] at h
    rw [if_neg (by simp)] at h
    have := chk_iff (Bool.and_eq_true _ _ ▸ h).2
    have := this.1.1
    simp at this
  · rw [e1] at h ⊢
    simp only at h ⊢
    rcases cut_cases b with f1 | ⟨m, s, f0, f1⟩
    · rw [f1] at h ⊢
      simp only at h ⊢
      rw [if_neg (by simp)] at h ⊢
      simp only [Bool.and_eq_true] at h
      obtain ⟨a1, a2, a3, a4⟩ := chk_iff h.1
      obtain ⟨b1, b2, b3, b4⟩ := chk_iff h.2
      have A := hours_back a1 a2 a4
      have B := two_back b1 (by omega)
      refine ⟨by omega, ?_⟩
      unfold spanL0
      rw [show (nv a * 3600 + nv b * 60) / 3600 = nv a by omega, show (nv a * 3600 + nv b * 60) / 60 % 60 = nv b by omega, if_pos (by omega), A, B, e0]
      simp
    · rw [f1] at h ⊢
      simp only at h ⊢
      simp only [if_true, Bool.and_eq_true] at h ⊢
      obtain ⟨a1, a2, a3, a4⟩ := chk_iff h.1.1
      obtain ⟨b1, b2, b3, b4⟩ := chk_iff h.1.2
      obtain ⟨c1, c2, c3, c4⟩ := chk_iff h.2
      have A := hours_back a1 a2 a4
      have B := two_back b1 (by omega)
      have C := two_back c1 (by omega)
      refine ⟨by omega, ?_⟩
      unfold spanL0
      rw [show (nv a * 3600 + nv m * 60 + nv s) / 3600 = nv a by omega, show (nv a * 3600 + nv m * 60 + nv s) / 60 % 60 = nv m by omega, if_neg (by omega), show (nv a * 3600 + nv m * 60 + nv s) % 60 = nv s by omega, A, B, C, e0, f0]
theorem tells_ok {l : List UInt8} {n : Int} (h : Tells l n) (h1 : 1 ≤ l.length) (h2 : l.length ≤ 4) : okN l ∧ nv l = n := by
  have ok : okN l := ⟨h1, h2, h.1⟩
  exact ⟨ok, by rw [nv_yes ok]; exact h.2⟩
theorem wid_dz {n : Int} (h1 : 0 ≤ n) (h2 : n < 1000) : ((dz n).length : Int) = wid (dz n) := by
  unfold wid
  have key : ∀ {k : Int} (r : List UInt8), 1 ≤ k → k ≤ 9 → (u (48 + k) :: r).dropWhile (· == 48) = u (48 + k) :: r := fun {k} r a b => by
    have : (u (48 + k) == 48) = false := by
      have hn : ¬ u (48 + k) = 48 := fun e => by
        have h := congrArg UInt8.toNat e
        have := u_toNat (n := 48 + k) (by omega) (by omega)
        have h3 : (48 : UInt8).toNat = 48 := rfl
        omega
      simpa using hn
    simp [List.dropWhile, this]
  by_cases a : n < 10
  · rw [dz_small h1 a]
    by_cases z : n = 0
    · subst z; decide
    · rw [key [] (by omega) (by omega)]; simp
  · by_cases b : n < 100
    · rw [dz_big h1 a, dz_small (by omega) (by omega)]
      simp only [List.cons_append, List.nil_append]
      rw [key _ (by omega) (by omega)]; simp; omega
    · rw [dz_big h1 a, dz_big (by omega) (by omega), dz_small (by omega) (by omega)]
      simp only [List.cons_append, List.nil_append]
      rw [key _ (by omega) (by omega)]; simp; omega
/-- the text of a duration is good and tells it -/
theorem text_good {n : Int} (h1 : 0 ≤ n) (h2 : n ≤ 604800) : spanG (spanL0 n) = true ∧ spanN (spanL0 n) = n := by
  have a := dz_no 8 (n / 3600) (by omega) (by omega)
  have b := d2_no (n := n / 60 % 60) (by omega) (by omega)
  have c := d2_no (n := n % 60) (by omega) (by omega)
  obtain ⟨ta, la, lb⟩ := tells_dz (n := n / 3600) (by omega) (by omega)
  obtain ⟨oa, va⟩ := tells_ok ta la (by omega)
  obtain ⟨ob, vb⟩ := tells_ok (tells2 (n := n / 60 % 60) (by omega) (by omega)) (by simp [d2]) (by simp [d2])
  obtain ⟨oc, vc⟩ := tells_ok (tells2 (n := n % 60) (by omega) (by omega)) (by simp [d2]) (by simp [d2])
  have wa := wid_dz (n := n / 3600) (by omega) (by omega)
  unfold spanL0
  by_cases h : n % 60 = 0
  · rw [if_pos h, List.append_nil]
    have e1 := cut_hit (d2 (n / 60 % 60)) a
    have e2 := cut_miss b
    unfold spanG spanN
    rw [e1]
    simp only
    rw [e2]
    simp only [Bool.false_eq_true, if_false, Bool.and_eq_true]
    exact ⟨⟨chk_of oa wa (by omega) (by omega), chk_of ob (by simp [d2]) (by omega) (by omega)⟩, by omega⟩
  · rw [if_neg h]
    have e1 := cut_hit (d2 (n / 60 % 60) ++ 58 :: d2 (n % 60)) a
    have e2 := cut_hit (d2 (n % 60)) b
    unfold spanG spanN
    rw [e1]
    simp only
    rw [e2]
    simp only [if_true, Bool.and_eq_true]
    exact ⟨⟨⟨chk_of oa wa (by omega) (by omega), chk_of ob (by simp [d2]) (by omega) (by omega)⟩, chk_of oc (by simp [d2]) (by omega) (by omega)⟩, by omega⟩

/-- the project's answer, by the parts -/
noncomputable def rdE (l : List UInt8) : Ending :=
  if Lib.hasPrefix l [45] = true then rdOut (spanG (l.drop 1) && decide (0 < spanN (l.drop 1))) (-(spanN (l.drop 1))) else rdOut (spanG l) (spanN l)
theorem rdE_ans (l : List UInt8) : SpanAns l (rdE l) := by
  unfold rdE
  constructor
  · intro n hn
    by_cases c : n < 0
    · have e : l = 45 :: spanL0 (-n) := by have := hn.2; unfold spanL at this; rw [if_pos c] at this; exact this.symm
      have hn1 := hn.1.1
      subst e
      rw [if_pos (by simp [Lib.hasPrefix, List.isPrefixOf])]
      obtain ⟨g, v⟩ := text_good (n := -n) (by omega) (by omega)
      simp only [List.drop_succ_cons, List.drop_zero]
      rw [g, v]
      have := rdOut_yes (g := true && decide (0 < -n)) (n := - -n) ⟨by simp; omega, by omega, by omega⟩
      rw [← this, Int.neg_neg]
    · have e : l = spanL0 n := by have := hn.2; unfold spanL at this; rw [if_neg c] at this; exact this.symm
      have hn2 := hn.1.2
      subst e
      obtain ⟨c0, r0, e1, ne⟩ := head0 (n := n) (by omega) hn2
      have np : ¬ Lib.hasPrefix (spanL0 n) [45] = true := by
        rw [e1]; simp [Lib.hasPrefix, List.isPrefixOf]
        exact fun q => ne q.symm
      rw [if_neg np]
      obtain ⟨g, v⟩ := text_good (n := n) (by omega) hn2
      rw [g, v]
      exact (rdOut_yes (g := true) (n := n) ⟨rfl, by omega, by omega⟩).symm
  · intro no
    by_cases p : Lib.hasPrefix l [45] = true
    · rw [if_pos p]
      refine (rdOut_no fun q => no ⟨-(spanN (l.drop 1)), ⟨by omega, by omega⟩, ?_⟩).symm
      obtain ⟨q1, q2, q3⟩ := q
      simp only [Bool.and_eq_true, decide_eq_true_eq] at q1
      obtain ⟨k1, k2⟩ := good_text q1.1
      have e : l = 45 :: l.drop 1 := by
        cases l with
        | nil => simp [Lib.hasPrefix, List.isPrefixOf] at p
        | cons x r => simp [Lib.hasPrefix, List.isPrefixOf] at p; subst p; rfl
      unfold spanL
      rw [if_pos (by omega), Int.neg_neg, ← k2, ← e]
    · rw [if_neg p]
      refine (rdOut_no fun q => no ⟨spanN l, ⟨by omega, by omega⟩, ?_⟩).symm
      obtain ⟨k1, k2⟩ := good_text q.1
      unfold spanL
      rw [if_neg (by omega), ← k2]

theorem gives_prefix (s : ByteArray) : Gives 92 #[.string s, .string ⟨#[45]⟩] (.tuple #[.string (S (Lib.trimPrefix s.toList [45])), .bool (Lib.hasPrefix s.toList [45])]) := fun w => by
  refine (Tryz.strings_CutPrefix s ⟨#[45]⟩ w).mono ?_
  rintro e w' ⟨rfl, rfl⟩
  rw [ByteArray.toList_eq]
  exact ⟨rfl, Gr.refl _⟩

/-- what the project's ReadSpan leaves -/
theorem readSpan (s : ByteArray) (w : World) (hm : s.size ≤ maxLen) :
    Calls Tryz.prog 91 #[.string s] w fun e w' => e = rdE s.toList ∧ Gr w w' := by
  have KP := gives_prefix s
  have hl := toList_len s
  have main : ∀ (t : List UInt8) (mn : Bool), t.length ≤ s.size → Gives 92 #[.string s, .string ⟨#[45]⟩] (.tuple #[.string (S t), .bool mn]) →
      Calls Tryz.prog 91 #[.string s] w fun e w' => e = (if mn = true then rdOut (spanG t && decide (0 < spanN t)) (-(spanN t)) else rdOut (spanG t) (spanN t)) ∧ Gr w w' := by
    intro t mn ht KP
    have c1 := cut_len t
    have c2 := cut_len (cutL t).2.1
    have KC1 : Gives 47 #[.string (S t), .string ⟨#[58]⟩] (.tuple #[.string (S (cutL t).1), .string (S (cutL t).2.1), .bool (cutL t).2.2]) := fun w => by
      have := cut_any (S t) w (by rw [S_size]; omega); rw [S_toList] at this; exact this
    have KC2 : Gives 47 #[.string (S (cutL t).2.1), .string ⟨#[58]⟩] (.tuple #[.string (S (cutL (cutL t).2.1).1), .string (S (cutL (cutL t).2.1).2.1), .bool (cutL (cutL t).2.1).2.2]) := fun w => by
      have := cut_any (S (cutL t).2.1) w (by rw [S_size]; omega); rw [S_toList] at this; exact this
    have KW : Gives 120 #[.string (S (cutL t).1)] (.int .i64 (wid (cutL t).1)) := fun w => by
      have := width_any (S (cutL t).1) w (by rw [S_size]; omega); rw [S_toList] at this; exact this
    have KK : ∀ (l : List UInt8) (d lo hi : Int), l.length ≤ s.size → Checks (S l) d lo hi (nv l) (chk l d lo hi) := fun l d lo hi hle g b w hb => by
      have := check_any (S l) g d lo hi b w (by rw [S_size]; omega) hb; rw [S_toList] at this; exact this
    have KH := KK (cutL t).1 (wid (cutL t).1) 0 168 (by omega)
    have KM := KK (cutL (cutL t).2.1).1 2 0 59 (by omega)
    have KS := KK (cutL (cutL t).2.1).2.1 2 1 59 (by omega)
    have b1 := nv_bd (cutL t).1
    have b2 := nv_bd (cutL (cutL t).2.1).1
    have b3 := nv_bd (cutL (cutL t).2.1).2.1
    unfold spanG spanN
    cases p : (cutL (cutL t).2.1).2.2 with
    | false =>
      rw [p] at KC2
      simp only [Bool.false_eq_true, if_false]
      cases mn with
      | false =>
        simp only [Bool.false_eq_true, if_false]
        exact readSpan_pos_min s _ _ _ _ _ _ _ _ _ _ _ _ _ w (Lib.hid KP) (Lib.hid KC1) (Lib.hid KC2) (Lib.hid KW) (Lib.hid KH) (Lib.hid KM) (Lib.hid KS) b1.1 b1.2 b2.1 b2.2 b3.1 b3.2
      | true =>
        simp only [if_true]
        exact readSpan_neg_min s _ _ _ _ _ _ _ _ _ _ _ _ _ w (Lib.hid KP) (Lib.hid KC1) (Lib.hid KC2) (Lib.hid KW) (Lib.hid KH) (Lib.hid KM) (Lib.hid KS) b1.1 b1.2 b2.1 b2.2 b3.1 b3.2
    | true =>
      rw [p] at KC2
      simp only [if_true]
      cases mn with
      | false =>
        simp only [Bool.false_eq_true, if_false]
        exact readSpan_pos_sec s _ _ _ _ _ _ _ _ _ _ _ _ _ w (Lib.hid KP) (Lib.hid KC1) (Lib.hid KC2) (Lib.hid KW) (Lib.hid KH) (Lib.hid KM) (Lib.hid KS) b1.1 b1.2 b2.1 b2.2 b3.1 b3.2
      | true =>
        simp only [if_true]
        exact readSpan_neg_sec s _ _ _ _ _ _ _ _ _ _ _ _ _ w (Lib.hid KP) (Lib.hid KC1) (Lib.hid KC2) (Lib.hid KW) (Lib.hid KH) (Lib.hid KM) (Lib.hid KS) b1.1 b1.2 b2.1 b2.2 b3.1 b3.2
  unfold rdE
  unfold Lib.trimPrefix at KP
  by_cases c : Lib.hasPrefix s.toList [45] = true
  · rw [if_pos c] at KP
    simp only [if_pos c]
    rw [c] at KP
    have := main _ true (by simp; omega) KP
    simp only [if_true] at this
    exact this
  · rw [if_neg c] at KP
    simp only [if_neg c]
    have c' : Lib.hasPrefix s.toList [45] = false := by simpa using c
    rw [c'] at KP
    have := main _ false (by omega) KP
    simp only [Bool.false_eq_true, if_false] at this
    exact this
theorem readSpan_ans (s : ByteArray) (w : World) (hm : s.size ≤ maxLen) :
    Calls Tryz.prog 91 #[.string s] w fun e w' => SpanAns s.toList e ∧ Gr w w' := by
  refine (readSpan s w hm).mono ?_
  rintro e w' ⟨rfl, hg⟩
  exact ⟨rdE_ans _, hg⟩
end Go.Proofs.YtkkilmmpmiichaaGreatDoor
