/- What the reference's Abbr returns. -/
import Derived.Test.YtkmgildnhnjepaaGreatDoorTM24
namespace Go.Proofs.YtkmgildnhnjepaaGreatDoor
set_option linter.unusedVariables false
set_option linter.unusedSimpArgs false
open Go.RowKit
theorem count_no {c : UInt8} {l : List UInt8} (h : c ∉ l) : l.count c = 0 := List.count_eq_zero.2 h
/-- two marks or more: no format -/
theorem fmt_many {f : List UInt8} {sv : Int} {lt : List UInt8} (h : 1 < f.count 37 + f.count 47) : fmtOut f sv lt = none := by
  by_cases h12 : 12 < f.length
  · exact fmt_long h12
  cases hl : isAbbrB lt with
  | false => exact fmt_letter hl
  | true =>
  rcases fmt_ways f with ⟨a, b, rfl, ha⟩ | ⟨h47, a, b, rfl, ha⟩ | ⟨h47, h37⟩
  · rw [fmt_two h12 hl ha]
    refine if_neg fun ⟨ga, gb⟩ => ?_
    have e1 := count_no (abbr_no37 ga); have e2 := count_no (abbr_no37 gb); have e3 := count_no (abbr_no47 ga); have e4 := count_no (abbr_no47 gb)
    simp [List.count_append, List.count_cons, e1, e2, e3, e4] at h
  · rw [fmt_one h12 hl h47 ha]
    refine if_neg fun g => ?_
    have e5 := count_no h47
    rw [e5] at h
    rcases g with g | g
    · have g' := List.append_eq_nil_iff.1 g
      rw [g'.1, g'.2] at h
      simp at h
    · have e1 := count_no (abbr_no37 g)
      rw [List.count_append] at e1
      simp [List.count_append, List.count_cons] at h
      omega
  · rw [count_no h47, count_no h37] at h; omega
theorem countOne (s : ByteArray) (c : UInt8) (w : World) : Calls Tryz.prog 88 #[.string s, .string ⟨#[c]⟩] w fun e w' => e = .returned (.int .i64 ((s.toList.count c : Nat) : Int)) ∧ w = w' := by
  refine (Tryz.strings_Count_one s c w).mono ?_
  rintro e w' ⟨rfl, rfl⟩
  refine ⟨?_, rfl⟩
  rw [data_toList]; rfl
theorem count_le_size (s : ByteArray) (c : UInt8) : s.toList.count c ≤ s.size := by rw [size_toList]; exact List.count_le_length
theorem app_toList (x y : ByteArray) : (x ++ y).toList = x.toList ++ y.toList := by rw [ByteArray.toList_eq, ByteArray.toList_eq, ByteArray.toList_eq, ByteArray.data_append, Array.toList_append]
theorem app_nonnil {x y : ByteArray} (h : ¬ x.toList ++ y.toList = []) : (¬ x ++ y = ⟨#[]⟩) ∧ ((x.toList ++ y.toList) != []) = true ∧ ((x ++ y).toList != []) = true := by
  refine ⟨fun e => h (by rw [← app_toList, e]; exact lit0), ?_, ?_⟩
  · cases hs : x.toList ++ y.toList with
    | nil => exact absurd hs h
    | cons a b => rfl
  · rw [app_toList]; cases hs : x.toList ++ y.toList with
    | nil => exact absurd hs h
    | cons a b => rfl
theorem S_ne {z : List UInt8} (h : ¬ z = []) : (¬ S z = ⟨#[]⟩) ∧ ((S z).toList == []) = false := by
  refine ⟨fun e => h (S_inj (b := []) e), ?_⟩
  rw [S_toList]; cases z with
  | nil => exact absurd rfl h
  | cons a b => rfl

set_option maxRecDepth 100000 in
set_option maxHeartbeats 8000000 in
theorem rabbr_dash (s : ByteArray) (sv : Int) (w : World) (hm : HasMax w) (h12 : ¬ 12 < s.size) (hc : ¬ 1 < s.toList.count 37 + s.toList.count 47) :
    Calls Tryz.prog 61 #[.string s, .int .i64 sv, .string ⟨#[45]⟩] w fun e w' => e = strInt (S (abbrR s.toList sv (ByteArray.mk #[45]).toList).1) (abbrR s.toList sv (ByteArray.mk #[45]).toList).2 ∧ Gr w w' := by
  have hl : isAbbrB (ByteArray.mk #[45]).toList = true := by rw [show (ByteArray.mk #[45]).toList = [45] from ByteArray.toList_mk [45]]; decide
  obtain ⟨lt, hlt⟩ : ∃ lt : ByteArray, ByteArray.mk #[45] = lt := ⟨_, rfl⟩
  have HLT := Lib.hid hlt
  have HD : Hid (lt.toList = [45]) := by unfold Hid; rw [← hlt]; exact ByteArray.toList_mk [45]
  rw [hlt] at hl
  rw [show (ByteArray.mk #[45]).toList = lt.toList by rw [hlt]]
  clear hlt
  have HM := Lib.hid hm
  have HL := Lib.hid hl
  have s12 : s.size ≤ 12 := by omega
  have l12 : ¬ 12 < s.toList.length := by rw [← size_toList]; omega
  have t12 : decide (12 < (s.size : Int)) = false := ltF (by omega)
  have K37 := Lib.hid (fun w => countOne s 37 w)
  have K47 := Lib.hid (fun w => countOne s 47 w)
  have c1 := count_le_size s 37
  have c2 := count_le_size s 47
  have AR : Hid (∀ o, fmtOut s.toList sv lt.toList = o → abbrR s.toList sv lt.toList = abbrOf o sv) := fun o h => by unfold abbrR; rw [h]
  generalize s.toList.count 37 = n37 at K37 c1 hc
  generalize s.toList.count 47 = n47 at K47 c2 hc
  have tc : decide (1 < ((n37 : Nat) : Int) + ((n47 : Nat) : Int)) = false := ltF (by omega)
  clear hc hm hl h12
  rcases sepB 47 s with h47 | ⟨x, y, e, h⟩
  case inr =>
    have hz := sep_sizes e
    have F := Lib.hid (fmt_two (a := x.toList) (b := y.toList) (sv := sv) (lt := lt.toList) (by rw [← e]; exact l12) HL.out h)
    rw [← e] at F
    have KC := Lib.hid (fun w hm => cut1_yes 47 s x y w hm (by omega) e h)
    have KX := Lib.hid (fun w => isAbbr_any x w (by unfold maxLen; omega))
    have KY := Lib.hid (fun w => isAbbr_any y w (by unfold maxLen; omega))
    have XL : x.toList.length ≤ 12 := by rw [← size_toList]; omega
    have YL : y.toList.length ≤ 12 := by rw [← size_toList]; omega
    have SX := Lib.hid (S_toList' x)
    have SY := Lib.hid (S_toList' y)
    clear e h hz
    generalize isAbbrB x.toList = bx at KX F
    generalize isAbbrB y.toList = by' at KY F
    have HLT2 := HLT
    clear HD
    go_enter Tryz.func61, Tryz.ntmps61
    go_wp2_with fail
    refine (K37.out w).mono ?_
    rintro e wa ⟨rfl, rfl⟩
    go_wp2_with fail
    refine (K47.out w).mono ?_
    rintro e wa ⟨rfl, rfl⟩
    go_wp2_with fail
    refine (KC.out w ((Gr.refl w).max HM.out)).mono ?_
    rintro e w1 ⟨rfl, g1⟩
    have G1 := Lib.hid ((Gr.refl w).trans g1)
    clear g1 KC
    go_wp2_with fail
    refine (KX.out w1).mono ?_
    rintro e w2 ⟨rfl, g2⟩
    have G2 := Lib.hid (G1.out.trans g2)
    clear g2 G1 KX
    cases bx with
    | false =>
      have E := Lib.hid (AR.out none (by rw [F.out]; simp))
      clear F AR
      go_wp2_with fail
      go_ret2
      exact ⟨by rw [E.out]; rfl, G2.out⟩
    | true =>
    go_wp2_with fail
    refine (KY.out w2).mono ?_
    rintro e w3 ⟨rfl, g3⟩
    have G3 := Lib.hid (G2.out.trans g3)
    clear g3 G2 KY
    cases by' with
    | false =>
      have E := Lib.hid (AR.out none (by rw [F.out]; simp))
      clear F AR
      go_wp2_with fail
      go_ret2
      exact ⟨by rw [E.out]; rfl, G3.out⟩
    | true =>
    by_cases hv : sv = 0
    case pos =>
      have AO := Lib.hid (AR.out (some x.toList) (by rw [F.out, if_pos (by simp), if_pos hv]))
      have t0 := bneF hv
      have ZL := XL
      clear F AR hv
      go_wp2_with fail
      rw [← SX.out]
      generalize x.toList = z at AO ZL ⊢
      have zs := S_size z
      by_cases hsv : 0 ≤ sv ∧ sv ≤ 10800
      case neg =>
        have E := Lib.hid (AO.out.trans (abbrOf_arg (l := z) (by omega)))
        clear AO zs
        refine (routside_out hsv w3).mono ?_
        rintro e wz ⟨rfl, rfl⟩
        go_wp2_with fail
        go_ret2
        exact ⟨by rw [E.out]; rfl, G3.out⟩
      have nsv : ¬ (sv < 0 ∨ 10800 < sv) := by omega
      by_cases z8 : 8 < z.length
      case pos =>
        have E := Lib.hid (AO.out.trans (abbrOf_long nsv z8))
        have t8 : decide (8 < ((S z).size : Int)) = true := ltT (by omega)
        have u8 : 8 < (S z).size := by omega
        clear AO zs z8 ZL
        refine (routside_in hsv w3).mono ?_
        rintro e wz ⟨rfl, rfl⟩
        clear hsv nsv
        generalize S z = Z at t8 u8 ⊢
        go_wp2_with fail
        go_ret2
        exact ⟨by rw [E.out]; rfl, G3.out⟩
      have t8 : decide (8 < ((S z).size : Int)) = false := ltF (by omega)
      have u8 : ¬ 8 < (S z).size := by omega
      by_cases z0 : z = []
      case pos =>
        subst z0
        have E := Lib.hid (AO.out.trans (abbrOf_nil nsv))
        clear AO zs z8 ZL t8 u8
        refine (routside_in hsv w3).mono ?_
        rintro e wz ⟨rfl, rfl⟩
        clear hsv nsv
        rw [show S [] = ⟨#[]⟩ from rfl]
        go_wp2_with fail
        go_ret2
        exact ⟨by rw [E.out]; rfl, G3.out⟩
      have E := Lib.hid (AO.out.trans (abbrOf_ok nsv z8 z0))
      obtain ⟨n1, n2⟩ := S_ne z0
      clear AO zs z8 ZL z0
      refine (routside_in hsv w3).mono ?_
      rintro e wz ⟨rfl, rfl⟩
      clear hsv nsv
      have EE : Hid (strInt (S z) 0 = strInt (S (abbrR s.toList sv lt.toList).1) (abbrR s.toList sv lt.toList).2) := by unfold Hid; rw [E.out]
      generalize S z = Z at t8 u8 n1 n2 EE ⊢
      go_wp2_with fail
      go_ret2
      exact ⟨EE.out, G3.out⟩
    have AO := Lib.hid (AR.out (some y.toList) (by rw [F.out, if_pos (by simp), if_neg hv]))
    have t0 := bneT hv
    have ZL := YL
    clear F AR hv
    go_wp2_with fail
    rw [← SY.out]
    generalize y.toList = z at AO ZL ⊢
    have zs := S_size z
    by_cases hsv : 0 ≤ sv ∧ sv ≤ 10800
    case neg =>
      have E := Lib.hid (AO.out.trans (abbrOf_arg (l := z) (by omega)))
      clear AO zs
      refine (routside_out hsv w3).mono ?_
      rintro e wz ⟨rfl, rfl⟩
      go_wp2_with fail
      go_ret2
      exact ⟨by rw [E.out]; rfl, G3.out⟩
    have nsv : ¬ (sv < 0 ∨ 10800 < sv) := by omega
    by_cases z8 : 8 < z.length
    case pos =>
      have E := Lib.hid (AO.out.trans (abbrOf_long nsv z8))
      have t8 : decide (8 < ((S z).size : Int)) = true := ltT (by omega)
      have u8 : 8 < (S z).size := by omega
      clear AO zs z8 ZL
      refine (routside_in hsv w3).mono ?_
      rintro e wz ⟨rfl, rfl⟩
      clear hsv nsv
      generalize S z = Z at t8 u8 ⊢
      go_wp2_with fail
      go_ret2
      exact ⟨by rw [E.out]; rfl, G3.out⟩
    have t8 : decide (8 < ((S z).size : Int)) = false := ltF (by omega)
    have u8 : ¬ 8 < (S z).size := by omega
    by_cases z0 : z = []
    case pos =>
      subst z0
      have E := Lib.hid (AO.out.trans (abbrOf_nil nsv))
      clear AO zs z8 ZL t8 u8
      refine (routside_in hsv w3).mono ?_
      rintro e wz ⟨rfl, rfl⟩
      clear hsv nsv
      rw [show S [] = ⟨#[]⟩ from rfl]
      go_wp2_with fail
      go_ret2
      exact ⟨by rw [E.out]; rfl, G3.out⟩
    have E := Lib.hid (AO.out.trans (abbrOf_ok nsv z8 z0))
    obtain ⟨n1, n2⟩ := S_ne z0
    clear AO zs z8 ZL z0
    refine (routside_in hsv w3).mono ?_
    rintro e wz ⟨rfl, rfl⟩
    clear hsv nsv
    have EE : Hid (strInt (S z) 0 = strInt (S (abbrR s.toList sv lt.toList).1) (abbrR s.toList sv lt.toList).2) := by unfold Hid; rw [E.out]
    generalize S z = Z at t8 u8 n1 n2 EE ⊢
    go_wp2_with fail
    go_ret2
    exact ⟨EE.out, G3.out⟩
  have KC := Lib.hid (fun w hm => cut1_no 47 s w hm (by omega) h47)
  rcases sepB 37 s with h37 | ⟨x, y, e, h⟩
  case inr =>
    have hz := sep_sizes e
    have F := Lib.hid (fmt_one (a := x.toList) (b := y.toList) (sv := sv) (lt := lt.toList) (by rw [← e]; exact l12) HL.out (by rw [← e]; exact h47) h)
    rw [← e] at F
    have KD := Lib.hid (fun w hm => cut1_yes 37 s x y w hm (by omega) e h)
    have hxy : (x ++ y).toList = x.toList ++ y.toList := by rw [ByteArray.toList_eq, ByteArray.toList_eq, ByteArray.toList_eq, ByteArray.data_append, Array.toList_append]
    have hsz : (x ++ y).size = x.size + y.size := ByteArray.size_append ..
    have KX := Lib.hid (fun w => isAbbr_any (x ++ y) w (by unfold maxLen; omega))
    rw [hxy] at KX
    clear e h h47
    have EZ1 : Hid (x ++ lt ++ y = S (x.toList ++ lt.toList ++ y.toList)) := by unfold Hid; rw [← app_toList, ← app_toList, S_toList']
    have EZ2 : Hid (x ++ y = S (x.toList ++ [] ++ y.toList)) := by unfold Hid; rw [List.append_nil, ← app_toList, S_toList']
    have EZ3 : Hid (x ++ ⟨#[]⟩ ++ y = S (x.toList ++ [] ++ y.toList)) := by unfold Hid; rw [S_of (x ++ ⟨#[]⟩ ++ y), app_toList, app_toList, lit0]
    have ZL : (x.toList ++ [] ++ y.toList).length ≤ 20 := by simp only [List.length_append, List.length_nil, ← size_toList]; omega
    have xs : x.size ≤ 12 := by omega
    have ys : y.size ≤ 12 := by omega
    clear hz hxy hsz
    go_enter Tryz.func61, Tryz.ntmps61
    go_wp2_with fail
    refine (K37.out w).mono ?_
    rintro e wa ⟨rfl, rfl⟩
    go_wp2_with fail
    refine (K47.out w).mono ?_
    rintro e wa ⟨rfl, rfl⟩
    go_wp2_with fail
    refine (KC.out w ((Gr.refl w).max HM.out)).mono ?_
    rintro e w1 ⟨rfl, g1⟩
    have G1 := Lib.hid ((Gr.refl w).trans g1)
    clear g1 KC
    go_wp2_with fail
    refine (KD.out w1 (G1.out.max HM.out)).mono ?_
    rintro e w2 ⟨rfl, g2⟩
    have G2 := Lib.hid (G1.out.trans g2)
    clear g2 G1 KD
    by_cases hnil : x.toList ++ y.toList = []
    case pos =>
      have AO := Lib.hid (AR.out (some (x.toList ++ (if lt.toList = [45] then [] else lt.toList) ++ y.toList)) (by rw [F.out, if_pos (Or.inl hnil)]))
      rw [if_pos HD.out] at AO
      have m0 : (x ++ y).toList = [] := by rw [app_toList]; exact hnil
      have m1 : ((x ++ y).toList != []) = false := by rw [m0]; rfl
      clear F AR hnil KX
      go_wp2_with fail
      clear m0 m1
      first | rw [EZ3.out] | rw [EZ2.out]
      generalize (x.toList ++ [] ++ y.toList) = z at AO ZL ⊢
      have zs := S_size z
      by_cases hsv : 0 ≤ sv ∧ sv ≤ 10800
      case neg =>
        have E := Lib.hid (AO.out.trans (abbrOf_arg (l := z) (by omega)))
        clear AO zs
        refine (routside_out hsv w2).mono ?_
        rintro e wz ⟨rfl, rfl⟩
        go_wp2_with fail
        go_ret2
        exact ⟨by rw [E.out]; rfl, G2.out⟩
      have nsv : ¬ (sv < 0 ∨ 10800 < sv) := by omega
      by_cases z8 : 8 < z.length
      case pos =>
        have E := Lib.hid (AO.out.trans (abbrOf_long nsv z8))
        have t8 : decide (8 < ((S z).size : Int)) = true := ltT (by omega)
        have u8 : 8 < (S z).size := by omega
        clear AO zs z8 ZL
        refine (routside_in hsv w2).mono ?_
        rintro e wz ⟨rfl, rfl⟩
        clear hsv nsv
        generalize S z = Z at t8 u8 ⊢
        go_wp2_with fail
        go_ret2
        exact ⟨by rw [E.out]; rfl, G2.out⟩
      have t8 : decide (8 < ((S z).size : Int)) = false := ltF (by omega)
      have u8 : ¬ 8 < (S z).size := by omega
      by_cases z0 : z = []
      case pos =>
        subst z0
        have E := Lib.hid (AO.out.trans (abbrOf_nil nsv))
        clear AO zs z8 ZL t8 u8
        refine (routside_in hsv w2).mono ?_
        rintro e wz ⟨rfl, rfl⟩
        clear hsv nsv
        rw [show S [] = ⟨#[]⟩ from rfl]
        go_wp2_with fail
        go_ret2
        exact ⟨by rw [E.out]; rfl, G2.out⟩
      have E := Lib.hid (AO.out.trans (abbrOf_ok nsv z8 z0))
      obtain ⟨n1, n2⟩ := S_ne z0
      clear AO zs z8 ZL z0
      refine (routside_in hsv w2).mono ?_
      rintro e wz ⟨rfl, rfl⟩
      clear hsv nsv
      have EE : Hid (strInt (S z) 0 = strInt (S (abbrR s.toList sv lt.toList).1) (abbrR s.toList sv lt.toList).2) := by unfold Hid; rw [E.out]
      generalize S z = Z at t8 u8 n1 n2 EE ⊢
      go_wp2_with fail
      go_ret2
      exact ⟨EE.out, G2.out⟩
    obtain ⟨m1, m2, m3⟩ := app_nonnil hnil
    have m4 : ¬ (x ++ y).toList = [] := by rw [app_toList]; exact hnil
    have m5 : (!(x ++ y).toList.isEmpty) = true := by cases hq : (x ++ y).toList with | nil => exact absurd hq m4 | cons a b => rfl
    have m6 : (x ++ y).toList.isEmpty = false := by cases hq : (x ++ y).toList with | nil => exact absurd hq m4 | cons a b => rfl
    generalize isAbbrB (x.toList ++ y.toList) = bx at KX F
    clear hnil
    go_wp2_with fail
    refine (KX.out w2).mono ?_
    rintro e w3 ⟨rfl, g3⟩
    have G3 := Lib.hid (G2.out.trans g3)
    clear g3 G2 KX
    cases bx with
    | false =>
      have E := Lib.hid (AR.out none (by rw [F.out]; exact if_neg (by simp only [Bool.false_eq_true, or_false]; rw [← app_toList]; exact m4)))
      clear F AR
      go_wp2_with fail
      go_ret2
      exact ⟨by rw [E.out]; rfl, G3.out⟩
    | true =>
    have AO := Lib.hid (AR.out (some (x.toList ++ (if lt.toList = [45] then [] else lt.toList) ++ y.toList)) (by rw [F.out, if_pos (Or.inr rfl)]))
    rw [if_pos HD.out] at AO
    clear F AR
    go_wp2_with fail
    clear m1 m2 m3 m4 m5 m6
    first | rw [EZ3.out] | rw [EZ2.out]
    generalize (x.toList ++ [] ++ y.toList) = z at AO ZL ⊢
    have zs := S_size z
    by_cases hsv : 0 ≤ sv ∧ sv ≤ 10800
    case neg =>
      have E := Lib.hid (AO.out.trans (abbrOf_arg (l := z) (by omega)))
      clear AO zs
      refine (routside_out hsv w3).mono ?_
      rintro e wz ⟨rfl, rfl⟩
      go_wp2_with fail
      go_ret2
      exact ⟨by rw [E.out]; rfl, G3.out⟩
    have nsv : ¬ (sv < 0 ∨ 10800 < sv) := by omega
    by_cases z8 : 8 < z.length
    case pos =>
      have E := Lib.hid (AO.out.trans (abbrOf_long nsv z8))
      have t8 : decide (8 < ((S z).size : Int)) = true := ltT (by omega)
      have u8 : 8 < (S z).size := by omega
      clear AO zs z8 ZL
      refine (routside_in hsv w3).mono ?_
      rintro e wz ⟨rfl, rfl⟩
      clear hsv nsv
      generalize S z = Z at t8 u8 ⊢
      go_wp2_with fail
      go_ret2
      exact ⟨by rw [E.out]; rfl, G3.out⟩
    have t8 : decide (8 < ((S z).size : Int)) = false := ltF (by omega)
    have u8 : ¬ 8 < (S z).size := by omega
    by_cases z0 : z = []
    case pos =>
      subst z0
      have E := Lib.hid (AO.out.trans (abbrOf_nil nsv))
      clear AO zs z8 ZL t8 u8
      refine (routside_in hsv w3).mono ?_
      rintro e wz ⟨rfl, rfl⟩
      clear hsv nsv
      rw [show S [] = ⟨#[]⟩ from rfl]
      go_wp2_with fail
      go_ret2
      exact ⟨by rw [E.out]; rfl, G3.out⟩
    have E := Lib.hid (AO.out.trans (abbrOf_ok nsv z8 z0))
    obtain ⟨n1, n2⟩ := S_ne z0
    clear AO zs z8 ZL z0
    refine (routside_in hsv w3).mono ?_
    rintro e wz ⟨rfl, rfl⟩
    clear hsv nsv
    have EE : Hid (strInt (S z) 0 = strInt (S (abbrR s.toList sv lt.toList).1) (abbrR s.toList sv lt.toList).2) := by unfold Hid; rw [E.out]
    generalize S z = Z at t8 u8 n1 n2 EE ⊢
    go_wp2_with fail
    go_ret2
    exact ⟨EE.out, G3.out⟩
  have F := Lib.hid (fmt_none (sv := sv) (lt := lt.toList) l12 HL.out h47 h37)
  have KD := Lib.hid (fun w hm => cut1_no 37 s w hm (by omega) h37)
  have KX := Lib.hid (fun w => isAbbr_any s w (by unfold maxLen; omega))
  have SX := Lib.hid (S_toList' s)
  have ZL : s.toList.length ≤ 12 := by omega
  clear h47 h37
  go_enter Tryz.func61, Tryz.ntmps61
  go_wp2_with fail
  refine (K37.out w).mono ?_
  rintro e wa ⟨rfl, rfl⟩
  go_wp2_with fail
  refine (K47.out w).mono ?_
  rintro e wa ⟨rfl, rfl⟩
  go_wp2_with fail
  refine (KC.out w ((Gr.refl w).max HM.out)).mono ?_
  rintro e w1 ⟨rfl, g1⟩
  have G1 := Lib.hid ((Gr.refl w).trans g1)
  clear g1 KC
  go_wp2_with fail
  refine (KD.out w1 (G1.out.max HM.out)).mono ?_
  rintro e w2 ⟨rfl, g2⟩
  have G2 := Lib.hid (G1.out.trans g2)
  clear g2 G1 KD
  go_wp2_with fail
  refine (KX.out w2).mono ?_
  rintro e w3 ⟨rfl, g3⟩
  have G3 := Lib.hid (G2.out.trans g3)
  clear g3 G2 KX
  generalize hbx : isAbbrB s.toList = bx at F
  have HBX := Lib.hid hbx
  clear hbx
  cases bx with
  | false =>
    have E := Lib.hid (AR.out none (by rw [F.out]; simp))
    clear F AR
    go_wp2_with fail
    go_ret2
    exact ⟨by rw [E.out]; rfl, G3.out⟩
  | true =>
  have AO := Lib.hid (AR.out (some s.toList) (by rw [F.out, if_pos rfl]))
  have HNE : Hid (¬ s = S []) := fun e => by have h := HBX.out; rw [e, S_toList] at h; revert h; decide
  clear F AR HBX
  go_wp2_with fail
  obtain ⟨z, hz⟩ : ∃ z, s.toList = z := ⟨_, rfl⟩
  have AO2 : Hid (abbrR s.toList sv lt.toList = abbrOf (some z) sv) := by rw [← hz]; exact AO.out
  have SZ : Hid (s = S z) := by rw [← hz]; exact SX.out.symm
  rw [hz] at ZL
  clear AO SX hz
  have AO := AO2
  clear AO2
  have K0 : Hid (strInt (S z) 0 = strInt s 0) := by rw [← SZ.out]; rfl
  have zs : s.size = z.length := by have := S_size z; rw [← SZ.out] at this; exact this
  by_cases hsv : 0 ≤ sv ∧ sv ≤ 10800
  case neg =>
    have E := Lib.hid (AO.out.trans (abbrOf_arg (l := z) (by omega)))
    clear AO zs
    refine (routside_out hsv w3).mono ?_
    rintro e wz ⟨rfl, rfl⟩
    go_wp2_with fail
    go_ret2
    exact ⟨by rw [E.out]; rfl, G3.out⟩
  have nsv : ¬ (sv < 0 ∨ 10800 < sv) := by omega
  by_cases z8 : 8 < z.length
  case pos =>
    have E := Lib.hid (AO.out.trans (abbrOf_long nsv z8))
    have t8 : decide (8 < (s.size : Int)) = true := ltT (by omega)
    have u8 : 8 < s.size := by omega
    clear AO zs z8 ZL
    refine (routside_in hsv w3).mono ?_
    rintro e wz ⟨rfl, rfl⟩
    clear hsv nsv
    go_wp2_with fail
    go_ret2
    exact ⟨by rw [E.out]; rfl, G3.out⟩
  have t8 : decide (8 < (s.size : Int)) = false := ltF (by omega)
  have u8 : ¬ 8 < s.size := by omega
  have z0 : ¬ z = [] := fun e => by have h := HNE.out; rw [SZ.out, e] at h; exact h rfl
  have E := Lib.hid (AO.out.trans (abbrOf_ok nsv z8 z0))
  have nn := S_ne z0
  rw [← SZ.out] at nn
  obtain ⟨n1, n2⟩ := nn
  clear AO zs z8 ZL z0
  refine (routside_in hsv w3).mono ?_
  rintro e wz ⟨rfl, rfl⟩
  clear hsv nsv
  have EE : Hid (strInt s 0 = strInt (S (abbrR s.toList sv lt.toList).1) (abbrR s.toList sv lt.toList).2) := by unfold Hid; rw [E.out]; exact K0.out.symm
  clear E K0 SZ
  go_wp2_with fail
  go_ret2
  exact ⟨EE.out, G3.out⟩

set_option maxRecDepth 100000 in
set_option maxHeartbeats 8000000 in
theorem rabbr_let (s : ByteArray) (sv : Int) (lt : ByteArray) (w : World) (hm : HasMax w) (h12 : ¬ 12 < s.size) (hc : ¬ 1 < s.toList.count 37 + s.toList.count 47) (hd : ¬ lt.toList = [45]) (hl : isAbbrB lt.toList = true) :
    Calls Tryz.prog 61 #[.string s, .int .i64 sv, .string lt] w fun e w' => e = strInt (S (abbrR s.toList sv lt.toList).1) (abbrR s.toList sv lt.toList).2 ∧ Gr w w' := by
  have l8 := (abbr_len1 hl).2
  rw [← size_toList] at l8
  have d1 : ¬ lt = ⟨#[45]⟩ := fun e => hd (by rw [e]; exact ByteArray.toList_mk [45])
  have d2 : (lt.toList == [45]) = false := by simpa using hd
  have d3 : (lt.toList != [45]) = true := by simpa using hd
  have KL0 := fun w => isAbbr_any lt w (by unfold maxLen; omega)
  rw [hl] at KL0
  have KL := Lib.hid KL0
  clear KL0
  have HM := Lib.hid hm
  have HL := Lib.hid hl
  have s12 : s.size ≤ 12 := by omega
  have l12 : ¬ 12 < s.toList.length := by rw [← size_toList]; omega
  have t12 : decide (12 < (s.size : Int)) = false := ltF (by omega)
  have K37 := Lib.hid (fun w => countOne s 37 w)
  have K47 := Lib.hid (fun w => countOne s 47 w)
  have c1 := count_le_size s 37
  have c2 := count_le_size s 47
  have AR : Hid (∀ o, fmtOut s.toList sv lt.toList = o → abbrR s.toList sv lt.toList = abbrOf o sv) := fun o h => by unfold abbrR; rw [h]
  generalize s.toList.count 37 = n37 at K37 c1 hc
  generalize s.toList.count 47 = n47 at K47 c2 hc
  have tc : decide (1 < ((n37 : Nat) : Int) + ((n47 : Nat) : Int)) = false := ltF (by omega)
  clear hc hm hl h12
  rcases sepB 47 s with h47 | ⟨x, y, e, h⟩
  case inr =>
    have hz := sep_sizes e
    have F := Lib.hid (fmt_two (a := x.toList) (b := y.toList) (sv := sv) (lt := lt.toList) (by rw [← e]; exact l12) HL.out h)
    rw [← e] at F
    have KC := Lib.hid (fun w hm => cut1_yes 47 s x y w hm (by omega) e h)
    have KX := Lib.hid (fun w => isAbbr_any x w (by unfold maxLen; omega))
    have KY := Lib.hid (fun w => isAbbr_any y w (by unfold maxLen; omega))
    have XL : x.toList.length ≤ 12 := by rw [← size_toList]; omega
    have YL : y.toList.length ≤ 12 := by rw [← size_toList]; omega
    have SX := Lib.hid (S_toList' x)
    have SY := Lib.hid (S_toList' y)
    clear e h hz
    generalize isAbbrB x.toList = bx at KX F
    generalize isAbbrB y.toList = by' at KY F
    go_enter Tryz.func61, Tryz.ntmps61
    go_wp2_with fail
    refine (K37.out w).mono ?_
    rintro e wa ⟨rfl, rfl⟩
    go_wp2_with fail
    refine (K47.out w).mono ?_
    rintro e wa ⟨rfl, rfl⟩
    go_wp2_with fail
    refine (KL.out w).mono ?_
    rintro e w0 ⟨rfl, g0⟩
    have G0 := Lib.hid g0
    clear g0
    go_wp2_with fail
    refine (KC.out w0 (G0.out.max HM.out)).mono ?_
    rintro e w1 ⟨rfl, g1⟩
    have G1 := Lib.hid (G0.out.trans g1)
    clear g1 KC
    go_wp2_with fail
    refine (KX.out w1).mono ?_
    rintro e w2 ⟨rfl, g2⟩
    have G2 := Lib.hid (G1.out.trans g2)
    clear g2 G1 KX
    cases bx with
    | false =>
      have E := Lib.hid (AR.out none (by rw [F.out]; simp))
      clear F AR
      go_wp2_with fail
      go_ret2
      exact ⟨by rw [E.out]; rfl, G2.out⟩
    | true =>
    go_wp2_with fail
    refine (KY.out w2).mono ?_
    rintro e w3 ⟨rfl, g3⟩
    have G3 := Lib.hid (G2.out.trans g3)
    clear g3 G2 KY
    cases by' with
    | false =>
      have E := Lib.hid (AR.out none (by rw [F.out]; simp))
      clear F AR
      go_wp2_with fail
      go_ret2
      exact ⟨by rw [E.out]; rfl, G3.out⟩
    | true =>
    by_cases hv : sv = 0
    case pos =>
      have AO := Lib.hid (AR.out (some x.toList) (by rw [F.out, if_pos (by simp), if_pos hv]))
      have t0 := bneF hv
      have ZL := XL
      clear F AR hv
      go_wp2_with fail
      rw [← SX.out]
      generalize x.toList = z at AO ZL ⊢
      have zs := S_size z
      by_cases hsv : 0 ≤ sv ∧ sv ≤ 10800
      case neg =>
        have E := Lib.hid (AO.out.trans (abbrOf_arg (l := z) (by omega)))
        clear AO zs
        refine (routside_out hsv w3).mono ?_
        rintro e wz ⟨rfl, rfl⟩
        go_wp2_with fail
        go_ret2
        exact ⟨by rw [E.out]; rfl, G3.out⟩
      have nsv : ¬ (sv < 0 ∨ 10800 < sv) := by omega
      by_cases z8 : 8 < z.length
      case pos =>
        have E := Lib.hid (AO.out.trans (abbrOf_long nsv z8))
        have t8 : decide (8 < ((S z).size : Int)) = true := ltT (by omega)
        have u8 : 8 < (S z).size := by omega
        clear AO zs z8 ZL
        refine (routside_in hsv w3).mono ?_
        rintro e wz ⟨rfl, rfl⟩
        clear hsv nsv
        generalize S z = Z at t8 u8 ⊢
        go_wp2_with fail
        go_ret2
        exact ⟨by rw [E.out]; rfl, G3.out⟩
      have t8 : decide (8 < ((S z).size : Int)) = false := ltF (by omega)
      have u8 : ¬ 8 < (S z).size := by omega
      by_cases z0 : z = []
      case pos =>
        subst z0
        have E := Lib.hid (AO.out.trans (abbrOf_nil nsv))
        clear AO zs z8 ZL t8 u8
        refine (routside_in hsv w3).mono ?_
        rintro e wz ⟨rfl, rfl⟩
        clear hsv nsv
        rw [show S [] = ⟨#[]⟩ from rfl]
        go_wp2_with fail
        go_ret2
        exact ⟨by rw [E.out]; rfl, G3.out⟩
      have E := Lib.hid (AO.out.trans (abbrOf_ok nsv z8 z0))
      obtain ⟨n1, n2⟩ := S_ne z0
      clear AO zs z8 ZL z0
      refine (routside_in hsv w3).mono ?_
      rintro e wz ⟨rfl, rfl⟩
      clear hsv nsv
      have EE : Hid (strInt (S z) 0 = strInt (S (abbrR s.toList sv lt.toList).1) (abbrR s.toList sv lt.toList).2) := by unfold Hid; rw [E.out]
      generalize S z = Z at t8 u8 n1 n2 EE ⊢
      go_wp2_with fail
      go_ret2
      exact ⟨EE.out, G3.out⟩
    have AO := Lib.hid (AR.out (some y.toList) (by rw [F.out, if_pos (by simp), if_neg hv]))
    have t0 := bneT hv
    have ZL := YL
    clear F AR hv
    go_wp2_with fail
    rw [← SY.out]
    generalize y.toList = z at AO ZL ⊢
    have zs := S_size z
    by_cases hsv : 0 ≤ sv ∧ sv ≤ 10800
    case neg =>
      have E := Lib.hid (AO.out.trans (abbrOf_arg (l := z) (by omega)))
      clear AO zs
      refine (routside_out hsv w3).mono ?_
      rintro e wz ⟨rfl, rfl⟩
      go_wp2_with fail
      go_ret2
      exact ⟨by rw [E.out]; rfl, G3.out⟩
    have nsv : ¬ (sv < 0 ∨ 10800 < sv) := by omega
    by_cases z8 : 8 < z.length
    case pos =>
      have E := Lib.hid (AO.out.trans (abbrOf_long nsv z8))
      have t8 : decide (8 < ((S z).size : Int)) = true := ltT (by omega)
      have u8 : 8 < (S z).size := by omega
      clear AO zs z8 ZL
      refine (routside_in hsv w3).mono ?_
      rintro e wz ⟨rfl, rfl⟩
      clear hsv nsv
      generalize S z = Z at t8 u8 ⊢
      go_wp2_with fail
      go_ret2
      exact ⟨by rw [E.out]; rfl, G3.out⟩
    have t8 : decide (8 < ((S z).size : Int)) = false := ltF (by omega)
    have u8 : ¬ 8 < (S z).size := by omega
    by_cases z0 : z = []
    case pos =>
      subst z0
      have E := Lib.hid (AO.out.trans (abbrOf_nil nsv))
      clear AO zs z8 ZL t8 u8
      refine (routside_in hsv w3).mono ?_
      rintro e wz ⟨rfl, rfl⟩
      clear hsv nsv
      rw [show S [] = ⟨#[]⟩ from rfl]
      go_wp2_with fail
      go_ret2
      exact ⟨by rw [E.out]; rfl, G3.out⟩
    have E := Lib.hid (AO.out.trans (abbrOf_ok nsv z8 z0))
    obtain ⟨n1, n2⟩ := S_ne z0
    clear AO zs z8 ZL z0
    refine (routside_in hsv w3).mono ?_
    rintro e wz ⟨rfl, rfl⟩
    clear hsv nsv
    have EE : Hid (strInt (S z) 0 = strInt (S (abbrR s.toList sv lt.toList).1) (abbrR s.toList sv lt.toList).2) := by unfold Hid; rw [E.out]
    generalize S z = Z at t8 u8 n1 n2 EE ⊢
    go_wp2_with fail
    go_ret2
    exact ⟨EE.out, G3.out⟩
  have KC := Lib.hid (fun w hm => cut1_no 47 s w hm (by omega) h47)
  rcases sepB 37 s with h37 | ⟨x, y, e, h⟩
  case inr =>
    have hz := sep_sizes e
    have F := Lib.hid (fmt_one (a := x.toList) (b := y.toList) (sv := sv) (lt := lt.toList) (by rw [← e]; exact l12) HL.out (by rw [← e]; exact h47) h)
    rw [← e] at F
    have KD := Lib.hid (fun w hm => cut1_yes 37 s x y w hm (by omega) e h)
    have hxy : (x ++ y).toList = x.toList ++ y.toList := by rw [ByteArray.toList_eq, ByteArray.toList_eq, ByteArray.toList_eq, ByteArray.data_append, Array.toList_append]
    have hsz : (x ++ y).size = x.size + y.size := ByteArray.size_append ..
    have KX := Lib.hid (fun w => isAbbr_any (x ++ y) w (by unfold maxLen; omega))
    rw [hxy] at KX
    clear e h h47
    have EZ1 : Hid (x ++ lt ++ y = S (x.toList ++ lt.toList ++ y.toList)) := by unfold Hid; rw [← app_toList, ← app_toList, S_toList']
    have EZ2 : Hid (x ++ y = S (x.toList ++ [] ++ y.toList)) := by unfold Hid; rw [List.append_nil, ← app_toList, S_toList']
    have EZ3 : Hid (x ++ ⟨#[]⟩ ++ y = S (x.toList ++ [] ++ y.toList)) := by unfold Hid; rw [S_of (x ++ ⟨#[]⟩ ++ y), app_toList, app_toList, lit0]
    have ZL : (x.toList ++ lt.toList ++ y.toList).length ≤ 20 := by simp only [List.length_append, ← size_toList]; omega
    have xs : x.size ≤ 12 := by omega
    have ys : y.size ≤ 12 := by omega
    clear hz hxy hsz
    go_enter Tryz.func61, Tryz.ntmps61
    go_wp2_with fail
    refine (K37.out w).mono ?_
    rintro e wa ⟨rfl, rfl⟩
    go_wp2_with fail
    refine (K47.out w).mono ?_
    rintro e wa ⟨rfl, rfl⟩
    go_wp2_with fail
    refine (KL.out w).mono ?_
    rintro e w0 ⟨rfl, g0⟩
    have G0 := Lib.hid g0
    clear g0
    go_wp2_with fail
    refine (KC.out w0 (G0.out.max HM.out)).mono ?_
    rintro e w1 ⟨rfl, g1⟩
    have G1 := Lib.hid (G0.out.trans g1)
    clear g1 KC
    go_wp2_with fail
    refine (KD.out w1 (G1.out.max HM.out)).mono ?_
    rintro e w2 ⟨rfl, g2⟩
    have G2 := Lib.hid (G1.out.trans g2)
    clear g2 G1 KD
    by_cases hnil : x.toList ++ y.toList = []
    case pos =>
      have AO := Lib.hid (AR.out (some (x.toList ++ (if lt.toList = [45] then [] else lt.toList) ++ y.toList)) (by rw [F.out, if_pos (Or.inl hnil)]))
      rw [if_neg hd] at AO
      have m0 : (x ++ y).toList = [] := by rw [app_toList]; exact hnil
      have m1 : ((x ++ y).toList != []) = false := by rw [m0]; rfl
      clear F AR hnil KX
      go_wp2_with fail
      clear m0 m1
      rw [EZ1.out]
      generalize (x.toList ++ lt.toList ++ y.toList) = z at AO ZL ⊢
      have zs := S_size z
      by_cases hsv : 0 ≤ sv ∧ sv ≤ 10800
      case neg =>
        have E := Lib.hid (AO.out.trans (abbrOf_arg (l := z) (by omega)))
        clear AO zs
        refine (routside_out hsv w2).mono ?_
        rintro e wz ⟨rfl, rfl⟩
        go_wp2_with fail
        go_ret2
        exact ⟨by rw [E.out]; rfl, G2.out⟩
      have nsv : ¬ (sv < 0 ∨ 10800 < sv) := by omega
      by_cases z8 : 8 < z.length
      case pos =>
        have E := Lib.hid (AO.out.trans (abbrOf_long nsv z8))
        have t8 : decide (8 < ((S z).size : Int)) = true := ltT (by omega)
        have u8 : 8 < (S z).size := by omega
        clear AO zs z8 ZL
        refine (routside_in hsv w2).mono ?_
        rintro e wz ⟨rfl, rfl⟩
        clear hsv nsv
        generalize S z = Z at t8 u8 ⊢
        go_wp2_with fail
        go_ret2
        exact ⟨by rw [E.out]; rfl, G2.out⟩
      have t8 : decide (8 < ((S z).size : Int)) = false := ltF (by omega)
      have u8 : ¬ 8 < (S z).size := by omega
      by_cases z0 : z = []
      case pos =>
        subst z0
        have E := Lib.hid (AO.out.trans (abbrOf_nil nsv))
        clear AO zs z8 ZL t8 u8
        refine (routside_in hsv w2).mono ?_
        rintro e wz ⟨rfl, rfl⟩
        clear hsv nsv
        rw [show S [] = ⟨#[]⟩ from rfl]
        go_wp2_with fail
        go_ret2
        exact ⟨by rw [E.out]; rfl, G2.out⟩
      have E := Lib.hid (AO.out.trans (abbrOf_ok nsv z8 z0))
      obtain ⟨n1, n2⟩ := S_ne z0
      clear AO zs z8 ZL z0
      refine (routside_in hsv w2).mono ?_
      rintro e wz ⟨rfl, rfl⟩
      clear hsv nsv
      have EE : Hid (strInt (S z) 0 = strInt (S (abbrR s.toList sv lt.toList).1) (abbrR s.toList sv lt.toList).2) := by unfold Hid; rw [E.out]
      generalize S z = Z at t8 u8 n1 n2 EE ⊢
      go_wp2_with fail
      go_ret2
      exact ⟨EE.out, G2.out⟩
    obtain ⟨m1, m2, m3⟩ := app_nonnil hnil
    have m4 : ¬ (x ++ y).toList = [] := by rw [app_toList]; exact hnil
    have m5 : (!(x ++ y).toList.isEmpty) = true := by cases hq : (x ++ y).toList with | nil => exact absurd hq m4 | cons a b => rfl
    have m6 : (x ++ y).toList.isEmpty = false := by cases hq : (x ++ y).toList with | nil => exact absurd hq m4 | cons a b => rfl
    generalize isAbbrB (x.toList ++ y.toList) = bx at KX F
    clear hnil
    go_wp2_with fail
    refine (KX.out w2).mono ?_
    rintro e w3 ⟨rfl, g3⟩
    have G3 := Lib.hid (G2.out.trans g3)
    clear g3 G2 KX
    cases bx with
    | false =>
      have E := Lib.hid (AR.out none (by rw [F.out]; exact if_neg (by simp only [Bool.false_eq_true, or_false]; rw [← app_toList]; exact m4)))
      clear F AR
      go_wp2_with fail
      go_ret2
      exact ⟨by rw [E.out]; rfl, G3.out⟩
    | true =>
    have AO := Lib.hid (AR.out (some (x.toList ++ (if lt.toList = [45] then [] else lt.toList) ++ y.toList)) (by rw [F.out, if_pos (Or.inr rfl)]))
    rw [if_neg hd] at AO
    clear F AR
    go_wp2_with fail
    clear m1 m2 m3 m4 m5 m6
    rw [EZ1.out]
    generalize (x.toList ++ lt.toList ++ y.toList) = z at AO ZL ⊢
    have zs := S_size z
    by_cases hsv : 0 ≤ sv ∧ sv ≤ 10800
    case neg =>
      have E := Lib.hid (AO.out.trans (abbrOf_arg (l := z) (by omega)))
      clear AO zs
      refine (routside_out hsv w3).mono ?_
      rintro e wz ⟨rfl, rfl⟩
      go_wp2_with fail
      go_ret2
      exact ⟨by rw [E.out]; rfl, G3.out⟩
    have nsv : ¬ (sv < 0 ∨ 10800 < sv) := by omega
    by_cases z8 : 8 < z.length
    case pos =>
      have E := Lib.hid (AO.out.trans (abbrOf_long nsv z8))
      have t8 : decide (8 < ((S z).size : Int)) = true := ltT (by omega)
      have u8 : 8 < (S z).size := by omega
      clear AO zs z8 ZL
      refine (routside_in hsv w3).mono ?_
      rintro e wz ⟨rfl, rfl⟩
      clear hsv nsv
      generalize S z = Z at t8 u8 ⊢
      go_wp2_with fail
      go_ret2
      exact ⟨by rw [E.out]; rfl, G3.out⟩
    have t8 : decide (8 < ((S z).size : Int)) = false := ltF (by omega)
    have u8 : ¬ 8 < (S z).size := by omega
    by_cases z0 : z = []
    case pos =>
      subst z0
      have E := Lib.hid (AO.out.trans (abbrOf_nil nsv))
      clear AO zs z8 ZL t8 u8
      refine (routside_in hsv w3).mono ?_
      rintro e wz ⟨rfl, rfl⟩
      clear hsv nsv
      rw [show S [] = ⟨#[]⟩ from rfl]
      go_wp2_with fail
      go_ret2
      exact ⟨by rw [E.out]; rfl, G3.out⟩
    have E := Lib.hid (AO.out.trans (abbrOf_ok nsv z8 z0))
    obtain ⟨n1, n2⟩ := S_ne z0
    clear AO zs z8 ZL z0
    refine (routside_in hsv w3).mono ?_
    rintro e wz ⟨rfl, rfl⟩
    clear hsv nsv
    have EE : Hid (strInt (S z) 0 = strInt (S (abbrR s.toList sv lt.toList).1) (abbrR s.toList sv lt.toList).2) := by unfold Hid; rw [E.out]
    generalize S z = Z at t8 u8 n1 n2 EE ⊢
    go_wp2_with fail
    go_ret2
    exact ⟨EE.out, G3.out⟩
  have F := Lib.hid (fmt_none (sv := sv) (lt := lt.toList) l12 HL.out h47 h37)
  have KD := Lib.hid (fun w hm => cut1_no 37 s w hm (by omega) h37)
  have KX := Lib.hid (fun w => isAbbr_any s w (by unfold maxLen; omega))
  have SX := Lib.hid (S_toList' s)
  have ZL : s.toList.length ≤ 12 := by omega
  clear h47 h37
  go_enter Tryz.func61, Tryz.ntmps61
  go_wp2_with fail
  refine (K37.out w).mono ?_
  rintro e wa ⟨rfl, rfl⟩
  go_wp2_with fail
  refine (K47.out w).mono ?_
  rintro e wa ⟨rfl, rfl⟩
  go_wp2_with fail
  refine (KL.out w).mono ?_
  rintro e w0 ⟨rfl, g0⟩
  have G0 := Lib.hid g0
  clear g0
  go_wp2_with fail
  refine (KC.out w0 (G0.out.max HM.out)).mono ?_
  rintro e w1 ⟨rfl, g1⟩
  have G1 := Lib.hid (G0.out.trans g1)
  clear g1 KC
  go_wp2_with fail
  refine (KD.out w1 (G1.out.max HM.out)).mono ?_
  rintro e w2 ⟨rfl, g2⟩
  have G2 := Lib.hid (G1.out.trans g2)
  clear g2 G1 KD
  go_wp2_with fail
  refine (KX.out w2).mono ?_
  rintro e w3 ⟨rfl, g3⟩
  have G3 := Lib.hid (G2.out.trans g3)
  clear g3 G2 KX
  generalize hbx : isAbbrB s.toList = bx at F
  have HBX := Lib.hid hbx
  clear hbx
  cases bx with
  | false =>
    have E := Lib.hid (AR.out none (by rw [F.out]; simp))
    clear F AR
    go_wp2_with fail
    go_ret2
    exact ⟨by rw [E.out]; rfl, G3.out⟩
  | true =>
  have AO := Lib.hid (AR.out (some s.toList) (by rw [F.out, if_pos rfl]))
  have HNE : Hid (¬ s = S []) := fun e => by have h := HBX.out; rw [e, S_toList] at h; revert h; decide
  clear F AR HBX
  go_wp2_with fail
  obtain ⟨z, hz⟩ : ∃ z, s.toList = z := ⟨_, rfl⟩
  have AO2 : Hid (abbrR s.toList sv lt.toList = abbrOf (some z) sv) := by rw [← hz]; exact AO.out
  have SZ : Hid (s = S z) := by rw [← hz]; exact SX.out.symm
  rw [hz] at ZL
  clear AO SX hz
  have AO := AO2
  clear AO2
  have K0 : Hid (strInt (S z) 0 = strInt s 0) := by rw [← SZ.out]; rfl
  have zs : s.size = z.length := by have := S_size z; rw [← SZ.out] at this; exact this
  by_cases hsv : 0 ≤ sv ∧ sv ≤ 10800
  case neg =>
    have E := Lib.hid (AO.out.trans (abbrOf_arg (l := z) (by omega)))
    clear AO zs
    refine (routside_out hsv w3).mono ?_
    rintro e wz ⟨rfl, rfl⟩
    go_wp2_with fail
    go_ret2
    exact ⟨by rw [E.out]; rfl, G3.out⟩
  have nsv : ¬ (sv < 0 ∨ 10800 < sv) := by omega
  by_cases z8 : 8 < z.length
  case pos =>
    have E := Lib.hid (AO.out.trans (abbrOf_long nsv z8))
    have t8 : decide (8 < (s.size : Int)) = true := ltT (by omega)
    have u8 : 8 < s.size := by omega
    clear AO zs z8 ZL
    refine (routside_in hsv w3).mono ?_
    rintro e wz ⟨rfl, rfl⟩
    clear hsv nsv
    go_wp2_with fail
    go_ret2
    exact ⟨by rw [E.out]; rfl, G3.out⟩
  have t8 : decide (8 < (s.size : Int)) = false := ltF (by omega)
  have u8 : ¬ 8 < s.size := by omega
  have z0 : ¬ z = [] := fun e => by have h := HNE.out; rw [SZ.out, e] at h; exact h rfl
  have E := Lib.hid (AO.out.trans (abbrOf_ok nsv z8 z0))
  have nn := S_ne z0
  rw [← SZ.out] at nn
  obtain ⟨n1, n2⟩ := nn
  clear AO zs z8 ZL z0
  refine (routside_in hsv w3).mono ?_
  rintro e wz ⟨rfl, rfl⟩
  clear hsv nsv
  have EE : Hid (strInt s 0 = strInt (S (abbrR s.toList sv lt.toList).1) (abbrR s.toList sv lt.toList).2) := by unfold Hid; rw [E.out]; exact K0.out.symm
  clear E K0 SZ
  go_wp2_with fail
  go_ret2
  exact ⟨EE.out, G3.out⟩

set_option maxRecDepth 100000 in
set_option maxHeartbeats 8000000 in
theorem rabbr (s : ByteArray) (sv : Int) (lt : ByteArray) (w : World) (hm : HasMax w) (hlt : lt.size ≤ maxLen) :
    Calls Tryz.prog 61 #[.string s, .int .i64 sv, .string lt] w fun e w' => e = strInt (S (abbrR s.toList sv lt.toList).1) (abbrR s.toList sv lt.toList).2 ∧ Gr w w' := by
  by_cases h12 : 12 < s.size
  · have E : Hid (strInt ⟨#[]⟩ 3 = strInt (S (abbrR s.toList sv lt.toList).1) (abbrR s.toList sv lt.toList).2) := by unfold Hid abbrR; rw [fmt_long (by rw [← size_toList]; exact h12)]; rfl
    have t12 : decide (12 < (s.size : Int)) = true := ltT (by omega)
    generalize strInt (S (abbrR s.toList sv lt.toList).1) (abbrR s.toList sv lt.toList).2 = R at E ⊢
    clear h12 hm hlt
    go_enter Tryz.func61, Tryz.ntmps61
    go_wp2_with fail
    go_ret2
    exact ⟨E.out, Gr.refl _⟩
  by_cases hc : 1 < s.toList.count 37 + s.toList.count 47
  · have E : Hid (strInt ⟨#[]⟩ 3 = strInt (S (abbrR s.toList sv lt.toList).1) (abbrR s.toList sv lt.toList).2) := by unfold Hid abbrR; rw [fmt_many hc]; rfl
    generalize strInt (S (abbrR s.toList sv lt.toList).1) (abbrR s.toList sv lt.toList).2 = R at E ⊢
    have t12 : decide (12 < (s.size : Int)) = false := ltF (by omega)
    have K37 := Lib.hid (fun w => countOne s 37 w)
    have K47 := Lib.hid (fun w => countOne s 47 w)
    have c1 := count_le_size s 37
    have c2 := count_le_size s 47
    generalize s.toList.count 37 = n37 at K37 c1 hc
    generalize s.toList.count 47 = n47 at K47 c2 hc
    have tc : decide (1 < ((n37 : Nat) : Int) + ((n47 : Nat) : Int)) = true := ltT (by omega)
    clear hc hm hlt
    go_enter Tryz.func61, Tryz.ntmps61
    go_wp2_with fail
    refine (K37.out w).mono ?_
    rintro e wa ⟨rfl, rfl⟩
    go_wp2_with fail
    refine (K47.out w).mono ?_
    rintro e wa ⟨rfl, rfl⟩
    go_wp2_with fail
    go_ret2
    exact ⟨E.out, Gr.refl _⟩
  by_cases hd : lt.toList = [45]
  · have e : lt = ⟨#[45]⟩ := by rw [S_of lt, hd]; rfl
    subst e
    exact rabbr_dash s sv w hm h12 hc
  cases hl : isAbbrB lt.toList with
  | true => exact rabbr_let s sv lt w hm h12 hc hd hl
  | false =>
    have E : Hid (strInt ⟨#[]⟩ 3 = strInt (S (abbrR s.toList sv lt.toList).1) (abbrR s.toList sv lt.toList).2) := by unfold Hid abbrR; rw [fmt_letter hl]; rfl
    generalize strInt (S (abbrR s.toList sv lt.toList).1) (abbrR s.toList sv lt.toList).2 = R at E ⊢
    have t12 : decide (12 < (s.size : Int)) = false := ltF (by omega)
    have d1 : ¬ lt = ⟨#[45]⟩ := fun e => hd (by rw [e]; exact ByteArray.toList_mk [45])
    have d2 : (lt.toList == [45]) = false := by simpa using hd
    have d3 : (lt.toList != [45]) = true := by simpa using hd
    have KL0 := fun w => isAbbr_any lt w hlt
    rw [hl] at KL0
    have KL := Lib.hid KL0
    have K37 := Lib.hid (fun w => countOne s 37 w)
    have K47 := Lib.hid (fun w => countOne s 47 w)
    have c1 := count_le_size s 37
    have c2 := count_le_size s 47
    generalize s.toList.count 37 = n37 at K37 c1 hc
    generalize s.toList.count 47 = n47 at K47 c2 hc
    have tc : decide (1 < ((n37 : Nat) : Int) + ((n47 : Nat) : Int)) = false := ltF (by omega)
    clear hc hm hlt hl KL0
    go_enter Tryz.func61, Tryz.ntmps61
    go_wp2_with fail
    refine (K37.out w).mono ?_
    rintro e wa ⟨rfl, rfl⟩
    go_wp2_with fail
    refine (K47.out w).mono ?_
    rintro e wa ⟨rfl, rfl⟩
    go_wp2_with fail
    refine (KL.out w).mono ?_
    rintro e w1 ⟨rfl, g1⟩
    go_wp2_with fail
    go_ret2
    exact ⟨E.out, g1⟩
theorem rabbrAt (f : ByteArray) (sv : Int) (lt : ByteArray) (w : World) (hm : HasMax w) (hlt : lt.size ≤ maxLen) :
    Calls Tryz.prog 61 #[.string f, .int .i64 sv, .string lt] w fun e w' => e = strInt (S (abbrR f.toList sv lt.toList).1) (abbrC f sv lt) ∧ Gr w w' := rabbr f sv lt w hm hlt
theorem rabbrDash (f : ByteArray) (sv : Int) (w : World) (hm : HasMax w) :
    Calls Tryz.prog 61 #[.string f, .int .i64 sv, .string ⟨#[45]⟩] w fun e w' => e = strInt (S (abbrR f.toList sv dash.toList).1) (abbrC f sv dash) ∧ Gr w w' := rabbr f sv dash w hm (by decide)

end Go.Proofs.YtkmgildnhnjepaaGreatDoor
