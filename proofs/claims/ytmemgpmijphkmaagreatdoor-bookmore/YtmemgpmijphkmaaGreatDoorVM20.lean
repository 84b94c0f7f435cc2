/- strings.Cut at a colon, for texts of every length; the width of a number. -/
import Derived.Lib.CutLaws
import Derived.Lib.IndexBytes
import Derived.Test.YtmemgpmijphkmaaGreatDoorVM19
import Derived.Test.YtmemgpmijphkmaaGreatDoorVM02
namespace Go.Proofs.YtmemgpmijphkmaaGreatDoor
set_option linter.unusedVariables false
set_option linter.unusedSimpArgs false
open Go.RowKit
set_option maxHeartbeats 1000000 in
set_option maxRecDepth 100000 in
theorem colon_index (s : ByteArray) (w : World) :
    Calls Tryz.prog 99 #[.string s, .string ⟨#[58]⟩] w fun e w' => e = .returned (.int .i64 (Lib.index s.data.toList [58])) ∧ w = w' := by
  by_cases h : s = ⟨#[58]⟩
  · subst h
    have E : Hid (Lib.index (⟨#[58]⟩ : ByteArray).data.toList [58] = 0) := by unfold Hid; decide
    generalize Lib.index (⟨#[58]⟩ : ByteArray).data.toList [58] = q at E ⊢
    go_enter Tryz.func99, Tryz.ntmps99
    go_wp2_with fail
    go_ret
    exact ⟨ret_int E.out.symm, rfl⟩
  · have e1 : (([58] : List UInt8) == s.toList) = false := by
      cases hq : ([58] : List UInt8) == s.toList with
      | false => rfl
      | true =>
        have := eq_of_beq hq
        exact absurd (by rw [S_of s, ← this]; rfl) h
    have e3 : ¬ (⟨#[58]⟩ : ByteArray) = s := fun x => h x.symm
    have E := Lib.hid (Lib.index_one s.data.toList 58)
    clear h
    go_enter Tryz.func99, Tryz.ntmps99
    go_wp2_with fail
    refine (Tryz.stringslite_IndexByte s 58 w).mono ?_
    rintro e w1 ⟨rfl, rfl⟩
    go_wp2_with fail
    go_ret
    exact ⟨by rw [E.out]; rfl, rfl⟩

/-- what Cut returns -/
abbrev cut3 (a b : List UInt8) (f : Bool) : Ending := .returned (.tuple #[.string (S a), .string (S b), .bool f])
def cutL (l : List UInt8) : List UInt8 × List UInt8 × Bool := Lib.cut l [58]
theorem tup3 {a a' b b' : ByteArray} {c c' : Bool} (h1 : a' = a) (h2 : b' = b) (h3 : c' = c) : Ending.returned (.tuple #[.string a, .string b, .bool c]) = .returned (.tuple #[.string a', .string b', .bool c']) := by rw [h1, h2, h3]

set_option maxHeartbeats 1000000 in
theorem cut_lite (s : ByteArray) (w : World) (hm : s.size ≤ maxLen) :
    Calls Tryz.prog 117 #[.string s, .string ⟨#[58]⟩] w fun e w' => e = cut3 (cutL s.toList).1 (cutL s.toList).2.1 (cutL s.toList).2.2 ∧ Gr w w' := by
  unfold maxLen at hm
  have K := Lib.hid (colon_index s w)
  rcases Lib.indexB_cases s ⟨#[58]⟩ with hix | ⟨i, hix, hroom⟩
  · obtain ⟨e1, e2, e3⟩ := Lib.cutB_miss s ⟨#[58]⟩ hix
    have hix' : Lib.index s.data.toList [58] = -1 := hix
    rw [hix'] at K
    have E1 : Hid (S (cutL s.toList).1 = s) := by unfold Hid cutL; rw [ByteArray.toList_eq]; exact e1
    have E2 : Hid (S (cutL s.toList).2.1 = ⟨#[]⟩) := by unfold Hid cutL; rw [ByteArray.toList_eq]; exact e2
    have E3 : Hid ((cutL s.toList).2.2 = false) := by unfold Hid cutL; rw [ByteArray.toList_eq]; exact e3
    clear e1 e2 e3 hix hix'
    go_enter Tryz.func117, Tryz.ntmps117
    go_wp2_with fail
    refine K.out.mono ?_
    rintro e w1 ⟨rfl, rfl⟩
    go_wp2_with fail
    go_ret3
    exact ⟨tup3 E1.out E2.out E3.out, Gr.refl _⟩
  · obtain ⟨e1, e2, e3⟩ := Lib.cutB_hit s ⟨#[58]⟩ i hix
    have hix' : Lib.index s.data.toList [58] = i := hix
    rw [hix'] at K
    have E1 : Hid (S (cutL s.toList).1 = s.extract 0 i) := by unfold Hid cutL; rw [ByteArray.toList_eq]; exact e1
    have E2 : Hid (S (cutL s.toList).2.1 = s.extract (i + 1) s.size) := by unfold Hid cutL; rw [ByteArray.toList_eq]; exact e2
    have E3 : Hid ((cutL s.toList).2.2 = true) := by unfold Hid cutL; rw [ByteArray.toList_eq]; exact e3
    have hr : i + 1 ≤ s.size := hroom
    clear e1 e2 e3 hix hix' hroom
    have c1 : (0 : Int) ≤ ↑i := by omega
    have c2 : (↑i : Int) ≤ ↑s.size := by omega
    have c3 : (0 : Int) ≤ ↑i + 1 := by omega
    have c4 : (↑i + 1 : Int) ≤ ↑s.size := by omega
    go_enter Tryz.func117, Tryz.ntmps117
    go_wp2_with fail
    refine K.out.mono ?_
    rintro e w1 ⟨rfl, rfl⟩
    go_wp2_with fail
    go_quiet (fail)
    go_wp2
    go_ret3
    exact ⟨tup3 E1.out E2.out E3.out, (Gr.refl _).drewN _⟩

set_option maxHeartbeats 400000 in
theorem cut_any (s : ByteArray) (w : World) (hm : s.size ≤ maxLen) :
    Calls Tryz.prog 72 #[.string s, .string ⟨#[58]⟩] w fun e w' => e = cut3 (cutL s.toList).1 (cutL s.toList).2.1 (cutL s.toList).2.2 ∧ Gr w w' := by
  have K := Lib.hid (cut_lite s w hm)
  generalize (cutL s.toList).2.2 = c at K ⊢
  generalize (cutL s.toList).2.1 = b at K ⊢
  generalize (cutL s.toList).1 = a at K ⊢
  go_enter Tryz.func72, Tryz.ntmps72
  go_wp2_with fail
  refine K.out.mono ?_
  rintro e w1 ⟨rfl, hg⟩
  go_wp2_with fail
  go_ret3
  exact ⟨rfl, hg⟩

/-- how many digits are left when the leading zeros are dropped, at least one -/
def wid (l : List UInt8) : Int := max 1 ((l.dropWhile (· == 48)).length : Int)

set_option maxHeartbeats 400000 in
theorem width_any (s : ByteArray) (w : World) (hm : s.size ≤ maxLen) :
    Calls Tryz.prog 156 #[.string s] w fun e w' => e = .returned (.int .i64 (wid s.toList)) ∧ Gr w w' := by
  unfold maxLen at hm
  have K := Tryz.strings_TrimLeft_one s 48 (by decide) w
  have e0 : (⟨(Lib.trimLeftB s.data.toList 48).toArray⟩ : ByteArray) = S (s.toList.dropWhile (· == 48)) := by rw [ByteArray.toList_eq]; rfl
  rw [e0] at K
  have hle : (s.toList.dropWhile (· == 48)).length ≤ s.size := by rw [← toList_len s]; exact (List.dropWhile_suffix _).length_le
  have K' := Lib.hid K
  clear K e0
  unfold wid
  generalize s.toList.dropWhile (· == 48) = l at K' hle ⊢
  go_enter Tryz.func156, Tryz.ntmps156
  go_wp2_with fail
  refine K'.out.mono ?_
  rintro e w1 ⟨rfl, rfl⟩
  go_wp2_with fail
  go_ret
  exact ⟨rfl, Gr.refl _⟩
end Go.Proofs.YtmemgpmijphkmaaGreatDoor
