/- The closed fact of the laws on clocks, a time that has a timestamp, and the empty text, which is no duration. -/
import Derived.Test.YteciijcgnaojeaaDoorK5
import Derived.Test.YteciijcgnaojeaaDoorK9
import Derived.Test.YteciijcgnaojeaaDoorW4
namespace Go.Proofs.YteciijcgnaojeaaDoor
set_option linter.unusedVariables false
set_option linter.unusedSimpArgs false
open Go.RowKit

theorem span_ne (n : Int) (h1 : -604800 ≤ n) (h2 : n ≤ 604800) : ¬ spanL n = [] := by
  unfold spanL
  split
  · simp
  · obtain ⟨c, r, e, _⟩ := head0 (n := n) (by omega) h2
    rw [e]; simp

theorem readNone (w : World) : Calls Tryd.prog 16 #[.string ⟨#[]⟩] w fun e w' => e = two 0 3 ∧ Gr w w' := by
  refine (readSpan_ans ⟨#[]⟩ w (by decide)).mono ?_
  rintro e w' ⟨ha, hg⟩
  refine ⟨ha.2 ?_, hg⟩
  rintro ⟨n, hn, e⟩
  rw [ByteArray.toList_eq] at e
  exact span_ne n hn.1 hn.2 e

theorem stamp_last : S (stampL 1969 12 31 86399) = ⟨#[49, 57, 54, 57, 45, 49, 50, 45, 51, 49, 84, 50, 51, 58, 53, 57, 58, 53, 57]⟩ := by
  unfold S stampL; rfl
theorem span_first : S (spanL (-3601)) = ⟨#[45, 49, 58, 48, 48, 58, 48, 49]⟩ := by
  unfold S spanL spanL0
  rw [if_pos (by decide), dz_small (by decide) (by decide)]
  rfl

set_option maxHeartbeats 400000 in
theorem clocked_any (w : World) (hl : HasLen w) (hp : HasPow w) :
    Calls Tryd.prog 22 #[] w fun e w' => e = .returned (.bool true) ∧ Gr w w' := by
  have c1 := stamp_yes (-1) 1969 12 31 86399 w hl hp (by unfold Cal.Valid; decide) (by decide) (by decide) (by decide)
  rw [stamp_last] at c1
  have c2 := fun w hp => span_yes (-3601) w hp (by decide) (by decide)
  rw [span_first] at c2
  have C2 := Lib.hid c2
  have HP := Lib.hid hp
  clear c2 hl hp
  go_enter Tryd.func22, Tryd.ntmps22
  go_wp2_with fail
  refine c1.mono ?_
  rintro e w1 ⟨rfl, hg1⟩
  clear c1
  go_wp2_with fail
  refine (C2.out w1 (hg1.pow HP.out)).mono ?_
  rintro e w2 ⟨rfl, hg2⟩
  go_wp2_with fail
  go_ret
  exact ⟨rfl, hg1.trans hg2⟩

/-- a time that has a timestamp -/
def timeV (t : Int) : Int := t % 25245561600 - 11676096000
theorem timeV_bd (t : Int) : -11676096000 ≤ timeV t ∧ timeV t ≤ 13569465599 := by unfold timeV; omega

set_option maxHeartbeats 400000 in
theorem timeOf_any (t : Int) (w : World) (t1 : -9223372036854775808 ≤ t) (t2 : t ≤ 9223372036854775807) :
    Calls Tryd.prog 25 #[.int .i64 t] w fun e w' => e = .returned (.int .i64 (timeV t)) ∧ Gr w w' := by
  have c1 := rdays_yes 1600 1 1 w (by unfold Cal.Valid; decide)
  have e : Cal.days 1600 1 1 = -135140 := by decide
  rw [e] at c1
  have c2 := Lib.hid (fun w => rest_any t 25245561600 w t1 t2 (by omega) (by omega))
  have b1 : 0 ≤ t % 25245561600 := by omega
  have b2 : t % 25245561600 < 25245561600 := by omega
  unfold timeV
  generalize t % 25245561600 = r at c2 b1 b2 ⊢
  go_enter Tryd.func25, Tryd.ntmps25
  go_wp2_with fail
  refine c1.mono ?_
  rintro e w1 ⟨rfl, hg1⟩
  clear c1
  go_wp2_with fail
  refine (c2.out w1).mono ?_
  rintro e w2 ⟨rfl, rfl⟩
  go_wp2_with fail
  go_ret
  exact ⟨ret_int (by omega), hg1⟩
end Go.Proofs.YteciijcgnaojeaaDoor
