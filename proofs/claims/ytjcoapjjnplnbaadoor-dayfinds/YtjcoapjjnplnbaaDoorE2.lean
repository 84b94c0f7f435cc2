/- The closed fact of the laws on days. -/
import Derived.Test.YtjcoapjjnplnbaaDoorE1
namespace Go.Proofs.YtjcoapjjnplnbaaDoor
set_option linter.unusedVariables false
set_option linter.unusedSimpArgs false
open Go.RowKit

theorem lastSun : dayA 2026 11 2 0 0 = two 20786 0 := by
  have t : dayT 2026 11 2 0 0 = 20786 := by decide
  rw [dayA_yes (by decide) (by decide) (by decide) (by decide) (by decide) (by decide) (by decide) (by decide), t]

set_option maxHeartbeats 400000 in
theorem mondays_any (w : World) (ho : OfTab w) :
    Calls Tryd.prog 20 #[] w fun e w' => e = .returned (.bool true) ∧ Gr w w' := by
  have KO := fun w h => dayOf 2026 11 2 0 0 w h
  rw [lastSun] at KO
  have KO' := Lib.hid KO
  have KC0 := dayCheck 0 0 0
  rw [show dchk 0 0 0 = 1 by decide] at KC0
  have KC := Lib.hid KC0
  clear KC0
  have HO := Lib.hid ho
  clear KO ho
  go_enter Tryd.func20, Tryd.ntmps20
  go_wp2_with fail
  refine (KO'.out w HO.out).mono ?_
  rintro e w2 ⟨rfl, hg2⟩
  go_wp2_with fail
  refine (KC.out w2).mono ?_
  rintro e w3 ⟨rfl, hg3⟩
  go_wp2_with fail
  go_ret
  exact ⟨rfl, hg2.trans hg3⟩
end Go.Proofs.YtjcoapjjnplnbaaDoor
