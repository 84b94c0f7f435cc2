/- All of the project and Names of the reference for every book; lists of texts compared. -/
import Derived.Test.YtemdgipkcilpcaaGreatDoorAM37
import Derived.Test.YtemdgipkcilpcaaGreatDoorAM42
import Derived.Test.YtemdgipkcilpcaaGreatDoorAM43
import Derived.Test.YtemdgipkcilpcaaGreatDoorAM26
namespace Go.Proofs.YtemdgipkcilpcaaGreatDoor
set_option linter.unusedVariables false
set_option linter.unusedSimpArgs false
open Go.RowKit
theorem pall (b : BokD) (w : World) (hb : b.At w) (ht : BkTab w) :
    Calls Tryz.prog 10 #[bookV b] w (AllE b.rs b.zs b.ls w) := pall0 b w hb (fun W g => pbookCheck b W (hb.gr g) (g.bk ht))

theorem rnames (b : BokD) (w : World) (hb : b.At w) (h0 : bokC b.rs b.zs b.ls = 0) (hm : HasMax w) :
    Calls Tryz.prog 13 #[bookV b] w (NamE (allN b.zs b.ls) w) := rnames0 b w hb h0 (fun W g => rbookCheck b W (hb.gr g) (g.max hm))

set_option maxHeartbeats 4000000 in
theorem reqStr (A : Option Addr) (c : Nat) (A' : Option Addr) (c' : Nat) (l : List (List UInt8)) (n' : Nat) (w : World) (hn : n' = l.length) (hl : l.length ≤ 100000) (h : Row w 1 nmC A l) (h' : Row w 1 nmC A' l) :
    Calls Tryz.prog 12 #[.slice A l.length c, .slice A' n' c'] w fun e w' => e = .returned (.bool true) ∧ Gr w w' := by
  subst hn
  have H := Lib.hid h
  have H' := Lib.hid h'
  clear h h'
  go_enter Tryz.func12, Tryz.ntmps12
  go_wp2_with fail
  go_loopw [14] (fun i W => ∃ k : Nat, k ≤ l.length ∧ i = .int .i64 k ∧ Hid (Gr w W)) (fun i W => l.length - (intOf i).toNat)
  case atStart => exact ⟨0, Nat.zero_le _, rfl, Gr.refl _⟩
  case round =>
    obtain ⟨k, hk, rfl, hg⟩ := hrel
    by_cases hlt : k < l.length
    · obtain ⟨x, hx⟩ := get_lt hlt
      obtain ⟨b, off, rfl, c0⟩ := H.out.one hx rfl hg.out
      obtain ⟨b2, off2, rfl, d0⟩ := H'.out.one hx rfl hg.out
      have e0 : (x == x) = true := by simp
      clear hx
      go_wp2_with fail
      go_roundw
      case rel => exact ⟨k + 1, by omega, by go_num, hg⟩
      case measure => simp [intOf]; omega
    · go_wp2_with fail
      go_ret
      exact ⟨rfl, hg.out⟩
end Go.Proofs.YtemdgipkcilpcaaGreatDoor
