/- What the reference's functions on names return: letters, IsName, IsAbbr. -/
import Derived.Test.YtkmgildnhnjepaaGreatDoorTM03
namespace Go.Proofs.YtkmgildnhnjepaaGreatDoor
set_option linter.unusedVariables false
set_option linter.unusedSimpArgs false
open Go.RowKit
/-- a digit or a letter -/
def alnum (c : Int) : Bool := (decide (48 ≤ c) && decide (c ≤ 57)) || (decide (65 ≤ c) && decide (c ≤ 90)) || (decide (97 ≤ c) && decide (c ≤ 122))
/-- is it one of the first k bytes? -/
def inB (o : List UInt8) (c : Int) : Nat → Bool
  | 0 => false
  | k + 1 => inB o c k || (c == bt o k)
/-- do the first k bytes consist of digits, letters and those others? -/
def lettersB (s o : List UInt8) : Nat → Bool
  | 0 => true
  | k + 1 => lettersB s o k && (alnum (bt s k) || inB o (bt s k) o.length)
theorem lettersB_no {s o : List UInt8} {k : Nat} (h : (alnum (bt s k) || inB o (bt s k) o.length) = false) : ∀ n, k < n → lettersB s o n = false := by
  intro n
  induction n with
  | zero => intro h; omega
  | succ n ih =>
    intro hn
    unfold lettersB
    by_cases e : k = n
    · subst e; rw [h]; simp
    · rw [ih (by omega)]; simp
theorem len_toList (s : ByteArray) : s.toList.length = s.size := by rw [ByteArray.toList_eq]; exact Array.length_toList

set_option maxHeartbeats 4000000 in
theorem letters_any (s o : ByteArray) (w : World) (hs : s.size ≤ maxLen) (ho : o.size ≤ 1000) :
    Calls Tryz.prog 116 #[.string s, .string o] w fun e w' => e = .returned (.bool (lettersB s.toList o.toList s.size)) ∧ Gr w w' := by
  unfold maxLen at hs
  obtain ⟨cap, w1, hconv, hg1, hca⟩ := to_bytes s w
  have HC1 := Lib.hid hca
  clear hca
  generalize w.heap.size = ga at hconv HC1
  go_enter Tryz.func116, Tryz.ntmps116
  go_wp2_with fail
  clear hconv
  go_loopw [13] (fun i wr => ∃ k : Nat, k ≤ s.size ∧ i = .int .i64 k ∧ lettersB s.toList o.toList k = true ∧ Gr w wr ∧ ∀ j, j < s.size → wr.cell? ⟨ga, j, none⟩ = some (.int .u8 (bt s.toList j))) (fun i _ => s.size - (intOf i).toNat)
  case atStart => exact ⟨0, Nat.zero_le _, rfl, rfl, hg1, HC1.out⟩
  case round =>
    obtain ⟨k, hk, rfl, hlk, hg, hcl⟩ := hrel
    have HC := Lib.hid hcl
    have LK := Lib.hid hlk
    clear hcl hlk HC1 hg1
    by_cases hlt : k < s.size
    · have hcell := HC.out k hlt
      have LS := Lib.hid (show lettersB s.toList o.toList (k + 1) = (lettersB s.toList o.toList k && (alnum (bt s.toList k) || inB o.toList (bt s.toList k) o.toList.length)) by rfl)
      have LN : Hid ((alnum (bt s.toList k) || inB o.toList (bt s.toList k) o.toList.length) = false → lettersB s.toList o.toList s.size = false) := fun h => lettersB_no h s.size hlt
      have cb := bt_bd s.toList k
      generalize bt s.toList k = c at hcell LS LN cb
      obtain ⟨cb1, cb2⟩ := cb
      by_cases k0 : c < 48
      · have f48 : decide (48 ≤ c) = false := by simp; omega
        have f57 : decide (c ≤ 57) = true := by simp; omega
        have f65 : decide (65 ≤ c) = false := by simp; omega
        have f90 : decide (c ≤ 90) = true := by simp; omega
        have f97 : decide (97 ≤ c) = false := by simp; omega
        have f122 : decide (c ≤ 122) = true := by simp; omega
        have AL := Lib.hid (show alnum c = false by simp only [alnum, f48, f57, f65, f90, f97, f122]; rfl)
        obtain ⟨cap2, w2, hconv2, hg2, hcb⟩ := to_bytes o wr
        have HB := Lib.hid hcb
        clear hcb
        generalize wr.heap.size = gb at hconv2 HB
        go_wp2_with fail
        go_loop [7, 42] (fun v i => ∃ j : Nat, j ≤ o.size ∧ i = .int .i64 j ∧ v = .bool (inB o.toList c j)) (fun _ i => o.size - (intOf i).toNat)
        case atStart => exact ⟨0, Nat.zero_le _, rfl, rfl⟩
        case round =>
          obtain ⟨j, hj, rfl, rfl⟩ := hrel
          by_cases hjt : j < o.size
          · have hcell2 := HB.out j hjt
            have IS := Lib.hid (show inB o.toList c (j + 1) = (inB o.toList c j || (c == bt o.toList j)) by rfl)
            cases hb : inB o.toList c j
            · cases hx : (c == bt o.toList j)
              · have R := Lib.hid (show inB o.toList c (j + 1) = false by rw [IS.out, hb, hx]; rfl)
                generalize bt o.toList j = x at hcell2 hx
                clear hb IS
                go_wp2_with fail
                go_round
                case rel => exact ⟨j + 1, by omega, by go_num, by rw [R.out]⟩
                case measure => simp [intOf]; omega
              · have R := Lib.hid (show inB o.toList c (j + 1) = true by rw [IS.out, hb, hx]; rfl)
                generalize bt o.toList j = x at hcell2 hx
                clear hb IS
                go_wp2_with fail
                go_round
                case rel => exact ⟨j + 1, by omega, by go_num, by rw [R.out]⟩
                case measure => simp [intOf]; omega
            · have R := Lib.hid (show inB o.toList c (j + 1) = true by rw [IS.out, hb]; rfl)
              generalize bt o.toList j = x at hcell2
              clear hb IS
              go_wp2_with fail
              go_round
              case rel => exact ⟨j + 1, by omega, by go_num, by rw [R.out]⟩
              case measure => simp [intOf]; omega
          · obtain rfl : j = o.size := by omega
            cases hb : inB o.toList c o.size
            · have NO := Lib.hid (LN.out (show (alnum c || inB o.toList c o.toList.length) = false by rw [AL.out, len_toList, hb]; rfl))
              clear hb
              go_wp2_with fail
              go_ret
              exact ⟨ret_bool NO.out.symm, hg.trans hg2⟩
            · have YES := Lib.hid (show (alnum c || inB o.toList c o.toList.length) = true by rw [AL.out, len_toList, hb]; rfl)
              clear hb
              go_wp2_with fail
              go_roundw
              case rel => exact ⟨k + 1, by omega, by go_num, by rw [LS.out, YES.out]; simp [LK.out], hg.trans hg2, fun i hi => hg2.holds (HC.out i hi)⟩
              case measure => simp [intOf]; omega
      · by_cases k1 : c ≤ 57
        · have f48 : decide (48 ≤ c) = true := by simp; omega
          have f57 : decide (c ≤ 57) = true := by simp; omega
          have f65 : decide (65 ≤ c) = false := by simp; omega
          have f90 : decide (c ≤ 90) = true := by simp; omega
          have f97 : decide (97 ≤ c) = false := by simp; omega
          have f122 : decide (c ≤ 122) = true := by simp; omega
          have AL := Lib.hid (show alnum c = true by simp only [alnum, f48, f57, f65, f90, f97, f122]; rfl)
          obtain ⟨cap2, w2, hconv2, hg2, hcb⟩ := to_bytes o wr
          have HB := Lib.hid hcb
          clear hcb
          generalize wr.heap.size = gb at hconv2 HB
          go_wp2_with fail
          go_loop [7, 42] (fun v i => ∃ j : Nat, j ≤ o.size ∧ i = .int .i64 j ∧ v = .bool true) (fun _ i => o.size - (intOf i).toNat)
          case atStart => exact ⟨0, Nat.zero_le _, rfl, rfl⟩
          case round =>
            obtain ⟨j, hj, rfl, rfl⟩ := hrel
            by_cases hjt : j < o.size
            · have hcell2 := HB.out j hjt
              generalize bt o.toList j = x at hcell2
              go_wp2_with fail
              go_round
              case rel => exact ⟨j + 1, by omega, by go_num, rfl⟩
              case measure => simp [intOf]; omega
            · obtain rfl : j = o.size := by omega
              go_wp2_with fail
              go_roundw
              case rel => exact ⟨k + 1, by omega, by go_num, by rw [LS.out, AL.out]; simp [LK.out], hg.trans hg2, fun i hi => hg2.holds (HC.out i hi)⟩
              case measure => simp [intOf]; omega
        · by_cases k2 : c < 65
          · have f48 : decide (48 ≤ c) = true := by simp; omega
            have f57 : decide (c ≤ 57) = false := by simp; omega
            have f65 : decide (65 ≤ c) = false := by simp; omega
            have f90 : decide (c ≤ 90) = true := by simp; omega
            have f97 : decide (97 ≤ c) = false := by simp; omega
            have f122 : decide (c ≤ 122) = true := by simp; omega
            have AL := Lib.hid (show alnum c = false by simp only [alnum, f48, f57, f65, f90, f97, f122]; rfl)
            obtain ⟨cap2, w2, hconv2, hg2, hcb⟩ := to_bytes o wr
            have HB := Lib.hid hcb
            clear hcb
            generalize wr.heap.size = gb at hconv2 HB
            go_wp2_with fail
            go_loop [7, 42] (fun v i => ∃ j : Nat, j ≤ o.size ∧ i = .int .i64 j ∧ v = .bool (inB o.toList c j)) (fun _ i => o.size - (intOf i).toNat)
            case atStart => exact ⟨0, Nat.zero_le _, rfl, rfl⟩
            case round =>
              obtain ⟨j, hj, rfl, rfl⟩ := hrel
              by_cases hjt : j < o.size
              · have hcell2 := HB.out j hjt
                have IS := Lib.hid (show inB o.toList c (j + 1) = (inB o.toList c j || (c == bt o.toList j)) by rfl)
                cases hb : inB o.toList c j
                · cases hx : (c == bt o.toList j)
                  · have R := Lib.hid (show inB o.toList c (j + 1) = false by rw [IS.out, hb, hx]; rfl)
                    generalize bt o.toList j = x at hcell2 hx
                    clear hb IS
                    go_wp2_with fail
                    go_round
                    case rel => exact ⟨j + 1, by omega, by go_num, by rw [R.out]⟩
                    case measure => simp [intOf]; omega
                  · have R := Lib.hid (show inB o.toList c (j + 1) = true by rw [IS.out, hb, hx]; rfl)
                    generalize bt o.toList j = x at hcell2 hx
                    clear hb IS
                    go_wp2_with fail
                    go_round
                    case rel => exact ⟨j + 1, by omega, by go_num, by rw [R.out]⟩
                    case measure => simp [intOf]; omega
                · have R := Lib.hid (show inB o.toList c (j + 1) = true by rw [IS.out, hb]; rfl)
                  generalize bt o.toList j = x at hcell2
                  clear hb IS
                  go_wp2_with fail
                  go_round
                  case rel => exact ⟨j + 1, by omega, by go_num, by rw [R.out]⟩
                  case measure => simp [intOf]; omega
              · obtain rfl : j = o.size := by omega
                cases hb : inB o.toList c o.size
                · have NO := Lib.hid (LN.out (show (alnum c || inB o.toList c o.toList.length) = false by rw [AL.out, len_toList, hb]; rfl))
                  clear hb
                  go_wp2_with fail
                  go_ret
                  exact ⟨ret_bool NO.out.symm, hg.trans hg2⟩
                · have YES := Lib.hid (show (alnum c || inB o.toList c o.toList.length) = true by rw [AL.out, len_toList, hb]; rfl)
                  clear hb
                  go_wp2_with fail
                  go_roundw
                  case rel => exact ⟨k + 1, by omega, by go_num, by rw [LS.out, YES.out]; simp [LK.out], hg.trans hg2, fun i hi => hg2.holds (HC.out i hi)⟩
                  case measure => simp [intOf]; omega
          · by_cases k3 : c ≤ 90
            · have f48 : decide (48 ≤ c) = true := by simp; omega
              have f57 : decide (c ≤ 57) = false := by simp; omega
              have f65 : decide (65 ≤ c) = true := by simp; omega
              have f90 : decide (c ≤ 90) = true := by simp; omega
              have f97 : decide (97 ≤ c) = false := by simp; omega
              have f122 : decide (c ≤ 122) = true := by simp; omega
              have AL := Lib.hid (show alnum c = true by simp only [alnum, f48, f57, f65, f90, f97, f122]; rfl)
              obtain ⟨cap2, w2, hconv2, hg2, hcb⟩ := to_bytes o wr
              have HB := Lib.hid hcb
              clear hcb
              generalize wr.heap.size = gb at hconv2 HB
              go_wp2_with fail
              go_loop [7, 42] (fun v i => ∃ j : Nat, j ≤ o.size ∧ i = .int .i64 j ∧ v = .bool true) (fun _ i => o.size - (intOf i).toNat)
              case atStart => exact ⟨0, Nat.zero_le _, rfl, rfl⟩
              case round =>
                obtain ⟨j, hj, rfl, rfl⟩ := hrel
                by_cases hjt : j < o.size
                · have hcell2 := HB.out j hjt
                  generalize bt o.toList j = x at hcell2
                  go_wp2_with fail
                  go_round
                  case rel => exact ⟨j + 1, by omega, by go_num, rfl⟩
                  case measure => simp [intOf]; omega
                · obtain rfl : j = o.size := by omega
                  go_wp2_with fail
                  go_roundw
                  case rel => exact ⟨k + 1, by omega, by go_num, by rw [LS.out, AL.out]; simp [LK.out], hg.trans hg2, fun i hi => hg2.holds (HC.out i hi)⟩
                  case measure => simp [intOf]; omega
            · by_cases k4 : c < 97
              · have f48 : decide (48 ≤ c) = true := by simp; omega
                have f57 : decide (c ≤ 57) = false := by simp; omega
                have f65 : decide (65 ≤ c) = true := by simp; omega
                have f90 : decide (c ≤ 90) = false := by simp; omega
                have f97 : decide (97 ≤ c) = false := by simp; omega
                have f122 : decide (c ≤ 122) = true := by simp; omega
                have AL := Lib.hid (show alnum c = false by simp only [alnum, f48, f57, f65, f90, f97, f122]; rfl)
                obtain ⟨cap2, w2, hconv2, hg2, hcb⟩ := to_bytes o wr
                have HB := Lib.hid hcb
                clear hcb
                generalize wr.heap.size = gb at hconv2 HB
                go_wp2_with fail
                go_loop [7, 42] (fun v i => ∃ j : Nat, j ≤ o.size ∧ i = .int .i64 j ∧ v = .bool (inB o.toList c j)) (fun _ i => o.size - (intOf i).toNat)
                case atStart => exact ⟨0, Nat.zero_le _, rfl, rfl⟩
                case round =>
                  obtain ⟨j, hj, rfl, rfl⟩ := hrel
                  by_cases hjt : j < o.size
                  · have hcell2 := HB.out j hjt
                    have IS := Lib.hid (show inB o.toList c (j + 1) = (inB o.toList c j || (c == bt o.toList j)) by rfl)
                    cases hb : inB o.toList c j
                    · cases hx : (c == bt o.toList j)
                      · have R := Lib.hid (show inB o.toList c (j + 1) = false by rw [IS.out, hb, hx]; rfl)
                        generalize bt o.toList j = x at hcell2 hx
                        clear hb IS
                        go_wp2_with fail
                        go_round
                        case rel => exact ⟨j + 1, by omega, by go_num, by rw [R.out]⟩
                        case measure => simp [intOf]; omega
                      · have R := Lib.hid (show inB o.toList c (j + 1) = true by rw [IS.out, hb, hx]; rfl)
                        generalize bt o.toList j = x at hcell2 hx
                        clear hb IS
                        go_wp2_with fail
                        go_round
                        case rel => exact ⟨j + 1, by omega, by go_num, by rw [R.out]⟩
                        case measure => simp [intOf]; omega
                    · have R := Lib.hid (show inB o.toList c (j + 1) = true by rw [IS.out, hb]; rfl)
                      generalize bt o.toList j = x at hcell2
                      clear hb IS
                      go_wp2_with fail
                      go_round
                      case rel => exact ⟨j + 1, by omega, by go_num, by rw [R.out]⟩
                      case measure => simp [intOf]; omega
                  · obtain rfl : j = o.size := by omega
                    cases hb : inB o.toList c o.size
                    · have NO := Lib.hid (LN.out (show (alnum c || inB o.toList c o.toList.length) = false by rw [AL.out, len_toList, hb]; rfl))
                      clear hb
                      go_wp2_with fail
                      go_ret
                      exact ⟨ret_bool NO.out.symm, hg.trans hg2⟩
                    · have YES := Lib.hid (show (alnum c || inB o.toList c o.toList.length) = true by rw [AL.out, len_toList, hb]; rfl)
                      clear hb
                      go_wp2_with fail
                      go_roundw
                      case rel => exact ⟨k + 1, by omega, by go_num, by rw [LS.out, YES.out]; simp [LK.out], hg.trans hg2, fun i hi => hg2.holds (HC.out i hi)⟩
                      case measure => simp [intOf]; omega
              · by_cases k5 : c ≤ 122
                · have f48 : decide (48 ≤ c) = true := by simp; omega
                  have f57 : decide (c ≤ 57) = false := by simp; omega
                  have f65 : decide (65 ≤ c) = true := by simp; omega
                  have f90 : decide (c ≤ 90) = false := by simp; omega
                  have f97 : decide (97 ≤ c) = true := by simp; omega
                  have f122 : decide (c ≤ 122) = true := by simp; omega
                  have AL := Lib.hid (show alnum c = true by simp only [alnum, f48, f57, f65, f90, f97, f122]; rfl)
                  obtain ⟨cap2, w2, hconv2, hg2, hcb⟩ := to_bytes o wr
                  have HB := Lib.hid hcb
                  clear hcb
                  generalize wr.heap.size = gb at hconv2 HB
                  go_wp2_with fail
                  go_loop [7, 42] (fun v i => ∃ j : Nat, j ≤ o.size ∧ i = .int .i64 j ∧ v = .bool true) (fun _ i => o.size - (intOf i).toNat)
                  case atStart => exact ⟨0, Nat.zero_le _, rfl, rfl⟩
                  case round =>
                    obtain ⟨j, hj, rfl, rfl⟩ := hrel
                    by_cases hjt : j < o.size
                    · have hcell2 := HB.out j hjt
                      generalize bt o.toList j = x at hcell2
                      go_wp2_with fail
                      go_round
                      case rel => exact ⟨j + 1, by omega, by go_num, rfl⟩
                      case measure => simp [intOf]; omega
                    · obtain rfl : j = o.size := by omega
                      go_wp2_with fail
                      go_roundw
                      case rel => exact ⟨k + 1, by omega, by go_num, by rw [LS.out, AL.out]; simp [LK.out], hg.trans hg2, fun i hi => hg2.holds (HC.out i hi)⟩
                      case measure => simp [intOf]; omega
                · have f48 : decide (48 ≤ c) = true := by simp; omega
                  have f57 : decide (c ≤ 57) = false := by simp; omega
                  have f65 : decide (65 ≤ c) = true := by simp; omega
                  have f90 : decide (c ≤ 90) = false := by simp; omega
                  have f97 : decide (97 ≤ c) = true := by simp; omega
                  have f122 : decide (c ≤ 122) = false := by simp; omega
                  have AL := Lib.hid (show alnum c = false by simp only [alnum, f48, f57, f65, f90, f97, f122]; rfl)
                  obtain ⟨cap2, w2, hconv2, hg2, hcb⟩ := to_bytes o wr
                  have HB := Lib.hid hcb
                  clear hcb
                  generalize wr.heap.size = gb at hconv2 HB
                  go_wp2_with fail
                  go_loop [7, 42] (fun v i => ∃ j : Nat, j ≤ o.size ∧ i = .int .i64 j ∧ v = .bool (inB o.toList c j)) (fun _ i => o.size - (intOf i).toNat)
                  case atStart => exact ⟨0, Nat.zero_le _, rfl, rfl⟩
                  case round =>
                    obtain ⟨j, hj, rfl, rfl⟩ := hrel
                    by_cases hjt : j < o.size
                    · have hcell2 := HB.out j hjt
                      have IS := Lib.hid (show inB o.toList c (j + 1) = (inB o.toList c j || (c == bt o.toList j)) by rfl)
                      cases hb : inB o.toList c j
                      · cases hx : (c == bt o.toList j)
                        · have R := Lib.hid (show inB o.toList c (j + 1) = false by rw [IS.out, hb, hx]; rfl)
                          generalize bt o.toList j = x at hcell2 hx
                          clear hb IS
                          go_wp2_with fail
                          go_round
                          case rel => exact ⟨j + 1, by omega, by go_num, by rw [R.out]⟩
                          case measure => simp [intOf]; omega
                        · have R := Lib.hid (show inB o.toList c (j + 1) = true by rw [IS.out, hb, hx]; rfl)
                          generalize bt o.toList j = x at hcell2 hx
                          clear hb IS
                          go_wp2_with fail
                          go_round
                          case rel => exact ⟨j + 1, by omega, by go_num, by rw [R.out]⟩
                          case measure => simp [intOf]; omega
                      · have R := Lib.hid (show inB o.toList c (j + 1) = true by rw [IS.out, hb]; rfl)
                        generalize bt o.toList j = x at hcell2
                        clear hb IS
                        go_wp2_with fail
                        go_round
                        case rel => exact ⟨j + 1, by omega, by go_num, by rw [R.out]⟩
                        case measure => simp [intOf]; omega
                    · obtain rfl : j = o.size := by omega
                      cases hb : inB o.toList c o.size
                      · have NO := Lib.hid (LN.out (show (alnum c || inB o.toList c o.toList.length) = false by rw [AL.out, len_toList, hb]; rfl))
                        clear hb
                        go_wp2_with fail
                        go_ret
                        exact ⟨ret_bool NO.out.symm, hg.trans hg2⟩
                      · have YES := Lib.hid (show (alnum c || inB o.toList c o.toList.length) = true by rw [AL.out, len_toList, hb]; rfl)
                        clear hb
                        go_wp2_with fail
                        go_roundw
                        case rel => exact ⟨k + 1, by omega, by go_num, by rw [LS.out, YES.out]; simp [LK.out], hg.trans hg2, fun i hi => hg2.holds (HC.out i hi)⟩
                        case measure => simp [intOf]; omega
    · obtain rfl : k = s.size := by omega
      go_wp2_with fail
      go_ret
      exact ⟨ret_bool LK.out.symm, hg⟩

def isAbbrB (l : List UInt8) : Bool := decide (1 ≤ l.length) && decide (l.length ≤ 8) && lettersB l [43, 45] l.length
def isNameB (l : List UInt8) : Bool := decide (1 ≤ l.length) && decide (l.length ≤ 20) && lettersB l [95, 47, 45] l.length && alnum (bt l 0) && (decide (bt l 0 < 48) || decide (57 < bt l 0))
theorem isAbbrB_eq (s : ByteArray) : isAbbrB s.toList = (decide (1 ≤ s.size) && decide (s.size ≤ 8) && lettersB s.toList [43, 45] s.size) := by unfold isAbbrB; rw [len_toList]
theorem isNameB_eq (s : ByteArray) : isNameB s.toList = (decide (1 ≤ s.size) && decide (s.size ≤ 20) && lettersB s.toList [95, 47, 45] s.size && alnum (bt s.toList 0) && (decide (bt s.toList 0 < 48) || decide (57 < bt s.toList 0))) := by unfold isNameB; rw [len_toList]
theorem lit2 : (ByteArray.mk #[43, 45]).toList = [43, 45] := ByteArray.toList_mk [43, 45]
theorem lit3 : (ByteArray.mk #[95, 47, 45]).toList = [95, 47, 45] := ByteArray.toList_mk [95, 47, 45]
theorem lit0 : (ByteArray.mk #[]).toList = [] := ByteArray.toList_mk []

set_option maxHeartbeats 1000000 in
theorem isAbbr_any (s : ByteArray) (w : World) (hs : s.size ≤ maxLen) :
    Calls Tryz.prog 89 #[.string s] w fun e w' => e = .returned (.bool (isAbbrB s.toList)) ∧ Gr w w' := by
  have c := letters_any s ⟨#[43, 45]⟩ w hs (by decide)
  rw [lit2] at c
  have Q := Lib.hid (isAbbrB_eq s)
  unfold maxLen at hs
  by_cases h1 : s.size < 1
  · have R := Lib.hid (show isAbbrB s.toList = false by rw [Q.out]; have : decide (1 ≤ s.size) = false := decide_eq_false (by omega)
                                                        rw [this]; rfl)
    have t1 : decide ((s.size : Int) < 1) = true := ltT (by omega)
    clear c
    go_enter Tryz.func89, Tryz.ntmps89
    go_wp2_with (go_at_call 91; go_in)
    go_ret
    exact ⟨ret_bool R.out.symm, Gr.refl _⟩
  · have t1 : decide ((s.size : Int) < 1) = false := ltF (by omega)
    by_cases h8 : 8 < s.size
    · have R := Lib.hid (show isAbbrB s.toList = false by rw [Q.out]; have : decide (s.size ≤ 8) = false := decide_eq_false (by omega)
                                                          rw [this]; simp)
      have t2 : decide (8 < (s.size : Int)) = true := ltT (by omega)
      clear c
      go_enter Tryz.func89, Tryz.ntmps89
      go_wp2_with (go_at_call 91; go_in)
      go_ret
      exact ⟨ret_bool R.out.symm, Gr.refl _⟩
    · have t2 : decide (8 < (s.size : Int)) = false := ltF (by omega)
      have R := Lib.hid (show isAbbrB s.toList = lettersB s.toList [43, 45] s.size by
        rw [Q.out]
        have e1 : decide (1 ≤ s.size) = true := decide_eq_true (by omega)
        have e2 : decide (s.size ≤ 8) = true := decide_eq_true (by omega)
        rw [e1, e2]; rfl)
      generalize lettersB s.toList [43, 45] s.size = v at c R
      go_enter Tryz.func89, Tryz.ntmps89
      go_wp2_with (go_at_call 91; go_in)
      refine c.mono ?_
      rintro e w1 ⟨rfl, hg⟩
      go_wp2_with fail
      go_ret
      exact ⟨ret_bool R.out.symm, hg⟩

theorem first_byte (s : ByteArray) (h : 1 ≤ s.size) : lettersB (s.extract 0 1).toList [] (s.extract 0 1).size = alnum (bt s.toList 0) := by
  have e : (s.extract 0 1).size = 1 := by rw [ByteArray.size_extract]; omega
  rw [e]
  have b := bt_extract s 0 1 0 (by omega) (by omega)
  simp only [Nat.zero_add] at b
  simp only [lettersB, b, inB, List.length_nil]
  simp

set_option maxHeartbeats 2000000 in
theorem isName_any (s : ByteArray) (w : World) (hs : s.size ≤ maxLen) :
    Calls Tryz.prog 82 #[.string s] w fun e w' => e = .returned (.bool (isNameB s.toList)) ∧ Gr w w' := by
  have c := letters_any s ⟨#[95, 47, 45]⟩ w hs (by decide)
  rw [lit3] at c
  have Q := Lib.hid (isNameB_eq s)
  by_cases h1 : s.size < 1
  · have R := Lib.hid (show isNameB s.toList = false by rw [Q.out, decide_eq_false (show ¬ 1 ≤ s.size by omega)]; rfl)
    have t1 : decide ((s.size : Int) < 1) = true := ltT (by omega)
    unfold maxLen at hs
    clear c
    go_enter Tryz.func82, Tryz.ntmps82
    go_wp2_with (go_at_call 91; go_in)
    go_ret
    exact ⟨ret_bool R.out.symm, Gr.refl _⟩
  · have t1 : decide ((s.size : Int) < 1) = false := ltF (by omega)
    by_cases h20 : 20 < s.size
    · have R := Lib.hid (show isNameB s.toList = false by rw [Q.out, decide_eq_false (show ¬ s.size ≤ 20 by omega)]; simp)
      have t2 : decide (20 < (s.size : Int)) = true := ltT (by omega)
      unfold maxLen at hs
      clear c
      go_enter Tryz.func82, Tryz.ntmps82
      go_wp2_with (go_at_call 91; go_in)
      go_ret
      exact ⟨ret_bool R.out.symm, Gr.refl _⟩
    · have t2 : decide (20 < (s.size : Int)) = false := ltF (by omega)
      have R := Lib.hid (show isNameB s.toList = (lettersB s.toList [95, 47, 45] s.size && alnum (bt s.toList 0) && (decide (bt s.toList 0 < 48) || decide (57 < bt s.toList 0))) by
        rw [Q.out, decide_eq_true (show 1 ≤ s.size by omega), decide_eq_true (show s.size ≤ 20 by omega)]; simp)
      have C2 : Hid (∀ wx : World, Calls Tryz.prog 116 #[.string (s.extract 0 1), .string ⟨#[]⟩] wx fun e w' => e = .returned (.bool (alnum (bt s.toList 0))) ∧ Gr wx w') := fun wx => by
        have := letters_any (s.extract 0 1) ⟨#[]⟩ wx (by rw [ByteArray.size_extract]; unfold maxLen; omega) (by decide)
        rw [lit0, first_byte s (by omega)] at this
        exact this
      have gI : ∀ w, (Instr.index 9 (.string s) (.int .i64 0)).run Tryz.prog w = .ok (.int .u8 (bt s.toList 0)) w := fun w => idx s 0 (by omega) w
      unfold maxLen at hs
      have s1 : 1 ≤ s.size := by omega
      generalize bt s.toList 0 = x at R C2 gI
      cases hv : lettersB s.toList [95, 47, 45] s.size
      · have R2 := Lib.hid (show isNameB s.toList = false by rw [R.out, hv]; rfl)
        rw [hv] at c
        clear hv
        go_enter Tryz.func82, Tryz.ntmps82
        go_wp2_with (go_at_call 91; go_in)
        refine c.mono ?_
        rintro e w1 ⟨rfl, hg⟩
        go_wp2_with fail
        go_ret
        exact ⟨ret_bool R2.out.symm, hg⟩
      · rw [hv] at c
        cases ha : alnum x
        · have R2 := Lib.hid (show isNameB s.toList = false by rw [R.out, hv, ha]; rfl)
          rw [ha] at C2
          clear hv ha
          go_enter Tryz.func82, Tryz.ntmps82
          go_wp2_with (go_at_call 91; go_in)
          refine c.mono ?_
          rintro e w1 ⟨rfl, hg⟩
          go_wp2_with fail
          refine (C2.out w1).mono ?_
          rintro e w2 ⟨rfl, hg2⟩
          go_wp2_with fail
          go_ret
          exact ⟨ret_bool R2.out.symm, hg.trans hg2⟩
        · have R2 := Lib.hid (show isNameB s.toList = (decide (x < 48) || decide (57 < x)) by rw [R.out, hv, ha]; simp)
          rw [ha] at C2
          clear hv ha
          by_cases x1 : x < 48
          · have R3 := Lib.hid (show isNameB s.toList = true by rw [R2.out, ltT x1]; rfl)
            go_enter Tryz.func82, Tryz.ntmps82
            go_wp2_with (go_at_call 91; go_in)
            refine c.mono ?_
            rintro e w1 ⟨rfl, hg⟩
            go_wp2_with fail
            refine (C2.out w1).mono ?_
            rintro e w2 ⟨rfl, hg2⟩
            go_wp2_with fail
            go_ret
            exact ⟨ret_bool R3.out.symm, hg.trans hg2⟩
          · have x1' : decide (x < 48) = false := ltF x1
            have R3 := Lib.hid (show isNameB s.toList = decide (57 < x) by rw [R2.out, x1']; rfl)
            go_enter Tryz.func82, Tryz.ntmps82
            go_wp2_with (go_at_call 91; go_in)
            refine c.mono ?_
            rintro e w1 ⟨rfl, hg⟩
            go_wp2_with fail
            refine (C2.out w1).mono ?_
            rintro e w2 ⟨rfl, hg2⟩
            go_wp2_with fail
            go_ret
            exact ⟨ret_bool R3.out.symm, hg.trans hg2⟩
end Go.Proofs.YtkmgildnhnjepaaGreatDoor
