/- What a row's list of variables gives tto a walk, and the world of its witness. What the functions of package civil return (Length, Days, Date, Weekday), for every input. What the reference's functions on days of months return: DayCheck, IsTime, DayOf. Bytes of texts as numbers; a text turned into bytes; the number that digits tell. What the reference's functions on names return: letters, IsName, IsAbbr. -/
import Derived.ProofKit
import Derived.OpenShut
import Derived.Deep.DeepHandedRow
import Derived.Deep.DeepLaidRun
import Derived.Lib.LaidTab
import Derived.Shelf.Vars
import Derived.Test.YtmemgpmijphkmaaGreatDoorRows
import Derived.Test.YtmemgpmijphkmaaGreatDoorXM03
import Derived.Lib.Strings
import Derived.Test.YtmemgpmijphkmaaGreatDoorProg
import Derived.Test.YtmemgpmijphkmaaGreatDoorXM01
namespace Go.Proofs.YtmemgpmijphkmaaGreatDoor
open Go.ChangeShapes Go.WideShapes Go.ChangeAt Go.RowKit
set_option linter.unusedVariables false
theorem own : ownKnob Tryz.prog.godebug = none := by kernel_rfl
/-- what lies on the list is laid -/
theorem laidVars_mem {P : Program} {W : World} : ∀ {laid : List (String × DataW Unit)} {ps : List MemPlace}, DataW.LaidVars P W laid ps → ∀ x, x ∈ laid →
    ∃ g t cs fuel p, P.globalNamed x.1 = some g ∧ (P.globals[g]?).map (·.type) = some t ∧ W.var? P x.1 = some cs ∧ DataW.trod (fun _ => ()) P W 0 (fun _ => true) false fuel t cs.toList = some (x.2, p)
  | [], _, _, x, hx => by cases hx
  | (n, d) :: r, ps, h, x, hx => by
    obtain ⟨g, t, cs, fuel, p, q, h1, h2, h3, h4, h5, _⟩ := h
    rcases List.mem_cons.1 hx with rfl | hr
    · exact ⟨g, t, cs, fuel, p, h1, h2, h3, h4⟩
    · exact laidVars_mem h5 x hr
theorem tab_mem {P : Program} {W : World} {name : String} {k : IntKind} {zs : List Int} {laid : List (String × DataW Unit)} {g : Nat} {t e : TypeId} {n : Nat}
    (hg : P.globalNamed name = some g) (hty : (P.globals[g]?).map (·.type) = some t) (ht : P.underlying t = some (.array n e)) (he : P.underlying e = some (.int k)) (hce : P.cellsOf e = 1) (hct : P.cellsOf t = n)
    (h : laidMet P laid W) (hm : (name, Lib.tabData k zs) ∈ laid) : Lib.TabIs P W name k zs := by
  obtain ⟨ps, hv, _⟩ := h
  obtain ⟨g', t', cs, fuel, p, h1, h2, h3, h4⟩ := laidVars_mem hv _ hm
  obtain rfl := Option.some.inj (hg.symm.trans h1)
  obtain rfl := Option.some.inj (hty.symm.trans h2)
  unfold Lib.TabIs
  rw [h3, ← Lib.cells_of_tab ht he hce hct h4]

theorem lens_of {W : World} {laid : List (String × DataW Unit)} (h : laidMet Tryz.prog laid W) (hm : ("timeball/civil.lengths", Lib.tabData .i64 Cal.tab) ∈ laid) : HasLen W := by
  have g : Tryz.prog.globalNamed "timeball/civil.lengths" = some 3 := by kernel_rfl
  have t : Lib.TabIs Tryz.prog W "timeball/civil.lengths" .i64 Cal.tab := tab_mem g (t := 147) (by kernel_rfl) Tryz.underlying147 Tryz.underlying3 (by kernel_rfl) (by kernel_rfl) h hm
  exact ⟨World.block_lt_of_cell? W ⟨3, 0, none⟩ (t.cell g 0 (by decide)), fun i hi => t.cell g i hi⟩

theorem pow_of {W : World} {laid : List (String × DataW Unit)} (h : laidMet Tryz.prog laid W) (hm : ("internal/strconv.uint64pow10", Lib.tabData .u64 Lib.pow10Tab) ∈ laid) : HasPow W := by
  have t : Lib.TabIs Tryz.prog W "internal/strconv.uint64pow10" .u64 Lib.pow10Tab := tab_mem gPow (t := 175) (n := 20) (e := 161) (by kernel_rfl) (by kernel_rfl) (by kernel_rfl) (by kernel_rfl) (by kernel_rfl) h hm
  exact ⟨World.block_lt_of_cell? W ⟨6, 0, none⟩ (t.cell gPow 0 (by decide)), t⟩

theorem max_of {W : World} (h : W.ShapedOpen Tryz.prog) : ∃ m, W.cell? ⟨1, 0, none⟩ = some (.int .i64 m) :=
  cell_of_shapedOpen_int (t := 3) (zero := #[.int .i64 0]) h (of_decide_eq_true (by kernel_rfl)) (by kernel_rfl) rfl (by kernel_rfl) (by kernel_rfl) Tryz.underlying3

/-- the cells of a table -/
def flat1 : DataW Unit → List Value
  | .agg ps => ps.map fun d => match d with
    | .lit (.int k n) => .int k n
    | .lit (.string l) => .string ⟨l.toArray⟩
    | _ => .bool false
  | _ => []
/-- the cells of a table of rows -/
def flat2 : DataW Unit → List Value
  | .agg ps => ps.flatMap flat1
  | _ => []
/-- a variable's cells set -/
def put (w : World) (g : Nat) (cs : List Value) : World :=
  { w with heap := w.heap.modify g fun
      | .cells _ t frozen => .cells cs.toArray t frozen
      | o => o }
/-- the settled world -/
noncomputable def bare (os : Os) : World := World.holding Tryz.prog os ⟨#[], #[], []⟩
end Go.Proofs.YtmemgpmijphkmaaGreatDoor
namespace Go.Proofs.YtmemgpmijphkmaaGreatDoor
set_option linter.unusedVariables false
set_option linter.unusedSimpArgs false
open Go.RowKit
set_option maxHeartbeats 400000 in
theorem length_yes (y m : Int) (w : World) (hl : HasLen w) (h1 : 1600 ≤ y) (h2 : y ≤ 2399) (h3 : 1 ≤ m) (h4 : m ≤ 12) :
    Calls Tryz.prog 89 #[.int .i64 y, .int .i64 m] w fun e w' => e = two (Cal.ml y m) 0 ∧ w = w' := by
  go_enter Tryz.func89, Tryz.ntmps89
  go_wp2_with (first | (go_at_call 105; refine (monthLength_any _ _ _ hl (by omega) (by omega) (by omega) (by omega)).mono ?_; rintro e w' ⟨rfl, rfl⟩) | go_in)
  go_ret2
  exact ⟨rfl, rfl⟩

set_option maxHeartbeats 400000 in
theorem length_no (y m : Int) (w : World) (h : ¬ (1600 ≤ y ∧ y ≤ 2399 ∧ 1 ≤ m ∧ m ≤ 12)) :
    Calls Tryz.prog 89 #[.int .i64 y, .int .i64 m] w fun e w' => e = two 0 1 ∧ w = w' := by
  by_cases h1 : 1600 ≤ y
  · by_cases h2 : y ≤ 2399
    · by_cases h3 : 1 ≤ m
      · have h4 : decide (m ≤ 12) = false := by simp; omega
        clear h
        go_enter Tryz.func89, Tryz.ntmps89
        go_wp2
        go_ret2
        exact ⟨rfl, rfl⟩
      · clear h
        go_enter Tryz.func89, Tryz.ntmps89
        go_wp2
        go_ret2
        exact ⟨rfl, rfl⟩
    · clear h
      go_enter Tryz.func89, Tryz.ntmps89
      go_wp2
      go_ret2
      exact ⟨rfl, rfl⟩
  · clear h
    go_enter Tryz.func89, Tryz.ntmps89
    go_wp2
    go_ret2
    exact ⟨rfl, rfl⟩

set_option maxHeartbeats 1000000 in
theorem days_yes (y m d : Int) (w : World) (hl : HasLen w) (hv : Cal.Valid y m d) :
    Calls Tryz.prog 160 #[.int .i64 y, .int .i64 m, .int .i64 d] w fun e w' => e = two (Cal.days y m d) 0 ∧ w = w' := by
  obtain ⟨h1, h2, h3, h4, h5, h6⟩ := hv
  have h7 := Cal.ml_bd y h3 h4
  have h8 := Cal.ys_bd h1 (by omega : y ≤ 2400)
  go_enter Tryz.func160, Tryz.ntmps160
  go_wp2_with (first | (go_at_call 105; refine (monthLength_any _ _ _ hl (by omega) (by omega) (by omega) (by omega)).mono ?_; rintro e w' ⟨rfl, rfl⟩) | (go_at_call 104; refine (yearStart_any _ _ (by omega) (by omega)).mono ?_; rintro e w' ⟨rfl, rfl⟩) | go_in)
  go_loop [8, 9] (fun n i => ∃ k : Int, 1 ≤ k ∧ k ≤ m ∧ i = .int .i64 k ∧ n = .int .i64 (Cal.ys y + Cal.cum y k)) (fun _ i => (m - intOf i).toNat)
  case atStart => exact ⟨1, by omega, by omega, rfl, by rw [Cal.cum_one]; simp⟩
  case round =>
    obtain ⟨k, hk1, hk2, rfl, rfl⟩ := hrel
    have hb := Cal.cum_bd y hk1 (by omega : k ≤ 13)
    have hm := Cal.ml_bd y hk1 (by omega : k ≤ 12)
    by_cases hlt : k < m
    · go_wp2_with (first | (go_at_call 105; refine (monthLength_any _ _ _ hl (by omega) (by omega) (by omega) (by omega)).mono ?_; rintro e w' ⟨rfl, rfl⟩) | go_in)
      go_round
      case rel => exact ⟨k + 1, by omega, by omega, by go_num, by rw [Cal.cum_succ y hk1 (by omega)]; go_num⟩
      case measure => simp [intOf]; omega
    · obtain rfl : k = m := by omega
      go_wp2
      go_ret2
      exact ⟨two_eq (by unfold Cal.days; omega) rfl, rfl⟩

set_option maxHeartbeats 1000000 in
theorem days_no (y m d : Int) (w : World) (hl : HasLen w) (h : ¬ Cal.Valid y m d) :
    Calls Tryz.prog 160 #[.int .i64 y, .int .i64 m, .int .i64 d] w fun e w' => e = two 0 1 ∧ w = w' := by
  unfold Cal.Valid at h
  by_cases h1 : 1600 ≤ y
  · by_cases h2 : y ≤ 2399
    · by_cases h3 : 1 ≤ m
      · by_cases h4 : m ≤ 12
        · by_cases h5 : 1 ≤ d
          · have h6 : Cal.ml y m < d := by omega
            clear h
            go_enter Tryz.func160, Tryz.ntmps160
            go_wp2_with (first | (go_at_call 105; refine (monthLength_any _ _ _ hl (by omega) (by omega) (by omega) (by omega)).mono ?_; rintro e w' ⟨rfl, rfl⟩) | go_in)
            go_ret2
            exact ⟨rfl, rfl⟩
          · clear h
            go_enter Tryz.func160, Tryz.ntmps160
            go_wp2
            go_ret2
            exact ⟨rfl, rfl⟩
        · clear h
          go_enter Tryz.func160, Tryz.ntmps160
          go_wp2
          go_ret2
          exact ⟨rfl, rfl⟩
      · clear h
        go_enter Tryz.func160, Tryz.ntmps160
        go_wp2
        go_ret2
        exact ⟨rfl, rfl⟩
    · clear h
      go_enter Tryz.func160, Tryz.ntmps160
      go_wp2
      go_ret2
      exact ⟨rfl, rfl⟩
  · clear h
    go_enter Tryz.func160, Tryz.ntmps160
    go_wp2
    go_ret2
    exact ⟨rfl, rfl⟩

theorem guess {n y : Int} (h1 : 1600 ≤ y) (h : n < Cal.ys (y + 1)) : 1600 + (n + 135140) / 366 ≤ y := by
  unfold Cal.ys at h; omega

set_option maxHeartbeats 1000000 in
theorem yearOf_any (n y : Int) (w : World) (h1 : 1600 ≤ y) (h2 : y ≤ 2399) (h3 : Cal.ys y ≤ n) (h4 : n < Cal.ys (y + 1)) :
    Calls Tryz.prog 103 #[.int .i64 n] w fun e w' => e = .returned (.int .i64 y) ∧ w = w' := by
  have g := guess h1 h4
  have b1 := Cal.ys_bd h1 (by omega : y ≤ 2400)
  have b2 := Cal.ys_bd (by omega : 1600 ≤ y + 1) (by omega : y + 1 ≤ 2400)
  go_enter Tryz.func103, Tryz.ntmps103
  go_wp2
  go_loop [3] (fun t => ∃ k : Int, 1600 ≤ k ∧ k ≤ y ∧ t = .int .i64 k) (fun t => (y - intOf t).toNat)
  case atStart => exact ⟨_, by omega, by omega, rfl⟩
  case round =>
    obtain ⟨k, hk1, hk2, rfl⟩ := hrel
    by_cases hlt : k < y
    · have hy : Cal.ys (k + 1) ≤ n := by have := Cal.ys_mono (a := k + 1) (b := y) (by omega); omega
      clear h4 g
      go_wp2_with (go_at_call 104; refine (yearStart_any _ _ (by omega) (by omega)).mono ?_; rintro e w' ⟨rfl, rfl⟩)
      go_round
      case rel => exact ⟨k + 1, by omega, by omega, rfl⟩
      case measure => simp [intOf]; omega
    · obtain rfl : k = y := by omega
      go_wp2_with (go_at_call 104; refine (yearStart_any _ _ (by omega) (by omega)).mono ?_; rintro e w' ⟨rfl, rfl⟩)
      go_ret
      exact ⟨rfl, rfl⟩

set_option maxHeartbeats 1000000 in
theorem date_yes (n y m d : Int) (w : World) (hl : HasLen w) (hv : Cal.Valid y m d) (hn : Cal.days y m d = n) :
    Calls Tryz.prog 59 #[.int .i64 n] w fun e w' => e = four y m d 0 ∧ w = w' := by
  have hi := Cal.days_in hv
  have hb := Cal.days_bd hv
  have hd : n - Cal.ys y - Cal.cum y m + 1 = d := by unfold Cal.days at hn; omega
  rw [hn] at hi hb
  have HD : Hid (n - Cal.ys y - Cal.cum y m + 1 = d) := hd
  obtain ⟨h1, h2, h3, h4, h5, h6⟩ := hv
  obtain ⟨i1, i2, i3, i4⟩ := hi
  obtain ⟨b1, b2⟩ := hb
  have b3 := Cal.ys_bd h1 (by omega : y ≤ 2400)
  clear hd hn h5 h6
  go_enter Tryz.func59, Tryz.ntmps59
  go_wp2_with (first | (go_at_call 103; refine (yearOf_any _ y _ h1 h2 i3 i4).mono ?_; rintro e w' ⟨rfl, rfl⟩) | (go_at_call 104; refine (yearStart_any _ _ (by omega) (by omega)).mono ?_; rintro e w' ⟨rfl, rfl⟩) | go_in)
  go_loop [7, 8] (fun i r => ∃ k : Int, 1 ≤ k ∧ k ≤ m ∧ i = .int .i64 k ∧ r = .int .i64 (n - Cal.ys y - Cal.cum y k)) (fun i _ => (m - intOf i).toNat)
  case atStart => exact ⟨1, by omega, by omega, rfl, by rw [Cal.cum_one]; simp⟩
  case round =>
    obtain ⟨k, hk1, hk2, rfl, rfl⟩ := hrel
    have cb := Cal.cum_bd y hk1 (by omega : k ≤ 13)
    have hm := Cal.ml_bd y hk1 (by omega : k ≤ 12)
    by_cases hlt : k < m
    · have hc := Cal.cum_mono y hk1 hlt (by omega)
      have hge : Cal.ml y k ≤ n - Cal.ys y - Cal.cum y k := by omega
      clear i4
      go_wp2_with (go_at_call 105; refine (monthLength_any _ _ _ hl (by omega) (by omega) (by omega) (by omega)).mono ?_; rintro e w' ⟨rfl, rfl⟩)
      go_round
      case rel => exact ⟨k + 1, by omega, by omega, by go_num, by rw [Cal.cum_succ y hk1 (by omega)]; go_num⟩
      case measure => simp [intOf]; omega
    · obtain rfl : k = m := by omega
      have hge : n - Cal.ys y - Cal.cum y k < Cal.ml y k := by omega
      clear i4
      go_wp2_with (go_at_call 105; refine (monthLength_any _ _ _ hl (by omega) (by omega) (by omega) (by omega)).mono ?_; rintro e w' ⟨rfl, rfl⟩)
      ((try simp only [Exit.inBlock, Exit.then]); refine bodyPost_ret (results_tmp4 rfl _ _ _) rfl ?_)
      exact ⟨four_eq rfl rfl HD.out rfl, rfl⟩

set_option maxHeartbeats 400000 in
theorem date_no (n : Int) (w : World) (h : ¬ (-135140 ≤ n ∧ n ≤ 157053)) :
    Calls Tryz.prog 59 #[.int .i64 n] w fun e w' => e = four 0 0 0 1 ∧ w = w' := by
  by_cases h1 : -135140 ≤ n
  · have h2 : decide (n ≤ 157053) = false := by simp; omega
    clear h
    go_enter Tryz.func59, Tryz.ntmps59
    go_wp2
    ((try simp only [Exit.inBlock, Exit.then]); refine bodyPost_ret (results_tmp4 rfl _ _ _) rfl ?_)
    exact ⟨rfl, rfl⟩
  · clear h
    go_enter Tryz.func59, Tryz.ntmps59
    go_wp2
    ((try simp only [Exit.inBlock, Exit.then]); refine bodyPost_ret (results_tmp4 rfl _ _ _) rfl ?_)
    exact ⟨rfl, rfl⟩
end Go.Proofs.YtmemgpmijphkmaaGreatDoor
namespace Go.Proofs.YtmemgpmijphkmaaGreatDoor
set_option linter.unusedVariables false
set_option linter.unusedSimpArgs false
open Go.RowKit
/-- a day of a month as a value -/
abbrev dayV (k d n : Int) : Value := .agg #[.int .i64 k, .int .i64 d, .int .i64 n]
def DayOk (k d n : Int) : Prop := (1 ≤ k ∧ k ≤ 4) ∧ (0 ≤ d ∧ d ≤ 6) ∧ (k = 1 → d = 0) ∧ (k = 2 → n = 0) ∧ (k ≠ 2 → 1 ≤ n ∧ n ≤ 31)
instance (k d n : Int) : Decidable (DayOk k d n) := by unfold DayOk; infer_instance
/-- what DayCheck answers -/
def dchk (k d n : Int) : Int := if DayOk k d n then 0 else 1

theorem dchk_yes {k d n : Int} (h : DayOk k d n) : dchk k d n = 0 := by unfold dchk; exact if_pos h
theorem dchk_no {k d n : Int} (h : ¬ DayOk k d n) : dchk k d n = 1 := by unfold dchk; exact if_neg h

end Go.Proofs.YtmemgpmijphkmaaGreatDoor
namespace Go.Proofs.YtmemgpmijphkmaaGreatDoor
set_option linter.unusedVariables false
set_option linter.unusedSimpArgs false
open Go.RowKit
/-- the k-th byte of a text, as a number -/
def bt (l : List UInt8) (k : Nat) : Int := ((l.getD k 0).toNat : Int)
theorem bt_bd (l : List UInt8) (k : Nat) : 0 ≤ bt l k ∧ bt l k ≤ 255 := by
  unfold bt; have := (l.getD k 0).toNat_lt; omega
theorem idx (s : ByteArray) (k : Nat) (h : k < s.size) (w : World) :
    (Instr.index 9 (.string s) (.int .i64 (k : Int))).run Tryz.prog w = .ok (.int .u8 (bt s.toList k)) w := by
  rw [run_index_string w 9 s .i64 k Tryz.underlying9, dif_pos ⟨by omega, by omega⟩]
  congr 2
  unfold bt
  rw [ByteArray.toList_eq]
  have h2 : k < s.data.size := h
  have e : s.data.toList.getD k 0 = s.data[k] := by simp [List.getD, Array.getElem?_eq_getElem h2]
  rw [e]
  rfl
theorem bt_extract (s : ByteArray) (i n j : Nat) (h : i + n ≤ s.size) (hj : j < n) : bt (s.extract i (i + n)).toList j = bt s.toList (i + j) := by
  unfold bt
  rw [ByteArray.toList_eq, ByteArray.toList_eq, Lib.extract_data]
  have e : i + n - i = n := by omega
  rw [e]
  simp [List.getD, List.getElem?_take, List.getElem?_drop, hj]
theorem size_extract (s : ByteArray) (i n : Nat) (h : i + n ≤ s.size) : (s.extract i (i + n)).size = n := by
  rw [ByteArray.size_extract]; omega

/-- the number that n digits of a text tell, from place i on -/
def numv (l : List UInt8) (i : Nat) : Nat → Int
  | 0 => 0
  | k + 1 => 10 * numv l i k + (bt l (i + k) - 48)
theorem numv_bd (l : List UInt8) (i n : Nat) (h : ∀ j, j < n → 48 ≤ bt l (i + j) ∧ bt l (i + j) ≤ 57) : ∀ k, k ≤ n → 0 ≤ numv l i k ∧ numv l i k < 10 ^ k := by
  intro k
  induction k with
  | zero => intro _; simp [numv]
  | succ k ih =>
    intro hk
    have h1 := ih (by omega)
    have h2 := h k (by omega)
    unfold numv
    rw [Int.pow_succ]
    omega
end Go.Proofs.YtmemgpmijphkmaaGreatDoor
namespace Go.Proofs.YtmemgpmijphkmaaGreatDoor
set_option linter.unusedVariables false
set_option linter.unusedSimpArgs false
open Go.RowKit
/-- a digit or a letter -/
def alnum (c : Int) : Bool := (decide (48 ≤ c) && decide (c ≤ 57)) || (decide (65 ≤ c) && decide (c ≤ 90)) || (decide (97 ≤ c) && decide (c ≤ 122))
/-- is it one of the first k bytes? -/
def inB (o : List UInt8) (c : Int) : Nat → Bool
  | 0 => false
  | k + 1 => inB o c k || (c == bt o k)
/-- do the first k bytes consist of digits, letters and those others? -/
def lettersB (s o : List UInt8) : Nat → Bool
  | 0 => true
  | k + 1 => lettersB s o k && (alnum (bt s k) || inB o (bt s k) o.length)
theorem lettersB_no {s o : List UInt8} {k : Nat} (h : (alnum (bt s k) || inB o (bt s k) o.length) = false) : ∀ n, k < n → lettersB s o n = false := by
  intro n
  induction n with
  | zero => intro h; omega
  | succ n ih =>
    intro hn
    unfold lettersB
    by_cases e : k = n
    · subst e; rw [h]; simp
    · rw [ih (by omega)]; simp
theorem len_toList (s : ByteArray) : s.toList.length = s.size := by rw [ByteArray.toList_eq]; exact Array.length_toList

def isAbbrB (l : List UInt8) : Bool := decide (1 ≤ l.length) && decide (l.length ≤ 8) && lettersB l [43, 45] l.length
def isNameB (l : List UInt8) : Bool := decide (1 ≤ l.length) && decide (l.length ≤ 20) && lettersB l [95, 47, 45] l.length && alnum (bt l 0) && (decide (bt l 0 < 48) || decide (57 < bt l 0))
theorem isAbbrB_eq (s : ByteArray) : isAbbrB s.toList = (decide (1 ≤ s.size) && decide (s.size ≤ 8) && lettersB s.toList [43, 45] s.size) := by unfold isAbbrB; rw [len_toList]
theorem isNameB_eq (s : ByteArray) : isNameB s.toList = (decide (1 ≤ s.size) && decide (s.size ≤ 20) && lettersB s.toList [95, 47, 45] s.size && alnum (bt s.toList 0) && (decide (bt s.toList 0 < 48) || decide (57 < bt s.toList 0))) := by unfold isNameB; rw [len_toList]
theorem lit0 : (ByteArray.mk #[]).toList = [] := ByteArray.toList_mk []

end Go.Proofs.YtmemgpmijphkmaaGreatDoor
