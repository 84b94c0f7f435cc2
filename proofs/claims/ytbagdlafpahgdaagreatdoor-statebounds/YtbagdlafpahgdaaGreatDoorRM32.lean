/- What the project's small functions on texts return: twoDigits, splitDay, strconv.Itoa at numbers that are not below 0. What a row's list of variables gives tto a walk, and the world of its witness. -/
import Derived.Lib.LaidTab
import Derived.Test.YtbagdlafpahgdaaGreatDoorRM01
import Derived.Test.YtbagdlafpahgdaaGreatDoorRM31
import Derived.ProofKit
import Derived.OpenShut
import Derived.Deep.DeepHandedRow
import Derived.Deep.DeepLaidRun
import Derived.Shelf.Vars
import Derived.Test.YtbagdlafpahgdaaGreatDoorRows
import Derived.Test.YtbagdlafpahgdaaGreatDoorRM02
namespace Go.Proofs.YtbagdlafpahgdaaGreatDoor
set_option linter.unusedVariables false
set_option linter.unusedSimpArgs false
open Go.RowKit
theorem grow_Gr (w : World) (k : Nat) (os : Array Obj) : Gr w (Sort.grow (w.drewN k) os) :=
  ⟨rfl, rfl, rfl, by simp only [Sort.size_grow]; exact Nat.le_add_right _ _, fun j hj => Sort.heap_grow_old (w.drewN k) os hj⟩
/-- the table of powers of ten lies as the library lays it -/
def HasPow (w : World) : Prop := 2 < w.heap.size ∧ Lib.TabIs Tryz.prog w "internal/strconv.uint64pow10" .u64 Lib.pow10Tab
theorem gPow : Tryz.prog.globalNamed "internal/strconv.uint64pow10" = some 2 := by kernel_rfl
theorem Gr.pow {w w' : World} (h : Gr w w') (hp : HasPow w) : HasPow w' := by
  refine ⟨Nat.lt_of_lt_of_le hp.1 h.size, ?_⟩
  have h2 := hp.2
  unfold Lib.TabIs World.var? at h2 ⊢
  rw [gPow] at h2 ⊢
  simp only [Option.bind_some] at h2 ⊢
  rw [Below.block h 2 hp.1]
  exact h2
theorem decDigits_dg (n : Nat) : Lib.decDigits n = dg n := by
  induction n using Nat.strongRecOn with
  | _ n ih =>
    rw [Lib.decDigits, dg]
    by_cases h : n < 10
    · rw [dif_pos h, if_pos h]; unfold u; congr 2; omega
    · rw [dif_neg h, if_neg h, ih (n / 10) (by omega)]; unfold u; congr 3; omega
theorem itoa_dz {n : Int} (h : 0 ≤ n) : Lib.itoa n = dz n := by
  unfold Lib.itoa dz
  rw [if_neg (by omega), decDigits_dg]

theorem itoa_any (n : Int) (w : World) (h1 : 0 ≤ n) (h2 : n ≤ 1000000) (hp : HasPow w) :
    Calls Tryz.prog 38 #[.int .i64 n] w fun e w' => e = .returned (.string (S (dz n))) ∧ Gr w w' := by
  refine (Tryz.strconv_Itoa n (by omega) (by omega) w hp.2).mono ?_
  rintro e w' ⟨rfl, k, os, rfl⟩
  exact ⟨by rw [itoa_dz h1]; rfl, grow_Gr w k os⟩

theorem conv_two (a b : Int) (w : World) (a1 : 0 ≤ a) (a2 : a ≤ 255) (b1 : 0 ≤ b) (b2 : b ≤ 255) :
    (convert 115 9 (.slice (some ⟨w.heap.size, 0, none⟩) 2 2)).run Tryz.prog (w.alloc (.cells #[.int .u8 a, .int .u8 b] 5)) = .ok (.string (S [u a, u b])) (w.alloc (.cells #[.int .u8 a, .int .u8 b] 5)) := by
  refine run_convert_bytes_back (P := Tryz.prog) (w.alloc (.cells #[.int .u8 a, .int .u8 b] 5)) 115 9 5 ⟨w.heap.size, 0, none⟩ 2 [u a, u b] Tryz.underlying115 Tryz.underlying5 Tryz.underlying9 ?_
  intro j hj
  have : j = 0 ∨ j = 1 := by simp at hj; omega
  rcases this with rfl | rfl
  · rw [show (Addr.add ⟨w.heap.size, 0, none⟩ 0) = ⟨w.heap.size, 0, none⟩ from rfl, World.cell?_alloc_new]
    simp [u_toNat a1 a2]
  · rw [show (Addr.add ⟨w.heap.size, 0, none⟩ 1) = ⟨w.heap.size, 1, none⟩ from rfl, World.cell?_alloc_new]
    simp [u_toNat b1 b2]

set_option maxHeartbeats 400000 in
theorem twoDigits_any (n : Int) (w : World) (h1 : 0 ≤ n) (h2 : n < 100) :
    Calls Tryz.prog 39 #[.int .i64 n] w fun e w' => e = .returned (.string (S (d2 n))) ∧ Gr w w' := by
  have hc := conv_two (48 + n / 10) (48 + n % 10) w (by omega) (by omega) (by omega) (by omega)
  go_enter Tryz.func39, Tryz.ntmps39
  go_wp2
  go_ret
  exact ⟨rfl, Gr.alloc _ _⟩

set_option maxHeartbeats 400000 in
theorem splitDay_any (t : Int) (w : World) (t1 : -9223372036854775808 ≤ t) (t2 : t ≤ 9223372036854775807) :
    Calls Tryz.prog 36 #[.int .i64 t] w fun e w' => e = two (t / 86400) (t % 86400) ∧ Gr w w' := by
  by_cases h : t.tmod 86400 < 0
  · have e1 : t.tdiv 86400 - 1 = t / 86400 := by
      rcases Int.lt_or_le t 0 with c | c
      · rw [show t = -(-t) by omega, Int.neg_tdiv, Int.tdiv_eq_ediv_of_nonneg (by omega)]
        rw [show t = -(-t) by omega, Int.neg_tmod, Int.tmod_eq_emod_of_nonneg (by omega)] at h
        omega
      · rw [Int.tmod_eq_emod_of_nonneg c] at h; omega
    have e2 : t.tmod 86400 + 86400 = t % 86400 := by
      rcases Int.lt_or_le t 0 with c | c
      · rw [show t = -(-t) by omega, Int.neg_tmod, Int.tmod_eq_emod_of_nonneg (by omega)] at h ⊢
        omega
      · rw [Int.tmod_eq_emod_of_nonneg c] at h; omega
    have E1 := Lib.hid e1
    have E2 := Lib.hid e2
    have b1 : -106751991167301 ≤ t.tdiv 86400 := by omega
    have b2 : t.tdiv 86400 ≤ 106751991167301 := by omega
    have b3 : -86400 ≤ t.tmod 86400 := by omega
    clear e1 e2
    go_enter Tryz.func36, Tryz.ntmps36
    go_wp2
    go_ret2
    exact ⟨two_eq E1.out E2.out, by first | exact Gr.refl _ | exact (Gr.refl _).drewN _⟩
  · have e1 : t.tdiv 86400 = t / 86400 := by
      rcases Int.lt_or_le t 0 with c | c
      · rw [show t = -(-t) by omega, Int.neg_tdiv, Int.tdiv_eq_ediv_of_nonneg (by omega)]
        rw [show t = -(-t) by omega, Int.neg_tmod, Int.tmod_eq_emod_of_nonneg (by omega)] at h
        omega
      · rw [Int.tdiv_eq_ediv_of_nonneg c]
    have e2 : t.tmod 86400 = t % 86400 := by
      rcases Int.lt_or_le t 0 with c | c
      · rw [show t = -(-t) by omega, Int.neg_tmod, Int.tmod_eq_emod_of_nonneg (by omega)] at h ⊢
        omega
      · rw [Int.tmod_eq_emod_of_nonneg c]
    have E1 := Lib.hid e1
    have E2 := Lib.hid e2
    have h' : decide (t.tmod 86400 < 0) = false := by simpa using h
    clear e1 e2
    go_enter Tryz.func36, Tryz.ntmps36
    go_wp2
    go_ret2
    exact ⟨two_eq E1.out E2.out, by first | exact Gr.refl _ | exact (Gr.refl _).drewN _⟩
end Go.Proofs.YtbagdlafpahgdaaGreatDoor
namespace Go.Proofs.YtbagdlafpahgdaaGreatDoor
open Go.ChangeShapes Go.WideShapes Go.ChangeAt Go.RowKit
set_option linter.unusedVariables false
theorem own : ownKnob Tryz.prog.godebug = none := by kernel_rfl
/-- what lies on the list is laid -/
theorem laidVars_mem {P : Program} {W : World} : ∀ {laid : List (String × DataW Unit)} {ps : List MemPlace}, DataW.LaidVars P W laid ps → ∀ x, x ∈ laid →
    ∃ g t cs fuel p, P.globalNamed x.1 = some g ∧ (P.globals[g]?).map (·.type) = some t ∧ W.var? P x.1 = some cs ∧ DataW.trod (fun _ => ()) P W 0 (fun _ => true) false fuel t cs.toList = some (x.2, p)
  | [], _, _, x, hx => by cases hx
  | (n, d) :: r, ps, h, x, hx => by
    obtain ⟨g, t, cs, fuel, p, q, h1, h2, h3, h4, h5, _⟩ := h
    rcases List.mem_cons.1 hx with rfl | hr
    · exact ⟨g, t, cs, fuel, p, h1, h2, h3, h4⟩
    · exact laidVars_mem h5 x hr
theorem tab_mem {P : Program} {W : World} {name : String} {k : IntKind} {zs : List Int} {laid : List (String × DataW Unit)} {g : Nat} {t e : TypeId} {n : Nat}
    (hg : P.globalNamed name = some g) (hty : (P.globals[g]?).map (·.type) = some t) (ht : P.underlying t = some (.array n e)) (he : P.underlying e = some (.int k)) (hce : P.cellsOf e = 1) (hct : P.cellsOf t = n)
    (h : laidMet P laid W) (hm : (name, Lib.tabData k zs) ∈ laid) : Lib.TabIs P W name k zs := by
  obtain ⟨ps, hv, _⟩ := h
  obtain ⟨g', t', cs, fuel, p, h1, h2, h3, h4⟩ := laidVars_mem hv _ hm
  obtain rfl := Option.some.inj (hg.symm.trans h1)
  obtain rfl := Option.some.inj (hty.symm.trans h2)
  unfold Lib.TabIs
  rw [h3, ← Lib.cells_of_tab ht he hce hct h4]

theorem lens_of {W : World} {laid : List (String × DataW Unit)} (h : laidMet Tryz.prog laid W) (hm : ("timeball/civil.lengths", Lib.tabData .i64 Cal.tab) ∈ laid) : HasLen W := by
  have g : Tryz.prog.globalNamed "timeball/civil.lengths" = some 0 := by kernel_rfl
  have t : Lib.TabIs Tryz.prog W "timeball/civil.lengths" .i64 Cal.tab := tab_mem g (t := 135) (by kernel_rfl) Tryz.underlying135 Tryz.underlying3 (by kernel_rfl) (by kernel_rfl) h hm
  exact ⟨World.block_lt_of_cell? W ⟨0, 0, none⟩ (t.cell g 0 (by decide)), fun i hi => t.cell g i hi⟩

theorem pow_of {W : World} {laid : List (String × DataW Unit)} (h : laidMet Tryz.prog laid W) (hm : ("internal/strconv.uint64pow10", Lib.tabData .u64 Lib.pow10Tab) ∈ laid) : HasPow W := by
  have t : Lib.TabIs Tryz.prog W "internal/strconv.uint64pow10" .u64 Lib.pow10Tab := tab_mem gPow (t := 166) (n := 20) (e := 148) (by kernel_rfl) (by kernel_rfl) (by kernel_rfl) (by kernel_rfl) (by kernel_rfl) h hm
  exact ⟨World.block_lt_of_cell? W ⟨2, 0, none⟩ (t.cell gPow 0 (by decide)), t⟩

theorem max_of {W : World} (h : W.ShapedOpen Tryz.prog) : ∃ m, W.cell? ⟨1, 0, none⟩ = some (.int .i64 m) :=
  cell_of_shapedOpen_int (t := 3) (zero := #[.int .i64 0]) h (of_decide_eq_true (by kernel_rfl)) (by kernel_rfl) rfl (by kernel_rfl) (by kernel_rfl) Tryz.underlying3

/-- the cells of a table -/
def flat1 : DataW Unit → List Value
  | .agg ps => ps.map fun d => match d with
    | .lit (.int k n) => .int k n
    | .lit (.string l) => .string ⟨l.toArray⟩
    | _ => .bool false
  | _ => []
/-- the cells of a table of rows -/
def flat2 : DataW Unit → List Value
  | .agg ps => ps.flatMap flat1
  | _ => []
/-- a variable's cells set -/
def put (w : World) (g : Nat) (cs : List Value) : World :=
  { w with heap := w.heap.modify g fun
      | .cells _ t frozen => .cells cs.toArray t frozen
      | o => o }
/-- the settled world -/
noncomputable def bare (os : Os) : World := World.holding Tryz.prog os ⟨#[], #[], []⟩
end Go.Proofs.YtbagdlafpahgdaaGreatDoor
