/- The closed fact of the laws on books. What a row's list of variables gives tto a walk: tables of texts, the weekdays. What a row's list of variables gives tto a walk over the project's days: the errors of package strconv; and their world. -/
import Derived.Test.YtmemgpmijphkmaaGreatDoorUM49
import Derived.LaidLaws
import Derived.Test.YtmemgpmijphkmaaGreatDoorUM04
import Derived.Test.YtmemgpmijphkmaaGreatDoorUM13
import Derived.Test.YtmemgpmijphkmaaGreatDoorUM19
namespace Go.Proofs.YtmemgpmijphkmaaGreatDoor
set_option linter.unusedVariables false
set_option linter.unusedSimpArgs false
open Go.RowKit
theorem of_lists {l : List ByteArray} {L : List (List UInt8)} (h : l.map (·.toList) = L) : l = L.map S := by
  rw [← h, List.map_map]
  conv => lhs; rw [← List.map_id l]
  exact List.map_congr_left fun x _ => by simp [S_toList']
theorem lns_of {s : ByteArray} {L : List (List UInt8)} (h : Lib.split s.toList [10] = L) : lns s = L.map S := of_lists ((lns_split s).trans h)
theorem bl_of {l : List UInt8} {L : List (List UInt8)} (h : Lib.split l [32] = L) : bl (S l) = L.map S := of_lists ((bl_split (S l)).trans (by rw [S_toList]; exact h))
theorem wd_of {l : List UInt8} {L : List (List UInt8)} (h : Lib.split l [32] = L) (k : Nat) : wd (S l) k = S (L.getD k []) := by
  unfold wd
  rw [bl_of h]
  simp only [List.getD, List.getElem?_map]
  cases L[k]? <;> rfl
theorem one_zone {zs : List ZonD} {a : ByteArray} {l : List EraD} (h : zs.map (fun z => (z.nm, z.eras)) = [(a, l)]) : ∃ z, zs = [z] ∧ z.eras = l := by
  cases zs with
  | nil => simp at h
  | cons z r =>
    cases r with
    | nil => simp at h; exact ⟨z, rfl, h.2⟩
    | cons y r => simp at h
def bookedT : ByteArray := ⟨#[122, 111, 110, 101, 32, 65, 10, 101, 114, 97, 32, 49, 58, 48, 48, 32, 45, 48, 58, 48, 48, 32, 67, 69, 84]⟩
def bkL1 : List UInt8 := [122, 111, 110, 101, 32, 65]
def bkL2 : List UInt8 := [101, 114, 97, 32, 49, 58, 48, 48, 32, 45, 48, 58, 48, 48, 32, 67, 69, 84]
def bkE : EraD := ⟨3600, ⟨#[]⟩, 0, S [67, 69, 84], 0⟩
theorem span3600 : spanV [49, 58, 48, 48] = (3600, 0) := spanV_of ⟨⟨by decide, by decide⟩, by
  unfold spanL spanL0; rw [if_neg (by omega), show (3600 : Int) / 3600 = 1 by omega, dz_small (by omega) (by omega)]; rfl⟩
theorem span0 : spanV [48, 58, 48, 48] = (0, 0) := spanV_of ⟨⟨by decide, by decide⟩, by
  unfold spanL spanL0; rw [if_neg (by omega), show (0 : Int) / 3600 = 0 by omega, dz_small (by omega) (by omega)]; rfl⟩
theorem booked_lines : lns bookedT = [S bkL1, S bkL2] := lns_of (s := bookedT) (L := [bkL1, bkL2]) (by
  rw [show bookedT.toList = jn 10 [bkL1, bkL2] from ByteArray.toList_mk [122, 111, 110, 101, 32, 65, 10, 101, 114, 97, 32, 49, 58, 48, 48, 32, 45, 48, 58, 48, 48, 32, 67, 69, 84]]
  exact split_jn (by simp) (by decide))
theorem booked_w1 : Lib.split bkL1 [32] = [wZone, [65]] := split_jn (ws := [wZone, [65]]) (by simp) (by decide)
theorem booked_w2 : Lib.split bkL2 [32] = [wEra, [49, 58, 48, 48], [45, 48, 58, 48, 48], [67, 69, 84]] := split_jn (ws := [wEra, [49, 58, 48, 48], [45, 48, 58, 48, 48], [67, 69, 84]]) (by simp) (by decide)
theorem booked_era : eraR (S bkL2) = (bkE, true) := by
  unfold eraR
  rw [wd_of booked_w2 1, wd_of booked_w2 2, wd_of booked_w2 3, bl_of booked_w2]
  simp only [S_toList]
  show ((_, _) : EraD × Bool) = _
  rw [show [wEra, [49, 58, 48, 48], [45, 48, 58, 48, 48], [67, 69, 84]].getD 1 [] = [49, 58, 48, 48] from rfl, show [wEra, [49, 58, 48, 48], [45, 48, 58, 48, 48], [67, 69, 84]].getD 2 [] = [45, 48, 58, 48, 48] from rfl, show [wEra, [49, 58, 48, 48], [45, 48, 58, 48, 48], [67, 69, 84]].getD 3 [] = [67, 69, 84] from rfl,
    show Lib.trimPrefix [45, 48, 58, 48, 48] [45] = [48, 58, 48, 48] by decide, span3600, span0, show Lib.hasPrefix [45, 48, 58, 48, 48] [45] = true by decide]
  rfl
def bkP1 : BkS := ⟨[], [(S [65], [])], [], 1⟩
def bkP : BkS := ⟨[], [(S [65], [bkE])], [], 2⟩
theorem booked_s1 : stepB BkS.zero (S bkL1) = some bkP1 := by
  rw [step_zone (by rw [wd_of booked_w1]; exact S_toList _), bl_of booked_w1, wd_of booked_w1]
  rfl
theorem booked_s2 : stepB bkP1 (S bkL2) = some bkP := by
  rw [step_era (by rw [wd_of booked_w2]; exact S_toList _), bl_of booked_w2, booked_era]
  rfl
theorem booked_run : runB BkS.zero (lns bookedT) 0 = .inr bkP := by
  rw [booked_lines, runB, booked_s1]
  show runB bkP1 [S bkL2] 1 = _
  rw [runB, booked_s2]
  rfl
theorem bk_era : eraA [] bkE = 0 := by
  unfold eraA
  rw [if_neg (by unfold bkE; decide), if_pos (by show (ByteArray.mk #[]).toList = []; exact lit0)]
  show (abbrR (S [67, 69, 84]).toList 0 dash.toList).2 = 0
  rw [S_toList, show dash.toList = [45] from ByteArray.toList_mk [45]]
  decide
theorem booked_chk : bkP.chk = 0 := by
  have e0 : eraC [] [bkE] 0 = 0 := by
    rw [eraC_at (e := bkE) rfl, if_pos bk_era, untC_at (e := bkE) rfl, if_pos (by rfl), if_pos (by rfl)]
  have z0 : zonC [] [zonP (S [65], [bkE])] 0 = 0 := by
    rw [zonC_at (z := zonP (S [65], [bkE])) rfl, if_neg (by show ¬ isNameB (S [65]).toList = false; rw [S_toList]; decide), if_neg (by decide), if_neg (by decide), if_neg (by decide)]
    show fe (eraC [] [bkE]) 1 = 0
    unfold fe fe; simp [e0]
  unfold BkS.chk bkP
  rw [bokC_ok]
  refine ⟨by decide, rfl, ?_, rfl⟩
  show fe (zonC [] [zonP (S [65], [bkE])]) 1 = 0
  unfold fe fe; simp [z0]
theorem booked_par : parB bookedT = (bkP, 0, 0) := parB_ok (by decide) (by rw [show bookedT.toList = _ from ByteArray.toList_mk [122, 111, 110, 101, 32, 65, 10, 101, 114, 97, 32, 49, 58, 48, 48, 32, 45, 48, 58, 48, 48, 32, 67, 69, 84]]; simp) booked_run (by decide) booked_chk

set_option maxRecDepth 100000 in
set_option maxHeartbeats 4000000 in
theorem booked_any (w : World) (ht : RpTab w) (hk : BkTab w) : Calls Tryz.prog 16 #[] w fun e w' => e = .returned (.bool true) ∧ Gr w w' := by
  have KP := Lib.hid (pbookParse bookedT w (by decide) ht hk)
  have KE : Hid (∀ e w', ParA bookedT w e w' → ∃ b : BokD, e = bookE b 0 0 ∧ b.At w' ∧ b.Is bkP ∧ Gr w w') := fun e w' h => by
    obtain ⟨b, h1, h2, h3, h4⟩ := h
    rw [booked_par] at h1 h3
    exact ⟨b, h1, h2, h3, h4⟩
  clear ht hk
  generalize ParA bookedT w = PA at KP KE
  unfold bookedT at KP
  go_enter Tryz.func16, Tryz.ntmps16
  go_wp2_with fail
  refine KP.out.mono ?_
  rintro e w1 h
  obtain ⟨b, rfl, hat, his, g1⟩ := KE.out e w1 h
  obtain ⟨Ar, cr, rs, Az, cz, zs, Al, cl, ls⟩ := b
  obtain ⟨hr, hz, hl⟩ := his
  simp only at hr hz hl
  obtain ⟨z, rfl, hze⟩ := one_zone hz
  obtain ⟨znm, zA, zc, ze⟩ := z
  simp only at hze
  subst hze
  have hrow := hat.2.1.2.1
  have hzat := hat.2.1.2.2 ⟨znm, zA, zc, [bkE]⟩ (by simp)
  have hcz : 1 ≤ cz := hat.2.1.1.1
  have hcc : 1 ≤ zc := hzat.2.1.1
  have g2 := Gr.alloc w1 (.cells #[.slice Ar rs.length cr, .slice Az 1 cz, .slice Al ls.length cl] 26)
  obtain ⟨bz, oz, rfl, c0, c1⟩ := hrow.two (i := 0) rfl rfl g2
  obtain ⟨be, oe, hA, d0, d1, d2, d3, d4⟩ := hzat.2.2.1.five (i := 0) rfl rfl g2
  simp only at hA
  subst hA
  have d0' : (w1.alloc (.cells #[.slice Ar rs.length cr, .slice (some ⟨bz, oz, none⟩) 1 cz, .slice Al ls.length cl] 26)).cell? ⟨be, oe, none⟩ = some (.int .i64 3600) := by simpa [bkE] using d0
  have c1' : (w1.alloc (.cells #[.slice Ar rs.length cr, .slice (some ⟨bz, oz, none⟩) 1 cz, .slice Al ls.length cl] 26)).cell? ⟨bz, oz + 1, none⟩ = some (.slice (some ⟨be, oe, none⟩) 1 zc) := by simpa using c1
  have y1 := bcell_row (i := 1) (bheap_new w1 (.cells #[.slice Ar rs.length cr, .slice (some ⟨bz, oz, none⟩) 1 cz, .slice Al ls.length cl] 26)) rfl
  have G2 := Lib.hid (g1.trans g2)
  clear hat hrow hzat hr hz hl c0 c1 d0 d1 d2 d3 d4 g1 g2 h KP KE
  go_upto_region 2 with fail
  generalize w1.alloc (.cells #[.slice Ar rs.length cr, .slice (some ⟨bz, oz, none⟩) 1 cz, .slice Al ls.length cl] 26) = w2 at d0' c1' y1 G2 ⊢
  generalize w1.heap.size = q at y1 ⊢
  go_wp2_with fail
  go_ret
  exact ⟨rfl, G2.out⟩
end Go.Proofs.YtmemgpmijphkmaaGreatDoor
namespace Go.Proofs.YtmemgpmijphkmaaGreatDoor
open Go.ChangeShapes Go.WideShapes Go.ChangeAt Go.RowKit
set_option linter.unusedVariables false
/-- a table of texts as a row lists it -/
def strData {H : Type} (zs : List (List UInt8)) : DataW H := .agg (zs.map fun z => .lit (.string z))
theorem cells_of_strs {H : Type} {enc : TypeId × Value → H} {P : Program} {w : World} {base : Nat} {sp : Nat → Bool} {held : Bool} {fuel : Nat} {t e : TypeId} {n : Nat} {cs : List Value} {zs : List (List UInt8)} {p : List MemPlace}
    (ht : P.underlying t = some (.array n e)) (he : P.underlying e = some .string) (hce : P.cellsOf e = 1) (hct : P.cellsOf t = n)
    (h : DataW.trod enc P w base sp held fuel t cs = some (strData zs, p)) : cs = zs.map fun z => Value.string ⟨z.toArray⟩ := by
  cases fuel with
  | zero => simp [DataW.trod] at h
  | succ fuel =>
    simp only [DataW.trod, ht, hce, hct, Nat.mul_one] at h
    split at h
    · rename_i hl
      obtain ⟨xs, hm, hx⟩ := Option.map_eq_some_iff.1 h
      have hxs : xs.map (·.1) = zs.map fun z => (DataW.lit (.string z) : DataW H) := by
        have := congrArg Prod.fst hx
        simpa [strData] using this
      have hxl : xs.length = n := by simpa using Lib.mapM_length hm
      have hzl : zs.length = n := by
        have := congrArg List.length hxs
        simp at this
        omega
      apply List.ext_getElem?
      intro i
      by_cases hi : i < n
      · obtain ⟨b, hb, hf⟩ := Lib.mapM_at hm i i (by simp [hi])
        obtain ⟨z, hc, rfl, _⟩ := DataW.trod_string he hf
        have h1 : cs[i]? = some (.string z) := by
          have := congrArg (·[0]?) hc
          simpa [List.getElem?_take, List.getElem?_drop] using this
        have h2 : (xs.map (·.1))[i]? = some (DataW.lit (.string z.data.toList) : DataW H) := by simp [hb]
        rw [hxs] at h2
        simp only [List.getElem?_map, Option.map_eq_some_iff, DataW.lit.injEq, Lit.string.injEq] at h2
        obtain ⟨z', hz', e⟩ := h2
        simp [h1, hz', e]
      · rw [List.getElem?_eq_none (by omega), List.getElem?_eq_none (by simp; omega)]
    · cases h

def wkTab : List (List UInt8) := [[83, 117, 110], [77, 111, 110], [84, 117, 101], [87, 101, 100], [84, 104, 117], [70, 114, 105], [83, 97, 116]]
theorem wk_of {W : World} {laid : List (String × DataW Unit)} (h : laidMet Tryz.prog laid W) (hm : ("timeball/day.weekdays", strData wkTab) ∈ laid) : HasWk W := by
  have g : Tryz.prog.globalNamed "timeball/day.weekdays" = some 2 := by kernel_rfl
  obtain ⟨ps, hv, _⟩ := h
  obtain ⟨g', t', cs, fuel, p, h1, h2, h3, h4⟩ := laidVars_mem hv _ hm
  obtain rfl := Option.some.inj (g.symm.trans h1)
  obtain rfl : t' = 132 := Option.some.inj (h2.symm.trans (show (Tryz.prog.globals[2]?).map (·.type) = some 132 by kernel_rfl))
  have e := cells_of_strs Tryz.underlying132 Tryz.underlying9 (by kernel_rfl) (by kernel_rfl) h4
  have c : ∀ i : Nat, i < 7 → W.cell? ⟨2, i, none⟩ = some (.string (S (wk i))) := fun i hi => by
    have := World.var?_cell g h3 i
    rw [this, ← Array.getElem?_toList, e]
    have : i = 0 ∨ i = 1 ∨ i = 2 ∨ i = 3 ∨ i = 4 ∨ i = 5 ∨ i = 6 := by omega
    rcases this with rfl | rfl | rfl | rfl | rfl | rfl | rfl <;> rfl
  exact ⟨World.block_lt_of_cell? W ⟨2, 0, none⟩ (c 0 (by omega)), c⟩
end Go.Proofs.YtmemgpmijphkmaaGreatDoor
namespace Go.Proofs.YtmemgpmijphkmaaGreatDoor
open Go.ChangeShapes Go.WideShapes Go.ChangeAt Go.RowKit
set_option linter.unusedVariables false
theorem syn_of {W : World} {laid : List (String × DataW Unit)} {nm : String} {d : DataW Unit} (h : laidMet Tryz.prog laid W) (hm : ("strconv.ErrSyntax", .iface nm d) ∈ laid) : ∃ t p, W.cell? ⟨9, 0, none⟩ = some (.iface t p) := by
  have g : Tryz.prog.globalNamed "strconv.ErrSyntax" = some 9 := by kernel_rfl
  obtain ⟨ps, hv, _⟩ := h
  obtain ⟨g', t', cs, fuel, p, h1, h2, h3, h4⟩ := laidVars_mem hv _ hm
  obtain rfl := Option.some.inj (g.symm.trans h1)
  obtain rfl : t' = 100 := Option.some.inj (h2.symm.trans (show (Tryz.prog.globals[9]?).map (·.type) = some 100 by kernel_rfl))
  obtain ⟨_, u, v, e, _⟩ := iface_of_trod Tryz.underlying100 h4
  have := World.var?_cell g h3 0
  exact ⟨u, v, by rw [this, ← Array.getElem?_toList, e]; rfl⟩

theorem rng_of {W : World} {laid : List (String × DataW Unit)} {nm : String} {d : DataW Unit} (h : laidMet Tryz.prog laid W) (hm : ("strconv.ErrRange", .iface nm d) ∈ laid) : ∃ t p, W.cell? ⟨10, 0, none⟩ = some (.iface t p) := by
  have g : Tryz.prog.globalNamed "strconv.ErrRange" = some 10 := by kernel_rfl
  obtain ⟨ps, hv, _⟩ := h
  obtain ⟨g', t', cs, fuel, p, h1, h2, h3, h4⟩ := laidVars_mem hv _ hm
  obtain rfl := Option.some.inj (g.symm.trans h1)
  obtain rfl : t' = 100 := Option.some.inj (h2.symm.trans (show (Tryz.prog.globals[10]?).map (·.type) = some 100 by kernel_rfl))
  obtain ⟨_, u, v, e, _⟩ := iface_of_trod Tryz.underlying100 h4
  have := World.var?_cell g h3 0
  exact ⟨u, v, by rw [this, ← Array.getElem?_toList, e]; rfl⟩

/-- the text of an error as a row lists it -/
def textOf : DataW Unit → List UInt8
  | .iface _ (.ptr (.agg [.lit (.string t)])) => t
  | _ => []
/-- an error laid: a new block for its text, the variable points there -/
def putErr (w : World) (g : Nat) (text : List UInt8) : World :=
  put (w.alloc (.cells #[.string ⟨text.toArray⟩] 207)) g [.iface 205 (.pointer (some ⟨w.heap.size, 0, none⟩))]
end Go.Proofs.YtmemgpmijphkmaaGreatDoor
