/- The closed fact of the laws on books. -/
import Derived.Test.YtmemgpmijphkmaaGreatDoorVM49
namespace Go.Proofs.YtmemgpmijphkmaaGreatDoor
set_option linter.unusedVariables false
set_option linter.unusedSimpArgs false
open Go.RowKit
theorem of_lists {l : List ByteArray} {L : List (List UInt8)} (h : l.map (·.toList) = L) : l = L.map S := by
  rw [← h, List.map_map]
  conv => lhs; rw [← List.map_id l]
  exact List.map_congr_left fun x _ => by simp [S_toList']
theorem lns_of {s : ByteArray} {L : List (List UInt8)} (h : Lib.split s.toList [10] = L) : lns s = L.map S := of_lists ((lns_split s).trans h)
theorem bl_of {l : List UInt8} {L : List (List UInt8)} (h : Lib.split l [32] = L) : bl (S l) = L.map S := of_lists ((bl_split (S l)).trans (by rw [S_toList]; exact h))
theorem wd_of {l : List UInt8} {L : List (List UInt8)} (h : Lib.split l [32] = L) (k : Nat) : wd (S l) k = S (L.getD k []) := by
  unfold wd
  rw [bl_of h]
  simp only [List.getD, List.getElem?_map]
  cases L[k]? <;> rfl
theorem one_zone {zs : List ZonD} {a : ByteArray} {l : List EraD} (h : zs.map (fun z => (z.nm, z.eras)) = [(a, l)]) : ∃ z, zs = [z] ∧ z.eras = l := by
  cases zs with
  | nil => simp at h
  | cons z r =>
    cases r with
    | nil => simp at h; exact ⟨z, rfl, h.2⟩
    | cons y r => simp at h
def bookedT : ByteArray := ⟨#[122, 111, 110, 101, 32, 65, 10, 101, 114, 97, 32, 49, 58, 48, 48, 32, 45, 48, 58, 48, 48, 32, 67, 69, 84]⟩
def bkL1 : List UInt8 := [122, 111, 110, 101, 32, 65]
def bkL2 : List UInt8 := [101, 114, 97, 32, 49, 58, 48, 48, 32, 45, 48, 58, 48, 48, 32, 67, 69, 84]
def bkE : EraD := ⟨3600, ⟨#[]⟩, 0, S [67, 69, 84], 0⟩
theorem span3600 : spanV [49, 58, 48, 48] = (3600, 0) := spanV_of ⟨⟨by decide, by decide⟩, by
  unfold spanL spanL0; rw [if_neg (by omega), show (3600 : Int) / 3600 = 1 by omega, dz_small (by omega) (by omega)]; rfl⟩
theorem span0 : spanV [48, 58, 48, 48] = (0, 0) := spanV_of ⟨⟨by decide, by decide⟩, by
  unfold spanL spanL0; rw [if_neg (by omega), show (0 : Int) / 3600 = 0 by omega, dz_small (by omega) (by omega)]; rfl⟩
theorem booked_lines : lns bookedT = [S bkL1, S bkL2] := lns_of (s := bookedT) (L := [bkL1, bkL2]) (by
  rw [show bookedT.toList = jn 10 [bkL1, bkL2] from ByteArray.toList_mk [122, 111, 110, 101, 32, 65, 10, 101, 114, 97, 32, 49, 58, 48, 48, 32, 45, 48, 58, 48, 48, 32, 67, 69, 84]]
  exact split_jn (by simp) (by decide))
theorem booked_w1 : Lib.split bkL1 [32] = [wZone, [65]] := split_jn (ws := [wZone, [65]]) (by simp) (by decide)
theorem booked_w2 : Lib.split bkL2 [32] = [wEra, [49, 58, 48, 48], [45, 48, 58, 48, 48], [67, 69, 84]] := split_jn (ws := [wEra, [49, 58, 48, 48], [45, 48, 58, 48, 48], [67, 69, 84]]) (by simp) (by decide)
theorem booked_era : eraR (S bkL2) = (bkE, true) := by
  unfold eraR
  rw [wd_of booked_w2 1, wd_of booked_w2 2, wd_of booked_w2 3, bl_of booked_w2]
  simp only [S_toList]
  show ((_, _) : EraD × Bool) = _
  rw [show [wEra, [49, 58, 48, 48], [45, 48, 58, 48, 48], [67, 69, 84]].getD 1 [] = [49, 58, 48, 48] from rfl, show [wEra, [49, 58, 48, 48], [45, 48, 58, 48, 48], [67, 69, 84]].getD 2 [] = [45, 48, 58, 48, 48] from rfl, show [wEra, [49, 58, 48, 48], [45, 48, 58, 48, 48], [67, 69, 84]].getD 3 [] = [67, 69, 84] from rfl,
    show Lib.trimPrefix [45, 48, 58, 48, 48] [45] = [48, 58, 48, 48] by decide, span3600, span0, show Lib.hasPrefix [45, 48, 58, 48, 48] [45] = true by decide]
  rfl
def bkP1 : BkS := ⟨[], [(S [65], [])], [], 1⟩
def bkP : BkS := ⟨[], [(S [65], [bkE])], [], 2⟩
theorem booked_s1 : stepB BkS.zero (S bkL1) = some bkP1 := by
  rw [step_zone (by rw [wd_of booked_w1]; exact S_toList _), bl_of booked_w1, wd_of booked_w1]
  rfl
theorem booked_s2 : stepB bkP1 (S bkL2) = some bkP := by
  rw [step_era (by rw [wd_of booked_w2]; exact S_toList _), bl_of booked_w2, booked_era]
  rfl
theorem booked_run : runB BkS.zero (lns bookedT) 0 = .inr bkP := by
  rw [booked_lines, runB, booked_s1]
  show runB bkP1 [S bkL2] 1 = _
  rw [runB, booked_s2]
  rfl
theorem bk_era : eraA [] bkE = 0 := by
  unfold eraA
  rw [if_neg (by unfold bkE; decide), if_pos (by show (ByteArray.mk #[]).toList = []; exact lit0)]
  show (abbrR (S [67, 69, 84]).toList 0 dash.toList).2 = 0
  rw [S_toList, show dash.toList = [45] from ByteArray.toList_mk [45]]
  decide
theorem booked_chk : bkP.chk = 0 := by
  have e0 : eraC [] [bkE] 0 = 0 := by
    rw [eraC_at (e := bkE) rfl, if_pos bk_era, untC_at (e := bkE) rfl, if_pos (by rfl), if_pos (by rfl)]
  have z0 : zonC [] [zonP (S [65], [bkE])] 0 = 0 := by
    rw [zonC_at (z := zonP (S [65], [bkE])) rfl, if_neg (by show ¬ isNameB (S [65]).toList = false; rw [S_toList]; decide), if_neg (by decide), if_neg (by decide), if_neg (by decide)]
    show fe (eraC [] [bkE]) 1 = 0
    unfold fe fe; simp [e0]
  unfold BkS.chk bkP
  rw [bokC_ok]
  refine ⟨by decide, rfl, ?_, rfl⟩
  show fe (zonC [] [zonP (S [65], [bkE])]) 1 = 0
  unfold fe fe; simp [z0]
theorem booked_par : parB bookedT = (bkP, 0, 0) := parB_ok (by decide) (by rw [show bookedT.toList = _ from ByteArray.toList_mk [122, 111, 110, 101, 32, 65, 10, 101, 114, 97, 32, 49, 58, 48, 48, 32, 45, 48, 58, 48, 48, 32, 67, 69, 84]]; simp) booked_run (by decide) booked_chk

set_option maxRecDepth 100000 in
set_option maxHeartbeats 4000000 in
theorem booked_any (w : World) (ht : RpTab w) (hk : BkTab w) : Calls Tryz.prog 16 #[] w fun e w' => e = .returned (.bool true) ∧ Gr w w' := by
  have KP := Lib.hid (pbookParse bookedT w (by decide) ht hk)
  have KE : Hid (∀ e w', ParA bookedT w e w' → ∃ b : BokD, e = bookE b 0 0 ∧ b.At w' ∧ b.Is bkP ∧ Gr w w') := fun e w' h => by
    obtain ⟨b, h1, h2, h3, h4⟩ := h
    rw [booked_par] at h1 h3
    exact ⟨b, h1, h2, h3, h4⟩
  clear ht hk
  generalize ParA bookedT w = PA at KP KE
  unfold bookedT at KP
  go_enter Tryz.func16, Tryz.ntmps16
  go_wp2_with fail
  refine KP.out.mono ?_
  rintro e w1 h
  obtain ⟨b, rfl, hat, his, g1⟩ := KE.out e w1 h
  obtain ⟨Ar, cr, rs, Az, cz, zs, Al, cl, ls⟩ := b
  obtain ⟨hr, hz, hl⟩ := his
  simp only at hr hz hl
  obtain ⟨z, rfl, hze⟩ := one_zone hz
  obtain ⟨znm, zA, zc, ze⟩ := z
  simp only at hze
  subst hze
  have hrow := hat.2.1.2.1
  have hzat := hat.2.1.2.2 ⟨znm, zA, zc, [bkE]⟩ (by simp)
  have hcz : 1 ≤ cz := hat.2.1.1.1
  have hcc : 1 ≤ zc := hzat.2.1.1
  have g2 := Gr.alloc w1 (.cells #[.slice Ar rs.length cr, .slice Az 1 cz, .slice Al ls.length cl] 26)
  obtain ⟨bz, oz, rfl, c0, c1⟩ := hrow.two (i := 0) rfl rfl g2
  obtain ⟨be, oe, hA, d0, d1, d2, d3, d4⟩ := hzat.2.2.1.five (i := 0) rfl rfl g2
  simp only at hA
  subst hA
  have d0' : (w1.alloc (.cells #[.slice Ar rs.length cr, .slice (some ⟨bz, oz, none⟩) 1 cz, .slice Al ls.length cl] 26)).cell? ⟨be, oe, none⟩ = some (.int .i64 3600) := by simpa [bkE] using d0
  have c1' : (w1.alloc (.cells #[.slice Ar rs.length cr, .slice (some ⟨bz, oz, none⟩) 1 cz, .slice Al ls.length cl] 26)).cell? ⟨bz, oz + 1, none⟩ = some (.slice (some ⟨be, oe, none⟩) 1 zc) := by simpa using c1
  have y1 := bcell_row (i := 1) (bheap_new w1 (.cells #[.slice Ar rs.length cr, .slice (some ⟨bz, oz, none⟩) 1 cz, .slice Al ls.length cl] 26)) rfl
  have G2 := Lib.hid (g1.trans g2)
  clear hat hrow hzat hr hz hl c0 c1 d0 d1 d2 d3 d4 g1 g2 h KP KE
  go_upto_region 2 with fail
  generalize w1.alloc (.cells #[.slice Ar rs.length cr, .slice (some ⟨bz, oz, none⟩) 1 cz, .slice Al ls.length cl] 26) = w2 at d0' c1' y1 G2 ⊢
  generalize w1.heap.size = q at y1 ⊢
  go_wp2_with fail
  go_ret
  exact ⟨rfl, G2.out⟩
end Go.Proofs.YtmemgpmijphkmaaGreatDoor
