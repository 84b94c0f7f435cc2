/- The closed fact of the laws on books. The lines of a book as texts; what the project's joinWords and eraText of package book return. -/
import Derived.Test.YtmemgpmijphkmaaGreatDoorXM42
namespace Go.Proofs.YtmemgpmijphkmaaGreatDoor
set_option linter.unusedVariables false
set_option linter.unusedSimpArgs false
open Go.RowKit
theorem of_lists {l : List ByteArray} {L : List (List UInt8)} (h : l.map (·.toList) = L) : l = L.map S := by
  rw [← h, List.map_map]
  conv => lhs; rw [← List.map_id l]
  exact List.map_congr_left fun x _ => by simp [S_toList']
theorem lns_of {s : ByteArray} {L : List (List UInt8)} (h : Lib.split s.toList [10] = L) : lns s = L.map S := of_lists ((lns_split s).trans h)
theorem bl_of {l : List UInt8} {L : List (List UInt8)} (h : Lib.split l [32] = L) : bl (S l) = L.map S := of_lists ((bl_split (S l)).trans (by rw [S_toList]; exact h))
theorem wd_of {l : List UInt8} {L : List (List UInt8)} (h : Lib.split l [32] = L) (k : Nat) : wd (S l) k = S (L.getD k []) := by
  unfold wd
  rw [bl_of h]
  simp only [List.getD, List.getElem?_map]
  cases L[k]? <;> rfl
theorem one_zone {zs : List ZonD} {a : ByteArray} {l : List EraD} (h : zs.map (fun z => (z.nm, z.eras)) = [(a, l)]) : ∃ z, zs = [z] ∧ z.eras = l := by
  cases zs with
  | nil => simp at h
  | cons z r =>
    cases r with
    | nil => simp at h; exact ⟨z, rfl, h.2⟩
    | cons y r => simp at h
def bookedT : ByteArray := ⟨#[122, 111, 110, 101, 32, 65, 10, 101, 114, 97, 32, 49, 58, 48, 48, 32, 45, 48, 58, 48, 48, 32, 67, 69, 84]⟩
def bkL1 : List UInt8 := [122, 111, 110, 101, 32, 65]
def bkL2 : List UInt8 := [101, 114, 97, 32, 49, 58, 48, 48, 32, 45, 48, 58, 48, 48, 32, 67, 69, 84]
def bkE : EraD := ⟨3600, ⟨#[]⟩, 0, S [67, 69, 84], 0⟩
theorem span3600 : spanV [49, 58, 48, 48] = (3600, 0) := spanV_of ⟨⟨by decide, by decide⟩, by
  unfold spanL spanL0; rw [if_neg (by omega), show (3600 : Int) / 3600 = 1 by omega, dz_small (by omega) (by omega)]; rfl⟩
theorem span0 : spanV [48, 58, 48, 48] = (0, 0) := spanV_of ⟨⟨by decide, by decide⟩, by
  unfold spanL spanL0; rw [if_neg (by omega), show (0 : Int) / 3600 = 0 by omega, dz_small (by omega) (by omega)]; rfl⟩
theorem booked_lines : lns bookedT = [S bkL1, S bkL2] := lns_of (s := bookedT) (L := [bkL1, bkL2]) (by
  rw [show bookedT.toList = jn 10 [bkL1, bkL2] from ByteArray.toList_mk [122, 111, 110, 101, 32, 65, 10, 101, 114, 97, 32, 49, 58, 48, 48, 32, 45, 48, 58, 48, 48, 32, 67, 69, 84]]
  exact split_jn (by simp) (by decide))
theorem booked_w1 : Lib.split bkL1 [32] = [wZone, [65]] := split_jn (ws := [wZone, [65]]) (by simp) (by decide)
theorem booked_w2 : Lib.split bkL2 [32] = [wEra, [49, 58, 48, 48], [45, 48, 58, 48, 48], [67, 69, 84]] := split_jn (ws := [wEra, [49, 58, 48, 48], [45, 48, 58, 48, 48], [67, 69, 84]]) (by simp) (by decide)
theorem booked_era : eraR (S bkL2) = (bkE, true) := by
  unfold eraR
  rw [wd_of booked_w2 1, wd_of booked_w2 2, wd_of booked_w2 3, bl_of booked_w2]
  simp only [S_toList]
  show ((_, _) : EraD × Bool) = _
  rw [show [wEra, [49, 58, 48, 48], [45, 48, 58, 48, 48], [67, 69, 84]].getD 1 [] = [49, 58, 48, 48] from rfl, show [wEra, [49, 58, 48, 48], [45, 48, 58, 48, 48], [67, 69, 84]].getD 2 [] = [45, 48, 58, 48, 48] from rfl, show [wEra, [49, 58, 48, 48], [45, 48, 58, 48, 48], [67, 69, 84]].getD 3 [] = [67, 69, 84] from rfl,
    show Lib.trimPrefix [45, 48, 58, 48, 48] [45] = [48, 58, 48, 48] by decide, span3600, span0, show Lib.hasPrefix [45, 48, 58, 48, 48] [45] = true by decide]
  rfl
def bkP1 : BkS := ⟨[], [(S [65], [])], [], 1⟩
def bkP : BkS := ⟨[], [(S [65], [bkE])], [], 2⟩
theorem booked_s1 : stepB BkS.zero (S bkL1) = some bkP1 := by
  rw [step_zone (by rw [wd_of booked_w1]; exact S_toList _), bl_of booked_w1, wd_of booked_w1]
  rfl
theorem booked_s2 : stepB bkP1 (S bkL2) = some bkP := by
  rw [step_era (by rw [wd_of booked_w2]; exact S_toList _), bl_of booked_w2, booked_era]
  rfl
theorem booked_run : runB BkS.zero (lns bookedT) 0 = .inr bkP := by
  rw [booked_lines, runB, booked_s1]
  show runB bkP1 [S bkL2] 1 = _
  rw [runB, booked_s2]
  rfl
theorem bk_era : eraA [] bkE = 0 := by
  unfold eraA
  rw [if_neg (by unfold bkE; decide), if_pos (by show (ByteArray.mk #[]).toList = []; exact lit0)]
  show (abbrR (S [67, 69, 84]).toList 0 dash.toList).2 = 0
  rw [S_toList, show dash.toList = [45] from ByteArray.toList_mk [45]]
  decide
theorem booked_chk : bkP.chk = 0 := by
  have e0 : eraC [] [bkE] 0 = 0 := by
    rw [eraC_at (e := bkE) rfl, if_pos bk_era, untC_at (e := bkE) rfl, if_pos (by rfl), if_pos (by rfl)]
  have z0 : zonC [] [zonP (S [65], [bkE])] 0 = 0 := by
    rw [zonC_at (z := zonP (S [65], [bkE])) rfl, if_neg (by show ¬ isNameB (S [65]).toList = false; rw [S_toList]; decide), if_neg (by decide), if_neg (by decide), if_neg (by decide)]
    show fe (eraC [] [bkE]) 1 = 0
    unfold fe fe; simp [e0]
  unfold BkS.chk bkP
  rw [bokC_ok]
  refine ⟨by decide, rfl, ?_, rfl⟩
  show fe (zonC [] [zonP (S [65], [bkE])]) 1 = 0
  unfold fe fe; simp [z0]
theorem booked_par : parB bookedT = (bkP, 0, 0) := parB_ok (by decide) (by rw [show bookedT.toList = _ from ByteArray.toList_mk [122, 111, 110, 101, 32, 65, 10, 101, 114, 97, 32, 49, 58, 48, 48, 32, 45, 48, 58, 48, 48, 32, 67, 69, 84]]; simp) booked_run (by decide) booked_chk

set_option maxRecDepth 100000 in
set_option maxHeartbeats 4000000 in
theorem booked_any (w : World) (ht : RpTab w) (hk : BkTab w) : Calls Tryz.prog 16 #[] w fun e w' => e = .returned (.bool true) ∧ Gr w w' := by
  have KP := Lib.hid (pbookParse bookedT w (by decide) ht hk)
  have KE : Hid (∀ e w', ParA bookedT w e w' → ∃ b : BokD, e = bookE b 0 0 ∧ b.At w' ∧ b.Is bkP ∧ Gr w w') := fun e w' h => by
    obtain ⟨b, h1, h2, h3, h4⟩ := h
    rw [booked_par] at h1 h3
    exact ⟨b, h1, h2, h3, h4⟩
  clear ht hk
  generalize ParA bookedT w = PA at KP KE
  unfold bookedT at KP
  go_enter Tryz.func16, Tryz.ntmps16
  go_wp2_with fail
  refine KP.out.mono ?_
  rintro e w1 h
  obtain ⟨b, rfl, hat, his, g1⟩ := KE.out e w1 h
  obtain ⟨Ar, cr, rs, Az, cz, zs, Al, cl, ls⟩ := b
  obtain ⟨hr, hz, hl⟩ := his
  simp only at hr hz hl
  obtain ⟨z, rfl, hze⟩ := one_zone hz
  obtain ⟨znm, zA, zc, ze⟩ := z
  simp only at hze
  subst hze
  have hrow := hat.2.1.2.1
  have hzat := hat.2.1.2.2 ⟨znm, zA, zc, [bkE]⟩ (by simp)
  have hcz : 1 ≤ cz := hat.2.1.1.1
  have hcc : 1 ≤ zc := hzat.2.1.1
  have g2 := Gr.alloc w1 (.cells #[.slice Ar rs.length cr, .slice Az 1 cz, .slice Al ls.length cl] 26)
  obtain ⟨bz, oz, rfl, c0, c1⟩ := hrow.two (i := 0) rfl rfl g2
  obtain ⟨be, oe, hA, d0, d1, d2, d3, d4⟩ := hzat.2.2.1.five (i := 0) rfl rfl g2
  simp only at hA
  subst hA
  have d0' : (w1.alloc (.cells #[.slice Ar rs.length cr, .slice (some ⟨bz, oz, none⟩) 1 cz, .slice Al ls.length cl] 26)).cell? ⟨be, oe, none⟩ = some (.int .i64 3600) := by simpa [bkE] using d0
  have c1' : (w1.alloc (.cells #[.slice Ar rs.length cr, .slice (some ⟨bz, oz, none⟩) 1 cz, .slice Al ls.length cl] 26)).cell? ⟨bz, oz + 1, none⟩ = some (.slice (some ⟨be, oe, none⟩) 1 zc) := by simpa using c1
  have y1 := bcell_row (i := 1) (bheap_new w1 (.cells #[.slice Ar rs.length cr, .slice (some ⟨bz, oz, none⟩) 1 cz, .slice Al ls.length cl] 26)) rfl
  have G2 := Lib.hid (g1.trans g2)
  clear hat hrow hzat hr hz hl c0 c1 d0 d1 d2 d3 d4 g1 g2 h KP KE
  go_upto_region 2 with fail
  generalize w1.alloc (.cells #[.slice Ar rs.length cr, .slice (some ⟨bz, oz, none⟩) 1 cz, .slice Al ls.length cl] 26) = w2 at d0' c1' y1 G2 ⊢
  generalize w1.heap.size = q at y1 ⊢
  go_wp2_with fail
  go_ret
  exact ⟨rfl, G2.out⟩
end Go.Proofs.YtmemgpmijphkmaaGreatDoor
namespace Go.Proofs.YtmemgpmijphkmaaGreatDoor
set_option linter.unusedVariables false
set_option linter.unusedSimpArgs false
open Go.RowKit
theorem jn_inter (c : UInt8) : ∀ l : List (List UInt8), [c].intercalate l = jn c l
  | [] => rfl
  | [a] => by simp [jn, List.intercalate, List.intersperse]
  | a :: b :: l => by
    have ih := jn_inter c (b :: l)
    unfold jn
    rw [← ih]
    simp [List.intercalate, List.intersperse]
theorem jn_len (c : UInt8) : ∀ l : List (List UInt8), (jn c l).length ≤ (l.map List.length).sum + l.length
  | [] => by simp [jn]
  | [a] => by simp [jn]
  | a :: b :: l => by
    have ih := jn_len c (b :: l)
    unfold jn
    simp only [List.length_append, List.length_cons, List.map_cons, List.sum_cons] at ih ⊢
    omega
/-- strings as cells -/
def strC (s : ByteArray) : List Value := [.string s]
theorem st_len (s : ByteArray) : (strC s).length = 1 := rfl
theorem st_one (s : ByteArray) : ∀ u ∈ strC s, u.oneCell' = true := fun u hu => by simp [strC] at hu; rw [hu]; rfl

/-- Join of a row of texts -/
theorem join_row (c : UInt8) (A : Option Addr) (cap : Nat) (l : List ByteArray) (W : World) (hr : Row W 1 strC A l) (hc : l.length ≤ cap) (hl : l.length ≤ 100000) (hb : (jn c (l.map (·.toList))).length ≤ 100000000) :
    Calls Tryz.prog 26 #[.slice A l.length cap, .string ⟨#[c]⟩] W fun e w' => e = .returned (.string (S (jn c (l.map (·.toList))))) ∧ Gr W w' := by
  cases l with
  | nil =>
    refine (Tryz.strings_Join_none A cap ⟨#[c]⟩ W).mono ?_
    rintro e w' ⟨rfl, rfl⟩
    exact ⟨rfl, Gr.refl _⟩
  | cons x l =>
    obtain ⟨b, off, rfl, hb', _⟩ := hr 0 x rfl
    have e1 : ((x :: l).map fun y : ByteArray => y.data.toList) = (x :: l).map (·.toList) := List.map_congr_left fun y _ => data_toList y
    have hcell : ∀ (j : Nat) y, (x :: l)[j]? = some y → W.cell? ⟨b, off + j, none⟩ = some (.string y) := fun j y hy => by
      obtain ⟨b2, o2, e, _, hc2⟩ := hr j y hy
      injection e with e; injection e with e1 e2; subst e1; subst e2
      have := hc2 0 (.string y) rfl
      simpa using this
    have := Tryz.strings_Join b off cap (x :: l) ⟨#[c]⟩ W hcell hb' (by omega) hc (by
      show (Lib.join _ [c]).length ≤ _
      unfold Lib.join
      rw [jn_inter, e1]; omega)
    refine this.mono ?_
    rintro e w' ⟨rfl, g⟩
    refine ⟨?_, g⟩
    show Ending.returned (.string ⟨(Lib.join _ [c]).toArray⟩) = _
    unfold Lib.join
    rw [jn_inter, e1]
    rfl

set_option maxHeartbeats 4000000 in
theorem pjoinWords (A : Option Addr) (cap : Nat) (l : List ByteArray) (W : World) (hr : Row W 1 strC A l) (hc : l.length ≤ cap) (hl : l.length ≤ 100000) (hb : (jn 32 (l.map (·.toList))).length ≤ 100000000) :
    Calls Tryz.prog 23 #[.slice A l.length cap] W fun e w' => e = .returned (.string (S (jn 32 (l.map (·.toList))))) ∧ Gr W w' := by
  have K := Lib.hid (join_row 32 A cap l W hr hc hl hb)
  generalize l.length = n at K ⊢
  generalize S (jn 32 (l.map (·.toList))) = R at K ⊢
  clear hr hc hl hb
  go_enter Tryz.func23, Tryz.ntmps23
  go_wp2_with fail
  refine K.out.mono ?_
  rintro e w1 ⟨rfl, g1⟩
  go_wp2_with fail
  go_ret
  exact ⟨rfl, g1⟩
/-- the text of an era without its Until -/
def eraL (e : EraD) : List UInt8 := jn 32 [wEra, spanL e.off, if e.ru.toList = [] then 45 :: spanL e.sv else e.ru.toList, e.fm.toList]
noncomputable def eraLn (e : EraD) : List UInt8 := jn 32 [eraL e, stampT e.un]
noncomputable def eraLs (l : List EraD) : List (List UInt8) := l.dropLast.map eraLn ++ (match l.getLast? with
  | some e => [eraL e]
  | none => [])
noncomputable def zonL (z : ZonD) : List (List UInt8) := jn 32 [wZone, z.nm.toList] :: eraLs z.eras
def linL (x : LinD) : List UInt8 := jn 32 [wLink, x.nm.toList, x.to'.toList]
/-- the lines of a book -/
noncomputable def bokL (rs : List RuD) (zs : List ZonD) (ls : List LinD) : List (List UInt8) := rs.map RuD.text ++ zs.flatMap zonL ++ ls.map linL

/-- texts in a block of their own -/
theorem str_row {W : World} {b : Nat} {l : List ByteArray} (h : W.heap[b]? = some (.cells (l.map Value.string).toArray 9 (0, 0))) : Row W 1 strC (some ⟨b, 0, none⟩) l := fun i x hx => by
  refine ⟨b, 0, rfl, (Array.getElem?_eq_some_iff.1 h).1, fun j v hv => ?_⟩
  have hj : j = 0 ∧ v = .string x := by
    have := (List.getElem?_eq_some_iff.1 hv).1
    have e0 : j = 0 := by simpa [strC] using this
    subst e0
    exact ⟨rfl, by simpa [strC] using hv.symm⟩
  obtain ⟨rfl, rfl⟩ := hj
  have : W.cell? ⟨b, i, none⟩ = some (.string x) := bcell_row h (by simp [hx])
  simpa using this

set_option maxRecDepth 100000 in
set_option maxHeartbeats 4000000 in
theorem peraText (e : EraD) (w : World) (hp : HasPow w) (h1 : -64800 ≤ e.off) (h2 : e.off ≤ 64800) (h3 : 0 ≤ e.sv) (h4 : e.sv ≤ 10800) (hr : e.ru.size ≤ 1000) (hf : e.fm.size ≤ 1000) :
    Calls Tryz.prog 25 #[eraV e] w fun en w' => en = .returned (.string (S (eraL e))) ∧ Gr w w' := by
  obtain ⟨off, ru, sv, fm, un⟩ := e
  simp only at h1 h2 h3 h4 hr hf
  have K1 := Lib.hid (fun w hp => span_yes off w hp (by omega) (by omega))
  have K2 := Lib.hid (fun w hp => span_yes sv w hp (by omega) (by omega))
  have L1 := spanL_len (n := off) (by omega) (by omega)
  have L2 := spanL_len (n := sv) (by omega) (by omega)
  have HP := Lib.hid hp
  have B0 := Lib.hid (box_one w (.cells #[.int .i64 off, .string ru, .int .i64 sv, .string fm, .int .i64 un] 44))
  have KJ : Hid (∀ (x : ByteArray) (W : World) (b : Nat), x.size ≤ 1000 → W.heap[b]? = some (.cells #[.string ⟨#[101, 114, 97]⟩, .string (S (spanL off)), .string x, .string fm] 9 (0, 0)) →
      Calls Tryz.prog 23 #[.slice (some ⟨b, 0, none⟩) 4 4] W fun e w' => e = .returned (.string (S (jn 32 [wEra, spanL off, x.toList, fm.toList]))) ∧ Gr W w') := fun x W b hx h => by
    have e1 : ([⟨#[101, 114, 97]⟩, S (spanL off), x, fm] : List ByteArray).map (·.toList) = [wEra, spanL off, x.toList, fm.toList] := by
      simp only [List.map_cons, List.map_nil, S_toList]
      rw [show (ByteArray.mk #[101, 114, 97]).toList = wEra from ByteArray.toList_mk [101, 114, 97]]
    have := pjoinWords (some ⟨b, 0, none⟩) 4 [⟨#[101, 114, 97]⟩, S (spanL off), x, fm] W (str_row h) (by simp) (by simp) (by
      rw [e1]
      have := jn_len 32 [wEra, spanL off, x.toList, fm.toList]
      have lx : x.toList.length = x.size := (size_toList x).symm
      have lf : fm.toList.length = fm.size := (size_toList fm).symm
      have le : wEra.length = 3 := rfl
      simp only [List.map_cons, List.map_nil, List.sum_cons, List.sum_nil, List.length_cons, List.length_nil] at this
      omega)
    rw [e1] at this
    exact this
  have SZ : Hid ((S (45 :: spanL sv)).size ≤ 1000) := by unfold Hid; rw [S_size, List.length_cons]; omega
  have sl1 : ¬ 9223372036854775807 < 1 + (spanL sv).length := by omega
  have sl2 : ¬ 9223372036854775807 < (spanL sv).length + 1 := by omega
  clear hp h1 h2 h3 h4 hf L1
  by_cases hn : ru.toList = []
  · have E : Hid (S (jn 32 [wEra, spanL off, (S (45 :: spanL sv)).toList, fm.toList]) = S (eraL ⟨off, ru, sv, fm, un⟩)) := by unfold Hid eraL; rw [if_pos hn, S_toList]
    obtain rfl : ru = ⟨#[]⟩ := str_nil2 hn
    have KJ1 := Lib.hid (fun W b h => KJ.out (S (45 :: spanL sv)) W b SZ.out h)
    rw [E.out] at KJ1
    generalize S (eraL ⟨off, ⟨#[]⟩, sv, fm, un⟩) = R at KJ1 ⊢
    clear E hn KJ
    go_enter Tryz.func25, Tryz.ntmps25
    go_wp2_with fail
    generalize w.alloc (.cells #[.int .i64 off, .string ⟨#[]⟩, .int .i64 sv, .string fm, .int .i64 un] 44) = w0 at B0 ⊢
    generalize w.heap.size = q at B0 ⊢
    refine (K1.out w0 (B0.out.1.pow HP.out)).mono ?_
    rintro e w1 ⟨rfl, g1⟩
    have G1 := Lib.hid (B0.out.1.trans g1)
    have H1 := Lib.hid (bheap_gr g1 B0.out.2)
    clear g1 B0 K1
    have y1 : w1.cell? ⟨q, 1, none⟩ = some (.string ⟨#[]⟩) := bcell_row H1.out rfl
    have y2 : w1.cell? ⟨q, 2, none⟩ = some (.int .i64 sv) := bcell_row H1.out rfl
    go_wp2_with fail
    clear y1 y2
    refine (K2.out w1 (G1.out.pow HP.out)).mono ?_
    rintro e w2 ⟨rfl, g2⟩
    have G2 := Lib.hid (G1.out.trans g2)
    have H2 := Lib.hid (bheap_gr g2 H1.out)
    clear g2 H1 G1 K2
    have y3 : w2.cell? ⟨q, 3, none⟩ = some (.string fm) := bcell_row H2.out rfl
    have NB := Lib.hid (box_one w2 (.cells #[.string ⟨#[101, 114, 97]⟩, .string (S (spanL off)), .string (S (45 :: spanL sv)), .string fm] 9))
    go_wp2_with fail
    generalize w2.alloc (.cells #[.string ⟨#[101, 114, 97]⟩, .string (S (spanL off)), .string (S (45 :: spanL sv)), .string fm] 9) = w3 at NB ⊢
    clear y3
    refine (KJ1.out w3 _ NB.out.2).mono ?_
    rintro e w4 ⟨rfl, g4⟩
    go_wp2_with fail
    go_ret
    exact ⟨rfl, (G2.out.trans NB.out.1).trans g4⟩
  · have E : Hid (S (jn 32 [wEra, spanL off, ru.toList, fm.toList]) = S (eraL ⟨off, ru, sv, fm, un⟩)) := by unfold Hid eraL; rw [if_neg hn]
    have KJ1 := Lib.hid (fun W b h => KJ.out ru W b hr h)
    rw [E.out] at KJ1
    generalize S (eraL ⟨off, ru, sv, fm, un⟩) = R at KJ1 ⊢
    have n1 : ¬ ru = ⟨#[]⟩ := fun e => hn (by rw [e]; exact lit0)
    have n2 : (ru.toList == []) = false := by simpa using hn
    clear E hn KJ K2 SZ
    go_enter Tryz.func25, Tryz.ntmps25
    go_wp2_with fail
    generalize w.alloc (.cells #[.int .i64 off, .string ru, .int .i64 sv, .string fm, .int .i64 un] 44) = w0 at B0 ⊢
    generalize w.heap.size = q at B0 ⊢
    refine (K1.out w0 (B0.out.1.pow HP.out)).mono ?_
    rintro e w1 ⟨rfl, g1⟩
    have G1 := Lib.hid (B0.out.1.trans g1)
    have H1 := Lib.hid (bheap_gr g1 B0.out.2)
    clear g1 B0 K1
    have y1 : w1.cell? ⟨q, 1, none⟩ = some (.string ru) := bcell_row H1.out rfl
    have y3 : w1.cell? ⟨q, 3, none⟩ = some (.string fm) := bcell_row H1.out rfl
    have NB := Lib.hid (box_one w1 (.cells #[.string ⟨#[101, 114, 97]⟩, .string (S (spanL off)), .string ru, .string fm] 9))
    go_wp2_with fail
    generalize w1.alloc (.cells #[.string ⟨#[101, 114, 97]⟩, .string (S (spanL off)), .string ru, .string fm] 9) = w3 at NB ⊢
    clear y1 y3 n1 n2
    refine (KJ1.out w3 _ NB.out.2).mono ?_
    rintro e w4 ⟨rfl, g4⟩
    go_wp2_with fail
    go_ret
    exact ⟨rfl, (G1.out.trans NB.out.1).trans g4⟩
end Go.Proofs.YtmemgpmijphkmaaGreatDoor
