/- What the project's All of package names returns. -/
import Derived.Sort.OwnSorted
import Derived.Sort.KeysCollected
import Derived.Test.YtemdgipkcilpcaaGreatDoorAM31
import Derived.Test.YtemdgipkcilpcaaGreatDoorAM19
namespace Go.Proofs.YtemdgipkcilpcaaGreatDoor
set_option linter.unusedVariables false
set_option linter.unusedSimpArgs false
open Go.RowKit
/-- what All tells of a book -/
def namA (rs : List RuD) (zs : List ZonD) (ls : List LinD) : List (List UInt8) := if bokC rs zs ls = 0 then allN zs ls else []
theorem namA_ok {rs : List RuD} {zs : List ZonD} {ls : List LinD} (h : bokC rs zs ls = 0) : namA rs zs ls = allN zs ls := if_pos h
theorem namA_no {rs : List RuD} {zs : List ZonD} {ls : List LinD} (h : bokC rs zs ls ≠ 0) : namA rs zs ls = [] := if_neg h
def AllE (rs : List RuD) (zs : List ZonD) (ls : List LinD) (w : World) (e : Ending) (w' : World) : Prop :=
  ∃ A c, e = .returned (.tuple #[.slice A (namA rs zs ls).length c, .int .i64 (bokC rs zs ls)]) ∧ Row w' 1 nmC A (namA rs zs ls) ∧ (namA rs zs ls).length ≤ c ∧ c ≤ maxLen ∧ Gr w w'
/-- the names met so far that lead tto zones -/
def CollG (zs : List ZonD) (ls : List LinD) (D : DataW Unit) (left : Lit → Bool) (ss : List (List UInt8)) : Prop :=
  ss.Nodup ∧ ∀ x, x ∈ ss ↔ (Maps.has D (.string x) = true ∧ left (.string x) = false ∧ endN zs ls x < zs.length)
section
variable {zs : List ZonD} {ls : List LinD} {D : DataW Unit} {left : Lit → Bool} {ss : List (List UInt8)}
theorem CollG.start (D : DataW Unit) : CollG zs ls D (Maps.has D) [] := ⟨List.nodup_nil, fun x => by cases Maps.has D (.string x) <;> simp⟩
theorem CollG.yes (h : CollG zs ls D left ss) {x : List UInt8} (hlk : left (.string x) = true) (hh : Maps.has D (.string x) = true) (hg : endN zs ls x < zs.length) : CollG zs ls D (fun z => left z && !z.sameKey (.string x)) (ss ++ [x]) := by
  have hnew : x ∉ ss := fun hx => by have := ((h.2 x).1 hx).2.1; rw [hlk] at this; cases this
  refine ⟨List.nodup_append.2 ⟨h.1, by simp, fun a ha b hb => by simp at hb; subst hb; exact fun e => hnew (e ▸ ha)⟩, fun y => ?_⟩
  by_cases hy : y = x
  · subst hy; simp [hh, hg, Lit.sameKey]
  · simp [h.2 y, hy, Lit.sameKey]
theorem CollG.no (h : CollG zs ls D left ss) {x : List UInt8} (hg : ¬ endN zs ls x < zs.length) : CollG zs ls D (fun z => left z && !z.sameKey (.string x)) ss := by
  refine ⟨h.1, fun y => ?_⟩
  by_cases hy : y = x
  · subst hy; simp [h.2 y, hg]
  · simp [h.2 y, hy, Lit.sameKey]
theorem CollG.perm (h : CollG zs ls D left ss) (g : GoodB zs ls) (hp : Places D (nms zs ls)) (hl : ∀ kl, left kl = false) : ss.Perm (goods zs ls) := by
  refine (List.perm_ext_iff_of_nodup h.1 (goods_nodup g)).2 fun x => ?_
  rw [h.2 x, hl, mem_goods]
  constructor
  · rintro ⟨a, _, b⟩
    refine ⟨?_, b⟩
    by_cases c : x ∈ nms zs ls
    · exact c
    · rw [hp.2.2 x c] at a; cases a
  · rintro ⟨a, b⟩
    exact ⟨(hp.2.1 _ _ (idx_get a)).1, rfl, b⟩
end
theorem flat_names (l : List (List UInt8)) : l.flatMap nmC = l.map encStr := by
  induction l with
  | nil => rfl
  | cons y l ih => rw [List.flatMap_cons, ih]; rfl

theorem pfollowI (b : BokD) (m p : Nat) (c : Int) (w : World) (hb : b.At w) (g : GoodB b.zs b.ls) (hm : MapAt w m (nms b.zs b.ls)) (hp : p < b.zs.length + b.ls.length) (hc : c = p) :
    Calls Tryz.prog 19 #[bookV b, .map (some m), .int .i64 c] w (FolE b.zs.length (ends b.zs b.ls b.ls.length p) w) := by subst hc; exact pfollow b m p w hb g hm hp

set_option maxRecDepth 100000 in
set_option maxHeartbeats 8000000 in
theorem pall0 (b : BokD) (w : World) (hb : b.At w)
    (hc : ∀ W, Gr w W → Calls Tryz.prog 17 #[bookV b] W fun e W' => e = .returned (.int .i64 (bokC b.rs b.zs b.ls)) ∧ Gr W W') :
    Calls Tryz.prog 10 #[bookV b] w (AllE b.rs b.zs b.ls w) := by
  have K := Lib.hid hc
  have KP := Lib.hid (fun W (g : Gr w W) h => ppositions b W (hb.gr g) h)
  have KF := Lib.hid (fun m p (c : Int) W (g : Gr w W) h h1 h2 hc => pfollowI b m p c W (hb.gr g) h h1 h2 hc)
  have KS := Lib.hid (fun s W hs => clone_str s W hs)
  have KN := Lib.hid (fun p cap w => Tryz.slices_Sort_string_none p cap w)
  have KT := Lib.hid (fun blk cap (ss : List (List UInt8)) w hH hb hs => Tryz.slices_Sort_string blk 0 cap ss w hH hb hs)
  obtain ⟨Ar, cr, rs, Az, cz, zs, Al, cl, ls⟩ := b
  simp only at K KP KF
  have GB : Hid (bokC rs zs ls = 0 → GoodB zs ls) := good_of
  have NS : Hid (bokC rs zs ls = 0 → ∀ x ∈ nms zs ls, x.length ≤ 1048576) := nms_small
  obtain ⟨i0, hi, hz0, hz1, hz2⟩ := info_parts infoStr
  have I1 := Lib.hid hi
  have I2 := Lib.hid hz0
  have I3 := Lib.hid hz1
  have I4 := Lib.hid hz2
  have B0 := Lib.hid (box_one w (.cells #[.slice Ar rs.length cr, .slice Az zs.length cz, .slice Al ls.length cl] 26))
  clear hb hc hi hz0 hz1 hz2
  show Calls _ _ _ _ (AllE rs zs ls w)
  go_enter Tryz.func10, Tryz.ntmps10
  go_wp2_with fail
  generalize w.alloc (.cells #[.slice Ar rs.length cr, .slice Az zs.length cz, .slice Al ls.length cl] 26) = w1 at B0 ⊢
  generalize w.heap.size = q at B0 ⊢
  have x0 : w1.cell? ⟨q, 0, none⟩ = some (.slice Ar rs.length cr) := bcell_row B0.out.2 rfl
  have x1 : w1.cell? ⟨q, 1, none⟩ = some (.slice Az zs.length cz) := bcell_row B0.out.2 rfl
  have x2 : w1.cell? ⟨q, 2, none⟩ = some (.slice Al ls.length cl) := bcell_row B0.out.2 rfl
  go_wp2_with fail
  clear x0 x1 x2
  refine (K.out w1 B0.out.1).mono ?_
  rintro e w2 ⟨rfl, g2⟩
  have G2 := Lib.hid (B0.out.1.trans g2)
  have HB2 := Lib.hid (bheap_gr g2 B0.out.2)
  clear B0 K g2
  by_cases h0 : bokC rs zs ls = 0
  case neg =>
    have E := Lib.hid (namA_no h0)
    have H0 := Lib.hid h0
    have t0 := bneT h0
    obtain ⟨cc, ec⟩ : ∃ cc, bokC rs zs ls = cc := ⟨_, rfl⟩
    have EC := Lib.hid ec
    rw [ec] at t0 ⊢
    clear h0 ec
    go_wp2_with fail
    go_ret2
    exact ⟨none, 0, by rw [E.out, EC.out]; rfl, by rw [E.out]; exact Row.nil _ _ _ _, by rw [E.out]; exact Nat.le_refl _, by unfold maxLen; omega, G2.out⟩
  case pos =>
    have H0 := Lib.hid h0
    have EA := Lib.hid (namA_ok h0)
    have GD := Lib.hid (GB.out h0)
    have NSM := Lib.hid (NS.out h0)
    rw [h0]
    clear GB NS h0
    have x0 : w2.cell? ⟨q, 0, none⟩ = some (.slice Ar rs.length cr) := bcell_row HB2.out rfl
    have x1 : w2.cell? ⟨q, 1, none⟩ = some (.slice Az zs.length cz) := bcell_row HB2.out rfl
    have x2 : w2.cell? ⟨q, 2, none⟩ = some (.slice Al ls.length cl) := bcell_row HB2.out rfl
    go_wp2_with fail
    clear x0 x1 x2
    refine (KP.out w2 G2.out GD.out).mono ?_
    rintro e w3 ⟨m, rfl, _, hm, g3⟩
    have HM := Lib.hid hm
    obtain ⟨n, D, hn, how, hpl⟩ := hm
    have OW := Lib.hid how
    have PL := Lib.hid hpl
    have SZ : Hid (Maps.size D ≤ 1000) := Nat.le_trans how.size_le hn
    have G3 := Lib.hid (G2.out.trans g3)
    have HB3 := Lib.hid (bheap_gr g3 HB2.out)
    have HN := Lib.hid hn
    have ML : Hid (m < w3.heap.size) := how.lt
    clear KP how hpl g3 HB2 G2 hn
    go_wp2_with (first | (at_range; refine wpList_range_own _ (by rfl) _ 50 (by rfl) 9 3 law9 Tryz.underlying50 (plainElem Tryz.prog 3) m n D (by rfl) OW.out ?_; intro w0 hrg0 hg0 hs0) | go_in)
    go_frame
    obtain ⟨r, er⟩ : ∃ r, w3.heap.size = r := ⟨_, rfl⟩
    rw [er] at hrg0 hs0 ⊢
    have HR0 := Lib.hid hrg0
    have G0 := Lib.hid (gr_of_none hg0)
    have ER := Lib.hid er
    clear hrg0 hg0 hs0 OW er
    go_loopw [6] (fun v W => ∃ (left : Lit → Bool) (cnt : Nat) (ss : List (List UInt8)), Hid (W.ranges Tryz.prog 9 (plainElem Tryz.prog 3) m r n D left cnt) ∧ Hid (ss.length + cnt ≤ 1000) ∧ Hid (Own W r 9 1 nmC v ss) ∧ Hid (CollG zs ls D left ss) ∧ Hid (Gr w3 W))
      (fun v W => W.rangeLeft m r)
    case atStart => exact ⟨_, _, [], HR0, (by have := SZ.out; unfold Hid; simpa using this), Own.nil_ _ _ _ _ _, CollG.start D, G0⟩
    case round =>
      obtain ⟨left, cnt, ss, hrg, hcn, ho, hco, hg⟩ := hrel
      have GR := Lib.hid (G3.out.trans hg.out)
      go_wp2_with (first | (at_next; refine wpList_next_ranges _ (by rfl) _ (by rfl) 9 law9 (plainElem Tryz.prog 3) encStr (Value.int .i64) (fun key kl hk => by obtain ⟨x, hx, _⟩ := Maps.keyOf_str Tryz.underlying9 hk; exact ⟨x, hx⟩) (fun v y hv => by obtain ⟨c, rfl, _⟩ := plainElem_int_inv Tryz.underlying3 hv; exact ⟨c, rfl⟩) m r n D left cnt (by rfl) hrg.out ?_ ?_) | go_in)
      · intro _ hl0
        have EM : Hid (allN zs ls = ss.mergeSort leN) := (mergeSort_of_perm (hco.out.perm GD.out PL.out hl0)).symm
        have WR : Hid (w.heap.size ≤ r) := by have := Below.size G3.out; rw [ER.out] at this; exact this
        clear hl0 hco hrg
        rcases ho.out.2 with ⟨rfl, h0⟩ | ⟨g, cap, cur, rfl, hbase, hbk, h1, h2, h3, h4⟩
        · have es : ss = [] := List.eq_nil_of_length_eq_zero h0
          subst es
          have EN : Hid (namA rs zs ls = []) := by unfold Hid; rw [EA.out, EM.out, List.mergeSort_nil]
          go_wp2_with fail
          refine (KN.out none 0 wr).mono ?_
          rintro e w' ⟨rfl, rfl⟩
          go_wp2_with fail
          go_ret2
          exact ⟨none, 0, by rw [EN.out, H0.out]; rfl, by rw [EN.out]; exact Row.nil _ _ _ _, by rw [EN.out]; exact Nat.le_refl _, by unfold maxLen; omega, GR.out⟩
        · have hgl : g < wr.heap.size := (Array.getElem?_eq_some_iff.1 hbk).1
          have hH : Sort.Holds encStr wr g 0 ss.toArray := holds_of_block hbk (by simpa [flat_names] using h4)
          have EN : Hid (namA rs zs ls = ss.mergeSort leN) := by unfold Hid; rw [EA.out, EM.out]
          have LN : Hid ((namA rs zs ls).length = ss.length) := by unfold Hid; rw [EN.out, List.length_mergeSort]
          have SO := Lib.hid (fun nn os => ownsRow_sorted (n := nn) (os := os) (ts := ss.mergeSort leN) (by simp) hbase hbk h1 h2 h3)
          have H1 := Lib.hid h1
          have H2 := Lib.hid h2
          have HBA : Hid (w.heap.size ≤ g) := Nat.le_trans WR.out hbase
          have KTT := KT.out g cap ss wr hH hgl (by have := hcn.out; omega)
          clear hbase hbk h1 h2 h3 h4 hH hgl ho
          go_wp2_with fail
          refine KTT.mono ?_
          rintro e w' ⟨rfl, nn, os, rfl⟩
          have GF := Lib.hid (grown_gr GR.out (grownBy_sorted (w := wr) (g := g) (n := nn) (os := os) (ss.mergeSort leN).toArray) (fun j hj => by injection hj with hj; rw [← hj]; exact HBA.out))
          have RF : Hid (Row _ 1 nmC (some ⟨g, 0, none⟩) (ss.mergeSort leN)) := Own.row (c := cap) (n := ss.length) nm_len (own_flat (SO.out nn os) (by simp) (flat_names _).symm)
          clear KTT SO
          go_wp2_with fail
          go_ret2
          exact ⟨some ⟨g, 0, none⟩, cap, by rw [LN.out, H0.out]; rfl, by rw [EN.out]; exact RF.out, by rw [LN.out]; exact H1.out, H2.out, GF.out⟩
      · intro x c kl yd yp w4 cnt4 hkey hlk hv hat hrg4 hlt hg4 hs4 hen
        obtain ⟨x', ex, rfl, _⟩ := Maps.keyOf_str Tryz.underlying9 hkey
        obtain rfl : x = x' := encStr_inj ex
        obtain ⟨c', ec, ey, _⟩ := plainElem_int_inv Tryz.underlying3 hv
        injection ec with _ ec
        subst ec
        have HH := Lib.hid (Maps.has_true_of_atKey hat)
        have XIN : Hid (x ∈ nms zs ls) := by
          by_cases q : x ∈ nms zs ls
          · exact q
          · have := PL.out.2.2 x q; rw [HH.out] at this; cases this
        have EC : Hid (c = (((nms zs ls).idxOf x : Nat) : Int)) := by
          have q : (DataW.lit (Lit.int .i64 c) : DataW Unit) = .lit (.int .i64 (((nms zs ls).idxOf x : Nat) : Int)) := (congrArg Prod.fst ey).symm.trans ((hat (.lit (.int .i64 0))).symm.trans ((PL.out.2.1 _ _ (idx_get XIN.out)).2 (.lit (.int .i64 0))))
          injection q with q
          injection q
        have LK := Lib.hid hlk
        have HRG4 := Lib.hid hrg4
        have HLT := Lib.hid hlt
        have RN : Hid (∀ j, some r = some j → w3.heap.size ≤ j) := fun j hj => by injection hj with hj; rw [← hj, ER.out]; exact Nat.le_refl _
        have G34 := Lib.hid (grown_gr hg.out hg4 RN.out)
        have HM4 : Hid (MapAt w4 m (nms zs ls)) := ⟨n, D, HN.out, hrg4.owns, PL.out⟩
        have HO4 : Hid (Own w4 r 9 1 nmC u6 ss) := World.ownsRow.kept ho.out hg4 (Or.inr (row_ne_iter ho.out hrg.out).symm)
        have HB4 := Lib.hid (bheap_gr G34.out HB3.out)
        have x0 : w4.cell? ⟨q, 0, none⟩ = some (.slice Ar rs.length cr) := bcell_row HB4.out rfl
        have x1 : w4.cell? ⟨q, 1, none⟩ = some (.slice Az zs.length cz) := bcell_row HB4.out rfl
        have x2 : w4.cell? ⟨q, 2, none⟩ = some (.slice Al ls.length cl) := bcell_row HB4.out rfl
        clear hkey hlk hv hat hrg4 hlt hg4 hs4 ex ey
        go_wp2_with fail
        clear x0 x1 x2 hen
        refine (KF.out m _ c w4 (G3.out.trans G34.out) GD.out HM4.out (by rw [← nms_len]; exact idx_lt XIN.out) EC.out).mono ?_
        rintro e w5 ⟨rfl, g5⟩
        have HRG5 := Lib.hid (HRG4.out.kept (gr_none g5) (by simp) (by simp))
        have HO5 := Lib.hid (HO4.out.gr g5)
        have G35 := Lib.hid (G34.out.trans g5)
        clear g5 HRG4 HO4 HM4 HB4 G34
        obtain ⟨p, ep⟩ : ∃ p, ends zs ls ls.length ((nms zs ls).idxOf x) = p := ⟨_, rfl⟩
        have EP : Hid (endN zs ls x = p) := ep
        rw [ep]
        clear ep
        by_cases hp : p < zs.length
        · have GOOD : Hid (endN zs ls x < zs.length) := by unfold Hid; rw [EP.out]; exact hp
          rw [if_pos hp, decide_eq_true hp]
          clear hp
          go_wp2_with fail
          refine (KS.out (S x) w5 (by rw [S_size]; exact NSM.out x XIN.out)).mono ?_
          rintro e w6 ⟨rfl, g6⟩
          have B1 := Lib.hid (box_one w6 (.cells #[.string (S x)] 9))
          have HRG6 := Lib.hid ((HRG5.out.kept (gr_none g6) (by simp) (by simp)).kept (gr_none B1.out.1) (by simp) (by simp))
          have OW6 : Hid (Own (w6.alloc (.cells #[.string (S x)] 9)) r 9 1 nmC u6 ss) := HO5.out.gr (g6.trans B1.out.1)
          have G36 := Lib.hid (G35.out.trans (g6.trans B1.out.1))
          have NB : Hid ((w6.alloc (.cells #[.string (S x)] 9)).heap[w6.heap.size]? = some (.cells #[.string (S x)] 9)) := B1.out.2
          have RS : Hid (r ≤ (w6.alloc (.cells #[.string (S x)] 9)).heap.size) := by have := Below.size G36.out; rw [ER.out] at this; exact this
          have NL : Hid (some m ≠ u6.ownBlock) := row_ne_low OW6.out (by rw [← ER.out]; exact ML.out)
          have NR : Hid (some r ≠ u6.ownBlock) := row_ne_iter OW6.out HRG6.out
          have HOB : Hid (∀ j, u6.ownBlock = some j → w3.heap.size ≤ j) := fun j hj => by rw [ER.out]; exact own_base OW6.out j hj
          clear g6 B1 HRG5 HO5 G35
          go_wp2_with (at_builtin; refine wpList_append_lies _ (by rfl) _ _ 35 (by rfl) r 9 i0 (.string .empty) 1 16 Tryz.underlying35 I1.out I2.out I3.out I4.out (by rfl) (by omega) u6 ss.length (ss.flatMap nmC) (by rfl) OW6.out ⟨w6.heap.size, 0, none⟩ 1 1 (nmC x) (by rfl) (by rfl) (World.news_of_block NB.out) (nm_one _) (by omega) (by have := hcn.out; unfold maxLen; omega) (by have := hcn.out; omega) RS.out (w6.heap.size + 1) (by simp) ?_; intro g cap w7 hown hgrow hat7 hlt7)
          have HRG7 := Lib.hid (HRG6.out.kept hgrow NL.out NR.out)
          have G37 := Lib.hid (grown_gr G36.out hgrow HOB.out)
          go_roundw
          case rel => exact ⟨_, cnt4, ss ++ [x], HRG7, (by have := hcn.out; have := HLT.out; unfold Hid; simp; omega), own_more rfl hown, hco.out.yes LK.out HH.out GOOD.out, G37⟩
          case measure => rw [HRG7.out.left_eq, hrg.out.left_eq]; exact HLT.out
        · have BAD : Hid (¬ endN zs ls x < zs.length) := by unfold Hid; rw [EP.out]; exact hp
          rw [if_neg hp, decide_eq_false hp]
          clear hp
          go_wp2_with fail
          go_roundw
          case rel => exact ⟨_, cnt4, ss, HRG5, (by have := hcn.out; have := HLT.out; unfold Hid; omega), HO5, hco.out.no BAD.out, G35⟩
          case measure => rw [HRG5.out.left_eq, hrg.out.left_eq]; exact HLT.out
end Go.Proofs.YtemdgipkcilpcaaGreatDoor
