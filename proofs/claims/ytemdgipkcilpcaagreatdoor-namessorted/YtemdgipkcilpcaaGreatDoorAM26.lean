/- What the reference's Names returns for a book that may be. What a zone's own name and a link's names lead tto. No function of the program in it. A list of texts as an argument, laid open. -/
import Derived.Test.YtemdgipkcilpcaaGreatDoorAM25
import Derived.Test.YtemdgipkcilpcaaGreatDoorAM17
import Derived.Test.YtemdgipkcilpcaaGreatDoorAM15
import Derived.Test.YtemdgipkcilpcaaGreatDoorAM22
namespace Go.Proofs.YtemdgipkcilpcaaGreatDoor
set_option linter.unusedVariables false
set_option linter.unusedSimpArgs false
open Go.RowKit
/-- a list of names in memory is left -/
def NamE (l : List (List UInt8)) (w : World) (e : Ending) (w' : World) : Prop := ∃ A c, e = .returned (.slice A l.length c) ∧ Row w' 1 nmC A l ∧ l.length ≤ c ∧ c ≤ maxLen ∧ Gr w w'
theorem OutAt.gr {w w' : World} {q : Nat} {L : List (List UInt8)} (h : OutAt w q L) (g : Gr w w') : OutAt w' q L := by
  obtain ⟨A, c, h1, h2, h3⟩ := h
  exact ⟨A, c, bheap_gr g h1, h2.gr g, h3⟩
/-- the names of links that lead tto zones -/
def linG (zs : List ZonD) (ls : List LinD) (l : List LinD) : List (List UInt8) := (l.map (fun x => x.nm.toList)).filter fun x => decide (endN zs ls x < zs.length)
theorem linG_take {zs : List ZonD} {ls l : List LinD} {k : Nat} {x : LinD} (h : l[k]? = some x) : linG zs ls (l.take (k + 1)) = linG zs ls (l.take k) ++ (if endN zs ls x.nm.toList < zs.length then [x.nm.toList] else []) := by
  unfold linG
  rw [take_map h, List.filter_append]
  congr 1
  by_cases e : endN zs ls x.nm.toList < zs.length <;> simp [e]

set_option maxRecDepth 100000 in
set_option maxHeartbeats 8000000 in
theorem rnames0 (b : BokD) (w : World) (hb : b.At w) (h0 : bokC b.rs b.zs b.ls = 0)
    (hc : ∀ W, Gr w W → Calls Tryz.prog 11 #[bookV b] W fun e W' => e = .returned (.int .i64 (bokC b.rs b.zs b.ls)) ∧ Gr W W') :
    Calls Tryz.prog 13 #[bookV b] w (NamE (allN b.zs b.ls) w) := by
  have KR := Lib.hid (fun (nm : ByteArray) W (g : Gr w W) => rresolve0 b nm W (hb.gr g) (fun W' g' => hc W' (g.trans g')))
  obtain ⟨Ar, cr, rs, Az, cz, zs, Al, cl, ls⟩ := b
  have HZ : Hid (Row w 2 ZonD.cells Az zs) := hb.2.1.2.1
  have HL : Hid (Row w 2 LinD.cells Al ls) := hb.2.2.2.1
  simp only at KR h0
  have GD := Lib.hid (good_of h0)
  have H0 := Lib.hid h0
  have hzl : zs.length ≤ 20 := GD.out.z20
  have hll : ls.length ≤ 20 := GD.out.l20
  have KP := Lib.hid (fun (nm : ByteArray) q L w ho hl hs => rput nm q L w ho hl hs)
  have B0 := Lib.hid (box_two w (.cells #[.slice Ar rs.length cr, .slice Az zs.length cz, .slice Al ls.length cl] 26) (.cells #[.slice none 0 0] 35))
  clear hb hc h0
  show Calls _ _ _ _ (NamE (allN zs ls) w)
  go_enter Tryz.func13, Tryz.ntmps13
  go_wp2_with fail
  generalize (w.alloc (.cells #[.slice Ar rs.length cr, .slice Az zs.length cz, .slice Al ls.length cl] 26)).alloc (.cells #[.slice none 0 0] 35) = w1 at B0 ⊢
  generalize hq : w.heap.size = q at B0 ⊢
  have HQE := Lib.hid (Nat.le_of_eq hq)
  have HQ1 : Hid (∀ j, some (q + 1) = some j → w.heap.size ≤ j) := fun j hj => by injection hj with hj; omega
  clear hq
  have x1 : w1.cell? ⟨q, 1, none⟩ = some (.slice Az zs.length cz) := bcell_row B0.out.2.1 rfl
  have O0 : Hid (OutAt w1 (q + 1) []) := ⟨none, 0, B0.out.2.2, Row.nil _ _ _ _, Nat.le_refl _, by unfold maxLen; omega, Or.inl ⟨rfl, rfl⟩⟩
  have G1 := Lib.hid B0.out.1
  have HB1 := Lib.hid B0.out.2.1
  clear B0
  go_wp2_with fail
  clear x1
  go_loopw [15] (fun i W => ∃ (k : Nat) (L : List (List UInt8)), k ≤ zs.length ∧ i = .int .i64 k ∧ Hid (OutAt W (q + 1) L) ∧ Hid (L.Pairwise (fun a b => leN a b = true)) ∧ Hid (L.Perm ((zs.take k).map fun z => z.nm.toList)) ∧ Hid (Gr w W) ∧ Hid (W.heap[q]? = some (.cells #[.slice Ar rs.length cr, .slice Az zs.length cz, .slice Al ls.length cl] 26 (0, 0)))) (fun i W => zs.length - (intOf i).toNat)
  case atStart => exact ⟨0, [], Nat.zero_le _, rfl, O0, List.Pairwise.nil, (by unfold Hid; simp), G1, HB1⟩
  case round =>
    obtain ⟨k, L, hk, rfl, ho, hs, hp, hg, hbk⟩ := hrel
    by_cases hlt : k < zs.length
    · obtain ⟨⟨znm, zA, zc, ze⟩, hz⟩ := get_lt hlt
      obtain ⟨bz, off, rfl, c0, c1⟩ := HZ.out.two hz rfl hg.out
      have TM := Lib.hid (take_map (f := fun z : ZonD => z.nm.toList) hz)
      have LL : Hid (L.length ≤ 1000) := by have := hp.out.length_eq; rw [List.length_map, List.length_take] at this; unfold Hid; omega
      clear hz
      have ZB := Lib.hid (box_one wr (.cells #[.string znm, .slice zA ze.length zc] 29))
      have NE : Hid (¬ q + 1 = wr.heap.size) := by obtain ⟨_, _, h1, _⟩ := ho.out; have := (Array.getElem?_eq_some_iff.1 h1).1; unfold Hid; omega
      go_wp2_with fail
      generalize wr.alloc (.cells #[.string znm, .slice zA ze.length zc] 29) = w2 at ZB ⊢
      refine (KP.out znm (q + 1) L w2 (ho.out.gr ZB.out.1) LL.out hs.out).mono ?_
      rintro e w3 ⟨rfl, L', o', s', p', g'⟩
      have O3 := Lib.hid o'
      have S3 := Lib.hid s'
      have P3 : Hid (L'.Perm ((zs.take (k + 1)).map fun z => z.nm.toList)) := by unfold Hid; rw [TM.out]; exact p'.trans ((List.Perm.cons _ hp.out).trans (List.perm_append_singleton _ _).symm)
      have G3 := Lib.hid (grown_gr (hg.out.trans ZB.out.1) g' HQ1.out)
      have HB3 := Lib.hid (gb_heap (bheap_gr ZB.out.1 hbk.out) g' (by omega))
      clear o' s' p' g' ZB c0 c1
      go_wp2_with fail
      go_roundw
      case rel => exact ⟨k + 1, L', by omega, by go_num, O3, S3, P3, G3, HB3⟩
      case measure => simp [intOf]; omega
    · have e : k = zs.length := by omega
      have P0 : Hid (L.Perm (zs.map (fun z => z.nm.toList) ++ linG zs ls (ls.take 0))) := by unfold Hid; have := hp.out; rw [e, List.take_length] at this; simpa [linG] using this
      clear hp e hk
      have x2 : wr.cell? ⟨q, 2, none⟩ = some (.slice Al ls.length cl) := bcell_row hbk.out rfl
      go_wp2_with fail
      clear x2
      go_loopw [27] (fun i W => ∃ (j : Nat) (L : List (List UInt8)), j ≤ ls.length ∧ i = .int .i64 j ∧ Hid (OutAt W (q + 1) L) ∧ Hid (L.Pairwise (fun a b => leN a b = true)) ∧ Hid (L.Perm (zs.map (fun z => z.nm.toList) ++ linG zs ls (ls.take j))) ∧ Hid (Gr w W) ∧ Hid (W.heap[q]? = some (.cells #[.slice Ar rs.length cr, .slice Az zs.length cz, .slice Al ls.length cl] 26 (0, 0)))) (fun i W => ls.length - (intOf i).toNat)
      case atStart => exact ⟨0, L, Nat.zero_le _, rfl, ho, hs, P0, hg, hbk⟩
      case round =>
        clear ho hs P0 hg hbk hlt
        obtain ⟨j, L, hj, rfl, ho, hs, hp, hg, hbk⟩ := hrel
        by_cases hlt : j < ls.length
        · obtain ⟨⟨xnm, xt⟩, hx⟩ := get_lt hlt
          obtain ⟨bz, off, rfl, c0, c1⟩ := HL.out.two hx rfl hg.out
          have TM := Lib.hid (linG_take (zs := zs) (ls := ls) hx)
          have HM := Lib.hid (mem_link (zs := zs) hx)
          have LL : Hid (L.length ≤ 1000) := by
            have a := hp.out.length_eq
            have b : (linG zs ls (ls.take j)).length ≤ (ls.take j).length := Nat.le_trans (List.length_filter_le _ _) (by simp)
            rw [List.length_append, List.length_map] at a
            rw [List.length_take] at b
            unfold Hid; omega
          clear hx
          have ZB := Lib.hid (box_one wr (.cells #[.string xnm, .string xt] 48))
          have x0 : (wr.alloc (.cells #[.string xnm, .string xt] 48)).cell? ⟨q, 0, none⟩ = some (.slice Ar rs.length cr) := bcell_row (bheap_gr ZB.out.1 hbk.out) rfl
          have x1 : (wr.alloc (.cells #[.string xnm, .string xt] 48)).cell? ⟨q, 1, none⟩ = some (.slice Az zs.length cz) := bcell_row (bheap_gr ZB.out.1 hbk.out) rfl
          have x2 : (wr.alloc (.cells #[.string xnm, .string xt] 48)).cell? ⟨q, 2, none⟩ = some (.slice (some ⟨bz, off, none⟩) ls.length cl) := bcell_row (bheap_gr ZB.out.1 hbk.out) rfl
          have NE : Hid (¬ wr.heap.size = q + 1) := by obtain ⟨_, _, h1, _⟩ := ho.out; have := (Array.getElem?_eq_some_iff.1 h1).1; unfold Hid; omega
          go_wp2_with fail
          clear x0 x1 x2 c0 c1
          generalize wr.alloc (.cells #[.string xnm, .string xt] 48) = w2 at ZB ⊢
          generalize wr.heap.size = q2 at ZB NE ⊢
          refine (KR.out xnm w2 (hg.out.trans ZB.out.1)).mono ?_
          rintro e w3 ⟨⟨znm, zA, zc, ze⟩, rfl, _, g3, _, _⟩
          have ZB2 := Lib.hid (box_one w3 (.cells #[.string znm, .slice zA ze.length zc] 29))
          have y0 : (w3.alloc (.cells #[.string znm, .slice zA ze.length zc] 29)).cell? ⟨q2, 0, none⟩ = some (.string xnm) := bcell_row (bheap_gr ZB2.out.1 (bheap_gr g3 ZB.out.2)) rfl
          have G4 := Lib.hid (((hg.out.trans ZB.out.1).trans g3).trans ZB2.out.1)
          have O4 := Lib.hid (ho.out.gr ((ZB.out.1.trans g3).trans ZB2.out.1))
          have HB4 := Lib.hid (bheap_gr ((ZB.out.1.trans g3).trans ZB2.out.1) hbk.out)
          clear ho hg hbk g3 ZB ZB2
          by_cases he : endN zs ls xnm.toList < zs.length
          · have e1 : resC rs zs ls xnm = 0 := resC_ok H0.out HM.out he
            have TM2 := Lib.hid TM.out
            rw [if_pos he] at TM2
            rw [e1]
            clear e1 he TM
            go_wp2_with fail
            generalize w3.alloc (.cells #[.string znm, .slice zA ze.length zc] 29) = w4 at G4 O4 HB4 y0 ⊢
            refine (KP.out xnm (q + 1) L w4 O4.out LL.out hs.out).mono ?_
            rintro e w5 ⟨rfl, L', o', s', p', g'⟩
            have O3 := Lib.hid o'
            have S3 := Lib.hid s'
            have P3 : Hid (L'.Perm (zs.map (fun z => z.nm.toList) ++ linG zs ls (ls.take (j + 1)))) := by unfold Hid; rw [TM2.out, ← List.append_assoc]; exact p'.trans ((List.Perm.cons _ hp.out).trans (List.perm_append_singleton _ _).symm)
            have G3 := Lib.hid (grown_gr G4.out g' HQ1.out)
            have HB3 := Lib.hid (gb_heap HB4.out g' (by omega))
            clear o' s' p' g' y0
            go_wp2_with fail
            go_roundw
            case rel => exact ⟨j + 1, L', by omega, by go_num, O3, S3, P3, G3, HB3⟩
            case measure => simp [intOf]; omega
          · have e1 : resC rs zs ls xnm = 8 := resC_loop H0.out HM.out he
            have TM2 := Lib.hid TM.out
            rw [if_neg he, List.append_nil] at TM2
            rw [e1]
            clear e1 he TM y0
            go_wp2_with fail
            go_roundw
            case rel => exact ⟨j + 1, L, by omega, by go_num, O4, hs, (by unfold Hid; rw [TM2.out]; exact hp.out), G4, HB4⟩
            case measure => simp [intOf]; omega
        · have e : j = ls.length := by omega
          have PG : Hid (L.Perm (goods zs ls)) := by unfold Hid; have := hp.out; rw [e, List.take_length] at this; rw [goods_eq GD.out]; exact this
          clear hp e hj
          obtain ⟨A, c, hqa, hra, hlc, hcm, _⟩ := ho.out
          have EQ := Lib.hid (allN_of PG.out hs.out)
          have RA := Lib.hid hra
          have z0 : wr.cell? ⟨q + 1, 0, none⟩ = some (.slice A L.length c) := bcell_row hqa rfl
          clear hqa hra ho
          go_wp2_with fail
          go_ret
          exact ⟨A, c, by rw [← EQ.out]; rfl, by rw [← EQ.out]; exact RA.out, by rw [← EQ.out]; exact hlc, hcm, hg.out⟩
end Go.Proofs.YtemdgipkcilpcaaGreatDoor
namespace Go.Proofs.YtemdgipkcilpcaaGreatDoor
set_option linter.unusedVariables false
set_option linter.unusedSimpArgs false
open Go.RowKit
section
variable {rs : List RuD} {zs : List ZonD} {ls : List LinD}
/-- who is at no zone after as many links as there are comes tto none -/
theorem over (g : GoodB zs ls) {p : Nat} (hp : p < zs.length + ls.length) (h : ¬ ends zs ls ls.length p < zs.length) (n : Nat) : zs.length ≤ ends zs ls n p := by
  have hS : ∀ i, i < ls.length + 1 → zs.length ≤ ends zs ls i p := fun i hi => by
    rcases Nat.lt_or_ge (ends zs ls i p) zs.length with c | c
    · exact absurd (by rw [path_end c (show i ≤ ls.length by omega)]; exact c) h
    · exact c
  by_cases d : ∃ i k, i < k ∧ k < ls.length + 1 ∧ ends zs ls i p = ends zs ls k p
  · obtain ⟨i, k, hik, hk, e⟩ := d
    exact path_loop (j := k) (fun m hm => hS m (by omega)) ⟨i, hik, e⟩ n
  · have := path_few g hp (j := ls.length + 1) hS (fun i k hik hk e => d ⟨i, k, hik, hk, e⟩)
    omega
theorem end_zone (g : GoodB zs ls) {i : Nat} {z : ZonD} (hz : zs[i]? = some z) : endN zs ls z.nm.toList = i := by
  unfold endN
  rw [idx_zone g hz, ends_zone (List.getElem?_eq_some_iff.1 hz).1]
end
end Go.Proofs.YtemdgipkcilpcaaGreatDoor
namespace Go.Proofs.YtemdgipkcilpcaaGreatDoor
open Go.ChangeShapes Go.WideShapes Go.ChangeAt Go.RowKit Go.Deep
set_option linter.unusedVariables false
set_option linter.unusedSimpArgs false
/-- a list of texts and where it lies -/
structure StrD where
  A : Option Addr
  c : Nat
  l : List (List UInt8)
def StrD.At (w : World) (s : StrD) : Prop := SlOk s.l.length s.c ∧ Row w 1 nmC s.A s.l ∧ ∀ x ∈ s.l, x.length ≤ maxLen
section
variable {H : Type} {enc : TypeId × Value → H} {W : World} {base : Nat} {sp : Nat → Bool} {held : Bool}
theorem str_elem (m : Nat) (cs : List Value) (y : DataW H × List MemPlace) (h : DataW.trod enc Tryz.prog W base sp held m 9 cs = some y) : ∃ x : List UInt8, cs = nmC x ∧ x.length ≤ maxLen := by
  obtain ⟨s, hs, _, hz⟩ := DataW.trod_string Tryz.underlying9 h
  refine ⟨s.toList, ?_, by rw [len_toList]; exact hz⟩
  rw [hs]
  show [Value.string s] = [.string (S s.toList)]
  rw [← S_of s]

set_option maxRecDepth 100000 in
theorem open_strs {r : Reach} {b0 : Nat} {v : Value} {dd : DataW H} {ps : List MemPlace} (hval : Value.okWide Tryz.prog W r b0 35 v) (hd : DataW.Trod enc Tryz.prog W base sp held 35 v dd ps) :
    ∃ s : StrD, v = .slice s.A s.l.length s.c ∧ s.At W := by
  obtain ⟨a, n, c, rfl⟩ := okWide_slice Tryz.underlying35 hval
  obtain ⟨fuel, hf⟩ := hd
  obtain ⟨A, c', l, hv, hs, hr, hp⟩ := open_rows (p := fun x : List UInt8 => x.length ≤ maxLen) Tryz.underlying35 cellsStr (by omega) str_elem hf
  exact ⟨⟨A, c', l⟩, hv, hs, hr, hp⟩
end
theorem strs_reads : Tryz.prog.readableRec 35 = true ∧ decide (35 < Tryz.prog.types.size) = true := by constructor <;> kernel_rfl
end Go.Proofs.YtemdgipkcilpcaaGreatDoor
