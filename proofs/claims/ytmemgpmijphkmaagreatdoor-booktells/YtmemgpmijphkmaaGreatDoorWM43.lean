/- What the reference's BookText returns. -/
import Derived.Test.YtmemgpmijphkmaaGreatDoorWM41
import Derived.Test.YtmemgpmijphkmaaGreatDoorWM42
import Derived.Test.YtmemgpmijphkmaaGreatDoorWM13
import Derived.Test.YtmemgpmijphkmaaGreatDoorWM19
namespace Go.Proofs.YtmemgpmijphkmaaGreatDoor
set_option linter.unusedVariables false
set_option linter.unusedSimpArgs false
open Go.RowKit
theorem rstamp_any (t : Int) (w : World) (t1 : -9223372036854775808 ≤ t) (t2 : t ≤ 9223372036854775807) :
    Calls Tryz.prog 31 #[.int .i64 t] w fun e w' => e = strInt (S (stampT t)) (tmC t) ∧ Gr w w' := by
  unfold tmC
  cases hb : tmB t with
  | true =>
    obtain ⟨y, m, d, r, hv, h1, h2, e, el⟩ := stampT_of hb
    rw [el]
    exact rstamp_yes t y m d r w hv h1 h2 e
  | false =>
    rw [stampT_no hb]
    refine (rstamp_no t w t1 t2 (fun g => by rw [tmB_days.2 g] at hb; cases hb)).mono ?_
    rintro e w' ⟨rfl, rfl⟩
    exact ⟨rfl, Gr.refl _⟩
/-- a line put behind the lines of a book under way -/
theorem Tch.mono {B B' p : Nat} {a w : World} (h : Tch B' p a w) (hB : B ≤ B') : Tch B p a w := ⟨h.os, h.tape, h.output, h.size, fun i hi hp => h.block i (Nat.lt_of_lt_of_le hi hB) hp⟩
theorem take_flat_len' {α : Type} (f : α → List (List UInt8)) (l : List α) (k : Nat) : ((l.take k).flatMap f).length ≤ (l.flatMap f).length := by
  have : l.flatMap f = (l.take k).flatMap f ++ (l.drop k).flatMap f := by rw [← List.flatMap_append, List.take_append_drop]
  rw [this, List.length_append]; omega
theorem rlineJ (L : List (List UInt8)) (x : List UInt8) (b : Nat) (W : World) (hL : LinesOk (L ++ [x])) (hl : L.length ≤ 20000) (hb : W.heap[b]? = some (.cells #[.string (S (jn 10 L))] 9 (0, 0))) :
    Calls Tryz.prog 28 #[.string (S x), .pointer (some ⟨b, 0, none⟩)] W fun e w' => e = .returned (.tuple #[]) ∧ w'.heap[b]? = some (.cells #[.string (S (jn 10 (L ++ [x])))] 9 (0, 0)) ∧ Tch W.heap.size b W w' := by
  have h1 := hL.left.jlen 10 hl
  have h2 := (hL x (by simp)).1
  have := rline (jn 10 L) x b W (by omega) (by omega) hb
  unfold LineA at this
  rw [lineL_jn hL.left] at this
  exact this
theorem LinesOk.sub {L L' : List (List UInt8)} (h : LinesOk L) (hs : ∀ x ∈ L', x ∈ L) : LinesOk L' := fun x hx => h x (hs x hx)
theorem take_sub {α : Type} {l : List α} {k : Nat} : ∀ x ∈ l.take k, x ∈ l := fun x hx => List.mem_of_mem_take hx
theorem eraLs_len {l : List EraD} (h : 1 ≤ l.length) : (eraLs l).length = l.length := by
  rcases List.eq_nil_or_concat l with rfl | ⟨a, b, rfl⟩
  · simp at h
  · rw [List.concat_eq_append, eraLs_snoc]; simp
theorem eraLs_at {l : List EraD} {j : Nat} {e : EraD} (h : l[j]? = some e) : (eraLs l)[j]? = some (if j + 1 < l.length then eraLn e else eraL e) := by
  rcases List.eq_nil_or_concat l with rfl | ⟨a, b, rfl⟩
  · simp at h
  · rw [List.concat_eq_append] at h ⊢
    rw [eraLs_snoc]
    by_cases c : j < a.length
    · rw [List.getElem?_append_left c] at h
      rw [List.getElem?_append_left (by simpa using c), List.getElem?_map, h, if_pos (by simp; omega)]; rfl
    · rw [List.getElem?_append_right (by omega)] at h
      have e0 : j - a.length = 0 := by have := (List.getElem?_eq_some_iff.1 h).1; simp at this; omega
      rw [e0] at h
      have eb : b = e := by simpa using h
      subst eb
      rw [List.getElem?_append_right (by simp; omega), List.length_map, e0, if_neg (by simp; omega)]; rfl
theorem take_at {α : Type} {l : List α} {j : Nat} {x : α} (h : l[j]? = some x) : l.take (j + 1) = l.take j ++ [x] := by
  have hk : j < l.length := (List.getElem?_eq_some_iff.1 h).1
  have e : l[j] = x := (List.getElem?_eq_some_iff.1 h).2
  rw [List.take_succ_eq_append_getElem hk, e]
set_option maxRecDepth 100000 in
set_option maxHeartbeats 20000000 in
theorem rbookText (b : BokD) (w : World) (hb : b.At w) (hm : HasMax w) :
    Calls Tryz.prog 11 #[bookV b] w fun e w' => e = bokTA b.rs b.zs b.ls ∧ Gr w w' := by
  have KC0 := fun W (g : Gr w W) => rbookCheck b W (hb.gr g) (g.max hm)
  obtain ⟨Ar, cr, rs, Az, cz, zs, Al, cl, ls⟩ := b
  have HR : Hid (Row w 11 RuD.cells Ar rs) := hb.1.2.1
  have HI : Hid (∀ r ∈ rs, r.In) := hb.1.2.2
  have HZ : Hid (Row w 2 ZonD.cells Az zs) := hb.2.1.2.1
  have HZA : Hid (∀ z ∈ zs, z.At w) := hb.2.1.2.2
  have HL : Hid (Row w 2 LinD.cells Al ls) := hb.2.2.2.1
  have B0 := Lib.hid (box_one w (.cells #[.slice Ar rs.length cr, .slice Az zs.length cz, .slice Al ls.length cl] 26))
  simp only at KC0
  show Calls _ _ _ _ fun e w' => e = bokTA rs zs ls ∧ Gr w w'
  clear hb hm
  by_cases hC : bokC rs zs ls = 0
  case neg =>
    have E := Lib.hid (bokTA_no hC)
    have t0 := bneT hC
    generalize bokC rs zs ls = C at KC0 E t0
    have KC := Lib.hid KC0
    clear KC0 hC
    go_enter Tryz.func11, Tryz.ntmps11
    go_wp2_with fail
    generalize w.alloc (.cells #[.slice Ar rs.length cr, .slice Az zs.length cz, .slice Al ls.length cl] 26) = w1 at B0 ⊢
    refine (KC.out w1 B0.out.1).mono ?_
    rintro e w2 ⟨rfl, g2⟩
    go_wp2_with fail
    go_ret2
    exact ⟨E.out.symm, B0.out.1.trans g2⟩
  rw [hC] at KC0
  have KC := Lib.hid KC0
  clear KC0
  have E := Lib.hid (bokTA_yes hC)
  have LB : Hid (rs.length ≤ 40 ∧ zs.length ≤ 20 ∧ ls.length ≤ 20) := bokC_le hC
  have LZ : Hid ((zs.flatMap zonL).length ≤ 14020) := zos_len hC
  have OR := Lib.hid (ok_rule hC)
  have OZ := Lib.hid (ok_zone hC)
  have OL := Lib.hid (ok_link hC)
  have OK := Lib.hid (bokL_ok hC)
  have OLN := Lib.hid (bokL_len hC)
  obtain ⟨lb1, lb2, lb3⟩ := bokC_le hC
  clear hC
  go_enter Tryz.func11, Tryz.ntmps11
  go_wp2_with fail
  generalize w.alloc (.cells #[.slice Ar rs.length cr, .slice Az zs.length cz, .slice Al ls.length cl] 26) = w1 at B0 ⊢
  generalize w.heap.size = q at B0 ⊢
  refine (KC.out w1 B0.out.1).mono ?_
  rintro e w2 ⟨rfl, g2⟩
  have G2 := Lib.hid (B0.out.1.trans g2)
  have HB := Lib.hid (bheap_gr g2 B0.out.2)
  clear B0 g2 KC
  have BS := Lib.hid (box_one w2 (.cells #[.string ⟨#[]⟩] 9))
  have x0 : (w2.alloc (.cells #[.string ⟨#[]⟩] 9)).cell? ⟨q, 0, none⟩ = some (.slice Ar rs.length cr) := bcell_row (bheap_gr BS.out.1 HB.out) rfl
  go_wp2_with fail
  clear x0
  have SBL : Hid (w2.heap.size < (w2.alloc (.cells #[.string ⟨#[]⟩] 9)).heap.size) := (Array.getElem?_eq_some_iff.1 BS.out.2).1
  have HB1 := Lib.hid (bheap_gr BS.out.1 HB.out)
  have QLT : Hid (q < w2.heap.size) := (Array.getElem?_eq_some_iff.1 HB.out).1
  generalize w2.alloc (.cells #[.string ⟨#[]⟩] 9) = w3 at BS HB1 SBL ⊢
  generalize hsb : w2.heap.size = sb at BS SBL QLT ⊢
  have HSB := Lib.hid hsb
  clear hsb
  go_loopw [32] (fun i W => ∃ k : Nat, k ≤ rs.length ∧ i = .int .i64 k ∧ Hid (W.heap[sb]? = some (.cells #[.string (S (jn 10 ((rs.take k).map RuD.text)))] 9 (0, 0))) ∧ Hid (Tch w3.heap.size sb w3 W)) (fun i W => rs.length - (intOf i).toNat)
  case atStart => exact ⟨0, Nat.zero_le _, rfl, BS.out.2, Tch.refl _ _ _⟩
  case round =>
    obtain ⟨k, hk, rfl, hs, htc⟩ := hrel
    have GR : Hid (Gr w wr) := G2.out.trans (htc.out.below BS.out.1 (by rw [HSB.out]; exact Nat.le_refl _) (by rw [HSB.out]; have := SBL.out; omega))
    by_cases hlt : k < rs.length
    · obtain ⟨r, hx⟩ := get_lt hlt
      have RT := Lib.hid (map_take RuD.text hx)
      have hin := HI.out _ (get_mem hx)
      have hr0 := OR.out _ (get_mem hx)
      have KL : Hid (∀ W, W.heap[sb]? = some (.cells #[.string (S (jn 10 ((rs.take k).map RuD.text)))] 9 (0, 0)) → Calls Tryz.prog 28 #[.string (S r.text), .pointer (some ⟨sb, 0, none⟩)] W fun e w' => e = .returned (.tuple #[]) ∧ w'.heap[sb]? = some (.cells #[.string (S (jn 10 ((rs.take k).map RuD.text ++ [r.text])))] 9 (0, 0)) ∧ Tch W.heap.size sb W w') := fun W h =>
        rlineJ _ _ sb W (by
          rw [← RT.out]
          intro x hx
          obtain ⟨r', hr', rfl⟩ := List.mem_map.1 hx
          exact ⟨bruleL_len (OR.out r' (take_sub _ hr')), ruleL_ne _ _ _ _ _ _ _ _ _ _ _⟩) (by rw [List.length_map, List.length_take]; omega) h
      obtain ⟨nm, fr, tt, mo, zk, d, n, at', by', sv, lt⟩ := r
      have KT0 := fun W => rruleText nm fr tt mo zk d n at' by' sv lt W hin.1 hin.2
      rw [show ruleTextA nm.toList lt.toList fr tt mo zk d n at' by' sv = strInt (S (RuD.text ⟨nm, fr, tt, mo, zk, d, n, at', by', sv, lt⟩)) 0 from if_pos (show ruleC nm.toList lt.toList fr tt mo zk d n at' by' sv = 0 from hr0)] at KT0
      have KT := Lib.hid KT0
      obtain ⟨b, off, rfl, c0, c1, c2, c3, c4, c5, c6, c7, c8, c9, c10⟩ := HR.out.eleven hx rfl GR.out
      have HNB := Lib.hid (box_one wr (.cells #[.string nm, .int .i64 fr, .int .i64 tt, .int .i64 mo, .int .i64 zk, .int .i64 d, .int .i64 n, .int .i64 at', .int .i64 by', .int .i64 sv, .string lt] 56))
      generalize RuD.text ⟨nm, fr, tt, mo, zk, d, n, at', by', sv, lt⟩ = x at RT KT KL
      generalize (rs.take k).map RuD.text = L at hs RT KL
      clear hx hin hr0 KT0 HI OR OZ OL OK
      go_wp2_with fail
      generalize wr.alloc (.cells #[.string nm, .int .i64 fr, .int .i64 tt, .int .i64 mo, .int .i64 zk, .int .i64 d, .int .i64 n, .int .i64 at', .int .i64 by', .int .i64 sv, .string lt] 56) = w4 at HNB ⊢
      clear c0 c1 c2 c3 c4 c5 c6 c7 c8 c9 c10
      refine (KT.out w4).mono ?_
      rintro e w5 ⟨rfl, g5⟩
      have G5 := Lib.hid (HNB.out.1.trans g5)
      clear KT HNB g5
      go_wp2_with fail
      refine (KL.out w5 (bheap_gr G5.out hs.out)).mono ?_
      rintro e w6 ⟨rfl, hs6, tc6⟩
      have TC6 : Hid (Tch w3.heap.size sb w3 w6) := (htc.out.gr G5.out htc.out.size).trans (tc6.mono (Nat.le_trans htc.out.size (Below.size G5.out)))
      clear KL G5 htc tc6
      go_wp2_with fail
      go_roundw
      case rel => exact ⟨k + 1, by omega, by go_num, by unfold Hid; rw [RT.out]; exact hs6, TC6⟩
      case measure => simp [intOf]; omega
    · have e : k = rs.length := by omega
      have HS1 : Hid (wr.heap[sb]? = some (.cells #[.string (S (jn 10 (rs.map RuD.text)))] 9 (0, 0))) := by have := hs.out; rw [e, List.take_length] at this; exact this
      have TC1 := Lib.hid htc.out
      have HB2 : Hid (wr.heap[q]? = _) := (htc.out.block q (by have := QLT.out; have := SBL.out; omega) (by have := QLT.out; omega)).trans HB1.out
      have LR : Hid ((rs.map RuD.text).length ≤ 40) := by unfold Hid; rw [List.length_map]; omega
      have EB : Hid (bokL rs zs ls = rs.map RuD.text ++ zs.flatMap zonL ++ ls.map linL) := rfl
      clear e hs htc HI OR GR
      generalize rs.map RuD.text = R at HS1 LR EB
      generalize wr = wa at HS1 TC1 HB2 ⊢
      have x1 : wa.cell? ⟨q, 1, none⟩ = some (.slice Az zs.length cz) := bcell_row HB2.out rfl
      go_wp2_with fail
      clear x1 hlt hk
      go_loopw [48] (fun i W => ∃ k : Nat, k ≤ zs.length ∧ i = .int .i64 k ∧ Hid (W.heap[sb]? = some (.cells #[.string (S (jn 10 (R ++ (zs.take k).flatMap zonL)))] 9 (0, 0))) ∧ Hid (Tch w3.heap.size sb w3 W)) (fun i W => zs.length - (intOf i).toNat)
      case atStart => exact ⟨0, Nat.zero_le _, rfl, by simpa using HS1, TC1⟩
      case round =>
        obtain ⟨k, hk, rfl, hs, htc⟩ := hrel
        have GR : Hid (Gr w wr) := G2.out.trans (htc.out.below BS.out.1 (by rw [HSB.out]; exact Nat.le_refl _) (by rw [HSB.out]; have := SBL.out; omega))
        by_cases hlt : k < zs.length
        · obtain ⟨z, hx⟩ := get_lt hlt
          have RT := Lib.hid (flatMap_take zonL hx)
          have hza := HZA.out _ (get_mem hx)
          obtain ⟨z1, z2, z3, z4, z5⟩ := OZ.out _ (get_mem hx)
          have LP : Hid ((R ++ (zs.take k).flatMap zonL).length ≤ 14060) := by
            have a := take_flat_len' zonL zs k
            have b := LZ.out
            have c := LR.out
            unfold Hid; rw [List.length_append]; omega
          have SUB : Hid (LinesOk (R ++ (zs.take (k + 1)).flatMap zonL)) := OK.out.sub (fun x hx => by
            rw [EB.out]
            refine List.mem_append_left _ ?_
            rcases List.mem_append.1 hx with hx | hx
            · exact List.mem_append_left _ hx
            · obtain ⟨z, hz, hx⟩ := List.mem_flatMap.1 hx
              exact List.mem_append_right _ (List.mem_flatMap.2 ⟨z, take_sub z hz, hx⟩))
          obtain ⟨nm, zA, zc, ze⟩ := z
          obtain ⟨nl, rfl⟩ : ∃ nl, nm = S nl := ⟨nm.toList, S_of nm⟩
          have HER : Hid (Row w 5 EraD.cells zA ze) := hza.2.2.1
          have HEI : Hid (∀ e ∈ ze, e.In) := hza.2.2.2
          simp only at z1 z2 z3 z4 z5
          have Z4 := Lib.hid z4
          have Z5 := Lib.hid z5
          rw [S_size] at z1
          have ZT : Hid (zonL ⟨S nl, zA, zc, ze⟩ = jn 32 [wZone, nl] :: eraLs ze) := by unfold Hid zonL; simp only [S_toList]
          have EL := Lib.hid (eraLs_len z2)
          have KL : Hid (∀ z, z = jn 32 [wZone, nl] → ∀ W, W.heap[sb]? = some (.cells #[.string (S (jn 10 (R ++ (zs.take k).flatMap zonL)))] 9 (0, 0)) → Calls Tryz.prog 28 #[.string (S z), .pointer (some ⟨sb, 0, none⟩)] W fun e w' => e = .returned (.tuple #[]) ∧ w'.heap[sb]? = some (.cells #[.string (S (jn 10 (R ++ (zs.take k).flatMap zonL ++ [jn 32 [wZone, nl]])))] 9 (0, 0)) ∧ Tch W.heap.size sb W w') := fun z hz W h => by
            subst hz
            exact rlineJ _ _ sb W (SUB.out.sub (fun x hx => by rw [RT.out, ZT.out]; simp only [List.mem_append, List.mem_cons, List.not_mem_nil, or_false] at hx ⊢; rcases hx with (a | a) | a <;> simp [a])) (by have := LP.out; omega) h
          obtain ⟨b, off, rfl, c0, c1⟩ := HZ.out.two hx rfl GR.out
          have HNB := Lib.hid (box_one wr (.cells #[.string (S nl), .slice zA ze.length zc] 47))
          generalize hx0 : jn 32 [wZone, nl] = x0 at ZT KL
          have HX0 := Lib.hid hx0.symm
          clear hx0
          have SUB2 : Hid (LinesOk (R ++ (zs.take k).flatMap zonL ++ [x0] ++ eraLs ze)) := by have := SUB.out; rw [RT.out, ZT.out] at this; unfold Hid; simpa using this
          generalize (zs.take k).flatMap zonL = Q at hs RT LP KL SUB2
          generalize hP : R ++ Q = P at hs LP KL SUB2
          have HP := Lib.hid hP
          have s1 : ¬ 9223372036854775807 < 5 + nl.length := by omega
          clear hP hx hza z1 z4 z5 OZ OL OK HZA LB SUB
          go_wp2_with fail
          generalize wr.alloc (.cells #[.string (S nl), .slice zA ze.length zc] 47) = w5 at HNB ⊢
          generalize wr.heap.size = q3 at HNB ⊢
          clear c0 c1
          have y0 : w5.cell? ⟨q3, 0, none⟩ = some (.string (S nl)) := bcell_row HNB.out.2 rfl
          go_wp2_with fail
          clear y0
          refine (KL.out _ ?_ w5 (bheap_gr HNB.out.1 hs.out)).mono ?_
          · rw [HX0.out]; rfl
          rintro e w4 ⟨rfl, hs4, tc4⟩
          have NQ : Hid (q3 ≠ sb) := fun e => by
            have a := HNB.out.2
            have b := bheap_gr HNB.out.1 hs.out
            rw [e, b] at a
            cases a
          have HZ4 : Hid (w4.heap[q3]? = some (.cells #[.string (S nl), .slice zA ze.length zc] 47 (0, 0))) := (tc4.block q3 (Array.getElem?_eq_some_iff.1 HNB.out.2).1 NQ.out).trans HNB.out.2
          have TC4 : Hid (Tch w3.heap.size sb w3 w4) := (htc.out.gr HNB.out.1 htc.out.size).trans (tc4.mono (Nat.le_trans htc.out.size (Below.size HNB.out.1)))
          have HS4 := Lib.hid hs4
          have LQ : Hid (q3 < w4.heap.size) := (Array.getElem?_eq_some_iff.1 HZ4.out).1
          clear KL HNB tc4 htc hs hs4 s1 GR
          have y1 : w4.cell? ⟨q3, 1, none⟩ = some (.slice zA ze.length zc) := bcell_row HZ4.out rfl
          go_wp2_with fail
          clear y1
          go_loopw [60] (fun i W => ∃ j : Nat, j ≤ ze.length ∧ i = .int .i64 j ∧ Hid (W.heap[sb]? = some (.cells #[.string (S (jn 10 (P ++ [x0] ++ (eraLs ze).take j)))] 9 (0, 0))) ∧ Hid (W.heap[q3]? = some (.cells #[.string (S nl), .slice zA ze.length zc] 47 (0, 0))) ∧ Hid (Tch w4.heap.size sb w4 W)) (fun i W => ze.length - (intOf i).toNat)
          case atStart => exact ⟨0, Nat.zero_le _, rfl, by simpa using HS4, HZ4, Tch.refl _ _ _⟩
          case round =>
            obtain ⟨j, hj, rfl, hs, hz, htc⟩ := hrel
            have TCW : Hid (Tch w3.heap.size sb w3 wr) := TC4.out.trans (htc.out.mono TC4.out.size)
            have GT : Hid (Gr w wr) := G2.out.trans (TCW.out.below BS.out.1 (by rw [HSB.out]; exact Nat.le_refl _) (by rw [HSB.out]; have := SBL.out; omega))
            by_cases hlj : j < ze.length
            · obtain ⟨e, hx⟩ := get_lt hlj
              have RTE := Lib.hid (take_at (eraLs_at hx))
              have hei := HEI.out _ (get_mem hx)
              have heo := Z4.out _ (get_mem hx)
              have htm := Z5.out j _ hx
              have KL : Hid (∀ y, y = (if j + 1 < ze.length then eraLn e else eraL e) → ∀ W, W.heap[sb]? = some (.cells #[.string (S (jn 10 (P ++ [x0] ++ (eraLs ze).take j)))] 9 (0, 0)) → Calls Tryz.prog 28 #[.string (S y), .pointer (some ⟨sb, 0, none⟩)] W fun e' w' => e' = .returned (.tuple #[]) ∧ w'.heap[sb]? = some (.cells #[.string (S (jn 10 (P ++ [x0] ++ (eraLs ze).take j ++ [if j + 1 < ze.length then eraLn e else eraL e])))] 9 (0, 0)) ∧ Tch W.heap.size sb W w') := fun y hy W h => by
                subst hy
                refine rlineJ _ _ sb W ?_ ?_ h
                · rw [List.append_assoc, ← RTE.out]
                  exact SUB2.out.sub (fun x hx => by
                    rcases List.mem_append.1 hx with hx | hx
                    · exact List.mem_append_left _ hx
                    · exact List.mem_append_right _ (take_sub x hx))
                · have := LP.out
                  have := EL.out
                  rw [List.length_append, List.length_append, List.length_take]; simp; omega
              obtain ⟨off0, ru, sv, fm, un⟩ := e
              obtain ⟨rl, rfl⟩ : ∃ rl, ru = S rl := ⟨ru.toList, S_of ru⟩
              obtain ⟨fl, rfl⟩ : ∃ fl, fm = S fl := ⟨fm.toList, S_of fm⟩
              have hrl := heo.ru
              have hfl := heo.fm
              have o1 := heo.o1
              have o2 := heo.o2
              have v1 := heo.s1
              have v2 := heo.s2
              simp only [S_size] at hrl hfl o1 o2 v1 v2
              have L1 := spanL_len (n := off0) (by omega) (by omega)
              have L2 := spanL_len (n := sv) (by omega) (by omega)
              have L3 := stampT_len un
              have KS := Lib.hid (fun W => rspan_yes off0 W (by omega) (by omega))
              have KV := Lib.hid (fun W => rspan_yes sv W (by omega) (by omega))
              have ELE : Hid (eraL ⟨off0, S rl, sv, S fl, un⟩ = jn 32 [wEra, spanL off0, if rl = [] then 45 :: spanL sv else rl, fl]) := by unfold Hid eraL; simp only [S_toList]
              have ELN : Hid (eraLn ⟨off0, S rl, sv, S fl, un⟩ = jn 32 [jn 32 [wEra, spanL off0, if rl = [] then 45 :: spanL sv else rl, fl], stampT un]) := by unfold Hid eraLn; rw [ELE.out]
              obtain ⟨ab, ao, eA, c0, c1, c2, c3, c4⟩ := HER.out.five hx rfl GT.out
              subst eA
              have HNB := Lib.hid (box_one wr (.cells #[.int .i64 off0, .string (S rl), .int .i64 sv, .string (S fl), .int .i64 un] 44))
              have a1 : ¬ 9223372036854775807 < 4 + (spanL off0).length := by omega
              generalize hLL : P ++ [x0] ++ (eraLs ze).take j = LL at hs KL
              have HLL := Lib.hid hLL
              have hun := hei.2.2
              clear hLL hx heo hei Z5 Z4 HEI
              by_cases hn : rl = []
              · subst hn
                by_cases hl : j + 1 < ze.length
                · have EY : Hid ((if j + 1 < ze.length then eraLn ⟨off0, S [], sv, S fl, un⟩ else eraL ⟨off0, S [], sv, S fl, un⟩) = wEra ++ 32 :: (spanL off0 ++ 32 :: (45 :: spanL sv ++ 32 :: (fl ++ 32 :: stampT un)))) := by unfold Hid; rw [if_pos hl, ELN.out]; simp [jn, wEra]
                  generalize (if j + 1 < ze.length then eraLn ⟨off0, S [], sv, S fl, un⟩ else eraL ⟨off0, S [], sv, S fl, un⟩) = Y at KL EY RTE
                  have KT0 := fun W => rstamp_any un W hun.1 hun.2
                  rw [show tmC un = 0 by unfold tmC; rw [if_pos (htm hl)]] at KT0
                  have KT := Lib.hid KT0
                  have t1 : (j : Int) < (ze.length : Int) - 1 := by omega
                  clear KT0 htm
                  go_wp2_with fail
                  generalize wr.alloc (.cells #[.int .i64 off0, .string (S []), .int .i64 sv, .string (S fl), .int .i64 un] 44) = w7 at HNB ⊢
                  generalize wr.heap.size = q7 at HNB ⊢
                  clear c0 c1 c2 c3 c4
                  have x0 : w7.cell? ⟨q7, 0, none⟩ = some (.int .i64 off0) := bcell_row HNB.out.2 rfl
                  go_wp2_with fail
                  clear x0
                  refine (KS.out w7).mono ?_
                  rintro e w8 ⟨rfl, g8⟩
                  have G8 := Lib.hid (HNB.out.1.trans g8)
                  have D8 := Lib.hid (bheap_gr g8 HNB.out.2)
                  have Z8 := Lib.hid (bheap_gr G8.out hz.out)
                  clear HNB g8
                  have x1 : w8.cell? ⟨q7, 1, none⟩ = some (.string (S [])) := bcell_row D8.out rfl
                  have x2 : w8.cell? ⟨q7, 2, none⟩ = some (.int .i64 sv) := bcell_row D8.out rfl
                  have x3 : w8.cell? ⟨q7, 3, none⟩ = some (.string (S fl)) := bcell_row D8.out rfl
                  have z1 : w8.cell? ⟨q3, 1, none⟩ = some (.slice (some ⟨ab, ao, none⟩) ze.length zc) := bcell_row Z8.out rfl
                  have x4 : w8.cell? ⟨q7, 4, none⟩ = some (.int .i64 un) := bcell_row D8.out rfl
                  go_wp2_with fail
                  clear x1 x2 x3 z1 x4
                  refine (KV.out w8).mono ?_
                  rintro e w9 ⟨rfl, g9⟩
                  have G9 := Lib.hid (G8.out.trans g9)
                  have D9 := Lib.hid (bheap_gr g9 D8.out)
                  have Z9 := Lib.hid (bheap_gr g9 Z8.out)
                  have x3 : w9.cell? ⟨q7, 3, none⟩ = some (.string (S fl)) := bcell_row D9.out rfl
                  have z1 : w9.cell? ⟨q3, 1, none⟩ = some (.slice (some ⟨ab, ao, none⟩) ze.length zc) := bcell_row Z9.out rfl
                  have x4 : w9.cell? ⟨q7, 4, none⟩ = some (.int .i64 un) := bcell_row D9.out rfl
                  go_wp2_with fail
                  clear x3 z1 x4
                  refine (KT.out w9).mono ?_
                  rintro e wT ⟨rfl, gT⟩
                  have GT2 := Lib.hid (G9.out.trans gT)
                  go_wp2_with fail
                  refine (KL.out _ ?_ wT (bheap_gr GT2.out hs.out)).mono ?_
                  · simp [EY.out, wEra]
                  rintro e wL ⟨rfl, hsL, tcL⟩
                  have TCL : Hid (Tch w4.heap.size sb w4 wL) := (htc.out.gr GT2.out htc.out.size).trans (tcL.mono (Nat.le_trans htc.out.size (Below.size GT2.out)))
                  have ZL : Hid (wL.heap[q3]? = some (.cells #[.string (S nl), .slice (some ⟨ab, ao, none⟩) ze.length zc] 47 (0, 0))) := (TCL.out.block q3 LQ.out NQ.out).trans HZ4.out
                  go_wp2_with fail
                  go_roundw
                  case rel => exact ⟨j + 1, by omega, by go_num, by unfold Hid; rw [RTE.out, ← List.append_assoc, HLL.out]; exact hsL, ZL, TCL⟩
                  case measure => simp [intOf]; omega
                · have EY : Hid ((if j + 1 < ze.length then eraLn ⟨off0, S [], sv, S fl, un⟩ else eraL ⟨off0, S [], sv, S fl, un⟩) = wEra ++ 32 :: (spanL off0 ++ 32 :: (45 :: spanL sv ++ 32 :: fl))) := by unfold Hid; rw [if_neg hl, ELE.out]; simp [jn, wEra]
                  generalize (if j + 1 < ze.length then eraLn ⟨off0, S [], sv, S fl, un⟩ else eraL ⟨off0, S [], sv, S fl, un⟩) = Y at KL EY RTE
                  have t1 : ¬ (j : Int) < (ze.length : Int) - 1 := by omega
                  clear htm
                  go_wp2_with fail
                  generalize wr.alloc (.cells #[.int .i64 off0, .string (S []), .int .i64 sv, .string (S fl), .int .i64 un] 44) = w7 at HNB ⊢
                  generalize wr.heap.size = q7 at HNB ⊢
                  clear c0 c1 c2 c3 c4
                  have x0 : w7.cell? ⟨q7, 0, none⟩ = some (.int .i64 off0) := bcell_row HNB.out.2 rfl
                  go_wp2_with fail
                  clear x0
                  refine (KS.out w7).mono ?_
                  rintro e w8 ⟨rfl, g8⟩
                  have G8 := Lib.hid (HNB.out.1.trans g8)
                  have D8 := Lib.hid (bheap_gr g8 HNB.out.2)
                  have Z8 := Lib.hid (bheap_gr G8.out hz.out)
                  clear HNB g8
                  have x1 : w8.cell? ⟨q7, 1, none⟩ = some (.string (S [])) := bcell_row D8.out rfl
                  have x2 : w8.cell? ⟨q7, 2, none⟩ = some (.int .i64 sv) := bcell_row D8.out rfl
                  have x3 : w8.cell? ⟨q7, 3, none⟩ = some (.string (S fl)) := bcell_row D8.out rfl
                  have z1 : w8.cell? ⟨q3, 1, none⟩ = some (.slice (some ⟨ab, ao, none⟩) ze.length zc) := bcell_row Z8.out rfl
                  go_wp2_with fail
                  clear x1 x2 x3 z1
                  refine (KV.out w8).mono ?_
                  rintro e w9 ⟨rfl, g9⟩
                  have G9 := Lib.hid (G8.out.trans g9)
                  have D9 := Lib.hid (bheap_gr g9 D8.out)
                  have Z9 := Lib.hid (bheap_gr g9 Z8.out)
                  have x3 : w9.cell? ⟨q7, 3, none⟩ = some (.string (S fl)) := bcell_row D9.out rfl
                  have z1 : w9.cell? ⟨q3, 1, none⟩ = some (.slice (some ⟨ab, ao, none⟩) ze.length zc) := bcell_row Z9.out rfl
                  go_wp2_with fail
                  clear x3 z1
                  refine (KL.out _ ?_ w9 (bheap_gr G9.out hs.out)).mono ?_
                  · simp [EY.out, wEra]
                  rintro e wL ⟨rfl, hsL, tcL⟩
                  have TCL : Hid (Tch w4.heap.size sb w4 wL) := (htc.out.gr G9.out htc.out.size).trans (tcL.mono (Nat.le_trans htc.out.size (Below.size G9.out)))
                  have ZL : Hid (wL.heap[q3]? = some (.cells #[.string (S nl), .slice (some ⟨ab, ao, none⟩) ze.length zc] 47 (0, 0))) := (TCL.out.block q3 LQ.out NQ.out).trans HZ4.out
                  go_wp2_with fail
                  go_roundw
                  case rel => exact ⟨j + 1, by omega, by go_num, by unfold Hid; rw [RTE.out, ← List.append_assoc, HLL.out]; exact hsL, ZL, TCL⟩
                  case measure => simp [intOf]; omega
              · have n2 : (rl == []) = false := by simpa using hn
                by_cases hl : j + 1 < ze.length
                · have EY : Hid ((if j + 1 < ze.length then eraLn ⟨off0, S rl, sv, S fl, un⟩ else eraL ⟨off0, S rl, sv, S fl, un⟩) = wEra ++ 32 :: (spanL off0 ++ 32 :: (rl ++ 32 :: (fl ++ 32 :: stampT un)))) := by unfold Hid; rw [if_pos hl, ELN.out, if_neg hn]; simp [jn, wEra]
                  generalize (if j + 1 < ze.length then eraLn ⟨off0, S rl, sv, S fl, un⟩ else eraL ⟨off0, S rl, sv, S fl, un⟩) = Y at KL EY RTE
                  have KT0 := fun W => rstamp_any un W hun.1 hun.2
                  rw [show tmC un = 0 by unfold tmC; rw [if_pos (htm hl)]] at KT0
                  have KT := Lib.hid KT0
                  have t1 : (j : Int) < (ze.length : Int) - 1 := by omega
                  clear KT0 htm hn
                  go_wp2_with fail
                  generalize wr.alloc (.cells #[.int .i64 off0, .string (S rl), .int .i64 sv, .string (S fl), .int .i64 un] 44) = w7 at HNB ⊢
                  generalize wr.heap.size = q7 at HNB ⊢
                  clear c0 c1 c2 c3 c4
                  have x0 : w7.cell? ⟨q7, 0, none⟩ = some (.int .i64 off0) := bcell_row HNB.out.2 rfl
                  go_wp2_with fail
                  clear x0
                  refine (KS.out w7).mono ?_
                  rintro e w8 ⟨rfl, g8⟩
                  have G8 := Lib.hid (HNB.out.1.trans g8)
                  have D8 := Lib.hid (bheap_gr g8 HNB.out.2)
                  have Z8 := Lib.hid (bheap_gr G8.out hz.out)
                  clear HNB g8
                  have x1 : w8.cell? ⟨q7, 1, none⟩ = some (.string (S rl)) := bcell_row D8.out rfl
                  have x2 : w8.cell? ⟨q7, 2, none⟩ = some (.int .i64 sv) := bcell_row D8.out rfl
                  have x3 : w8.cell? ⟨q7, 3, none⟩ = some (.string (S fl)) := bcell_row D8.out rfl
                  have z1 : w8.cell? ⟨q3, 1, none⟩ = some (.slice (some ⟨ab, ao, none⟩) ze.length zc) := bcell_row Z8.out rfl
                  have x4 : w8.cell? ⟨q7, 4, none⟩ = some (.int .i64 un) := bcell_row D8.out rfl
                  go_wp2_with fail
                  clear x3 z1 x4 x1 x2
                  refine (KT.out w8).mono ?_
                  rintro e wT ⟨rfl, gT⟩
                  have GT2 := Lib.hid (G8.out.trans gT)
                  go_wp2_with fail
                  refine (KL.out _ ?_ wT (bheap_gr GT2.out hs.out)).mono ?_
                  · simp [EY.out, wEra]
                  rintro e wL ⟨rfl, hsL, tcL⟩
                  have TCL : Hid (Tch w4.heap.size sb w4 wL) := (htc.out.gr GT2.out htc.out.size).trans (tcL.mono (Nat.le_trans htc.out.size (Below.size GT2.out)))
                  have ZL : Hid (wL.heap[q3]? = some (.cells #[.string (S nl), .slice (some ⟨ab, ao, none⟩) ze.length zc] 47 (0, 0))) := (TCL.out.block q3 LQ.out NQ.out).trans HZ4.out
                  go_wp2_with fail
                  go_roundw
                  case rel => exact ⟨j + 1, by omega, by go_num, by unfold Hid; rw [RTE.out, ← List.append_assoc, HLL.out]; exact hsL, ZL, TCL⟩
                  case measure => simp [intOf]; omega
                · have EY : Hid ((if j + 1 < ze.length then eraLn ⟨off0, S rl, sv, S fl, un⟩ else eraL ⟨off0, S rl, sv, S fl, un⟩) = wEra ++ 32 :: (spanL off0 ++ 32 :: (rl ++ 32 :: fl))) := by unfold Hid; rw [if_neg hl, ELE.out, if_neg hn]; simp [jn, wEra]
                  generalize (if j + 1 < ze.length then eraLn ⟨off0, S rl, sv, S fl, un⟩ else eraL ⟨off0, S rl, sv, S fl, un⟩) = Y at KL EY RTE
                  have t1 : ¬ (j : Int) < (ze.length : Int) - 1 := by omega
                  clear htm hn
                  go_wp2_with fail
                  generalize wr.alloc (.cells #[.int .i64 off0, .string (S rl), .int .i64 sv, .string (S fl), .int .i64 un] 44) = w7 at HNB ⊢
                  generalize wr.heap.size = q7 at HNB ⊢
                  clear c0 c1 c2 c3 c4
                  have x0 : w7.cell? ⟨q7, 0, none⟩ = some (.int .i64 off0) := bcell_row HNB.out.2 rfl
                  go_wp2_with fail
                  clear x0
                  refine (KS.out w7).mono ?_
                  rintro e w8 ⟨rfl, g8⟩
                  have G8 := Lib.hid (HNB.out.1.trans g8)
                  have D8 := Lib.hid (bheap_gr g8 HNB.out.2)
                  have Z8 := Lib.hid (bheap_gr G8.out hz.out)
                  clear HNB g8
                  have x1 : w8.cell? ⟨q7, 1, none⟩ = some (.string (S rl)) := bcell_row D8.out rfl
                  have x2 : w8.cell? ⟨q7, 2, none⟩ = some (.int .i64 sv) := bcell_row D8.out rfl
                  have x3 : w8.cell? ⟨q7, 3, none⟩ = some (.string (S fl)) := bcell_row D8.out rfl
                  have z1 : w8.cell? ⟨q3, 1, none⟩ = some (.slice (some ⟨ab, ao, none⟩) ze.length zc) := bcell_row Z8.out rfl
                  go_wp2_with fail
                  clear x3 z1 x1 x2
                  refine (KL.out _ ?_ w8 (bheap_gr G8.out hs.out)).mono ?_
                  · simp [EY.out, wEra]
                  rintro e wL ⟨rfl, hsL, tcL⟩
                  have TCL : Hid (Tch w4.heap.size sb w4 wL) := (htc.out.gr G8.out htc.out.size).trans (tcL.mono (Nat.le_trans htc.out.size (Below.size G8.out)))
                  have ZL : Hid (wL.heap[q3]? = some (.cells #[.string (S nl), .slice (some ⟨ab, ao, none⟩) ze.length zc] 47 (0, 0))) := (TCL.out.block q3 LQ.out NQ.out).trans HZ4.out
                  go_wp2_with fail
                  go_roundw
                  case rel => exact ⟨j + 1, by omega, by go_num, by unfold Hid; rw [RTE.out, ← List.append_assoc, HLL.out]; exact hsL, ZL, TCL⟩
                  case measure => simp [intOf]; omega
            · have e : j = ze.length := by omega
              have HSF : Hid (wr.heap[sb]? = some (.cells #[.string (S (jn 10 (P ++ [x0] ++ eraLs ze)))] 9 (0, 0))) := by
                have := hs.out
                rw [e, ← EL.out, List.take_length] at this
                exact this
              have RF : Hid (R ++ (zs.take (k + 1)).flatMap zonL = P ++ [x0] ++ eraLs ze) := by unfold Hid; rw [RT.out, ZT.out, ← HP.out]; simp
              clear e hs hz htc
              go_wp2_with fail
              go_roundw
              case rel => exact ⟨k + 1, by omega, by go_num, by unfold Hid; rw [RF.out]; exact HSF.out, TCW⟩
              case measure => simp [intOf]; omega
        · have e : k = zs.length := by omega
          have HS1 : Hid (wr.heap[sb]? = some (.cells #[.string (S (jn 10 (R ++ zs.flatMap zonL)))] 9 (0, 0))) := by have := hs.out; rw [e, List.take_length] at this; exact this
          have TC1 := Lib.hid htc.out
          have HB3 : Hid (wr.heap[q]? = _) := (htc.out.block q (by have := QLT.out; have := SBL.out; omega) (by have := QLT.out; omega)).trans HB1.out
          have LQ : Hid ((R ++ zs.flatMap zonL).length ≤ 14060) := by have a := LZ.out; have b := LR.out; unfold Hid; rw [List.length_append]; omega
          generalize R ++ zs.flatMap zonL = RQ at HS1 EB LQ
          clear e hs htc OZ HZA GR
          generalize wr = wb at HS1 TC1 HB3 ⊢
          have x2 : wb.cell? ⟨q, 2, none⟩ = some (.slice Al ls.length cl) := bcell_row HB3.out rfl
          go_wp2_with fail
          clear x2 hlt hk
          go_loopw [120] (fun i W => ∃ k : Nat, k ≤ ls.length ∧ i = .int .i64 k ∧ Hid (W.heap[sb]? = some (.cells #[.string (S (jn 10 (RQ ++ (ls.take k).map linL)))] 9 (0, 0))) ∧ Hid (Tch w3.heap.size sb w3 W)) (fun i W => ls.length - (intOf i).toNat)
          case atStart => exact ⟨0, Nat.zero_le _, rfl, by simpa using HS1, TC1⟩
          case round =>
            obtain ⟨k, hk, rfl, hs, htc⟩ := hrel
            have GR : Hid (Gr w wr) := G2.out.trans (htc.out.below BS.out.1 (by rw [HSB.out]; exact Nat.le_refl _) (by rw [HSB.out]; have := SBL.out; omega))
            by_cases hlt : k < ls.length
            · obtain ⟨xl, hx⟩ := get_lt hlt
              have RT := Lib.hid (map_take linL hx)
              obtain ⟨z1, z2⟩ := OL.out _ (get_mem hx)
              have SUB : Hid (LinesOk (RQ ++ (ls.take (k + 1)).map linL)) := OK.out.sub (fun x hx => by
                rw [EB.out]
                rcases List.mem_append.1 hx with hx | hx
                · exact List.mem_append_left _ hx
                · obtain ⟨y, hy, rfl⟩ := List.mem_map.1 hx
                  exact List.mem_append_right _ (List.mem_map.2 ⟨y, take_sub y hy, rfl⟩))
              have KL : Hid (∀ y, y = linL xl → ∀ W, W.heap[sb]? = some (.cells #[.string (S (jn 10 (RQ ++ (ls.take k).map linL)))] 9 (0, 0)) → Calls Tryz.prog 28 #[.string (S y), .pointer (some ⟨sb, 0, none⟩)] W fun e' w' => e' = .returned (.tuple #[]) ∧ w'.heap[sb]? = some (.cells #[.string (S (jn 10 (RQ ++ (ls.take k).map linL ++ [linL xl])))] 9 (0, 0)) ∧ Tch W.heap.size sb W w') := fun y hy W h => by
                subst hy
                exact rlineJ _ _ sb W (by rw [List.append_assoc, ← RT.out]; exact SUB.out) (by have := LQ.out; rw [List.length_append, List.length_map, List.length_take]; omega) h
              obtain ⟨nm, to'⟩ := xl
              obtain ⟨nl, rfl⟩ : ∃ nl, nm = S nl := ⟨nm.toList, S_of nm⟩
              obtain ⟨tl, rfl⟩ : ∃ tl, to' = S tl := ⟨to'.toList, S_of to'⟩
              simp only [S_size] at z1 z2
              have EY : Hid (linL ⟨S nl, S tl⟩ = jn 32 [wLink, nl, tl]) := by unfold Hid linL; simp only [S_toList]
              obtain ⟨b, off, rfl, c0, c1⟩ := HL.out.two hx rfl GR.out
              have HNB := Lib.hid (box_one wr (.cells #[.string (S nl), .string (S tl)] 49))
              generalize linL ⟨S nl, S tl⟩ = Y at RT KL EY
              generalize hLL : RQ ++ (ls.take k).map linL = LL at hs KL
              have HLL := Lib.hid hLL
              have s1 : ¬ 9223372036854775807 < 5 + nl.length := by omega
              clear hLL hx OL OK SUB
              go_wp2_with fail
              generalize wr.alloc (.cells #[.string (S nl), .string (S tl)] 49) = w5 at HNB ⊢
              generalize wr.heap.size = q3 at HNB ⊢
              clear c0 c1
              have y0 : w5.cell? ⟨q3, 0, none⟩ = some (.string (S nl)) := bcell_row HNB.out.2 rfl
              have y1 : w5.cell? ⟨q3, 1, none⟩ = some (.string (S tl)) := bcell_row HNB.out.2 rfl
              go_wp2_with fail
              clear y0 y1
              refine (KL.out _ ?_ w5 (bheap_gr HNB.out.1 hs.out)).mono ?_
              · simp [EY.out, wLink, jn]
              rintro e w6 ⟨rfl, hs6, tc6⟩
              have TC6 : Hid (Tch w3.heap.size sb w3 w6) := (htc.out.gr HNB.out.1 htc.out.size).trans (tc6.mono (Nat.le_trans htc.out.size (Below.size HNB.out.1)))
              clear KL htc tc6
              go_wp2_with fail
              go_roundw
              case rel => exact ⟨k + 1, by omega, by go_num, by unfold Hid; rw [RT.out, ← List.append_assoc, HLL.out]; exact hs6, TC6⟩
              case measure => simp [intOf]; omega
            · have e : k = ls.length := by omega
              have HSF : Hid (wr.heap[sb]? = some (.cells #[.string (S (jn 10 (bokL rs zs ls)))] 9 (0, 0))) := by have := hs.out; rw [e, List.take_length, ← EB.out] at this; exact this
              have y0 : wr.cell? ⟨sb, 0, none⟩ = some (.string (S (jn 10 (bokL rs zs ls)))) := bcell_row HSF.out rfl
              clear e hs htc
              go_wp2_with fail
              go_ret2
              exact ⟨E.out.symm, GR.out⟩
end Go.Proofs.YtmemgpmijphkmaaGreatDoor
