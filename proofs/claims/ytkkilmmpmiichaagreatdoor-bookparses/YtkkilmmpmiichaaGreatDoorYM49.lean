/- What the reference's BookParse returns. -/
import Derived.Deep.CutBlock
import Derived.Deep.CutRange
import Derived.Deep.DeepCutAuto
import Derived.Test.YtkkilmmpmiichaaGreatDoorYM47
import Derived.Test.YtkkilmmpmiichaaGreatDoorYM43
import Derived.Test.YtkkilmmpmiichaaGreatDoorYM48
import Derived.Test.YtkkilmmpmiichaaGreatDoorYM31
import Derived.Test.YtkkilmmpmiichaaGreatDoorYM13
namespace Go.Proofs.YtkkilmmpmiichaaGreatDoor
set_option linter.unusedVariables false
set_option linter.unusedSimpArgs false
open Go.RowKit
/-- what Split at blanks leaves -/
def SplitBl (t : ByteArray) (w : World) (e : Ending) (w' : World) : Prop := ∃ g : Nat, w.heap.size ≤ g ∧ e = .returned (.slice (some ⟨g, 0, none⟩) (bl t).length (bl t).length) ∧ Gr w w' ∧ ∀ j, j < (bl t).length → w'.cell? ⟨g, j, none⟩ = some (.string (wd t j))

theorem splitBl (t : ByteArray) (m : Int) (w : World) (hs : t.size ≤ 1048576) (hm : w.cell? ⟨0, 0, none⟩ = some (.int .i64 m)) :
    Calls Tryz.prog 8 #[.string t, .string ⟨#[32]⟩] w (SplitBl t w) := by
  refine (Tryz.strings_Split t ⟨#[32]⟩ m w (by omega) hm (by decide)).mono ?_
  rintro e w' ⟨rfl, rfl⟩
  refine ⟨w.heap.size, Nat.le_refl _, by rw [bl_len], Gr.alloc _ _, fun j hj => ?_⟩
  rw [World.cell?_alloc_new]
  show ((bl t).map Value.string).toArray[j]? = _
  unfold wd
  simp [hj, List.getD, List.getElem?_eq_getElem hj]
theorem dec_no {n m : Nat} (h : ¬ n = m) : decide (n = m) = false := decide_eq_false h
theorem pre_len {x : ByteArray} (h : Lib.hasPrefix x.toList [45] = true) : 1 ≤ x.size := by
  rw [size_toList]
  cases e : x.toList with
  | nil => rw [e] at h; simp [Lib.hasPrefix, List.isPrefixOf] at h
  | cons a l => simp
theorem trim_ext {x : ByteArray} (h : Lib.hasPrefix x.toList [45] = true) : x.extract 1 x.size = S (Lib.trimPrefix x.toList [45]) := by
  have e : (ByteArray.mk #[45]).data.toList = [45] := rfl
  have e2 : x.data.toList = x.toList := data_toList x
  have hr := Lib.hasPrefix_raw x ⟨#[45]⟩
  rw [e, e2, h] at hr
  simp only [Bool.and_eq_true, decide_eq_true_eq] at hr
  have := Lib.trimPrefix_hit x ⟨#[45]⟩ hr.1 hr.2
  rw [e, e2] at this
  exact this.symm

/-- a slice of one part is built: the run of the step is given -/
theorem wpList_build1 {P : Program} {w : World} {ops : Array Oper} {rest : List Oper} {Q : Exit → Act → World → Prop} {a : Act} {d : Option Nat} {t ty : TypeId} {ps : String} {af : Array Edge} {x : Operand} (v0 v : Value) (w' : World)
    (hx : a.eval x = v0) (hr : (Instr.buildSlice t 1 #[(0, v0)]).run P w = .ok v w') (h : wpList P ops Q rest (a.put d v) w') :
    wpList P ops Q ({ dst := d, op := .buildSlice t 1 #[(0, x)], type := ty, pos := ps, after := af, guard := none } :: rest) a w := by
  refine wpList_plain rfl fun _ hK => ?_
  unfold Oper.wp execOp
  simp only [List.map_toArray, List.map_cons, List.map_nil, hx, Sem.run_bind, hr, Result.andThen_ok, Sem.run_pure]
  exact hK _ _ h
theorem step_build1 {P : Program} {w : World} {ops : Array Oper} {K : Act → World → Prop} {Q : Exit → Act → World → Prop} {E : Prop} {a : Act} {o : Oper} (t : TypeId) (x : Operand) (v0 v : Value) (w' : World) (hgd : o.guard = none) (ho : o.op = .buildSlice t 1 #[(0, x)])
    (hx : a.eval x = v0) (hr : (Instr.buildSlice t 1 #[(0, v0)]).run P w = .ok v w') (h : K (a.put o.dst v) w') :
    if Region.wanted o (yielded ops a.tmps) = true then Oper.wp P o a w K Q else E := by
  have hw : Region.wanted o (yielded ops a.tmps) = true := by simp [Region.wanted, hgd]
  rw [if_pos hw]
  unfold Oper.wp execOp
  simp only [ho, List.map_toArray, List.map_cons, List.map_nil, hx, Sem.run_bind, hr, Result.andThen_ok, Sem.run_pure]
  exact h
theorem bs_rule (w : World) (nm lt : ByteArray) (fr tt mo zk d n0 at' by' sv : Int) : (Instr.buildSlice 22 1 #[(0, Value.agg #[.string nm, .int .i64 fr, .int .i64 tt, .int .i64 mo, .int .i64 zk, .int .i64 d, .int .i64 n0, .int .i64 at', .int .i64 by', .int .i64 sv, .string lt])]).run Tryz.prog w = .ok (.slice (some ⟨w.heap.size, 0, none⟩) 1 1) (w.alloc (.cells #[.string nm, .int .i64 fr, .int .i64 tt, .int .i64 mo, .int .i64 zk, .int .i64 d, .int .i64 n0, .int .i64 at', .int .i64 by', .int .i64 sv, .string lt] 42)) := by kernel_rfl
theorem bs_zone (w : World) (nm : ByteArray) : (Instr.buildSlice 23 1 #[(0, Value.agg #[.string nm, .slice none 0 0])]).run Tryz.prog w = .ok (.slice (some ⟨w.heap.size, 0, none⟩) 1 1) (w.alloc (.cells #[.string nm, .slice none 0 0] 47)) := by kernel_rfl
theorem bs_link (w : World) (nm tt : ByteArray) : (Instr.buildSlice 24 1 #[(0, Value.agg #[.string nm, .string tt])]).run Tryz.prog w = .ok (.slice (some ⟨w.heap.size, 0, none⟩) 1 1) (w.alloc (.cells #[.string nm, .string tt] 49)) := by kernel_rfl
theorem bs_era (w : World) (a1 sv un : Int) (ru fm : ByteArray) : (Instr.buildSlice 45 1 #[(0, Value.agg #[.int .i64 a1, .string ru, .int .i64 sv, .string fm, .int .i64 un])]).run Tryz.prog w = .ok (.slice (some ⟨w.heap.size, 0, none⟩) 1 1) (w.alloc (.cells #[.int .i64 a1, .string ru, .int .i64 sv, .string fm, .int .i64 un] 52)) := by kernel_rfl

set_option maxRecDepth 100000 in
set_option maxHeartbeats 40000000 in
theorem rbookParse (s : ByteArray) (w : World) (hm : s.size ≤ maxLen) (ht : HasMax w) : Calls Tryz.prog 5 #[.string s] w (ParA s w) := by
  unfold maxLen at hm
  have B0 := Lib.hid (box_one w (.cells #[.slice none 0 0, .slice none 0 0, .slice none 0 0] 26))
  have HT := Lib.hid ht
  obtain ⟨mx, hmx⟩ := ht
  have HM := Lib.hid hmx
  clear hmx
  by_cases hbig : 60000 < s.size
  · have E := Lib.hid (parB_big hbig)
    have t1 : decide (60000 < (s.size : Int)) = true := ltT (by omega)
    have HZ := Lib.hid B0.out.2
    have G1 := Lib.hid B0.out.1
    clear B0 hbig
    go_enter Tryz.func5, Tryz.ntmps5
    go_upto_region 2 with fail
    generalize w.alloc (.cells #[.slice none 0 0, .slice none 0 0, .slice none 0 0] 26) = w1 at HZ G1 ⊢
    have z0 : w1.cell? ⟨w.heap.size, 0, none⟩ = some (.slice none 0 0) := bcell_row HZ.out rfl
    have z1 : w1.cell? ⟨w.heap.size, 1, none⟩ = some (.slice none 0 0) := bcell_row HZ.out rfl
    have z2 : w1.cell? ⟨w.heap.size, 2, none⟩ = some (.slice none 0 0) := bcell_row HZ.out rfl
    have fz : ∀ i, w1.frozen? ⟨w.heap.size, i, none⟩ = false := fun i => by simp [World.frozen?, HZ.out]
    have ST := Lib.hid (store3 HZ.out (.slice none 0 0) (.slice none 0 0) (.slice none 0 0))
    have SG := Lib.hid (store3_gr G1.out (Nat.le_refl w.heap.size) (.slice none 0 0) (.slice none 0 0) (.slice none 0 0))
    go_wp2_with fail
    clear z0 z1 z2 fz
    generalize (((w1.setCell ⟨w.heap.size, 0, none⟩ (.slice none 0 0)).setCell ⟨w.heap.size, 1, none⟩ (.slice none 0 0)).setCell ⟨w.heap.size, 2, none⟩ (.slice none 0 0)) = FF at ST SG ⊢
    have y0 : FF.cell? ⟨w.heap.size, 0, none⟩ = some (.slice none 0 0) := bcell_row ST.out rfl
    have y1 : FF.cell? ⟨w.heap.size, 1, none⟩ = some (.slice none 0 0) := bcell_row ST.out rfl
    have y2 : FF.cell? ⟨w.heap.size, 2, none⟩ = some (.slice none 0 0) := bcell_row ST.out rfl
    exact bodyPost_ret (v := .tuple #[.agg #[.slice none 0 0, .slice none 0 0, .slice none 0 0], .int .i64 0, .int .i64 2]) (by simp [results, Tryz.results5, go_sem, y0, y1, y2]) rfl (parA_zero E.out SG.out)

  have t1 : decide (60000 < (s.size : Int)) = false := ltF (by omega)
  have NB := Lib.hid hbig
  have KS := Lib.hid (fun w h => splitLn s mx w (by omega) h)
  have B1 := Lib.hid (box_two w (.cells #[.slice none 0 0, .slice none 0 0, .slice none 0 0] 26) (.cells #[.slice none 0 0, .slice none 0 0, .slice none 0 0] 26))
  by_cases hnil : s.toList = []
  · have E := Lib.hid (parB_nil hnil)
    obtain rfl : s = ⟨#[]⟩ := str_nil2 hnil
    clear B0 hbig hnil NB KS hm
    go_enter Tryz.func5, Tryz.ntmps5
    go_upto_region 5 with fail
    generalize (w.alloc (.cells #[.slice none 0 0, .slice none 0 0, .slice none 0 0] 26)).alloc (.cells #[.slice none 0 0, .slice none 0 0, .slice none 0 0] 26) = w1 at B1 ⊢
    have HZ := Lib.hid B1.out.2.1
    have G1 := Lib.hid B1.out.1
    have q0 : w1.cell? ⟨w.heap.size + 1, 0, none⟩ = some (.slice none 0 0) := bcell_row B1.out.2.2 rfl
    have q1 : w1.cell? ⟨w.heap.size + 1, 1, none⟩ = some (.slice none 0 0) := bcell_row B1.out.2.2 rfl
    have q2 : w1.cell? ⟨w.heap.size + 1, 2, none⟩ = some (.slice none 0 0) := bcell_row B1.out.2.2 rfl
    have z0 : w1.cell? ⟨w.heap.size, 0, none⟩ = some (.slice none 0 0) := bcell_row HZ.out rfl
    have z1 : w1.cell? ⟨w.heap.size, 1, none⟩ = some (.slice none 0 0) := bcell_row HZ.out rfl
    have z2 : w1.cell? ⟨w.heap.size, 2, none⟩ = some (.slice none 0 0) := bcell_row HZ.out rfl
    have fz : ∀ i, w1.frozen? ⟨w.heap.size, i, none⟩ = false := fun i => by simp [World.frozen?, HZ.out]
    have ST := Lib.hid (store3 HZ.out (.slice none 0 0) (.slice none 0 0) (.slice none 0 0))
    have SG := Lib.hid (store3_gr G1.out (Nat.le_refl w.heap.size) (.slice none 0 0) (.slice none 0 0) (.slice none 0 0))
    go_wp2_with fail
    clear z0 z1 z2 fz
    generalize (((w1.setCell ⟨w.heap.size, 0, none⟩ (.slice none 0 0)).setCell ⟨w.heap.size, 1, none⟩ (.slice none 0 0)).setCell ⟨w.heap.size, 2, none⟩ (.slice none 0 0)) = FF at ST SG ⊢
    have y0 : FF.cell? ⟨w.heap.size, 0, none⟩ = some (.slice none 0 0) := bcell_row ST.out rfl
    have y1 : FF.cell? ⟨w.heap.size, 1, none⟩ = some (.slice none 0 0) := bcell_row ST.out rfl
    have y2 : FF.cell? ⟨w.heap.size, 2, none⟩ = some (.slice none 0 0) := bcell_row ST.out rfl
    exact bodyPost_ret (v := .tuple #[.agg #[.slice none 0 0, .slice none 0 0, .slice none 0 0], .int .i64 0, .int .i64 0]) (by simp [results, Tryz.results5, go_sem, y0, y1, y2]) rfl (parA_zero E.out SG.out)

  have NN := Lib.hid hnil
  have n1 : ¬ s = ⟨#[]⟩ := fun e => hnil (by rw [e]; exact lit0)
  have n2 : (s.toList == []) = false := by simpa using hnil
  have LB : Hid ((lns s).length ≤ 60001) := by
    have := Lib.countB_le ⟨#[10]⟩ (by decide) s.size s (Nat.le_refl _)
    unfold Hid; rw [lns_len]; omega
  have LZ : Hid (∀ x ∈ lns s, x.size ≤ 60000) := fun x hx => Nat.le_trans (lns_size hx) (by omega)
  obtain ⟨ir, hi, hz0, hz1, hz2⟩ := info_parts infoRule
  have R1 := Lib.hid hi
  have R2 := Lib.hid hz0
  have R3 := Lib.hid hz1
  have R4 := Lib.hid hz2
  clear hi hz0 hz1 hz2
  obtain ⟨iz, hi, hz0, hz1, hz2⟩ := info_parts infoZone
  have Z1 := Lib.hid hi
  have Z2 := Lib.hid hz0
  have Z3 := Lib.hid hz1
  have Z4 := Lib.hid hz2
  clear hi hz0 hz1 hz2
  obtain ⟨il, hi, hz0, hz1, hz2⟩ := info_parts infoLink
  have L1 := Lib.hid hi
  have L2 := Lib.hid hz0
  have L3 := Lib.hid hz1
  have L4 := Lib.hid hz2
  clear hi hz0 hz1 hz2
  obtain ⟨ie, hi, hz0, hz1, hz2⟩ := info_parts infoEra
  have I1 := Lib.hid hi
  have I2 := Lib.hid hz0
  have I3 := Lib.hid hz1
  have I4 := Lib.hid hz2
  clear hi hz0 hz1 hz2
  clear hnil hbig B0
  go_enter Tryz.func5, Tryz.ntmps5
  go_wp2_with fail
  generalize (w.alloc (.cells #[.slice none 0 0, .slice none 0 0, .slice none 0 0] 26)).alloc (.cells #[.slice none 0 0, .slice none 0 0, .slice none 0 0] 26) = w1 at B1 ⊢
  refine (KS.out w1 (B1.out.1.holds HM.out)).mono ?_
  rintro e w2 ⟨g, hg, rfl, g2, hcell⟩
  have CE := Lib.hid hcell
  have G2 := Lib.hid (B1.out.1.trans g2)
  have HZ2 := Lib.hid (bheap_gr g2 B1.out.2.1)
  have HP2 := Lib.hid (bheap_gr g2 B1.out.2.2)
  have gpb : w.heap.size + 1 < g := Nat.lt_of_lt_of_le (Array.getElem?_eq_some_iff.1 B1.out.2.2).1 hg
  have psz := Lib.hid (Array.getElem?_eq_some_iff.1 HP2.out).1
  have L0 := LB.out
  clear KS B1 g2 hcell hg n1 n2 t1
  generalize hN : (lns s).length = N at L0 ⊢
  have HN := Lib.hid hN
  clear hN
  go_wp2_with fail
  go_loopw [6, 31] (fun o i W => ∃ (k : Nat) (p : BkS), k ≤ N ∧ i = .int .i64 k ∧ o = .bool (decide (p.st = 1)) ∧ Hid (QSt W w2.heap.size (w.heap.size + 1) k p) ∧ Hid p.Ok ∧ Hid (runB BkS.zero (lns s) 0 = runB p ((lns s).drop k) k) ∧ Hid (Tch w2.heap.size (w.heap.size + 1) w2 W)) (fun o i W => N - (intOf i).toNat)
  case atStart => exact ⟨0, BkS.zero, Nat.zero_le _, rfl, rfl, QAt.first HP2.out psz.out (Nat.le_refl _), BkS.Ok.zero, rfl, Tch.refl _ _ _⟩
  case round =>
    obtain ⟨k, p, hk, rfl, rfl, hp, hok, hr, htc⟩ := hrel
    have GR := Lib.hid (htc.out.below G2.out (Nat.le_succ _) (Below.size G2.out))
    have HZr : Hid (wr.heap[w.heap.size]? = some (.cells #[.slice none 0 0, .slice none 0 0, .slice none 0 0] 26 (0, 0))) := (htc.out.block w.heap.size (by have := psz.out; omega) (by omega)).trans HZ2.out
    by_cases hlt : k < N
    · obtain ⟨x, hx⟩ := get_lt (show k < (lns s).length by rw [HN.out]; exact hlt)
      have c0 : wr.cell? ⟨g, k, none⟩ = some (.string x) := by
        have := CE.out k x hx
        rw [htc.out.cell (b := g) (o := k) (World.block_lt_of_cell? w2 ⟨g, k, none⟩ this) (show g ≠ w.heap.size + 1 by omega)]; exact this
      have hxs := LZ.out x (get_mem hx)
      have HXS := Lib.hid hxs
      have KW := Lib.hid (fun W h => splitBl x mx W (by omega) h)
      have KR := Lib.hid (fun W h => rruleParse x mx W (by omega) h)
      have SOK : Hid (∀ q, stepB p x = some q → q.Ok) := fun q hq => hok.out.step hq
      have RB : Hid (stepB p x = none → runB BkS.zero (lns s) 0 = .inl (k + 1)) := fun h => hr.out.trans (runB_bad hx h)
      have RS : Hid (∀ q, stepB p x = some q → runB BkS.zero (lns s) 0 = runB q ((lns s).drop (k + 1)) (k + 1)) := fun q h => hr.out.trans (runB_step hx h)
      have SRU0 := Lib.hid (step_rule (p := p) (t := x))
      have SZO0 := Lib.hid (step_zone (p := p) (t := x))
      have SER0 := Lib.hid (step_era (p := p) (t := x))
      have SLI0 := Lib.hid (step_link (p := p) (t := x))
      have SNO : Hid (¬ (wd x 0).toList = wRule → ¬ (wd x 0).toList = wZone → ¬ (wd x 0).toList = wEra → ¬ (wd x 0).toList = wLink → stepB p x = none) := fun a b c d => step_none a b c d
      have S1 := Lib.hid (wd_max hxs 1)
      have S2 := Lib.hid (wd_max hxs 2)
      obtain ⟨v0, v1, v2, zs, hq⟩ := hp.out
      obtain ⟨Ar, cr, Az, cz, Al, cl, rfl, rfl, rfl⟩ := hq.forms
      have ZL : Hid (zs.length = p.zs.length) := by have := congrArg List.length hq.zm; unfold Hid; simpa using this
      have EQ0 : Hid (p.st = 0 ↔ zs.length + p.ls.length = 0) := by
        have a := hok.out.st0
        have b := ZL.out
        unfold Hid
        rw [a, ← List.length_eq_zero_iff, ← List.length_eq_zero_iff, ← b]; omega
      have EQ3 : Hid (p.st = 3 ↔ ¬ p.ls.length = 0) := by
        have a := hok.out.st3'
        unfold Hid
        rw [a, Ne, List.length_eq_zero_iff]
      have ST3 : Hid (p.st ≤ 3) := hok.out.st3
      have OPN : Hid (p.st = 1 → p.zs ≠ []) := hok.out.open'
      have NR : Hid (p.rs.length ≤ 100000) := Nat.le_trans hq.nr (by omega)
      have NZ : Hid (zs.length ≤ 100000) := Nat.le_trans hq.nz (by omega)
      have NL : Hid (p.ls.length ≤ 100000) := Nat.le_trans hq.nl (by omega)
      have NE : Hid (∀ z ∈ zs, z.eras.length ≤ 100000) := fun z hz => Nat.le_trans (hq.ne z hz) (by omega)
      have k0 : (0 : Int) ≤ (k : Int) := by omega
      have k1 : (k : Int) < (N : Int) := by omega
      clear hx hok hr LZ
      go_wp2_with fail
      clear c0
      refine (KW.out wr (GR.out.holds HM.out)).mono ?_
      rintro e w3 ⟨gw, hgw, rfl, g3, hword⟩
      have HWD := Lib.hid hword
      have Q := Lib.hid (hq.gr g3)
      have TC3 := Lib.hid (htc.out.gr g3 hq.le)
      have GR3 := Lib.hid (GR.out.trans g3)
      have HZ3 := Lib.hid (bheap_gr g3 HZr.out)
      have HB3 : Hid (w3.heap[w.heap.size + 1]? = some (.cells #[.slice Ar p.rs.length cr, .slice Az zs.length cz, .slice Al p.ls.length cl] 26 (0, 0))) := Q.out.blk
      have GNEZ : Hid (some gw ≠ (Value.slice Az zs.length cz).ownBlock) := fun e => by
        have := (own_block_lt hq.zr _ e.symm).2; omega
      have GNEL : Hid (some gw ≠ (Value.slice Al p.ls.length cl).ownBlock) := fun e => by
        have := (own_block_lt hq.lr _ e.symm).2; omega
      have lw : 1 ≤ (bl x).length := by rw [bl_len]; omega
      have c1 : w3.cell? ⟨gw, 0, none⟩ = some (.string (wd x 0)) := hword 0 (by omega)
      have lp : (0 : Int) < ((bl x).length : Int) := by omega
      clear hword KW hp hq htc g3 hgw
      clear GR HZr
      generalize hLW : (bl x).length = LW at lw lp HWD SZO0 SER0 SLI0 ⊢
      have BLW := Lib.hid hLW
      clear hLW
      generalize wd x 0 = x0 at c1 SRU0 SZO0 SER0 SLI0 SNO
      go_upto_block 2 with fail
      go_cut [6, 11] (fun s6 s11 wx => ∃ b : Bool, s11 = .bool b ∧ Hid (b = true → ∃ q : BkS, stepB p x = some q ∧ s6 = .bool (decide (q.st = 1)) ∧ QSt wx w2.heap.size (w.heap.size + 1) (k + 1) q) ∧ Hid (b = false → stepB p x = none) ∧ Hid (Tch w2.heap.size (w.heap.size + 1) w2 wx))
      case first =>
        clear RB RS SOK CE
        by_cases hR : x0.toList = wRule
        · as_aux_lemma =>
            have SRU := Lib.hid (SRU0.out hR)
            clear SRU0 SZO0 SER0 SLI0 SNO
            obtain rfl : x0 = ⟨#[114, 117, 108, 101]⟩ := by rw [S_of x0, hR]; rfl
            go_wp2_with fail
            clear c1
            refine (KR.out w3 (GR3.out.holds HM.out)).mono ?_
            rintro e w4 ⟨hread, g4⟩
            have Q4 := Lib.hid (Q.out.gr g4)
            have TC4 := Lib.hid (TC3.out.gr g4 Q.out.le)
            cases hr : ruleR x.toList with
            | none =>
              obtain rfl := ruleR_no hr hread
              have SN : Hid (stepB p x = none) := by unfold Hid; rw [SRU.out, hr]; split <;> rfl
              have RI : Hid (RuD.In ⟨⟨#[]⟩, 0, 0, 0, 0, 0, 0, 0, 0, 0, ⟨#[]⟩⟩) := ⟨by decide, by decide⟩
              clear hread hr
              have B5 := Lib.hid (box_one w4 (.cells #[.string ⟨#[]⟩, .int .i64 0, .int .i64 0, .int .i64 0, .int .i64 0, .int .i64 0, .int .i64 0, .int .i64 0, .int .i64 0, .int .i64 0, .string ⟨#[]⟩] 42))
              go_upto_region 17 with fail
              generalize w4.alloc (.cells #[.string ⟨#[]⟩, .int .i64 0, .int .i64 0, .int .i64 0, .int .i64 0, .int .i64 0, .int .i64 0, .int .i64 0, .int .i64 0, .int .i64 0, .string ⟨#[]⟩] 42) = w5 at B5 ⊢
              generalize w4.heap.size = q5 at B5 ⊢
              have G45 := Lib.hid B5.out.1
              have Q5 := Lib.hid (Q4.out.gr G45.out)
              have y0 : w5.cell? ⟨w.heap.size + 1, 0, none⟩ = some (.slice Ar p.rs.length cr) := bcell_row Q5.out.blk rfl
              have d0 := bcell_row (i := 0) B5.out.2 rfl
              have d1 := bcell_row (i := 1) B5.out.2 rfl
              have d2 := bcell_row (i := 2) B5.out.2 rfl
              have d3 := bcell_row (i := 3) B5.out.2 rfl
              have d4 := bcell_row (i := 4) B5.out.2 rfl
              have d5 := bcell_row (i := 5) B5.out.2 rfl
              have d6 := bcell_row (i := 6) B5.out.2 rfl
              have d7 := bcell_row (i := 7) B5.out.2 rfl
              have d8 := bcell_row (i := 8) B5.out.2 rfl
              have d9 := bcell_row (i := 9) B5.out.2 rfl
              have d10 := bcell_row (i := 10) B5.out.2 rfl
              have NBX := Lib.hid (box_one w5 (.cells #[.string ⟨#[]⟩, .int .i64 0, .int .i64 0, .int .i64 0, .int .i64 0, .int .i64 0, .int .i64 0, .int .i64 0, .int .i64 0, .int .i64 0, .string ⟨#[]⟩] 42))
              have OW : Hid (Own (w5.alloc (.cells #[.string ⟨#[]⟩, .int .i64 0, .int .i64 0, .int .i64 0, .int .i64 0, .int .i64 0, .int .i64 0, .int .i64 0, .int .i64 0, .int .i64 0, .string ⟨#[]⟩] 42)) w2.heap.size 42 11 RuD.cells (.slice Ar p.rs.length cr) p.rs) := Q5.out.rs.gr NBX.out.1
              have HB6 := Lib.hid (bheap_gr NBX.out.1 Q5.out.blk)
              have LE6 : Hid (w2.heap.size ≤ (w5.alloc (.cells #[.string ⟨#[]⟩, .int .i64 0, .int .i64 0, .int .i64 0, .int .i64 0, .int .i64 0, .int .i64 0, .int .i64 0, .int .i64 0, .int .i64 0, .string ⟨#[]⟩] 42)).heap.size) := Nat.le_trans Q5.out.le (Below.size NBX.out.1)
              go_wp2_with (first | (refine wpList_build1 _ _ _ (by rfl) (bs_rule w5 ⟨#[]⟩ ⟨#[]⟩ 0 0 0 0 0 0 0 0 0) ?_) | (at_builtin; refine wpList_append_lies _ (by rfl) _ _ 22 (by rfl) w2.heap.size 42 ir (.agg #[.string .empty, .int .i64 0, .int .i64 0, .int .i64 0, .int .i64 0, .int .i64 0, .int .i64 0, .int .i64 0, .int .i64 0, .int .i64 0, .string .empty]) 11 104 Tryz.underlying22 R1.out R2.out R3.out R4.out (by rfl) (by omega) (.slice Ar p.rs.length cr) p.rs.length (p.rs.flatMap RuD.cells) (by rfl) OW.out ⟨w5.heap.size, 0, none⟩ 1 1 [.string ⟨#[]⟩, .int .i64 0, .int .i64 0, .int .i64 0, .int .i64 0, .int .i64 0, .int .i64 0, .int .i64 0, .int .i64 0, .int .i64 0, .string ⟨#[]⟩] (by rfl) (by rfl) (World.news_of_block NBX.out.2) (ru_one ⟨⟨#[]⟩, 0, 0, 0, 0, 0, 0, 0, 0, 0, ⟨#[]⟩⟩) (by omega) (by have := NR.out; unfold maxLen; omega) (by have := NR.out; omega) LE6.out (w5.heap.size + 1) (by simp) ?_; intro g cap w6 hown hgrow hat hltg; have HB7 := Lib.hid ((hgrow.block (w.heap.size + 1) (Nat.lt_of_lt_of_le Q5.out.lt LE6.out) (pb_ne OW.out Q5.out.lt)).trans HB6.out); have zc : w6.cell? ⟨w.heap.size + 1, 0, none⟩ = some (.slice Ar p.rs.length cr) := bcell_row HB7.out rfl; have fz : w6.frozen? ⟨w.heap.size + 1, 0, none⟩ = false := by simp [World.frozen?, HB7.out]))
              have FIN := Lib.hid (QAt.addRule (r := ⟨⟨#[]⟩, 0, 0, 0, 0, 0, 0, 0, 0, 0, ⟨#[]⟩⟩) Q4.out (G45.out.trans NBX.out.1) (own_more rfl hown) hgrow RI.out)
              clear hown hgrow hat zc fz HB7 OW HB6 LE6 NBX
              generalize w6.setCell ⟨w.heap.size + 1, 0, none⟩ (.slice (some ⟨g, 0, none⟩) (p.rs.length + 1) cap) = w7 at FIN ⊢
              clear y0 d0 d1 d2 d3 d4 d5 d6 d7 d8 d9 d10
              have TCF := Lib.hid (TC4.out.trans FIN.out.2)
              skip
              go_meet
              exact ⟨false, rfl, (fun h => by cases h), (fun _ => SN.out), TCF.out⟩
            | some r =>
              obtain rfl := ruleR_yes hr hread
              have RI : Hid r.In := by
                have hc := ruleC_zero.1 (ruleR_some hr).1
                have a := name_len (ruleSyn_iff.1 hc.1).1
                have b := abbr_len (ruleSyn_iff.1 hc.1).2
                refine ⟨?_, ?_⟩
                · rw [size_toList]; unfold maxLen; omega
                · rw [size_toList]; unfold maxLen; omega
              have SS : Hid (stepB p x = if p.st = 0 then some { p with rs := p.rs ++ [r] } else none) := by unfold Hid; rw [SRU.out, hr]; rfl
              obtain ⟨nm, fr, tt, mo, zk, d, n0, at', by', sv, lt⟩ := r
              clear hread hr
              have B5 := Lib.hid (box_one w4 (.cells #[.string nm, .int .i64 fr, .int .i64 tt, .int .i64 mo, .int .i64 zk, .int .i64 d, .int .i64 n0, .int .i64 at', .int .i64 by', .int .i64 sv, .string lt] 42))
              go_upto_region 16 with fail
              generalize w4.alloc (.cells #[.string nm, .int .i64 fr, .int .i64 tt, .int .i64 mo, .int .i64 zk, .int .i64 d, .int .i64 n0, .int .i64 at', .int .i64 by', .int .i64 sv, .string lt] 42) = w5 at B5 ⊢
              generalize w4.heap.size = q5 at B5 ⊢
              have G45 := Lib.hid B5.out.1
              have Q5 := Lib.hid (Q4.out.gr G45.out)
              have y0 : w5.cell? ⟨w.heap.size + 1, 0, none⟩ = some (.slice Ar p.rs.length cr) := bcell_row Q5.out.blk rfl
              have d0 := bcell_row (i := 0) B5.out.2 rfl
              have d1 := bcell_row (i := 1) B5.out.2 rfl
              have d2 := bcell_row (i := 2) B5.out.2 rfl
              have d3 := bcell_row (i := 3) B5.out.2 rfl
              have d4 := bcell_row (i := 4) B5.out.2 rfl
              have d5 := bcell_row (i := 5) B5.out.2 rfl
              have d6 := bcell_row (i := 6) B5.out.2 rfl
              have d7 := bcell_row (i := 7) B5.out.2 rfl
              have d8 := bcell_row (i := 8) B5.out.2 rfl
              have d9 := bcell_row (i := 9) B5.out.2 rfl
              have d10 := bcell_row (i := 10) B5.out.2 rfl
              have y1 : w5.cell? ⟨w.heap.size + 1, 1, none⟩ = some (.slice Az zs.length cz) := bcell_row Q5.out.blk rfl
              have y2 : w5.cell? ⟨w.heap.size + 1, 2, none⟩ = some (.slice Al p.ls.length cl) := bcell_row Q5.out.blk rfl
              have b1 : zs.length ≤ 100000 := NZ.out
              have b2 : p.ls.length ≤ 100000 := NL.out
              by_cases h0 : p.st = 0
              · have t0 : ((zs.length : Int) + (p.ls.length : Int) == 0) = true := beqT (by have := EQ0.out.1 h0; omega)
                have SQ : Hid (stepB p x = some { p with rs := p.rs ++ [⟨nm, fr, tt, mo, zk, d, n0, at', by', sv, lt⟩] }) := by unfold Hid; rw [SS.out, if_pos h0]
                have NBX := Lib.hid (box_one w5 (.cells #[.string nm, .int .i64 fr, .int .i64 tt, .int .i64 mo, .int .i64 zk, .int .i64 d, .int .i64 n0, .int .i64 at', .int .i64 by', .int .i64 sv, .string lt] 42))
                have OW : Hid (Own (w5.alloc (.cells #[.string nm, .int .i64 fr, .int .i64 tt, .int .i64 mo, .int .i64 zk, .int .i64 d, .int .i64 n0, .int .i64 at', .int .i64 by', .int .i64 sv, .string lt] 42)) w2.heap.size 42 11 RuD.cells (.slice Ar p.rs.length cr) p.rs) := Q5.out.rs.gr NBX.out.1
                have HB6 := Lib.hid (bheap_gr NBX.out.1 Q5.out.blk)
                have LE6 : Hid (w2.heap.size ≤ (w5.alloc (.cells #[.string nm, .int .i64 fr, .int .i64 tt, .int .i64 mo, .int .i64 zk, .int .i64 d, .int .i64 n0, .int .i64 at', .int .i64 by', .int .i64 sv, .string lt] 42)).heap.size) := Nat.le_trans Q5.out.le (Below.size NBX.out.1)
                go_wp2_with (first | (refine wpList_build1 _ _ _ (by rfl) (bs_rule w5 nm lt fr tt mo zk d n0 at' by' sv) ?_) | (at_builtin; refine wpList_append_lies _ (by rfl) _ _ 22 (by rfl) w2.heap.size 42 ir (.agg #[.string .empty, .int .i64 0, .int .i64 0, .int .i64 0, .int .i64 0, .int .i64 0, .int .i64 0, .int .i64 0, .int .i64 0, .int .i64 0, .string .empty]) 11 104 Tryz.underlying22 R1.out R2.out R3.out R4.out (by rfl) (by omega) (.slice Ar p.rs.length cr) p.rs.length (p.rs.flatMap RuD.cells) (by rfl) OW.out ⟨w5.heap.size, 0, none⟩ 1 1 [.string nm, .int .i64 fr, .int .i64 tt, .int .i64 mo, .int .i64 zk, .int .i64 d, .int .i64 n0, .int .i64 at', .int .i64 by', .int .i64 sv, .string lt] (by rfl) (by rfl) (World.news_of_block NBX.out.2) (ru_one ⟨nm, fr, tt, mo, zk, d, n0, at', by', sv, lt⟩) (by omega) (by have := NR.out; unfold maxLen; omega) (by have := NR.out; omega) LE6.out (w5.heap.size + 1) (by simp) ?_; intro g cap w6 hown hgrow hat hltg; have HB7 := Lib.hid ((hgrow.block (w.heap.size + 1) (Nat.lt_of_lt_of_le Q5.out.lt LE6.out) (pb_ne OW.out Q5.out.lt)).trans HB6.out); have zc : w6.cell? ⟨w.heap.size + 1, 0, none⟩ = some (.slice Ar p.rs.length cr) := bcell_row HB7.out rfl; have fz : w6.frozen? ⟨w.heap.size + 1, 0, none⟩ = false := by simp [World.frozen?, HB7.out]))
                have FIN := Lib.hid (QAt.addRule (r := ⟨nm, fr, tt, mo, zk, d, n0, at', by', sv, lt⟩) Q4.out (G45.out.trans NBX.out.1) (own_more rfl hown) hgrow RI.out)
                clear hown hgrow hat zc fz HB7 OW HB6 LE6 NBX
                generalize w6.setCell ⟨w.heap.size + 1, 0, none⟩ (.slice (some ⟨g, 0, none⟩) (p.rs.length + 1) cap) = w7 at FIN ⊢
                clear y0 y1 y2 d0 d1 d2 d3 d4 d5 d6 d7 d8 d9 d10
                have OT : Hid (decide (p.st = 1) = decide (({ p with rs := p.rs ++ [⟨nm, fr, tt, mo, zk, d, n0, at', by', sv, lt⟩] } : BkS).st = 1)) := rfl
                have TCF := Lib.hid (TC4.out.trans FIN.out.2)
                go_meet
                exact ⟨true, rfl, (fun _ => ⟨{ p with rs := p.rs ++ [⟨nm, fr, tt, mo, zk, d, n0, at', by', sv, lt⟩] }, SQ.out, (by show _ = Value.bool (decide (p.st = 1)); rw [h0]; rfl), ⟨_, _, _, _, FIN.out.1⟩⟩), (fun h => by cases h), TCF.out⟩
              · have t0 : ((zs.length : Int) + (p.ls.length : Int) == 0) = false := beqF (by have hne : ¬ (zs.length + p.ls.length = 0) := fun e => h0 (EQ0.out.2 e); omega)
                have SN : Hid (stepB p x = none) := by unfold Hid; rw [SS.out, if_neg h0]
                have NBX := Lib.hid (box_one w5 (.cells #[.string nm, .int .i64 fr, .int .i64 tt, .int .i64 mo, .int .i64 zk, .int .i64 d, .int .i64 n0, .int .i64 at', .int .i64 by', .int .i64 sv, .string lt] 42))
                have OW : Hid (Own (w5.alloc (.cells #[.string nm, .int .i64 fr, .int .i64 tt, .int .i64 mo, .int .i64 zk, .int .i64 d, .int .i64 n0, .int .i64 at', .int .i64 by', .int .i64 sv, .string lt] 42)) w2.heap.size 42 11 RuD.cells (.slice Ar p.rs.length cr) p.rs) := Q5.out.rs.gr NBX.out.1
                have HB6 := Lib.hid (bheap_gr NBX.out.1 Q5.out.blk)
                have LE6 : Hid (w2.heap.size ≤ (w5.alloc (.cells #[.string nm, .int .i64 fr, .int .i64 tt, .int .i64 mo, .int .i64 zk, .int .i64 d, .int .i64 n0, .int .i64 at', .int .i64 by', .int .i64 sv, .string lt] 42)).heap.size) := Nat.le_trans Q5.out.le (Below.size NBX.out.1)
                go_wp2_with (first | (refine wpList_build1 _ _ _ (by rfl) (bs_rule w5 nm lt fr tt mo zk d n0 at' by' sv) ?_) | (at_builtin; refine wpList_append_lies _ (by rfl) _ _ 22 (by rfl) w2.heap.size 42 ir (.agg #[.string .empty, .int .i64 0, .int .i64 0, .int .i64 0, .int .i64 0, .int .i64 0, .int .i64 0, .int .i64 0, .int .i64 0, .int .i64 0, .string .empty]) 11 104 Tryz.underlying22 R1.out R2.out R3.out R4.out (by rfl) (by omega) (.slice Ar p.rs.length cr) p.rs.length (p.rs.flatMap RuD.cells) (by rfl) OW.out ⟨w5.heap.size, 0, none⟩ 1 1 [.string nm, .int .i64 fr, .int .i64 tt, .int .i64 mo, .int .i64 zk, .int .i64 d, .int .i64 n0, .int .i64 at', .int .i64 by', .int .i64 sv, .string lt] (by rfl) (by rfl) (World.news_of_block NBX.out.2) (ru_one ⟨nm, fr, tt, mo, zk, d, n0, at', by', sv, lt⟩) (by omega) (by have := NR.out; unfold maxLen; omega) (by have := NR.out; omega) LE6.out (w5.heap.size + 1) (by simp) ?_; intro g cap w6 hown hgrow hat hltg; have HB7 := Lib.hid ((hgrow.block (w.heap.size + 1) (Nat.lt_of_lt_of_le Q5.out.lt LE6.out) (pb_ne OW.out Q5.out.lt)).trans HB6.out); have zc : w6.cell? ⟨w.heap.size + 1, 0, none⟩ = some (.slice Ar p.rs.length cr) := bcell_row HB7.out rfl; have fz : w6.frozen? ⟨w.heap.size + 1, 0, none⟩ = false := by simp [World.frozen?, HB7.out]))
                have FIN := Lib.hid (QAt.addRule (r := ⟨nm, fr, tt, mo, zk, d, n0, at', by', sv, lt⟩) Q4.out (G45.out.trans NBX.out.1) (own_more rfl hown) hgrow RI.out)
                clear hown hgrow hat zc fz HB7 OW HB6 LE6 NBX
                generalize w6.setCell ⟨w.heap.size + 1, 0, none⟩ (.slice (some ⟨g, 0, none⟩) (p.rs.length + 1) cap) = w7 at FIN ⊢
                clear y0 y1 y2 d0 d1 d2 d3 d4 d5 d6 d7 d8 d9 d10
                have TCF := Lib.hid (TC4.out.trans FIN.out.2)
                skip
                go_meet
                exact ⟨false, rfl, (fun h => by cases h), (fun _ => SN.out), TCF.out⟩
        obtain ⟨r1, r2⟩ := word_no hR
        have r1' : ¬ x0 = ⟨#[114, 117, 108, 101]⟩ := r1
        have r2' : (x0.toList == [114, 117, 108, 101]) = false := r2
        by_cases hZ : x0.toList = wZone
        · as_aux_lemma =>
            have SZO := Lib.hid (SZO0.out hZ)
            clear SRU0 SZO0 SER0 SLI0 SNO r1 r2 r1' r2' hR
            obtain rfl : x0 = ⟨#[122, 111, 110, 101]⟩ := by rw [S_of x0, hZ]; rfl
            have y2 : w3.cell? ⟨w.heap.size + 1, 2, none⟩ = some (.slice Al p.ls.length cl) := bcell_row HB3.out rfl
            by_cases h2 : LW = 2
            case neg =>
              have t2 : ((LW : Int) == 2) = false := beqF (by omega)
              go_wp2_with fail
              go_meet
              exact ⟨false, rfl, (fun h => by cases h), (fun _ => (by rw [SZO.out, if_neg (fun h => h2 h.1)])), TC3.out⟩
            subst h2
            have t2 : ((2 : Int) == 2) = true := by decide
            by_cases h1 : p.st = 1
            case pos =>
              have o1 := decide_eq_true h1
              go_wp2_with fail
              go_meet
              exact ⟨false, rfl, (fun h => by cases h), (fun _ => (by rw [SZO.out, if_neg (fun h => by have := h.2; omega)])), TC3.out⟩
            have o1 := dec_no h1
            by_cases h3 : p.ls.length = 0
            case neg =>
              have t3 : ((p.ls.length : Int) == 0) = false := beqF (by omega)
              go_wp2_with fail
              go_meet
              exact ⟨false, rfl, (fun h => by cases h), (fun _ => (by rw [SZO.out, if_neg (fun h => by have := EQ3.out; omega)])), TC3.out⟩
            have t3 : ((p.ls.length : Int) == 0) = true := beqT (by omega)
            have SQ : Hid (stepB p x = some { p with zs := p.zs ++ [(wd x 1, [])], st := 1 }) := by unfold Hid; rw [SZO.out, if_pos ⟨rfl, by have := EQ3.out; have := ST3.out; omega⟩]
            have K1 := Lib.hid (HWD.out 1 (by omega))
            go_wp2_with fail
            clear y2 t2 t3 c1
            refine wp_region_noPanic ?_
            refine till_start 9 (fun wx => wx.heap[w.heap.size + 1]? = some (.cells #[.slice Ar p.rs.length cr, .slice Az zs.length cz, .slice Al p.ls.length cl] 26 (0, 0)) ∧ wx.cell? ⟨gw, 1, none⟩ = some (.string (wd x 1))) (by kernel_rfl) ⟨HB3.out, K1.out⟩ (fun hHeld => ?_)
            (try dsimp only at hHeld)
            have G3d := Lib.hid (Gr.drew w3)
            generalize w3.drew = w4 at hHeld G3d ⊢
            refine till_take (i := 0) (oi := { dst := some 82, op := _, type := _, pos := _, after := _, guard := _ }) (v := ?v1) rfl (by kernel_rfl) (by kernel_rfl) (by kernel_rfl) (by kernel_rfl) (fun _ _ _ h => h) (Or.inl ⟨by rfl, ?hy1⟩) (by assumption) ?rest1
            case hy1 => (intro w hSw; go_simp <;> (with_reducible rfl))
            (try simp only [Act.put, List.setIfInBounds_toArray, List.set_cons_zero, List.set_cons_succ])
            refine till_take (i := 1) (oi := { dst := some 83, op := _, type := _, pos := _, after := _, guard := _ }) (v := ?v2) rfl (by kernel_rfl) (by kernel_rfl) (by kernel_rfl) (by kernel_rfl) (fun _ _ _ h => h) (Or.inl ⟨by rfl, ?hy2⟩) (by assumption) ?rest2
            case hy2 => (intro w hSw; have c0 := bcell_row (i := 1) hSw.1 rfl; go_simp <;> (with_reducible rfl))
            (try simp only [Act.put, List.setIfInBounds_toArray, List.set_cons_zero, List.set_cons_succ])
            refine till_take (i := 2) (oi := { dst := some 84, op := _, type := _, pos := _, after := _, guard := _ }) (v := ?v3) rfl (by kernel_rfl) (by kernel_rfl) (by kernel_rfl) (by kernel_rfl) (fun _ _ _ h => h) (Or.inl ⟨by rfl, ?hy3⟩) (by assumption) ?rest3
            case hy3 => (intro w hSw; go_simp <;> (with_reducible rfl))
            (try simp only [Act.put, List.setIfInBounds_toArray, List.set_cons_zero, List.set_cons_succ])
            refine till_take (i := 3) (oi := { dst := some 85, op := _, type := _, pos := _, after := _, guard := _ }) (v := ?v4) rfl (by kernel_rfl) (by kernel_rfl) (by kernel_rfl) (by kernel_rfl) (fun _ _ _ h => h) (Or.inl ⟨by rfl, ?hy4⟩) (by assumption) ?rest4
            case hy4 => (intro w hSw; go_simp <;> (with_reducible rfl))
            (try simp only [Act.put, List.setIfInBounds_toArray, List.set_cons_zero, List.set_cons_succ])
            refine till_take (i := 4) (oi := { dst := some 86, op := _, type := _, pos := _, after := _, guard := _ }) (v := ?v5) rfl (by kernel_rfl) (by kernel_rfl) (by kernel_rfl) (by kernel_rfl) (fun _ _ _ h => h) (Or.inl ⟨by rfl, ?hy5⟩) (by assumption) ?rest5
            case hy5 => (intro w hSw; have c1 := hSw.2; go_simp <;> (with_reducible rfl))
            (try simp only [Act.put, List.setIfInBounds_toArray, List.set_cons_zero, List.set_cons_succ])
            refine till_take (i := 5) (oi := { dst := some 87, op := _, type := _, pos := _, after := _, guard := _ }) (v := ?v6) rfl (by kernel_rfl) (by kernel_rfl) (by kernel_rfl) (by kernel_rfl) (fun _ _ _ h => h) (Or.inl ⟨by rfl, ?hy6⟩) (by assumption) ?rest6
            case hy6 => (intro w hSw; go_simp <;> (with_reducible rfl))
            (try simp only [Act.put, List.setIfInBounds_toArray, List.set_cons_zero, List.set_cons_succ])
            have HNB := Lib.hid (box_one w4 (.cells #[.string (wd x 1), .slice none 0 0] 47))
            refine till_one (i := 6) (by kernel_rfl) rfl (fun K hK => ?_)
            refine step_build1 23 _ _ _ _ (by rfl) rfl (by rfl) (bs_zone w4 (wd x 1)) ?_
            refine hK.out _ _ (Or.inr ⟨bheap_gr HNB.out.1 hHeld.1, HNB.out.1.holds hHeld.2⟩) ?_
            clear hK K
            (try simp only [Act.put, List.setIfInBounds_toArray, List.set_cons_zero, List.set_cons_succ])
            generalize w4.alloc (.cells #[.string (wd x 1), .slice none 0 0] 47) = w5 at HNB ⊢
            generalize w4.heap.size = q5 at HNB ⊢
            have G5 := Lib.hid (G3d.out.trans HNB.out.1)
            have Q5 := Lib.hid (Q.out.gr G5.out)
            have OW := Lib.hid (Q5.out.zr)
            have NB2 := Lib.hid HNB.out.2
            have J1 := Lib.hid (HNB.out.1.holds hHeld.2)
            clear HNB hHeld
            refine till_one (i := 7) (by kernel_rfl) rfl (fun K hK => ?_)
            (refine step_append_lies _ (by rfl) _ _ 23 (by rfl) w2.heap.size 47 iz (.agg #[.string .empty, .slice none 0 0]) 2 40 Tryz.underlying23 Z1.out Z2.out Z3.out Z4.out (by rfl) (by omega) (.slice Az zs.length cz) zs.length (zs.flatMap ZonD.cells) (by rfl) OW.out ⟨q5, 0, none⟩ 1 1 [.string (wd x 1), .slice none 0 0] (by rfl) (by rfl) (World.news_of_block NB2.out) (zo_one ⟨wd x 1, none, 0, []⟩) (by omega) (by have := NZ.out; unfold maxLen; omega) (by have := NZ.out; omega) Q5.out.le w5.heap.size rfl ?_)
            intro g cap w6 hown hgrow hat hltg
            refine hK.out _ _ (Or.inr ⟨(hgrow.block (w.heap.size + 1) (Nat.lt_of_lt_of_le Q5.out.lt Q5.out.le) (pb_ne OW.out Q5.out.lt)).trans Q5.out.blk, (World.cell?_of_block (hgrow.block gw (World.block_lt_of_cell? _ _ J1.out) GNEZ.out)).trans J1.out⟩) ?_
            clear hK K
            (try simp only [Act.put, List.setIfInBounds_toArray, List.set_cons_zero, List.set_cons_succ])
            have HB6 := Lib.hid ((hgrow.block (w.heap.size + 1) (Nat.lt_of_lt_of_le Q5.out.lt Q5.out.le) (pb_ne OW.out Q5.out.lt)).trans Q5.out.blk)
            have M1 := Lib.hid ((World.cell?_of_block (hgrow.block gw (World.block_lt_of_cell? _ _ J1.out) GNEZ.out)).trans J1.out)
            have FIN := Lib.hid (QAt.addZone (nm := wd x 1) Q.out G5.out (own_more rfl hown) hgrow S1.out)
            clear hown hgrow hat hltg OW NB2 J1
            refine till_one (i := 8) (by kernel_rfl) rfl (fun K hK => ?_)
            go_simp
            refine hK.out _ _ (Or.inr ⟨HB6.out, M1.out⟩) ?_
            clear hK K
            (try simp only [Act.put, List.setIfInBounds_toArray, List.set_cons_zero, List.set_cons_succ])
            have zc : w6.cell? ⟨w.heap.size + 1, 1, none⟩ = some (.slice Az zs.length cz) := bcell_row HB6.out rfl
            have fz : w6.frozen? ⟨w.heap.size + 1, 1, none⟩ = false := by simp [World.frozen?, HB6.out]
            refine till_one (i := 9) (by kernel_rfl) rfl (fun K hK => ?_)
            go_simp
            refine hK.out _ _ (Or.inl (by kernel_rfl)) ?_
            clear hK K
            (try simp only [Act.put, List.setIfInBounds_toArray, List.set_cons_zero, List.set_cons_succ])
            clear zc fz HB6 M1
            generalize w6.setCell ⟨w.heap.size + 1, 1, none⟩ (.slice (some ⟨g, 0, none⟩) (zs.length + 1) cap) = w7 at FIN ⊢
            refine till_done (by kernel_rfl) ?_ _
            refine NoPanic.normal ?_
            have TCF := Lib.hid (TC3.out.trans FIN.out.2)
            go_wp2_with fail
            go_meet
            exact ⟨true, rfl, (fun _ => ⟨{ p with zs := p.zs ++ [(wd x 1, [])], st := 1 }, SQ.out, rfl, ⟨_, _, _, _, FIN.out.1⟩⟩), (fun h => by cases h), TCF.out⟩
        obtain ⟨z1, z2⟩ := word_no hZ
        have z1' : ¬ x0 = ⟨#[122, 111, 110, 101]⟩ := z1
        have z2' : (x0.toList == [122, 111, 110, 101]) = false := z2
        by_cases hL : x0.toList = wLink
        · as_aux_lemma =>
            have SLI := Lib.hid (SLI0.out hL)
            clear SRU0 SZO0 SER0 SLI0 SNO r1 r2 r1' r2' hR z1 z2 z1' z2' hZ
            obtain rfl : x0 = ⟨#[108, 105, 110, 107]⟩ := by rw [S_of x0, hL]; rfl
            by_cases h3 : LW = 3
            case neg =>
              have t3 : ((LW : Int) == 3) = false := beqF (by omega)
              go_wp2_with fail
              go_meet
              exact ⟨false, rfl, (fun h => by cases h), (fun _ => (by rw [SLI.out, if_neg (fun h => h3 h.1)])), TC3.out⟩
            subst h3
            have t3 : ((3 : Int) == 3) = true := by decide
            by_cases h1 : p.st = 1
            case pos =>
              have o1 := decide_eq_true h1
              go_wp2_with fail
              go_meet
              exact ⟨false, rfl, (fun h => by cases h), (fun _ => (by rw [SLI.out, if_neg (fun h => h.2 h1)])), TC3.out⟩
            have o1 := dec_no h1
            have SQ : Hid (stepB p x = some { p with ls := p.ls ++ [⟨wd x 1, wd x 2⟩], st := 3 }) := by unfold Hid; rw [SLI.out, if_pos ⟨rfl, h1⟩]
            have K1 := Lib.hid (HWD.out 1 (by omega))
            have K2 := Lib.hid (HWD.out 2 (by omega))
            go_wp2_with fail
            clear t3 c1
            refine wp_region_noPanic ?_
            refine till_start 12 (fun wx => wx.heap[w.heap.size + 1]? = some (.cells #[.slice Ar p.rs.length cr, .slice Az zs.length cz, .slice Al p.ls.length cl] 26 (0, 0)) ∧ wx.cell? ⟨gw, 1, none⟩ = some (.string (wd x 1)) ∧ wx.cell? ⟨gw, 2, none⟩ = some (.string (wd x 2))) (by kernel_rfl) ⟨HB3.out, K1.out, K2.out⟩ (fun hHeld => ?_)
            (try dsimp only at hHeld)
            have G3d := Lib.hid (Gr.drew w3)
            generalize w3.drew = w4 at hHeld G3d ⊢
            refine till_take (i := 0) (oi := { dst := some 101, op := _, type := _, pos := _, after := _, guard := _ }) (v := ?v7) rfl (by kernel_rfl) (by kernel_rfl) (by kernel_rfl) (by kernel_rfl) (fun _ _ _ h => h) (Or.inl ⟨by rfl, ?hy7⟩) (by assumption) ?rest7
            case hy7 => (intro w hSw; go_simp <;> (with_reducible rfl))
            (try simp only [Act.put, List.setIfInBounds_toArray, List.set_cons_zero, List.set_cons_succ])
            refine till_take (i := 1) (oi := { dst := some 102, op := _, type := _, pos := _, after := _, guard := _ }) (v := ?v8) rfl (by kernel_rfl) (by kernel_rfl) (by kernel_rfl) (by kernel_rfl) (fun _ _ _ h => h) (Or.inl ⟨by rfl, ?hy8⟩) (by assumption) ?rest8
            case hy8 => (intro w hSw; have c0 := bcell_row (i := 2) hSw.1 rfl; go_simp <;> (with_reducible rfl))
            (try simp only [Act.put, List.setIfInBounds_toArray, List.set_cons_zero, List.set_cons_succ])
            refine till_take (i := 2) (oi := { dst := some 103, op := _, type := _, pos := _, after := _, guard := _ }) (v := ?v9) rfl (by kernel_rfl) (by kernel_rfl) (by kernel_rfl) (by kernel_rfl) (fun _ _ _ h => h) (Or.inl ⟨by rfl, ?hy9⟩) (by assumption) ?rest9
            case hy9 => (intro w hSw; go_simp <;> (with_reducible rfl))
            (try simp only [Act.put, List.setIfInBounds_toArray, List.set_cons_zero, List.set_cons_succ])
            refine till_take (i := 3) (oi := { dst := some 104, op := _, type := _, pos := _, after := _, guard := _ }) (v := ?v10) rfl (by kernel_rfl) (by kernel_rfl) (by kernel_rfl) (by kernel_rfl) (fun _ _ _ h => h) (Or.inl ⟨by rfl, ?hy10⟩) (by assumption) ?rest10
            case hy10 => (intro w hSw; go_simp <;> (with_reducible rfl))
            (try simp only [Act.put, List.setIfInBounds_toArray, List.set_cons_zero, List.set_cons_succ])
            refine till_take (i := 4) (oi := { dst := some 105, op := _, type := _, pos := _, after := _, guard := _ }) (v := ?v11) rfl (by kernel_rfl) (by kernel_rfl) (by kernel_rfl) (by kernel_rfl) (fun _ _ _ h => h) (Or.inl ⟨by rfl, ?hy11⟩) (by assumption) ?rest11
            case hy11 => (intro w hSw; have c1 := hSw.2.1; go_simp <;> (with_reducible rfl))
            (try simp only [Act.put, List.setIfInBounds_toArray, List.set_cons_zero, List.set_cons_succ])
            refine till_take (i := 5) (oi := { dst := some 106, op := _, type := _, pos := _, after := _, guard := _ }) (v := ?v12) rfl (by kernel_rfl) (by kernel_rfl) (by kernel_rfl) (by kernel_rfl) (fun _ _ _ h => h) (Or.inl ⟨by rfl, ?hy12⟩) (by assumption) ?rest12
            case hy12 => (intro w hSw; go_simp <;> (with_reducible rfl))
            (try simp only [Act.put, List.setIfInBounds_toArray, List.set_cons_zero, List.set_cons_succ])
            refine till_take (i := 6) (oi := { dst := some 107, op := _, type := _, pos := _, after := _, guard := _ }) (v := ?v13) rfl (by kernel_rfl) (by kernel_rfl) (by kernel_rfl) (by kernel_rfl) (fun _ _ _ h => h) (Or.inl ⟨by rfl, ?hy13⟩) (by assumption) ?rest13
            case hy13 => (intro w hSw; go_simp <;> (with_reducible rfl))
            (try simp only [Act.put, List.setIfInBounds_toArray, List.set_cons_zero, List.set_cons_succ])
            refine till_take (i := 7) (oi := { dst := some 108, op := _, type := _, pos := _, after := _, guard := _ }) (v := ?v14) rfl (by kernel_rfl) (by kernel_rfl) (by kernel_rfl) (by kernel_rfl) (fun _ _ _ h => h) (Or.inl ⟨by rfl, ?hy14⟩) (by assumption) ?rest14
            case hy14 => (intro w hSw; have c2 := hSw.2.2; go_simp <;> (with_reducible rfl))
            (try simp only [Act.put, List.setIfInBounds_toArray, List.set_cons_zero, List.set_cons_succ])
            refine till_take (i := 8) (oi := { dst := some 109, op := _, type := _, pos := _, after := _, guard := _ }) (v := ?v15) rfl (by kernel_rfl) (by kernel_rfl) (by kernel_rfl) (by kernel_rfl) (fun _ _ _ h => h) (Or.inl ⟨by rfl, ?hy15⟩) (by assumption) ?rest15
            case hy15 => (intro w hSw; go_simp <;> (with_reducible rfl))
            (try simp only [Act.put, List.setIfInBounds_toArray, List.set_cons_zero, List.set_cons_succ])
            have HNB := Lib.hid (box_one w4 (.cells #[.string (wd x 1), .string (wd x 2)] 49))
            refine till_one (i := 9) (by kernel_rfl) rfl (fun K hK => ?_)
            refine step_build1 24 _ _ _ _ (by rfl) rfl (by rfl) (bs_link w4 (wd x 1) (wd x 2)) ?_
            refine hK.out _ _ (Or.inr ⟨bheap_gr HNB.out.1 hHeld.1, HNB.out.1.holds hHeld.2.1, HNB.out.1.holds hHeld.2.2⟩) ?_
            clear hK K
            (try simp only [Act.put, List.setIfInBounds_toArray, List.set_cons_zero, List.set_cons_succ])
            generalize w4.alloc (.cells #[.string (wd x 1), .string (wd x 2)] 49) = w5 at HNB ⊢
            generalize w4.heap.size = q5 at HNB ⊢
            have G5 := Lib.hid (G3d.out.trans HNB.out.1)
            have Q5 := Lib.hid (Q.out.gr G5.out)
            have OW := Lib.hid (Q5.out.lr)
            have NB2 := Lib.hid HNB.out.2
            have J1 := Lib.hid (HNB.out.1.holds hHeld.2.1)
            have J2 := Lib.hid (HNB.out.1.holds hHeld.2.2)
            clear HNB hHeld
            refine till_one (i := 10) (by kernel_rfl) rfl (fun K hK => ?_)
            (refine step_append_lies _ (by rfl) _ _ 24 (by rfl) w2.heap.size 49 il (.agg #[.string .empty, .string .empty]) 2 32 Tryz.underlying24 L1.out L2.out L3.out L4.out (by rfl) (by omega) (.slice Al p.ls.length cl) p.ls.length (p.ls.flatMap LinD.cells) (by rfl) OW.out ⟨q5, 0, none⟩ 1 1 [.string (wd x 1), .string (wd x 2)] (by rfl) (by rfl) (World.news_of_block NB2.out) (li_one ⟨wd x 1, wd x 2⟩) (by omega) (by have := NL.out; unfold maxLen; omega) (by have := NL.out; omega) Q5.out.le w5.heap.size rfl ?_)
            intro g cap w6 hown hgrow hat hltg
            refine hK.out _ _ (Or.inr ⟨(hgrow.block (w.heap.size + 1) (Nat.lt_of_lt_of_le Q5.out.lt Q5.out.le) (pb_ne OW.out Q5.out.lt)).trans Q5.out.blk, (World.cell?_of_block (hgrow.block gw (World.block_lt_of_cell? _ _ J1.out) GNEL.out)).trans J1.out, (World.cell?_of_block (hgrow.block gw (World.block_lt_of_cell? _ _ J2.out) GNEL.out)).trans J2.out⟩) ?_
            clear hK K
            (try simp only [Act.put, List.setIfInBounds_toArray, List.set_cons_zero, List.set_cons_succ])
            have HB6 := Lib.hid ((hgrow.block (w.heap.size + 1) (Nat.lt_of_lt_of_le Q5.out.lt Q5.out.le) (pb_ne OW.out Q5.out.lt)).trans Q5.out.blk)
            have M1 := Lib.hid ((World.cell?_of_block (hgrow.block gw (World.block_lt_of_cell? _ _ J1.out) GNEL.out)).trans J1.out)
            have M2 := Lib.hid ((World.cell?_of_block (hgrow.block gw (World.block_lt_of_cell? _ _ J2.out) GNEL.out)).trans J2.out)
            have FIN := Lib.hid (QAt.addLink (r := ⟨wd x 1, wd x 2⟩) Q.out G5.out (own_more rfl hown) hgrow ⟨S1.out, S2.out⟩)
            clear hown hgrow hat hltg OW NB2 J1 J2
            refine till_one (i := 11) (by kernel_rfl) rfl (fun K hK => ?_)
            go_simp
            refine hK.out _ _ (Or.inr ⟨HB6.out, M1.out, M2.out⟩) ?_
            clear hK K
            (try simp only [Act.put, List.setIfInBounds_toArray, List.set_cons_zero, List.set_cons_succ])
            have zc : w6.cell? ⟨w.heap.size + 1, 2, none⟩ = some (.slice Al p.ls.length cl) := bcell_row HB6.out rfl
            have fz : w6.frozen? ⟨w.heap.size + 1, 2, none⟩ = false := by simp [World.frozen?, HB6.out]
            refine till_one (i := 12) (by kernel_rfl) rfl (fun K hK => ?_)
            go_simp
            refine hK.out _ _ (Or.inl (by kernel_rfl)) ?_
            clear hK K
            (try simp only [Act.put, List.setIfInBounds_toArray, List.set_cons_zero, List.set_cons_succ])
            clear zc fz HB6 M1 M2
            generalize w6.setCell ⟨w.heap.size + 1, 2, none⟩ (.slice (some ⟨g, 0, none⟩) (p.ls.length + 1) cap) = w7 at FIN ⊢
            refine till_done (by kernel_rfl) ?_ _
            refine NoPanic.normal ?_
            have TCF := Lib.hid (TC3.out.trans FIN.out.2)
            go_wp2_with fail
            go_meet
            exact ⟨true, rfl, (fun _ => ⟨{ p with ls := p.ls ++ [⟨wd x 1, wd x 2⟩], st := 3 }, SQ.out, rfl, ⟨_, _, _, _, FIN.out.1⟩⟩), (fun h => by cases h), TCF.out⟩
        obtain ⟨l1, l2⟩ := word_no hL
        have l1' : ¬ x0 = ⟨#[108, 105, 110, 107]⟩ := l1
        have l2' : (x0.toList == [108, 105, 110, 107]) = false := l2
        by_cases hE : x0.toList = wEra
        · as_aux_lemma =>
            have SER := Lib.hid (SER0.out hE)
            clear SRU0 SZO0 SER0 SLI0 SNO r1 r2 r1' r2' hR z1 z2 z1' z2' hZ l1 l2 l1' l2' hL
            obtain rfl : x0 = ⟨#[101, 114, 97]⟩ := by rw [S_of x0, hE]; rfl
            by_cases h1 : p.st = 1
            case neg =>
              have o1 := dec_no h1
              go_wp2_with fail
              go_meet
              exact ⟨false, rfl, (fun h => by cases h), (fun _ => (by rw [SER.out, if_neg (fun h => h1 h.2.1)])), TC3.out⟩
            have o1 := decide_eq_true h1
            go_wp2_with fail
            clear c1
            by_cases h45 : LW = 4 ∨ LW = 5
            case neg =>
              have KO := routside (LW : Int) 4 5 w3
              rw [decide_eq_true (p := ¬ ((4 : Int) ≤ (LW : Int) ∧ (LW : Int) ≤ 5)) (by omega)] at KO
              refine KO.mono ?_
              rintro e w3' ⟨rfl, rfl⟩
              go_wp2_with fail
              go_meet
              exact ⟨false, rfl, (fun h => by cases h), (fun _ => (by rw [SER.out, if_neg (fun h => h45 h.1)])), TC3.out⟩
            have KO := routside (LW : Int) 4 5 w3
            rw [decide_eq_false (p := ¬ ((4 : Int) ≤ (LW : Int) ∧ (LW : Int) ≤ 5)) (by omega)] at KO
            refine KO.mono ?_
            rintro e w3' ⟨rfl, rfl⟩
            clear KO
            have lw4 : 4 ≤ LW := by omega
            have i1 : (1 : Int) < (LW : Int) := by omega
            have i2 : (2 : Int) < (LW : Int) := by omega
            have i3 : (3 : Int) < (LW : Int) := by omega
            have K1 := Lib.hid (HWD.out 1 (by omega))
            have K2 := Lib.hid (HWD.out 2 (by omega))
            have K3 := HWD.out 3 (by omega)
            have hxs := HXS.out
            have z1s : (wd x 1).size ≤ 1048576 := Nat.le_trans (wd_size 1) (by omega)
            have z2s : (wd x 2).size ≤ 1048576 := Nat.le_trans (wd_size 2) (by omega)
            have z4s : (wd x 4).size ≤ 1048576 := Nat.le_trans (wd_size 4) (by omega)
            have KA0 := fun W (h : W.cell? ⟨0, 0, none⟩ = some (.int .i64 mx)) => (rspanRead (wd x 1) mx W z1s h).mono (fun e w' q => (⟨spanV_ans q.1, q.2⟩ : e = two (spanV (wd x 1).toList).1 (spanV (wd x 1).toList).2 ∧ Gr W w'))
            have KS0 := fun W (h : W.cell? ⟨0, 0, none⟩ = some (.int .i64 mx)) => (rspanRead (S (Lib.trimPrefix (wd x 2).toList [45])) mx W (by rw [S_size]; have := trim_max hxs; have q : (Lib.trimPrefix (wd x 2).toList [45]).length ≤ (wd x 2).toList.length := (by unfold Lib.trimPrefix; split <;> simp); rw [← size_toList] at q; omega) h).mono (fun e w' q => (⟨spanV_ans q.1, q.2⟩ : e = two (spanV (S (Lib.trimPrefix (wd x 2).toList [45])).toList).1 (spanV (S (Lib.trimPrefix (wd x 2).toList [45])).toList).2 ∧ Gr W w'))
            rw [S_toList] at KS0
            have KT0 := fun W => (rstampRead (wd x 4) W (Nat.le_trans z4s (by decide))).mono (fun e w' q => (⟨q.1.trans (stmpV_ans _), q.2⟩ : e = two (stmpV (wd x 4).toList).1 (stmpV (wd x 4).toList).2 ∧ Gr W w'))
            have KN0 := fun W => isName_any (wd x 2) W (Nat.le_trans z2s (by decide))
            have KP0 := fun W => prefix_any (wd x 2) ⟨#[45]⟩ W
            rw [data_toList, show (ByteArray.mk #[45]).data.toList = [45] from rfl] at KP0
            have TE := Lib.hid (fun h => trim_ext (x := wd x 2) h)
            have PE : Hid (Lib.hasPrefix (wd x 2).toList [45] = true → (1 : Int) ≤ ((wd x 2).size : Int)) := fun h => by have := pre_len h; omega
            have EI := Lib.hid (eraR_in hxs)
            have FE0 : eraR x = (⟨(spanV (wd x 1).toList).1, if Lib.hasPrefix (wd x 2).toList [45] = true then ByteArray.mk #[] else wd x 2, if Lib.hasPrefix (wd x 2).toList [45] = true then (spanV (Lib.trimPrefix (wd x 2).toList [45])).1 else 0, wd x 3, if decide (LW = 5) = true then (stmpV (wd x 4).toList).1 else 0⟩, ((spanV (wd x 1).toList).2 == 0) && (if Lib.hasPrefix (wd x 2).toList [45] = true then (spanV (Lib.trimPrefix (wd x 2).toList [45])).2 == 0 else isNameB (wd x 2).toList) && (if decide (LW = 5) = true then (stmpV (wd x 4).toList).2 == 0 else true)) := by unfold eraR; rw [BLW.out]
            generalize spanV (wd x 1).toList = av at KA0 FE0
            obtain ⟨a1, a2⟩ := av
            generalize spanV (Lib.trimPrefix (wd x 2).toList [45]) = sv at KS0 FE0
            obtain ⟨s1, s2⟩ := sv
            generalize stmpV (wd x 4).toList = uv at KT0 FE0
            obtain ⟨u1, u2⟩ := uv
            generalize isNameB (wd x 2).toList = bn at KN0 FE0
            simp only at KA0 KS0 KT0 FE0
            have KA := Lib.hid KA0
            have KS := Lib.hid KS0
            have KT := Lib.hid KT0
            have KN := Lib.hid KN0
            have KP := Lib.hid KP0
            have FE := Lib.hid FE0
            clear KA0 KS0 KT0 KN0 KP0 FE0 z1s z4s z2s hxs
            have BE := Lib.hid (box_one w3 (.cells #[.int .i64 0, .string ⟨#[]⟩, .int .i64 0, .string (wd x 3), .int .i64 0] 52))
            go_upto_region 31 with fail
            generalize w3.alloc (.cells #[.int .i64 0, .string ⟨#[]⟩, .int .i64 0, .string (wd x 3), .int .i64 0] 52) = w4 at BE ⊢
            obtain ⟨xb, hxb⟩ : ∃ q, w3.heap.size = q := ⟨_, rfl⟩
            rw [hxb] at BE ⊢
            have HXB := Lib.hid hxb
            clear hxb K3
            have c1 := BE.out.1.holds K1.out
            go_wp2_with fail
            clear c1
            refine (KA.out w4 ((GR3.out.trans BE.out.1).holds HM.out)).mono ?_
            rintro e w5 ⟨rfl, g5⟩
            have G5 := Lib.hid (BE.out.1.trans g5)
            have D5 := Lib.hid (bheap_gr g5 BE.out.2)
            clear g5 BE KA
            have zc : w5.cell? ⟨xb, 0, none⟩ = some (.int .i64 0) := bcell_row D5.out rfl
            have fz : w5.frozen? ⟨xb, 0, none⟩ = false := by simp [World.frozen?, D5.out]
            have D6 := Lib.hid (blk_set (j := 0) (u := .int .i64 a1) D5.out)
            have G6 : Hid (Gr w3 (w5.setCell ⟨xb, 0, none⟩ (.int .i64 a1))) := Below.setCell G5.out (by rw [HXB.out]; exact Nat.le_refl _) _
            go_upto_region 32 with fail
            clear zc fz
            generalize w5.setCell ⟨xb, 0, none⟩ (.int .i64 a1) = w6 at D6 G6 ⊢
            have D6' : Hid (w6.heap[xb]? = some (.cells #[.int .i64 a1, .string ⟨#[]⟩, .int .i64 0, .string (wd x 3), .int .i64 0] 52 (0, 0))) := D6.out
            clear D5 G5 D6
            have c2 := G6.out.holds K2.out
            go_wp2_with fail
            clear c2
            refine (KP.out w6).mono ?_
            rintro e w6' ⟨rfl, rfl⟩
            clear KP
            obtain ⟨pf, hpf⟩ : ∃ b, Lib.hasPrefix (wd x 2).toList [45] = b := ⟨_, rfl⟩
            rw [hpf] at TE PE FE ⊢
            clear hpf
            go_upto_if 137 with fail
            go_cut [16] (fun s16 wx => s16 = .int .i64 (if pf = true then s2 else if bn = true then 0 else 3) ∧ Hid (wx.heap[xb]? = some (.cells #[.int .i64 a1, .string (if pf = true then ByteArray.mk #[] else wd x 2), .int .i64 (if pf = true then s1 else 0), .string (wd x 3), .int .i64 0] 52 (0, 0))) ∧ Hid (Gr w3 wx))
            case first =>
              cases pf with
              | true =>
                have te := TE.out rfl
                have pe := PE.out rfl
                have KS1 := KS.out
                rw [← te] at KS1
                have KS2 := Lib.hid KS1
                clear KS1 te KS KN
                have c2 := G6.out.holds K2.out
                go_wp2_with fail
                clear c2
                refine (KS2.out w6 ((GR3.out.trans G6.out).holds HM.out)).mono ?_
                rintro e w7 ⟨rfl, g7⟩
                have D7 := Lib.hid (bheap_gr g7 D6'.out)
                have zc : w7.cell? ⟨xb, 2, none⟩ = some (.int .i64 0) := bcell_row D7.out rfl
                have fz : w7.frozen? ⟨xb, 2, none⟩ = false := by simp [World.frozen?, D7.out]
                go_wp2_with fail
                go_meet
                exact ⟨rfl, blk_set (j := 2) (u := .int .i64 s1) D7.out, Below.setCell (G6.out.trans g7) (by rw [HXB.out]; exact Nat.le_refl _) _⟩
              | false =>
                have c2 := G6.out.holds K2.out
                have zc : w6.cell? ⟨xb, 1, none⟩ = some (.string ⟨#[]⟩) := bcell_row D6'.out rfl
                have fz : w6.frozen? ⟨xb, 1, none⟩ = false := by simp [World.frozen?, D6'.out]
                have D7 := Lib.hid (blk_set (j := 1) (u := .string (wd x 2)) D6'.out)
                have G7 : Hid (Gr w3 (w6.setCell ⟨xb, 1, none⟩ (.string (wd x 2)))) := Below.setCell G6.out (by rw [HXB.out]; exact Nat.le_refl _) _
                go_upto_region 35 with fail
                clear c2 zc fz
                generalize w6.setCell ⟨xb, 1, none⟩ (.string (wd x 2)) = w7 at D7 G7 ⊢
                have c2 := G7.out.holds K2.out
                go_wp2_with fail
                clear c2
                refine (KN.out w7).mono ?_
                rintro e w8 ⟨rfl, g8⟩
                have D8 := Lib.hid (bheap_gr g8 D7.out)
                have G8 := Lib.hid (G7.out.trans g8)
                cases bn
                · go_wp2_with fail
                  go_meet
                  exact ⟨rfl, D8, G8⟩
                · go_wp2_with fail
                  go_meet
                  exact ⟨rfl, D8, G8⟩
            case rest =>
              obtain ⟨rfl, DC, GC⟩ := hcut
              clear KS KN D6' G6 TE PE
              have FF : Hid (((if pf = true then s2 else if bn = true then 0 else 3 : Int) == 0) = (if pf = true then s2 == 0 else bn)) := by unfold Hid; cases pf <;> cases bn <;> rfl
              generalize (if pf = true then s2 else if bn = true then 0 else 3 : Int) = FV at FF ⊢
              have FE2 := FE.out
              rw [← FF.out] at FE2
              generalize (if pf = true then ByteArray.mk #[] else wd x 2) = RU at DC FE2
              generalize (if pf = true then s1 else 0) = SV at DC FE2
              have FE3 := Lib.hid FE2
              clear FF FE FE2
              obtain ⟨zi, z, rfl⟩ : ∃ zi z, zs = zi ++ [z] := by
                rcases List.eq_nil_or_concat zs with rfl | ⟨zi, z, rfl⟩
                · have a := OPN.out h1
                  have b := ZL.out
                  exact absurd (List.length_eq_zero_iff.1 (by rw [← b]; rfl)) a
                · exact ⟨zi, z, by rw [List.concat_eq_append]⟩
              obtain ⟨g1, rfl⟩ : ∃ g1, Az = some ⟨g1, 0, none⟩ := by
                rcases Q.out.zr.2 with ⟨_, h0⟩ | ⟨g', cap', cur', hv, _⟩
                · simp at h0
                · injection hv with hA; exact ⟨g', hA⟩
              obtain ⟨bl', b1, b2, h3, h4⟩ := Q.out.zz.last
              have B1' := Lib.hid b1
              have B2' := Lib.hid b2
              have H3' := Lib.hid h3
              have NRE : Hid (z.eras.length ≤ 100000) := NE.out z (by simp)
              have NZ2 := NZ.out
              obtain ⟨nz, hnz⟩ : ∃ n, (zi ++ [z]).length = n := ⟨_, rfl⟩
              have Q2 := Q.out
              rw [hnz] at Q2 NZ2
              have QQ := Lib.hid Q2
              have nz1 : nz ≤ zi.length + 1 := by rw [← hnz]; simp
              have nz2 : zi.length + 1 ≤ nz := by rw [← hnz]; simp
              obtain ⟨znm, zA, zc, ze⟩ := z
              have H4' : Hid (ErAt w3 bl' ⟨znm, zA, zc, ze⟩) := h4
              simp only at NRE
              have ZC : Hid (∀ W, Gr w3 W → W.cell? ⟨g1, zi.length * 2 + 1, none⟩ = some (.slice zA ze.length zc)) := fun W g => by
                obtain ⟨b, o, e, _, hc⟩ := (Own.row zo_len (QQ.out.zr.gr g)) zi.length ⟨znm, zA, zc, ze⟩ (by simp)
                injection e with e; injection e with e1 e2; subst e1; subst e2
                have := hc 1 (.slice zA ze.length zc) rfl
                simpa using this
              have ENE : Hid (some xb ≠ (Value.slice zA ze.length zc).ownBlock) := fun e => by
                have := (own_block_lt h4.1 _ e.symm).2
                have := HXB.out
                omega
              have ZNE : Hid (some g1 ≠ (Value.slice zA ze.length zc).ownBlock) := fun e => by
                rcases own_ne QQ.out.zr h4.1 (by decide) with q | q
                · cases q
                · exact q e
              have n1 : (0 : Int) ≤ (nz : Int) - 1 := by omega
              have n2 : (nz : Int) - 1 < (nz : Int) := by omega
              have n3 : ((nz : Int) - 1).toNat = zi.length := by omega
              have PB2 : Hid (∀ W, Gr w3 W → W.cell? ⟨w.heap.size + 1, 1, none⟩ = some (.slice (some ⟨g1, 0, none⟩) nz cz)) := fun W g => bcell_row (bheap_gr g QQ.out.blk) rfl
              clear hnz b1 b2 h3 h4 Q Q2 HB3 GNEZ NZ NE ZL OPN EQ0
              rcases h45 with rfl | rfl
              · as_aux_lemma =>
                  have FE4 : Hid (eraR x = (⟨a1, RU, SV, wd x 3, 0⟩, ((a2 == 0) && (FV == 0)))) := by unfold Hid; rw [FE3.out]; simp
                  have EI2 : Hid (EraD.In ⟨a1, RU, SV, wd x 3, 0⟩) := by have := EI.out; rw [FE4.out] at this; exact this
                  go_upto_region 39 with fail
                  go_cut [11] (fun s11 wx => s11 = .bool ((a2 == 0) && (FV == 0)) ∧ Hid (wx.heap[xb]? = some (.cells #[.int .i64 a1, .string RU, .int .i64 SV, .string (wd x 3), .int .i64 0] 52 (0, 0))) ∧ Hid (Gr w3 wx))
                  case first =>
                    by_cases q1 : a2 = 0
                    case neg =>
                      have p1 : (a2 == 0) = false := beqF q1
                      go_wp2_with fail
                      go_meet
                      exact ⟨by rw [p1]; rfl, DC, GC⟩
                    have p1 : (a2 == 0) = true := beqT q1
                    clear q1
                    by_cases q2 : FV = 0
                    case neg =>
                      have p2 : (FV == 0) = false := beqF q2
                      go_wp2_with fail
                      go_meet
                      exact ⟨by rw [p1, p2]; rfl, DC, GC⟩
                    have p2 : (FV == 0) = true := beqT q2
                    clear q2
                    go_wp2_with fail
                    go_meet
                    exact ⟨by rw [p1, p2]; rfl, DC, GC⟩
                  case rest =>
                    obtain ⟨rfl, DC, GC⟩ := hcut
                    have y1 := PB2.out wc GC.out
                    go_upto_region 42 with fail
                    clear y1
                    have Z3 := Lib.hid (ZC.out wc GC.out)
                    refine wp_region_noPanic ?_
                    refine till_start 10 (fun wx => wx.cell? ⟨g1, zi.length * 2 + 1, none⟩ = some (.slice zA ze.length zc) ∧ wx.heap[xb]? = some (.cells #[.int .i64 a1, .string RU, .int .i64 SV, .string (wd x 3), .int .i64 0] 52 (0, 0))) (by kernel_rfl) ⟨Z3.out, DC.out⟩ (fun hHeld => ?_)
                    (try dsimp only at hHeld)
                    have G3d := Lib.hid (GC.out.trans (Gr.drew wc))
                    generalize wc.drew = wd' at hHeld G3d ⊢
                    refine till_take (i := 0) (oi := { dst := some 187, op := _, type := _, pos := _, after := _, guard := _ }) (v := ?v16) rfl (by kernel_rfl) (by kernel_rfl) (by kernel_rfl) (by kernel_rfl) (fun _ _ _ h => h) (Or.inl ⟨by rfl, ?hy16⟩) (by assumption) ?rest16
                    case hy16 => (intro w hSw; go_simp <;> (with_reducible rfl))
                    (try simp only [Act.put, List.setIfInBounds_toArray, List.set_cons_zero, List.set_cons_succ])
                    refine till_take (i := 1) (oi := { dst := some 188, op := _, type := _, pos := _, after := _, guard := _ }) (v := ?v17) rfl (by kernel_rfl) (by kernel_rfl) (by kernel_rfl) (by kernel_rfl) (fun _ _ _ h => h) (Or.inl ⟨by rfl, ?hy17⟩) (by assumption) ?rest17
                    case hy17 => (intro w hSw; go_simp <;> (with_reducible rfl))
                    (try simp only [Act.put, List.setIfInBounds_toArray, List.set_cons_zero, List.set_cons_succ])
                    refine till_take (i := 2) (oi := { dst := some 189, op := _, type := _, pos := _, after := _, guard := _ }) (v := ?v18) rfl (by kernel_rfl) (by kernel_rfl) (by kernel_rfl) (by kernel_rfl) (fun _ _ _ h => h) (Or.inl ⟨by rfl, ?hy18⟩) (by assumption) ?rest18
                    case hy18 => (intro w hSw; go_simp <;> (with_reducible rfl))
                    (try simp only [Act.put, List.setIfInBounds_toArray, List.set_cons_zero, List.set_cons_succ])
                    refine till_take (i := 3) (oi := { dst := some 190, op := _, type := _, pos := _, after := _, guard := _ }) (v := ?v19) rfl (by kernel_rfl) (by kernel_rfl) (by kernel_rfl) (by kernel_rfl) (fun _ _ _ h => h) (Or.inl ⟨by rfl, ?hy19⟩) (by assumption) ?rest19
                    case hy19 => (intro w hSw; go_simp <;> (with_reducible rfl))
                    (try simp only [Act.put, List.setIfInBounds_toArray, List.set_cons_zero, List.set_cons_succ])
                    refine till_take (i := 4) (oi := { dst := some 191, op := _, type := _, pos := _, after := _, guard := _ }) (v := ?v20) rfl (by kernel_rfl) (by kernel_rfl) (by kernel_rfl) (by kernel_rfl) (fun _ _ _ h => h) (Or.inl ⟨by rfl, ?hy20⟩) (by assumption) ?rest20
                    case hy20 => (intro w hSw; have c0 := hSw.1; go_simp <;> (with_reducible rfl))
                    (try simp only [Act.put, List.setIfInBounds_toArray, List.set_cons_zero, List.set_cons_succ])
                    refine till_take (i := 5) (oi := { dst := some 192, op := _, type := _, pos := _, after := _, guard := _ }) (v := ?v21) rfl (by kernel_rfl) (by kernel_rfl) (by kernel_rfl) (by kernel_rfl) (fun _ _ _ h => h) (Or.inl ⟨by rfl, ?hy21⟩) (by assumption) ?rest21
                    case hy21 => (intro w hSw; have d0 := bcell_row (i := 0) hSw.2 rfl; have d1 := bcell_row (i := 1) hSw.2 rfl; have d2 := bcell_row (i := 2) hSw.2 rfl; have d3 := bcell_row (i := 3) hSw.2 rfl; have d4 := bcell_row (i := 4) hSw.2 rfl; go_simp <;> (with_reducible rfl))
                    (try simp only [Act.put, List.setIfInBounds_toArray, List.set_cons_zero, List.set_cons_succ])
                    have HNB := Lib.hid (box_one wd' (.cells #[.int .i64 a1, .string RU, .int .i64 SV, .string (wd x 3), .int .i64 0] 52))
                    refine till_one (i := 6) (by kernel_rfl) rfl (fun K hK => ?_)
                    refine step_build1 45 _ _ _ _ (by rfl) rfl (by rfl) (bs_era wd' a1 SV 0 RU (wd x 3)) ?_
                    refine hK.out _ _ (Or.inr ⟨HNB.out.1.holds hHeld.1, bheap_gr HNB.out.1 hHeld.2⟩) ?_
                    clear hK K
                    (try simp only [Act.put, List.setIfInBounds_toArray, List.set_cons_zero, List.set_cons_succ])
                    generalize wd'.alloc (.cells #[.int .i64 a1, .string RU, .int .i64 SV, .string (wd x 3), .int .i64 0] 52) = we at HNB ⊢
                    generalize wd'.heap.size = qe at HNB ⊢
                    have G4 := Lib.hid (G3d.out.trans HNB.out.1)
                    have OW := Lib.hid (H4'.out.1.gr G4.out)
                    have NB2 := Lib.hid HNB.out.2
                    have Z4' := Lib.hid (HNB.out.1.holds hHeld.1)
                    have HE4 := Lib.hid (bheap_gr HNB.out.1 hHeld.2)
                    have lte := Lib.hid (show xb < we.heap.size from (Array.getElem?_eq_some_iff.1 HE4.out).1)
                    have ltz := Lib.hid (World.block_lt_of_cell? _ _ Z4'.out)
                    clear HNB hHeld
                    refine till_one (i := 7) (by kernel_rfl) rfl (fun K hK => ?_)
                    (refine step_append_lies _ (by rfl) _ _ 45 (by rfl) bl' 52 ie (.agg #[.int .i64 0, .string .empty, .int .i64 0, .string .empty, .int .i64 0]) 5 56 Tryz.underlying45 I1.out I2.out I3.out I4.out (by rfl) (by omega) (.slice zA ze.length zc) ze.length (ze.flatMap EraD.cells) (by rfl) OW.out ⟨qe, 0, none⟩ 1 1 [.int .i64 a1, .string RU, .int .i64 SV, .string (wd x 3), .int .i64 0] (by rfl) (by rfl) (World.news_of_block NB2.out) (er_one ⟨a1, RU, SV, wd x 3, 0⟩) (by omega) (by have := NRE.out; unfold maxLen; omega) (by have := NRE.out; omega) (Nat.le_trans B2'.out (Below.size G4.out)) we.heap.size rfl ?_)
                    intro g cap w5 hown hgrow hat hltg
                    refine hK.out _ _ (Or.inr ⟨(World.cell?_of_block (hgrow.block g1 ltz.out ZNE.out)).trans Z4'.out, (hgrow.block xb lte.out ENE.out).trans HE4.out⟩) ?_
                    clear hK K
                    (try simp only [Act.put, List.setIfInBounds_toArray, List.set_cons_zero, List.set_cons_succ])
                    have Z5 := Lib.hid ((World.cell?_of_block (hgrow.block g1 ltz.out ZNE.out)).trans Z4'.out)
                    have HE5 := Lib.hid ((hgrow.block xb lte.out ENE.out).trans HE4.out)
                    have FZ5 : Hid (w5.frozen? ⟨g1, zi.length * 2 + 1, none⟩ = false) := (World.frozen?_of_block (hgrow.block g1 ltz.out ZNE.out)).trans (own_frozen (QQ.out.zr.gr G4.out))
                    have FIN := Lib.hid (QAt.addEra (e := ⟨a1, RU, SV, wd x 3, 0⟩) QQ.out B1'.out B2'.out H3'.out H4'.out G4.out (own_more rfl hown) hgrow EI2.out)
                    clear hown hgrow hat hltg Z4' HE4 OW NB2 lte ltz
                    refine till_one (i := 8) (by kernel_rfl) rfl (fun K hK => ?_)
                    go_simp
                    refine hK.out _ _ (Or.inr ⟨Z5.out, HE5.out⟩) ?_
                    clear hK K
                    (try simp only [Act.put, List.setIfInBounds_toArray, List.set_cons_zero, List.set_cons_succ])
                    refine till_one (i := 9) (by kernel_rfl) rfl (fun K hK => ?_)
                    go_simp
                    refine hK.out _ _ (Or.inr ⟨Z5.out, HE5.out⟩) ?_
                    clear hK K
                    (try simp only [Act.put, List.setIfInBounds_toArray, List.set_cons_zero, List.set_cons_succ])
                    have zc5 := Z5.out
                    have fz5 := FZ5.out
                    refine till_one (i := 10) (by kernel_rfl) rfl (fun K hK => ?_)
                    go_simp
                    refine hK.out _ _ (Or.inl (by kernel_rfl)) ?_
                    clear hK K
                    (try simp only [Act.put, List.setIfInBounds_toArray, List.set_cons_zero, List.set_cons_succ])
                    clear zc5 fz5 Z5 HE5 FZ5
                    generalize w5.setCell ⟨g1, zi.length * 2 + 1, none⟩ (.slice (some ⟨g, 0, none⟩) (ze.length + 1) cap) = w6 at FIN ⊢
                    refine till_done (by kernel_rfl) ?_ _
                    refine NoPanic.normal ?_
                    have TCF := Lib.hid (TC3.out.trans FIN.out.2)
                    go_wp2_with fail
                    go_meet
                    refine ⟨((a2 == 0) && (FV == 0)), rfl, (fun h => ⟨{ p with zs := addE p.zs ⟨a1, RU, SV, wd x 3, 0⟩, st := 2 }, ?_, rfl, ⟨_, _, _, _, FIN.out.1.st 2⟩⟩), (fun h => ?_), TCF.out⟩
                    · rw [SER.out, FE4.out, h, if_pos ⟨(by simp), h1, rfl⟩]; rfl
                    · rw [SER.out, FE4.out, h, if_neg (fun q => by cases q.2.2)]
              · as_aux_lemma =>
                  have K4 := HWD.out 4 (by omega)
                  have c4 := GC.out.holds K4
                  go_wp2_with fail
                  clear c4 K4
                  refine (KT.out wc).mono ?_
                  rintro e w9 ⟨rfl, g9⟩
                  have D9 := Lib.hid (bheap_gr g9 DC.out)
                  have zc9 : w9.cell? ⟨xb, 4, none⟩ = some (.int .i64 0) := bcell_row D9.out rfl
                  have fz9 : w9.frozen? ⟨xb, 4, none⟩ = false := by simp [World.frozen?, D9.out]
                  have DC2 := Lib.hid (blk_set (j := 4) (u := .int .i64 u1) D9.out)
                  have GC2 : Hid (Gr w3 (w9.setCell ⟨xb, 4, none⟩ (.int .i64 u1))) := Below.setCell (GC.out.trans g9) (by rw [HXB.out]; exact Nat.le_refl _) _
                  go_upto_region 39 with fail
                  clear zc9 fz9 D9 g9 DC GC
                  generalize w9.setCell ⟨xb, 4, none⟩ (.int .i64 u1) = w10 at DC2 GC2 ⊢
                  have DC : Hid (w10.heap[xb]? = some (.cells #[.int .i64 a1, .string RU, .int .i64 SV, .string (wd x 3), .int .i64 u1] 52 (0, 0))) := DC2.out
                  have GC : Hid (Gr w3 w10) := GC2.out
                  clear DC2 GC2
                  have FE4 : Hid (eraR x = (⟨a1, RU, SV, wd x 3, u1⟩, ((a2 == 0) && (FV == 0) && (u2 == 0)))) := by unfold Hid; rw [FE3.out]; simp
                  have EI2 : Hid (EraD.In ⟨a1, RU, SV, wd x 3, u1⟩) := by have := EI.out; rw [FE4.out] at this; exact this
                  go_upto_region 39 with fail
                  go_cut [11] (fun s11 wx => s11 = .bool ((a2 == 0) && (FV == 0) && (u2 == 0)) ∧ Hid (wx.heap[xb]? = some (.cells #[.int .i64 a1, .string RU, .int .i64 SV, .string (wd x 3), .int .i64 u1] 52 (0, 0))) ∧ Hid (Gr w3 wx))
                  case first =>
                    by_cases q1 : a2 = 0
                    case neg =>
                      have p1 : (a2 == 0) = false := beqF q1
                      go_wp2_with fail
                      go_meet
                      exact ⟨by rw [p1]; rfl, DC, GC⟩
                    have p1 : (a2 == 0) = true := beqT q1
                    clear q1
                    by_cases q2 : FV = 0
                    case neg =>
                      have p2 : (FV == 0) = false := beqF q2
                      go_wp2_with fail
                      go_meet
                      exact ⟨by rw [p1, p2]; rfl, DC, GC⟩
                    have p2 : (FV == 0) = true := beqT q2
                    clear q2
                    by_cases q3 : u2 = 0
                    case neg =>
                      have p3 : (u2 == 0) = false := beqF q3
                      go_wp2_with fail
                      go_meet
                      exact ⟨by rw [p1, p2, p3]; rfl, DC, GC⟩
                    have p3 : (u2 == 0) = true := beqT q3
                    clear q3
                    go_wp2_with fail
                    go_meet
                    exact ⟨by rw [p1, p2, p3]; rfl, DC, GC⟩
                  case rest =>
                    obtain ⟨rfl, DC, GC⟩ := hcut
                    have y1 := PB2.out wc GC.out
                    go_upto_region 42 with fail
                    clear y1
                    have Z3 := Lib.hid (ZC.out wc GC.out)
                    refine wp_region_noPanic ?_
                    refine till_start 10 (fun wx => wx.cell? ⟨g1, zi.length * 2 + 1, none⟩ = some (.slice zA ze.length zc) ∧ wx.heap[xb]? = some (.cells #[.int .i64 a1, .string RU, .int .i64 SV, .string (wd x 3), .int .i64 u1] 52 (0, 0))) (by kernel_rfl) ⟨Z3.out, DC.out⟩ (fun hHeld => ?_)
                    (try dsimp only at hHeld)
                    have G3d := Lib.hid (GC.out.trans (Gr.drew wc))
                    generalize wc.drew = wd' at hHeld G3d ⊢
                    refine till_take (i := 0) (oi := { dst := some 187, op := _, type := _, pos := _, after := _, guard := _ }) (v := ?v22) rfl (by kernel_rfl) (by kernel_rfl) (by kernel_rfl) (by kernel_rfl) (fun _ _ _ h => h) (Or.inl ⟨by rfl, ?hy22⟩) (by assumption) ?rest22
                    case hy22 => (intro w hSw; go_simp <;> (with_reducible rfl))
                    (try simp only [Act.put, List.setIfInBounds_toArray, List.set_cons_zero, List.set_cons_succ])
                    refine till_take (i := 1) (oi := { dst := some 188, op := _, type := _, pos := _, after := _, guard := _ }) (v := ?v23) rfl (by kernel_rfl) (by kernel_rfl) (by kernel_rfl) (by kernel_rfl) (fun _ _ _ h => h) (Or.inl ⟨by rfl, ?hy23⟩) (by assumption) ?rest23
                    case hy23 => (intro w hSw; go_simp <;> (with_reducible rfl))
                    (try simp only [Act.put, List.setIfInBounds_toArray, List.set_cons_zero, List.set_cons_succ])
                    refine till_take (i := 2) (oi := { dst := some 189, op := _, type := _, pos := _, after := _, guard := _ }) (v := ?v24) rfl (by kernel_rfl) (by kernel_rfl) (by kernel_rfl) (by kernel_rfl) (fun _ _ _ h => h) (Or.inl ⟨by rfl, ?hy24⟩) (by assumption) ?rest24
                    case hy24 => (intro w hSw; go_simp <;> (with_reducible rfl))
                    (try simp only [Act.put, List.setIfInBounds_toArray, List.set_cons_zero, List.set_cons_succ])
                    refine till_take (i := 3) (oi := { dst := some 190, op := _, type := _, pos := _, after := _, guard := _ }) (v := ?v25) rfl (by kernel_rfl) (by kernel_rfl) (by kernel_rfl) (by kernel_rfl) (fun _ _ _ h => h) (Or.inl ⟨by rfl, ?hy25⟩) (by assumption) ?rest25
                    case hy25 => (intro w hSw; go_simp <;> (with_reducible rfl))
                    (try simp only [Act.put, List.setIfInBounds_toArray, List.set_cons_zero, List.set_cons_succ])
                    refine till_take (i := 4) (oi := { dst := some 191, op := _, type := _, pos := _, after := _, guard := _ }) (v := ?v26) rfl (by kernel_rfl) (by kernel_rfl) (by kernel_rfl) (by kernel_rfl) (fun _ _ _ h => h) (Or.inl ⟨by rfl, ?hy26⟩) (by assumption) ?rest26
                    case hy26 => (intro w hSw; have c0 := hSw.1; go_simp <;> (with_reducible rfl))
                    (try simp only [Act.put, List.setIfInBounds_toArray, List.set_cons_zero, List.set_cons_succ])
                    refine till_take (i := 5) (oi := { dst := some 192, op := _, type := _, pos := _, after := _, guard := _ }) (v := ?v27) rfl (by kernel_rfl) (by kernel_rfl) (by kernel_rfl) (by kernel_rfl) (fun _ _ _ h => h) (Or.inl ⟨by rfl, ?hy27⟩) (by assumption) ?rest27
                    case hy27 => (intro w hSw; have d0 := bcell_row (i := 0) hSw.2 rfl; have d1 := bcell_row (i := 1) hSw.2 rfl; have d2 := bcell_row (i := 2) hSw.2 rfl; have d3 := bcell_row (i := 3) hSw.2 rfl; have d4 := bcell_row (i := 4) hSw.2 rfl; go_simp <;> (with_reducible rfl))
                    (try simp only [Act.put, List.setIfInBounds_toArray, List.set_cons_zero, List.set_cons_succ])
                    have HNB := Lib.hid (box_one wd' (.cells #[.int .i64 a1, .string RU, .int .i64 SV, .string (wd x 3), .int .i64 u1] 52))
                    refine till_one (i := 6) (by kernel_rfl) rfl (fun K hK => ?_)
                    refine step_build1 45 _ _ _ _ (by rfl) rfl (by rfl) (bs_era wd' a1 SV u1 RU (wd x 3)) ?_
                    refine hK.out _ _ (Or.inr ⟨HNB.out.1.holds hHeld.1, bheap_gr HNB.out.1 hHeld.2⟩) ?_
                    clear hK K
                    (try simp only [Act.put, List.setIfInBounds_toArray, List.set_cons_zero, List.set_cons_succ])
                    generalize wd'.alloc (.cells #[.int .i64 a1, .string RU, .int .i64 SV, .string (wd x 3), .int .i64 u1] 52) = we at HNB ⊢
                    generalize wd'.heap.size = qe at HNB ⊢
                    have G4 := Lib.hid (G3d.out.trans HNB.out.1)
                    have OW := Lib.hid (H4'.out.1.gr G4.out)
                    have NB2 := Lib.hid HNB.out.2
                    have Z4' := Lib.hid (HNB.out.1.holds hHeld.1)
                    have HE4 := Lib.hid (bheap_gr HNB.out.1 hHeld.2)
                    have lte := Lib.hid (show xb < we.heap.size from (Array.getElem?_eq_some_iff.1 HE4.out).1)
                    have ltz := Lib.hid (World.block_lt_of_cell? _ _ Z4'.out)
                    clear HNB hHeld
                    refine till_one (i := 7) (by kernel_rfl) rfl (fun K hK => ?_)
                    (refine step_append_lies _ (by rfl) _ _ 45 (by rfl) bl' 52 ie (.agg #[.int .i64 0, .string .empty, .int .i64 0, .string .empty, .int .i64 0]) 5 56 Tryz.underlying45 I1.out I2.out I3.out I4.out (by rfl) (by omega) (.slice zA ze.length zc) ze.length (ze.flatMap EraD.cells) (by rfl) OW.out ⟨qe, 0, none⟩ 1 1 [.int .i64 a1, .string RU, .int .i64 SV, .string (wd x 3), .int .i64 u1] (by rfl) (by rfl) (World.news_of_block NB2.out) (er_one ⟨a1, RU, SV, wd x 3, u1⟩) (by omega) (by have := NRE.out; unfold maxLen; omega) (by have := NRE.out; omega) (Nat.le_trans B2'.out (Below.size G4.out)) we.heap.size rfl ?_)
                    intro g cap w5 hown hgrow hat hltg
                    refine hK.out _ _ (Or.inr ⟨(World.cell?_of_block (hgrow.block g1 ltz.out ZNE.out)).trans Z4'.out, (hgrow.block xb lte.out ENE.out).trans HE4.out⟩) ?_
                    clear hK K
                    (try simp only [Act.put, List.setIfInBounds_toArray, List.set_cons_zero, List.set_cons_succ])
                    have Z5 := Lib.hid ((World.cell?_of_block (hgrow.block g1 ltz.out ZNE.out)).trans Z4'.out)
                    have HE5 := Lib.hid ((hgrow.block xb lte.out ENE.out).trans HE4.out)
                    have FZ5 : Hid (w5.frozen? ⟨g1, zi.length * 2 + 1, none⟩ = false) := (World.frozen?_of_block (hgrow.block g1 ltz.out ZNE.out)).trans (own_frozen (QQ.out.zr.gr G4.out))
                    have FIN := Lib.hid (QAt.addEra (e := ⟨a1, RU, SV, wd x 3, u1⟩) QQ.out B1'.out B2'.out H3'.out H4'.out G4.out (own_more rfl hown) hgrow EI2.out)
                    clear hown hgrow hat hltg Z4' HE4 OW NB2 lte ltz
                    refine till_one (i := 8) (by kernel_rfl) rfl (fun K hK => ?_)
                    go_simp
                    refine hK.out _ _ (Or.inr ⟨Z5.out, HE5.out⟩) ?_
                    clear hK K
                    (try simp only [Act.put, List.setIfInBounds_toArray, List.set_cons_zero, List.set_cons_succ])
                    refine till_one (i := 9) (by kernel_rfl) rfl (fun K hK => ?_)
                    go_simp
                    refine hK.out _ _ (Or.inr ⟨Z5.out, HE5.out⟩) ?_
                    clear hK K
                    (try simp only [Act.put, List.setIfInBounds_toArray, List.set_cons_zero, List.set_cons_succ])
                    have zc5 := Z5.out
                    have fz5 := FZ5.out
                    refine till_one (i := 10) (by kernel_rfl) rfl (fun K hK => ?_)
                    go_simp
                    refine hK.out _ _ (Or.inl (by kernel_rfl)) ?_
                    clear hK K
                    (try simp only [Act.put, List.setIfInBounds_toArray, List.set_cons_zero, List.set_cons_succ])
                    clear zc5 fz5 Z5 HE5 FZ5
                    generalize w5.setCell ⟨g1, zi.length * 2 + 1, none⟩ (.slice (some ⟨g, 0, none⟩) (ze.length + 1) cap) = w6 at FIN ⊢
                    refine till_done (by kernel_rfl) ?_ _
                    refine NoPanic.normal ?_
                    have TCF := Lib.hid (TC3.out.trans FIN.out.2)
                    go_wp2_with fail
                    go_meet
                    refine ⟨((a2 == 0) && (FV == 0) && (u2 == 0)), rfl, (fun h => ⟨{ p with zs := addE p.zs ⟨a1, RU, SV, wd x 3, u1⟩, st := 1 }, ?_, rfl, ⟨_, _, _, _, FIN.out.1.st 1⟩⟩), (fun h => ?_), TCF.out⟩
                    · rw [SER.out, FE4.out, h, if_pos ⟨(by simp), h1, rfl⟩]; rfl
                    · rw [SER.out, FE4.out, h, if_neg (fun q => by cases q.2.2)]
        obtain ⟨e1, e2⟩ := word_no hE
        have e1' : ¬ x0 = ⟨#[101, 114, 97]⟩ := e1
        have e2' : (x0.toList == [101, 114, 97]) = false := e2
        clear r1 r2 z1 z2 l1 l2 e1 e2
        go_wp2_with fail
        go_meet
        exact ⟨false, rfl, (fun h => by cases h), (fun _ => (SNO.out hR hZ hE hL)), TC3.out⟩

      case rest =>
        obtain ⟨b, rfl, HT1, HT2, TCC⟩ := hcut
        clear SRU0 SZO0 SER0 SLI0 SNO S1 S2 ZL EQ0 EQ3 ST3 OPN NR NZ NL NE HWD Q TC3 GR3 HZ3 HB3 GNEZ GNEL c1 KR
        cases b with
        | false =>
          have GF := Lib.hid (TCC.out.below G2.out (Nat.le_succ _) (Below.size G2.out))
          have HZF : Hid (wc.heap[w.heap.size]? = some (.cells #[.slice none 0 0, .slice none 0 0, .slice none 0 0] 26 (0, 0))) := (TCC.out.block w.heap.size (by have := psz.out; omega) (by omega)).trans HZ2.out
          have E2 : Hid (parB s = (BkS.zero, (k : Int) + 1, 3)) := by unfold Hid; rw [parB_bad NB.out NN.out (RB.out (HT2.out rfl))]; rfl
          go_upto_region 44 with fail
          have z0 : wc.cell? ⟨w.heap.size, 0, none⟩ = some (.slice none 0 0) := bcell_row HZF.out rfl
          have z1 : wc.cell? ⟨w.heap.size, 1, none⟩ = some (.slice none 0 0) := bcell_row HZF.out rfl
          have z2 : wc.cell? ⟨w.heap.size, 2, none⟩ = some (.slice none 0 0) := bcell_row HZF.out rfl
          have fz : ∀ i, wc.frozen? ⟨w.heap.size, i, none⟩ = false := fun i => by simp [World.frozen?, HZF.out]
          have ST := Lib.hid (store3 HZF.out (.slice none 0 0) (.slice none 0 0) (.slice none 0 0))
          have SG := Lib.hid (store3_gr GF.out (Nat.le_refl w.heap.size) (.slice none 0 0) (.slice none 0 0) (.slice none 0 0))
          go_wp2_with fail
          clear z0 z1 z2 fz
          generalize (((wc.setCell ⟨w.heap.size, 0, none⟩ (.slice none 0 0)).setCell ⟨w.heap.size, 1, none⟩ (.slice none 0 0)).setCell ⟨w.heap.size, 2, none⟩ (.slice none 0 0)) = FF at ST SG ⊢
          have y0 : FF.cell? ⟨w.heap.size, 0, none⟩ = some (.slice none 0 0) := bcell_row ST.out rfl
          have y1 : FF.cell? ⟨w.heap.size, 1, none⟩ = some (.slice none 0 0) := bcell_row ST.out rfl
          have y2 : FF.cell? ⟨w.heap.size, 2, none⟩ = some (.slice none 0 0) := bcell_row ST.out rfl
          exact bodyPost_ret (v := .tuple #[.agg #[.slice none 0 0, .slice none 0 0, .slice none 0 0], .int .i64 ((k : Int) + 1), .int .i64 3]) (by simp [results, Tryz.results5, go_sem, y0, y1, y2]) rfl (parA_zero E2.out SG.out)
        | true =>
          obtain ⟨q, hst, rfl, hq⟩ := HT1.out rfl
          have HQ := Lib.hid hq
          have SQ := Lib.hid hst
          clear hq hst
          go_wp2_with fail
          go_roundw
          case rel => exact ⟨k + 1, q, by omega, by go_num, rfl, HQ, SOK.out _ SQ.out, RS.out _ SQ.out, TCC⟩
          case measure => simp [intOf]; omega
    · have ek : k = N := by omega
      have RE' : Hid (runB BkS.zero (lns s) 0 = .inr p) := by unfold Hid; rw [hr.out]; exact runB_end (by rw [HN.out]; omega)
      clear hr hok CE LZ
      obtain ⟨v0, v1, v2, zs, hq⟩ := hp.out
      obtain ⟨Ar, cr, Az, cz, Al, cl, rfl, rfl, rfl⟩ := hq.forms
      have Q := Lib.hid hq
      clear hp hq
      by_cases h1 : p.st = 1
      · have E := Lib.hid (parB_open NB.out NN.out RE'.out h1)
        have E2 : Hid (parB s = (BkS.zero, (N : Int) + 1, 3)) := by unfold Hid; rw [E.out, HN.out]
        have o1 := decide_eq_true h1
        clear E
        go_upto_region 47 with fail
        have z0 : wr.cell? ⟨w.heap.size, 0, none⟩ = some (.slice none 0 0) := bcell_row HZr.out rfl
        have z1 : wr.cell? ⟨w.heap.size, 1, none⟩ = some (.slice none 0 0) := bcell_row HZr.out rfl
        have z2 : wr.cell? ⟨w.heap.size, 2, none⟩ = some (.slice none 0 0) := bcell_row HZr.out rfl
        have fz : ∀ i, wr.frozen? ⟨w.heap.size, i, none⟩ = false := fun i => by simp [World.frozen?, HZr.out]
        have ST := Lib.hid (store3 HZr.out (.slice none 0 0) (.slice none 0 0) (.slice none 0 0))
        have SG := Lib.hid (store3_gr GR.out (Nat.le_refl w.heap.size) (.slice none 0 0) (.slice none 0 0) (.slice none 0 0))
        go_wp2_with fail
        clear z0 z1 z2 fz
        generalize (((wr.setCell ⟨w.heap.size, 0, none⟩ (.slice none 0 0)).setCell ⟨w.heap.size, 1, none⟩ (.slice none 0 0)).setCell ⟨w.heap.size, 2, none⟩ (.slice none 0 0)) = FF at ST SG ⊢
        have y0 : FF.cell? ⟨w.heap.size, 0, none⟩ = some (.slice none 0 0) := bcell_row ST.out rfl
        have y1 : FF.cell? ⟨w.heap.size, 1, none⟩ = some (.slice none 0 0) := bcell_row ST.out rfl
        have y2 : FF.cell? ⟨w.heap.size, 2, none⟩ = some (.slice none 0 0) := bcell_row ST.out rfl
        exact bodyPost_ret (v := .tuple #[.agg #[.slice none 0 0, .slice none 0 0, .slice none 0 0], .int .i64 ((N : Int) + 1), .int .i64 3]) (by simp [results, Tryz.results5, go_sem, y0, y1, y2]) rfl (parA_zero E2.out SG.out)
      have o1 := dec_no h1
      have KC0 := rbookCheck ⟨Ar, cr, p.rs, Az, cz, zs, Al, cl, p.ls⟩ wr Q.out.at'.1 (GR.out.max HT.out)
      simp only at KC0
      rw [show bokC p.rs zs p.ls = p.chk from Is_chk Q.out.at'.2] at KC0
      generalize hcc : p.chk = cc at KC0
      have KC := Lib.hid KC0
      have HC := Lib.hid hcc
      clear hcc KC0
      have q0 : wr.cell? ⟨w.heap.size + 1, 0, none⟩ = some (.slice Ar p.rs.length cr) := bcell_row Q.out.blk rfl
      have q1 : wr.cell? ⟨w.heap.size + 1, 1, none⟩ = some (.slice Az zs.length cz) := bcell_row Q.out.blk rfl
      have q2 : wr.cell? ⟨w.heap.size + 1, 2, none⟩ = some (.slice Al p.ls.length cl) := bcell_row Q.out.blk rfl
      go_wp2_with fail
      clear o1 q0 q1 q2
      refine KC.out.mono ?_
      rintro e w4 ⟨rfl, g4⟩
      have GF := Lib.hid (GR.out.trans g4)
      have HZ4 := Lib.hid (bheap_gr g4 HZr.out)
      have P4 := Lib.hid (Q.out.gr g4)
      clear KC g4 Q
      by_cases h0 : cc = 0
      · have E := Lib.hid (parB_ok NB.out NN.out RE'.out h1 (HC.out.trans h0))
        have tc := bneF h0
        have q0 : w4.cell? ⟨w.heap.size + 1, 0, none⟩ = some (.slice Ar p.rs.length cr) := bcell_row P4.out.blk rfl
        have q1 : w4.cell? ⟨w.heap.size + 1, 1, none⟩ = some (.slice Az zs.length cz) := bcell_row P4.out.blk rfl
        have q2 : w4.cell? ⟨w.heap.size + 1, 2, none⟩ = some (.slice Al p.ls.length cl) := bcell_row P4.out.blk rfl
        have PF := Lib.hid (((P4.out.farq (q := ⟨w.heap.size, 0, none⟩) (by have := psz.out; show w.heap.size < _; omega) (by show w.heap.size ≠ _; omega) (.slice Ar p.rs.length cr)).farq (q := ⟨w.heap.size, 1, none⟩) (by have := psz.out; show w.heap.size < _; omega) (by show w.heap.size ≠ _; omega) (.slice Az zs.length cz)).farq (q := ⟨w.heap.size, 2, none⟩) (by have := psz.out; show w.heap.size < _; omega) (by show w.heap.size ≠ _; omega) (.slice Al p.ls.length cl))
        clear h0 h1 HC
        go_upto_region 51 with fail
        have z0 : w4.cell? ⟨w.heap.size, 0, none⟩ = some (.slice none 0 0) := bcell_row HZ4.out rfl
        have z1 : w4.cell? ⟨w.heap.size, 1, none⟩ = some (.slice none 0 0) := bcell_row HZ4.out rfl
        have z2 : w4.cell? ⟨w.heap.size, 2, none⟩ = some (.slice none 0 0) := bcell_row HZ4.out rfl
        have fz : ∀ i, w4.frozen? ⟨w.heap.size, i, none⟩ = false := fun i => by simp [World.frozen?, HZ4.out]
        have ST := Lib.hid (store3 HZ4.out (.slice Ar p.rs.length cr) (.slice Az zs.length cz) (.slice Al p.ls.length cl))
        have SG := Lib.hid (store3_gr GF.out (Nat.le_refl w.heap.size) (.slice Ar p.rs.length cr) (.slice Az zs.length cz) (.slice Al p.ls.length cl))
        go_wp2_with fail
        clear z0 z1 z2 fz
        generalize (((w4.setCell ⟨w.heap.size, 0, none⟩ (.slice Ar p.rs.length cr)).setCell ⟨w.heap.size, 1, none⟩ (.slice Az zs.length cz)).setCell ⟨w.heap.size, 2, none⟩ (.slice Al p.ls.length cl)) = FF at ST SG PF ⊢
        have y0 : FF.cell? ⟨w.heap.size, 0, none⟩ = some (.slice Ar p.rs.length cr) := bcell_row ST.out rfl
        have y1 : FF.cell? ⟨w.heap.size, 1, none⟩ = some (.slice Az zs.length cz) := bcell_row ST.out rfl
        have y2 : FF.cell? ⟨w.heap.size, 2, none⟩ = some (.slice Al p.ls.length cl) := bcell_row ST.out rfl
        exact bodyPost_ret (v := .tuple #[.agg #[.slice Ar p.rs.length cr, .slice Az zs.length cz, .slice Al p.ls.length cl], .int .i64 0, .int .i64 0]) (by simp [results, Tryz.results5, go_sem, y0, y1, y2]) rfl (ParA.of (b := ⟨Ar, cr, p.rs, Az, cz, zs, Al, cl, p.ls⟩) E.out PF.out.at' SG.out)
      · have E := Lib.hid (parB_chk NB.out NN.out RE'.out h1 (by rw [HC.out]; exact h0))
        rw [HC.out] at E
        have tc := bneT h0
        clear h0 h1 HC
        go_upto_region 50 with fail
        clear tc
        have z0 : w4.cell? ⟨w.heap.size, 0, none⟩ = some (.slice none 0 0) := bcell_row HZ4.out rfl
        have z1 : w4.cell? ⟨w.heap.size, 1, none⟩ = some (.slice none 0 0) := bcell_row HZ4.out rfl
        have z2 : w4.cell? ⟨w.heap.size, 2, none⟩ = some (.slice none 0 0) := bcell_row HZ4.out rfl
        have fz : ∀ i, w4.frozen? ⟨w.heap.size, i, none⟩ = false := fun i => by simp [World.frozen?, HZ4.out]
        have ST := Lib.hid (store3 HZ4.out (.slice none 0 0) (.slice none 0 0) (.slice none 0 0))
        have SG := Lib.hid (store3_gr GF.out (Nat.le_refl w.heap.size) (.slice none 0 0) (.slice none 0 0) (.slice none 0 0))
        go_wp2_with fail
        clear z0 z1 z2 fz
        generalize (((w4.setCell ⟨w.heap.size, 0, none⟩ (.slice none 0 0)).setCell ⟨w.heap.size, 1, none⟩ (.slice none 0 0)).setCell ⟨w.heap.size, 2, none⟩ (.slice none 0 0)) = FF at ST SG ⊢
        have y0 : FF.cell? ⟨w.heap.size, 0, none⟩ = some (.slice none 0 0) := bcell_row ST.out rfl
        have y1 : FF.cell? ⟨w.heap.size, 1, none⟩ = some (.slice none 0 0) := bcell_row ST.out rfl
        have y2 : FF.cell? ⟨w.heap.size, 2, none⟩ = some (.slice none 0 0) := bcell_row ST.out rfl
        exact bodyPost_ret (v := .tuple #[.agg #[.slice none 0 0, .slice none 0 0, .slice none 0 0], .int .i64 0, .int .i64 cc]) (by simp [results, Tryz.results5, go_sem, y0, y1, y2]) rfl (parA_zero E.out SG.out)
end Go.Proofs.YtkkilmmpmiichaaGreatDoor
