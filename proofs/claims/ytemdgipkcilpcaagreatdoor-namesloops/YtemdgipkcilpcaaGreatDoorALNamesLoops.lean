/- The law NamesLoops of package timeballkeep returns true for every input and leaves its arguments as they were: Names that lead round lead nowhere. Condition: the listed variables (math/bits.deBruijn32tab, math/bits.deBruijn64tab, internal/strconv.uint64pow10, timeball/civil.lengths, unicode/utf8.acceptRanges, unicode/utf8.first) lie as their initialisers lay them; the card ties that tto the program's text. -/
import Derived.Test.YtemdgipkcilpcaaGreatDoorCards
import Derived.Test.YtemdgipkcilpcaaGreatDoorTie
import Derived.Test.YtemdgipkcilpcaaGreatDoorAM28
import Derived.Test.YtemdgipkcilpcaaGreatDoorAM44
import Derived.Test.YtemdgipkcilpcaaGreatDoorAM45
import Derived.Test.YtemdgipkcilpcaaGreatDoorAM46
import Derived.Test.YtemdgipkcilpcaaGreatDoorAM26
import Derived.Test.YtemdgipkcilpcaaGreatDoorAM04
import Derived.Test.YtemdgipkcilpcaaGreatDoorAM24
namespace Go.Proofs.YtemdgipkcilpcaaGreatDoor.namesLoops
open Go.ChangeShapes Go.WideShapes Go.ChangeAt Go.RowKit
open Go.ChangeMaps (open_string shut_string)
set_option linter.unusedVariables false
set_option linter.unusedSimpArgs false
theorem bs_link (w : World) (nm tt : ByteArray) : (Instr.buildSlice 24 1 #[(0, Value.agg #[.string nm, .string tt])]).run Tryz.prog w = .ok (.slice (some ⟨w.heap.size, 0, none⟩) 1 1) (w.alloc (.cells #[.string nm, .string tt] 48)) := by kernel_rfl
theorem step_build1 {P : Program} {w : World} {ops : Array Oper} {K : Act → World → Prop} {Q : Exit → Act → World → Prop} {E : Prop} {a : Act} {o : Oper} (t : TypeId) (x : Operand) (v0 v : Value) (w' : World) (hgd : o.guard = none) (ho : o.op = .buildSlice t 1 #[(0, x)])
    (hx : a.eval x = v0) (hr : (Instr.buildSlice t 1 #[(0, v0)]).run P w = .ok v w') (h : K (a.put o.dst v) w') :
    if Region.wanted o (yielded ops a.tmps) = true then Oper.wp P o a w K Q else E := by
  have hw : Region.wanted o (yielded ops a.tmps) = true := by simp [Region.wanted, hgd]
  rw [if_pos hw]
  unfold Oper.wp execOp
  simp only [ho, List.map_toArray, List.map_cons, List.map_nil, hx, Sem.run_bind, hr, Result.andThen_ok, Sem.run_pure]
  exact h
theorem infoLink : (Tryz.prog.info? 48).map (fun i => (i.zero, i.size, i.bytes)) = some (some (.agg #[.string .empty, .string .empty]), 2, 32) := by kernel_rfl
theorem box_three (w : World) (o1 o2 o3 : Obj) : Gr w (((w.alloc o1).alloc o2).alloc o3) ∧ (((w.alloc o1).alloc o2).alloc o3).heap[w.heap.size]? = some o1 ∧ (((w.alloc o1).alloc o2).alloc o3).heap[w.heap.size + 1]? = some o2 ∧ (((w.alloc o1).alloc o2).alloc o3).heap[w.heap.size + 1 + 1]? = some o3 := by
  obtain ⟨g1, h1, h2⟩ := box_two w o1 o2
  have h3 := bheap_new ((w.alloc o1).alloc o2) o3
  have e : ((w.alloc o1).alloc o2).heap.size = w.heap.size + 1 + 1 := by simp
  rw [e] at h3
  have g3 := Gr.alloc ((w.alloc o1).alloc o2) o3
  exact ⟨g1.trans g3, bheap_gr g3 h1, bheap_gr g3 h2, h3⟩

set_option maxRecDepth 100000 in
set_option maxHeartbeats 8000000 in
theorem walk (sl : StrD) (w : World) (hb : sl.At w) (ht : BkTab w) :
    Calls Tryz.prog 6 #[.slice sl.A sl.l.length sl.c] w fun e w' => e = .returned (.bool true) ∧ Gr w w' := by
  obtain ⟨Ao, co, l⟩ := sl
  have HR : Hid (Row w 1 nmC Ao l) := hb.2.1
  have HI : Hid (∀ x ∈ l, x.length ≤ maxLen) := hb.2.2
  have hll : l.length ≤ 9223372036854775807 := by have := Nat.le_trans hb.1.1 hb.1.2; unfold maxLen at this; exact this
  have KP := Lib.hid (fun b nm W (hb : BokD.At W b) hn (g : Gr w W) => presolve b nm W hb hn (g.bk ht))
  have KA := Lib.hid (fun b W (hb : BokD.At W b) (g : Gr w W) => pall b W hb (g.bk ht))
  have KN := Lib.hid (fun W (g : Gr w W) => pnamed W (g.bk ht))
  have KI := Lib.hid (fun s w hs => pname_any s w hs)
  have KH := Lib.hid (fun A c l (x : ByteArray) W hl h => rhas A c l x W hl h)
  have KQ := Lib.hid (fun A c A' c' l n' w hn hl h h' => reqStr A c A' c' l n' w hn hl h h')
  obtain ⟨i0, hi, hz0, hz1, hz2⟩ := info_parts infoStr
  have I1 := Lib.hid hi
  have I2 := Lib.hid hz0
  have I3 := Lib.hid hz1
  have I4 := Lib.hid hz2
  obtain ⟨iL, hi, hz0, hz1, hz2⟩ := info_parts infoLink
  have L1 := Lib.hid hi
  have L2 := Lib.hid hz0
  have L3 := Lib.hid hz1
  have L4 := Lib.hid hz2
  clear hb ht hi hz0 hz1 hz2
  simp only
  go_enter Tryz.func6, Tryz.ntmps6
  go_wp2_with fail
  refine (KN.out w (Gr.refl w)).mono ?_
  rintro e w1 ⟨rfl, g1⟩
  have G1 := Lib.hid g1
  clear g1 KN
  go_wp2_with (first | (refine wpList_lay1 _ _ _ (by rfl) (bsn_era w1) ?_) | (refine wpList_lay1 _ _ _ (by rfl) (bsn_zone _ ⟨#[90, 111, 110, 101]⟩ _) ?_))
  have B := Lib.hid (box_three w1 (.cells #[.int .i64 0, .string ⟨#[]⟩, .int .i64 0, .string ⟨#[88]⟩, .int .i64 0] 45) (.cells #[.string ⟨#[90, 111, 110, 101]⟩, .slice (some ⟨w1.heap.size, 0, none⟩) 1 1] 29) (.cells #[.slice none 0 0, .slice (some ⟨w1.heap.size + 1, 0, none⟩) 1 1, .slice none 0 0] 26))
  generalize ((w1.alloc (.cells #[.int .i64 0, .string ⟨#[]⟩, .int .i64 0, .string ⟨#[88]⟩, .int .i64 0] 45)).alloc (.cells #[.string ⟨#[90, 111, 110, 101]⟩, .slice (some ⟨w1.heap.size, 0, none⟩) 1 1] 29)).alloc (.cells #[.slice none 0 0, .slice (some ⟨w1.heap.size + 1, 0, none⟩) 1 1, .slice none 0 0] 26) = w2 at B ⊢
  have WQ := Lib.hid (Below.size G1.out)
  generalize w1.heap.size = q at B WQ ⊢
  have G2 := Lib.hid (G1.out.trans B.out.1)
  have E2 := Lib.hid B.out.2.1
  have Z2 := Lib.hid B.out.2.2.1
  have B2 := Lib.hid B.out.2.2.2
  clear B G1
  go_loopw [4, 24] (fun v i W => ∃ (k : Nat) (R : List (List UInt8)), k ≤ l.length ∧ i = .int .i64 k ∧ Hid (Own W w2.heap.size 9 1 nmC v R) ∧ Hid (RoundOk R) ∧ Hid (Gr w2 W)) (fun v i W => l.length - (intOf i).toNat)
  case atStart => exact ⟨0, [], Nat.zero_le _, rfl, Own.nil_ _ _ _ _ _, RoundOk.nil, Gr.refl _⟩
  case round =>
    obtain ⟨k, R, hk, rfl, ho, hR, hg⟩ := hrel
    by_cases hlt : k < l.length
    · obtain ⟨x, hx⟩ := get_lt hlt
      obtain ⟨bo, oo, rfl, c0⟩ := HR.out.one hx rfl (G2.out.trans hg.out)
      have XI := Lib.hid (HI.out x (get_mem hx))
      clear hx
      go_wp2_with fail
      clear c0
      refine (KI.out (S x) wr (by rw [S_size]; exact XI.out)).mono ?_
      rintro e w' ⟨rfl, rfl⟩
      rw [S_toList]
      obtain ⟨p, ep⟩ : ∃ p, isNameB x = p := ⟨_, rfl⟩
      have EP := Lib.hid ep
      rw [ep]
      clear ep
      cases p with
      | false =>
        go_wp2_with fail
        go_roundw
        case rel => exact ⟨k + 1, R, by omega, by go_num, ho, hR, hg⟩
        case measure => simp [intOf]; omega
      | true =>
        obtain ⟨p, ep⟩ : ∃ p, (x == [90, 111, 110, 101]) = p := ⟨_, rfl⟩
        have EZ := Lib.hid ep
        cases p with
        | true =>
          go_wp2_with fail
          clear ep
          go_roundw
          case rel => exact ⟨k + 1, R, by omega, by go_num, ho, hR, hg⟩
          case measure => simp [intOf]; omega
        | false =>
          obtain ⟨A4, c4, rfl, _⟩ := ho.out.form
          have ROW := Lib.hid (ho.out.row nm_len)
          have NE : Hid (x ≠ zoneN) := fun e => by have := EZ.out; rw [e] at this; revert this; decide
          go_wp2_with fail
          clear ep
          refine (KH.out A4 c4 R (S x) wr (by have := hR.out.few; unfold maxLen; omega) ROW.out).mono ?_
          rintro e w' ⟨rfl, g'⟩
          rw [S_toList]
          have HG' := Lib.hid (hg.out.trans g')
          have HO' := Lib.hid (ho.out.gr g')
          clear g' ROW hg ho
          obtain ⟨p, ep⟩ : ∃ p, R.contains x = p := ⟨_, rfl⟩
          have EC := Lib.hid ep
          rw [ep]
          clear ep
          cases p with
          | true =>
            go_wp2_with fail
            go_roundw
            case rel => exact ⟨k + 1, R, by omega, by go_num, HO', hR, HG'⟩
            case measure => simp [intOf]; omega
          | false =>
            by_cases h20 : R.length < 20
            · have h20' : decide ((R.length : Int) < 20) = true := decide_eq_true (by omega)
              have RM := Lib.hid (hR.out.more EP.out NE.out EC.out h20)
              have B1 := Lib.hid (box_one w' (.cells #[.string (S x)] 9))
              have OW6 : Hid (Own (w'.alloc (.cells #[.string (S x)] 9)) w2.heap.size 9 1 nmC (.slice A4 R.length c4) R) := HO'.out.gr B1.out.1
              have GB6 := Lib.hid (HG'.out.trans B1.out.1)
              have NB := Lib.hid B1.out.2
              clear B1
              go_wp2_with (at_builtin; refine wpList_append_lies _ (by rfl) _ _ 35 (by rfl) w2.heap.size 9 i0 (.string .empty) 1 16 Tryz.underlying35 I1.out I2.out I3.out I4.out (by rfl) (by omega) (.slice A4 R.length c4) R.length (R.flatMap nmC) (by rfl) OW6.out ⟨w'.heap.size, 0, none⟩ 1 1 (nmC x) (by rfl) (by rfl) (World.news_of_block NB.out) (nm_one _) (by omega) (by unfold maxLen; omega) (by omega) (Below.size GB6.out) (w'.heap.size + 1) (by simp) ?_; intro g cap w7 hown hgrow hat7 hlt7)
              go_roundw
              case rel => exact ⟨k + 1, R ++ [x], by omega, by go_num, own_more rfl hown, RM, grown_gr GB6.out hgrow (own_base OW6.out)⟩
              case measure => simp [intOf]; omega
            · have h20' : decide ((R.length : Int) < 20) = false := decide_eq_false (by omega)
              go_wp2_with fail
              go_roundw
              case rel => exact ⟨k + 1, R, by omega, by go_num, HO', hR, HG'⟩
              case measure => simp [intOf]; omega
    · obtain ⟨AR, cR, rfl, _, _, hA⟩ := ho.out.form
      obtain ⟨wL, rfl⟩ : ∃ wL : World, wL = wr := ⟨_, rfl⟩
      have ROW := Lib.hid (ho.out.row nm_len)
      have GL := Lib.hid (G2.out.trans hg.out)
      have EL := Lib.hid (bheap_gr hg.out E2.out)
      have ZL := Lib.hid (bheap_gr hg.out Z2.out)
      have BL := Lib.hid (bheap_gr hg.out B2.out)
      have HQL : Hid (q + 1 + 1 < wL.heap.size) := (Array.getElem?_eq_some_iff.1 BL.out).1
      have ANE : Hid (∀ b o, AR = some ⟨b, o, none⟩ → b ≠ q + 1 + 1) := fun b o e => by have := (hA _ e).2.2.1; have := (Array.getElem?_eq_some_iff.1 B2.out).1; simp only at *; omega
      have R20 := hR.out.few
      have WQ2 : Hid (∀ j, some (q + 1 + 1) = some j → w.heap.size ≤ j) := fun j hj => by injection hj with hj; have := WQ.out; omega
      clear ho hg hA E2 Z2 B2
      go_wp2_with fail
      clear hlt hk
      go_loopw [52] (fun u W => ∃ (i : Nat) (vL : Value), i ≤ R.length ∧ u = .int .i64 i ∧ Hid (W.heap[q + 1 + 1]? = some (.cells #[.slice none 0 0, .slice (some ⟨q + 1, 0, none⟩) 1 1, vL] 26 (0, 0))) ∧ Hid (Own W wL.heap.size 48 2 LinD.cells vL (lnks R i)) ∧ Hid (wL.grownBy W (some (q + 1 + 1)))) (fun u W => R.length - (intOf u).toNat)
      case atStart => exact ⟨0, .slice none 0 0, Nat.zero_le _, rfl, BL, Own.nil_ _ _ _ _ _, World.grownBy.refl _ _⟩
      case round =>
        obtain ⟨i, vL, hi, rfl, hbk, hol, hgb⟩ := hrel
        have ROWr := Lib.hid (row_gb ROW.out hgb.out ANE.out)
        by_cases hlt : i < R.length
        · obtain ⟨s, hs⟩ := get_lt hlt
          obtain ⟨m, em⟩ : ∃ m, (i + 1) % R.length = m := ⟨_, rfl⟩
          have hm' : m < R.length := by rw [← em]; exact Nat.mod_lt _ (by omega)
          obtain ⟨y, hy⟩ := get_lt hm'
          have LK : Hid (lnk R i = lS s y) := by unfold Hid lnk; rw [show R.getD i [] = s by simp [List.getD, hs], em, show R.getD m [] = y by simp [List.getD, hy]]
          obtain ⟨bR, oR, rfl, c0⟩ := ROWr.out.one hs rfl (Gr.refl wr)
          obtain ⟨bR2, oR2, e2, d0⟩ := ROWr.out.one hy rfl (Gr.refl wr)
          injection e2 with e2; injection e2 with e21 e22
          subst e21; subst e22
          have D0 := Lib.hid d0
          have HBL : Hid (bR < wL.heap.size) := by obtain ⟨b', o', e', hb', _⟩ := ROW.out i s hs; injection e' with e'; injection e' with e' _; rw [e']; exact hb'
          have HBr := Lib.hid hbk.out
          have W5 : Hid (IntKind.i64.wrap ((i : Int) + 1) = (i : Int) + 1) := by unfold Hid; rw [IntKind.wrap_i64]; omega
          have N8 : Hid (¬ R = []) := fun e => by rw [e] at hlt; simp at hlt
          have M8 : Hid (Int.tmod ((i : Int) + 1) (R.length : Int) = (m : Int)) := by
            unfold Hid
            rw [Int.tmod_eq_emod_of_nonneg (by omega), ← em, Int.natCast_emod]; rfl
          have hm := Lib.hid hm'
          clear em hm'
          clear hs hy d0
          go_wp2_with fail
          clear c0
          refine wp_region_noPanic ?_
          refine till_start 15 (fun wx => wx.heap[q + 1 + 1]? = some (.cells #[.slice none 0 0, .slice (some ⟨q + 1, 0, none⟩) 1 1, vL] 26 (0, 0)) ∧ wx.cell? ⟨bR, oR + m, none⟩ = some (.string (S y))) (by kernel_rfl) ⟨HBr.out, D0.out⟩ (fun hHeld => ?_)
          (try dsimp only at hHeld)
          have G0 := Lib.hid (Gr.drew wr)
          generalize wr.drew = wd at hHeld G0 ⊢
          refine till_take (i := 0) (oi := { dst := some 57, op := _, type := _, pos := _, after := _, guard := _ }) (v := ?v1) rfl (by kernel_rfl) (by kernel_rfl) (by kernel_rfl) (by kernel_rfl) (fun _ _ _ h => h) (Or.inl ⟨by rfl, ?hy1⟩) (by assumption) ?rest1
          case hy1 => (intro w hSw; go_simp <;> (with_reducible rfl))
          (try simp only [Act.put, List.setIfInBounds_toArray, List.set_cons_zero, List.set_cons_succ])
          refine till_take (i := 1) (oi := { dst := some 58, op := _, type := _, pos := _, after := _, guard := _ }) (v := ?v2) rfl (by kernel_rfl) (by kernel_rfl) (by kernel_rfl) (by kernel_rfl) (fun _ _ _ h => h) (Or.inl ⟨by rfl, ?hy2⟩) (by assumption) ?rest2
          case hy2 => (intro w hSw; have c2 := bcell_row (i := 2) hSw.1 rfl; go_simp <;> (with_reducible rfl))
          (try simp only [Act.put, List.setIfInBounds_toArray, List.set_cons_zero, List.set_cons_succ])
          refine till_take (i := 2) (oi := { dst := some 59, op := _, type := _, pos := _, after := _, guard := _ }) (v := ?v3) rfl (by kernel_rfl) (by kernel_rfl) (by kernel_rfl) (by kernel_rfl) (fun _ _ _ h => h) (Or.inl ⟨by rfl, ?hy3⟩) (by assumption) ?rest3
          case hy3 => (intro w hSw; go_simp <;> (with_reducible rfl))
          (try simp only [Act.put, List.setIfInBounds_toArray, List.set_cons_zero, List.set_cons_succ])
          refine till_take (i := 3) (oi := { dst := some 60, op := _, type := _, pos := _, after := _, guard := _ }) (v := ?v4) rfl (by kernel_rfl) (by kernel_rfl) (by kernel_rfl) (by kernel_rfl) (fun _ _ _ h => h) (Or.inl ⟨by rfl, ?hy4⟩) (by assumption) ?rest4
          case hy4 => (intro w hSw; go_simp <;> (with_reducible rfl))
          (try simp only [Act.put, List.setIfInBounds_toArray, List.set_cons_zero, List.set_cons_succ])
          refine till_take (i := 4) (oi := { dst := some 61, op := _, type := _, pos := _, after := _, guard := _ }) (v := ?v5) rfl (by kernel_rfl) (by kernel_rfl) (by kernel_rfl) (by kernel_rfl) (fun _ _ _ h => h) (Or.inl ⟨by rfl, ?hy5⟩) (by assumption) ?rest5
          case hy5 => (intro w hSw; go_simp <;> (with_reducible rfl))
          (try simp only [Act.put, List.setIfInBounds_toArray, List.set_cons_zero, List.set_cons_succ])
          refine till_take (i := 5) (oi := { dst := some 62, op := _, type := _, pos := _, after := _, guard := _ }) (v := .int .i64 ((i : Int) + 1)) rfl (by kernel_rfl) (by kernel_rfl) (by kernel_rfl) (by kernel_rfl) (fun _ _ _ h => h) (Or.inl ⟨by rfl, ?hy6⟩) (by assumption) ?rest6
          case hy6 => (intro w hSw; simp [go_sem, W5.out])
          (try simp only [Act.put, List.setIfInBounds_toArray, List.set_cons_zero, List.set_cons_succ])
          refine till_take (i := 6) (oi := { dst := some 63, op := _, type := _, pos := _, after := _, guard := _ }) (v := ?v7) rfl (by kernel_rfl) (by kernel_rfl) (by kernel_rfl) (by kernel_rfl) (fun _ _ _ h => h) (Or.inl ⟨by rfl, ?hy7⟩) (by assumption) ?rest7
          case hy7 => (intro w hSw; go_simp <;> (with_reducible rfl))
          (try simp only [Act.put, List.setIfInBounds_toArray, List.set_cons_zero, List.set_cons_succ])
          refine till_take (i := 7) (oi := { dst := some 64, op := _, type := _, pos := _, after := _, guard := _ }) (v := ?v8) rfl (by kernel_rfl) (by kernel_rfl) (by kernel_rfl) (by kernel_rfl) (fun _ _ _ h => h) (Or.inl ⟨by rfl, ?hy8⟩) (by assumption) ?rest8
          case hy8 => (intro w hSw; go_simp <;> (with_reducible rfl))
          (try simp only [Act.put, List.setIfInBounds_toArray, List.set_cons_zero, List.set_cons_succ])
          refine till_take (i := 8) (oi := { dst := some 65, op := _, type := _, pos := _, after := _, guard := _ }) (v := .int .i64 (m : Int)) rfl (by kernel_rfl) (by kernel_rfl) (by kernel_rfl) (by kernel_rfl) (fun _ _ _ h => h) (Or.inl ⟨by rfl, ?hy9⟩) (by assumption) ?rest9
          case hy9 => (intro w hSw; simp [go_sem, M8.out, N8.out])
          (try simp only [Act.put, List.setIfInBounds_toArray, List.set_cons_zero, List.set_cons_succ])
          refine till_take (i := 9) (oi := { dst := some 66, op := _, type := _, pos := _, after := _, guard := _ }) (v := .pointer (some ⟨bR, oR + m, none⟩)) rfl (by kernel_rfl) (by kernel_rfl) (by kernel_rfl) (by kernel_rfl) (fun _ _ _ h => h) (Or.inl ⟨by rfl, ?hy10⟩) (by assumption) ?rest10
          case hy10 => (intro w hSw; simp [go_sem, hm.out])
          (try simp only [Act.put, List.setIfInBounds_toArray, List.set_cons_zero, List.set_cons_succ])
          refine till_take (i := 10) (oi := { dst := some 67, op := _, type := _, pos := _, after := _, guard := _ }) (v := ?v11) rfl (by kernel_rfl) (by kernel_rfl) (by kernel_rfl) (by kernel_rfl) (fun _ _ _ h => h) (Or.inl ⟨by rfl, ?hy11⟩) (by assumption) ?rest11
          case hy11 => (intro w hSw; have c3 := hSw.2; go_simp <;> (with_reducible rfl))
          (try simp only [Act.put, List.setIfInBounds_toArray, List.set_cons_zero, List.set_cons_succ])
          refine till_take (i := 11) (oi := { dst := some 68, op := _, type := _, pos := _, after := _, guard := _ }) (v := ?v12) rfl (by kernel_rfl) (by kernel_rfl) (by kernel_rfl) (by kernel_rfl) (fun _ _ _ h => h) (Or.inl ⟨by rfl, ?hy12⟩) (by assumption) ?rest12
          case hy12 => (intro w hSw; go_simp <;> (with_reducible rfl))
          (try simp only [Act.put, List.setIfInBounds_toArray, List.set_cons_zero, List.set_cons_succ])
          have HNB := Lib.hid (box_one wd (.cells #[.string (S s), .string (S y)] 48))
          refine till_one (i := 12) (by kernel_rfl) rfl (fun K hK => ?_)
          refine step_build1 24 _ _ _ _ (by rfl) rfl (by rfl) (bs_link wd (S s) (S y)) ?_
          refine hK.out _ _ (Or.inr ⟨bheap_gr HNB.out.1 hHeld.1, HNB.out.1.holds hHeld.2⟩) ?_
          clear hK K
          (try simp only [Act.put, List.setIfInBounds_toArray, List.set_cons_zero, List.set_cons_succ])
          have HB3 := Lib.hid (bheap_gr HNB.out.1 hHeld.1)
          have C3 := Lib.hid (HNB.out.1.holds hHeld.2)
          have G3 := Lib.hid (G0.out.trans HNB.out.1)
          have OW := Lib.hid (hol.out.gr G3.out)
          have NB := Lib.hid HNB.out.2
          clear HNB hHeld G0
          generalize wd.alloc (.cells #[.string (S s), .string (S y)] 48) = w3 at HB3 C3 G3 OW NB ⊢
          generalize wd.heap.size = q3 at NB ⊢
          have ST := Lib.hid (Nat.le_trans hgb.out.size (Below.size G3.out))
          refine till_one (i := 13) (by kernel_rfl) rfl (fun K hK => ?_)
          (refine step_append_lies _ (by rfl) _ _ 24 (by rfl) wL.heap.size 48 iL (.agg #[.string .empty, .string .empty]) 2 32 Tryz.underlying24 L1.out L2.out L3.out L4.out (by rfl) (by omega) vL (lnks R i).length ((lnks R i).flatMap LinD.cells) (by rfl) OW.out ⟨q3, 0, none⟩ 1 1 (LinD.cells (lS s y)) (by rfl) (by rfl) (World.news_of_block NB.out) (li_one _) (by omega) (by rw [lnks_len]; unfold maxLen; omega) (by rw [lnks_len]; omega) ST.out w3.heap.size rfl ?_)
          intro g cap w4 hown hgrow hat hlt
          refine hK.out _ _ (Or.inr ⟨(hgrow.block _ (Array.getElem?_eq_some_iff.1 HB3.out).1 (fun e => absurd (own_base OW.out _ e.symm) (Nat.not_le.2 HQL.out))).trans HB3.out, (hgrow.cell C3.out (fun e => absurd (own_base OW.out _ e.symm) (Nat.not_le.2 HBL.out)))⟩) ?_
          clear hK K
          (try simp only [Act.put, List.setIfInBounds_toArray, List.set_cons_zero, List.set_cons_succ])
          have HB4 := Lib.hid ((hgrow.block _ (Array.getElem?_eq_some_iff.1 HB3.out).1 (fun e => absurd (own_base OW.out _ e.symm) (Nat.not_le.2 HQL.out))).trans HB3.out)
          have C4 := Lib.hid (hgrow.cell C3.out (fun e => absurd (own_base OW.out _ e.symm) (Nat.not_le.2 HBL.out)))
          have OL4 : Hid (Own w4 wL.heap.size 48 2 LinD.cells (.slice (some ⟨g, 0, none⟩) ((lnks R i).length + 1) cap) (lnks R (i + 1))) := own_more (by rw [lnks_succ, LK.out]) hown
          have GB4 := Lib.hid ((hgb.out.andThen (gr_none G3.out) (fun j hj => by cases hj)).andThen hgrow (fun j hj => Or.inl (own_base OW.out j hj)))
          have GE := Lib.hid (own_base OL4.out g rfl)
          clear hown hgrow hat hlt HB3 C3 OW NB G3
          refine till_one (i := 14) (by kernel_rfl) rfl (fun K hK => ?_)
          go_simp
          refine hK.out _ _ (Or.inr ⟨HB4.out, C4.out⟩) ?_
          clear hK K
          (try simp only [Act.put, List.setIfInBounds_toArray, List.set_cons_zero, List.set_cons_succ])
          have zc : w4.cell? ⟨q + 1 + 1, 2, none⟩ = some vL := bcell_row HB4.out rfl
          have fz : w4.frozen? ⟨q + 1 + 1, 2, none⟩ = false := unfrozen HB4.out
          refine till_one (i := 15) (by kernel_rfl) rfl (fun K hK => ?_)
          go_simp
          refine hK.out _ _ (Or.inl (by kernel_rfl)) ?_
          clear hK K
          (try simp only [Act.put, List.setIfInBounds_toArray, List.set_cons_zero, List.set_cons_succ])
          clear zc fz
          refine till_done (by kernel_rfl) ?_ _
          refine NoPanic.normal ?_
          go_wp2_with fail
          go_roundw
          case rel => exact ⟨i + 1, .slice (some ⟨g, 0, none⟩) ((lnks R i).length + 1) cap, by omega, by go_num, heap_setCell_same _ _ _ _ _ _ HB4.out, own_set OL4.out HQL.out _ _, GB4.out.andThen (gb_set2 _ _ _ _) (fun j hj => Or.inr hj)⟩
          case measure => simp [intOf]; omega
        · have e : i = R.length := by omega
          subst e
          obtain ⟨AL, cL, rfl, _⟩ := hol.out.form
          have BAT : Hid (BokD.At wr (loopB q R AL cL)) := loopB_at (gb_heap2 EL.out hgb.out (by omega)) (gb_heap2 ZL.out hgb.out (by omega)) hol.out hR.out
          have GM := Lib.hid (grown_gr GL.out hgb.out WQ2.out)
          have HBk := Lib.hid hbk.out
          clear hol hgb hbk ROW EL ZL BL GL hi
          go_wp2_with fail
          obtain ⟨wM, rfl⟩ : ∃ wM : World, wM = wr := ⟨_, rfl⟩
          go_loopw [75] (fun u W => ∃ k : Nat, k ≤ R.length ∧ u = .int .i64 k ∧ Hid (Gr wM W)) (fun u W => R.length - (intOf u).toNat)
          case atStart => exact ⟨0, Nat.zero_le _, rfl, Gr.refl _⟩
          case round =>
            obtain ⟨k, hk, rfl, hg⟩ := hrel
            have BATr := Lib.hid (BAT.out.gr hg.out)
            have GR := Lib.hid (GM.out.trans hg.out)
            have HBr := Lib.hid (bheap_gr hg.out HBk.out)
            have x0 : wr.cell? ⟨q + 1 + 1, 0, none⟩ = some (.slice none 0 0) := bcell_row HBr.out rfl
            have x1 : wr.cell? ⟨q + 1 + 1, 1, none⟩ = some (.slice (some ⟨q + 1, 0, none⟩) 1 1) := bcell_row HBr.out rfl
            have x2 : wr.cell? ⟨q + 1 + 1, 2, none⟩ = some (.slice AL (lnks R R.length).length cL) := bcell_row HBr.out rfl
            by_cases hlt3 : k < R.length
            · obtain ⟨x, hx⟩ := get_lt hlt3
              obtain ⟨bR, oR, rfl, c0⟩ := ROWr.out.one hx rfl hg.out
              have MX := Lib.hid (get_mem hx)
              have SX := Lib.hid (name_len (hR.out.ok x (get_mem hx)).1)
              clear hx
              go_wp2_with fail
              clear x0 x1 x2 c0
              refine (KP.out (loopB q R AL cL) (S x) wr BATr.out (by rw [S_size]; have := SX.out; unfold maxLen; omega) GR.out).mono ?_
              rintro e w5 ⟨⟨znm, zA, zc, ze⟩, rfl, _, g5, _⟩
              have e8 : resC (loopB q R AL cL).rs (loopB q R AL cL).zs (loopB q R AL cL).ls (S x) = 8 := round_res hR.out _ _ MX.out
              rw [e8]
              have G5 := Lib.hid ((hg.out.trans g5).trans (Gr.alloc w5 (.cells #[.string znm, .slice zA ze.length zc] 29)))
              clear e8 g5
              go_wp2_with fail
              go_roundw
              case rel => exact ⟨k + 1, by omega, by go_num, G5⟩
              case measure => simp [intOf]; omega
            · clear hk
              go_wp2_with fail
              clear x0 x1 x2
              refine (KA.out (loopB q R AL cL) wr BATr.out GR.out).mono ?_
              rintro e w5 ⟨A5, c5, rfl, ra, l1, l2, g5⟩
              have e0 : bokC (loopB q R AL cL).rs (loopB q R AL cL).zs (loopB q R AL cL).ls = 0 := round_chk hR.out _ _
              have eN : namA (loopB q R AL cL).rs (loopB q R AL cL).zs (loopB q R AL cL).ls = [zoneN] := (namA_ok e0).trans (round_all hR.out _ _)
              rw [eN] at ra l1 ⊢
              rw [e0]
              have RA := Lib.hid ra
              have B5 := Lib.hid (box_one w5 (.cells #[.string ⟨#[90, 111, 110, 101]⟩] 9))
              have G6 := Lib.hid ((GR.out.trans g5).trans B5.out.1)
              have RZ : Hid (Row _ 1 nmC (some ⟨w5.heap.size, 0, none⟩) [zoneN]) := row_single (enc := nmC) (x := zoneN) rfl B5.out.2 rfl
              have R6 := Lib.hid (RA.out.gr B5.out.1)
              clear e0 eN ra g5
              go_wp2_with fail
              refine (KQ.out A5 c5 (some ⟨w5.heap.size, 0, none⟩) 1 [zoneN] 1 _ rfl (by simp) R6.out RZ.out).mono ?_
              rintro e w7 ⟨rfl, g7⟩
              go_wp2_with fail
              go_ret
              exact ⟨rfl, G6.out.trans g7⟩

set_option maxRecDepth 100000 in
theorem contract (H : Type) (enc : TypeId × Value → H) (W : World) (base : Nat) (args : Array Value) (ds gs : List (DataW H)) (before : List MemPlace)
    (hval : ∀ (j : Nat) t v, Tryz.f6.params[j]? = some t → args[j]? = some v → Value.okWide Tryz.prog W .any base t v)
    (hW : DataW.Whole enc Tryz.prog Tryz.f6.params.toList Rows.namesLoopsSpec.vars false W args.toList ds gs before) (hL : laidMet Tryz.prog Rows.namesLoopsRow.laid W) (hsh : W.ShapedOpen Tryz.prog) :
    Calls Tryz.prog 6 args W fun e W' => ∃ v, e = .returned v ∧ Rows.namesLoopsSpec.post enc Tryz.prog Tryz.f6 false true false false W args v W' := by
  have hW' := hW
  obtain ⟨p, q, hA0, hV, rfl, hfz, hnd⟩ := hW
  have hA : DataW.TrodAll enc Tryz.prog W 0 (fun _ => true) true Tryz.f6.params.toList args.toList ds p := hA0
  rw [Tryz.params6] at hA hval
  obtain ⟨v0, vs0, d0, ds0, p0, q0, hargs, rfl, rfl, h0, r0⟩ := trodAll_cons hA
  obtain ⟨rfl, rfl, rfl⟩ := trodAll_nil r0
  obtain rfl : args = #[v0] := by cases args; simp_all
  obtain ⟨rfl, rfl⟩ := trodVars_none hV
  obtain ⟨st0, rfl, bi0⟩ := open_strs (hval 0 35 v0 rfl rfl) h0
  clear hA0
  simp only [List.append_nil] at hW'
  refine (walk st0 W bi0 ⟨lens_of hL (List.mem_of_getElem? (i := 3) rfl), pow_of hL (List.mem_of_getElem? (i := 2) rfl), max_of hsh⟩).mono fun e W' ⟨he, hg⟩ => ?_
  subst he
  exact ⟨_, rfl, post_of_below (pa := (p0 ++ [])) (pv := []) hW' (fun _ _ _ => trodAll_cons_mk (shut_bool Tryz.underlying4 _) trodAll_mk0) (fun _ hsp => (trodAll_cons_mk (stays strs_reads h0 hg (fun p hp => by simp [hp]) (fun p hp => hW'.lt p hp) hsp) trodAll_mk0)) (fun _ _ => rfl) (by simp)
    hg (ok_one (by kernel_rfl) rfl (okWide_bool_mk Tryz.underlying4 _))⟩

/-- A world for the witness: the settled one, the listed variables holding what their initialisers lay. -/
noncomputable def laidWorld (os : Os) : World := put (put (put (put (put (put (bare os) 5 (flat1 Rows.laid_math_bits_deBruijn32tab)) 6 (flat1 Rows.laid_math_bits_deBruijn64tab)) 4 (flat1 Rows.laid_internal_strconv_uint64pow10)) 0 (flat1 Rows.laid_timeball_civil_lengths)) 3 (flat2 Rows.laid_unicode_utf8_acceptRanges)) 2 (flat1 Rows.laid_unicode_utf8_first)
set_option maxRecDepth 100000 in
theorem laid_met (os : Os) : laidMet Tryz.prog Rows.namesLoopsRow.laid ((laidWorld os).forCall (fun _ _ => 0) ⟨#[], #[.slice none 0 0], []⟩).memory :=
  laidMet_of_run3 8 (by kernel_rfl) (by kernel_rfl) (by kernel_rfl)
theorem reads (os : Os) {H : Type} (enc : TypeId × Value → H) : ∃ places, DataW.whole enc Tryz.prog ((laidWorld os).forCall (fun _ _ => 0) ⟨#[], #[.slice none 0 0], []⟩).memory Tryz.f6.params.toList Rows.namesLoopsSpec.vars false #[Value.slice none 0 0].toList 8 = some ([.nil], [], places) :=
  ⟨[], by kernel_rfl⟩

set_option maxRecDepth 100000 in
theorem lifted (os : Os) (started : os.Started) (H : Type) (enc : TypeId × Value → H) (F : Stop.Interp) :
    ReturnsInHanded {} Tryz.checked os 6 .any ((OpenSpec.ofChange Rows.namesLoopsSpec).preRow enc Tryz.prog Tryz.f6 Rows.namesLoopsRow.domain false Rows.namesLoopsRow.laid) (((OpenSpec.ofChange Rows.namesLoopsSpec).at F).post enc Tryz.prog Tryz.f6 false true false false) := by
  obtain ⟨places, hx⟩ := reads os enc
  refine returnsInHanded_of_row (C := Tryz.checked) (s := OpenSpec.ofChange Rows.namesLoopsSpec) own started (by kernel_rfl) Tryz.func6
    (witness_row_at (enc := enc) (C := Tryz.checked) false (laidWorld os) #[.slice none 0 0] rfl (by kernel_rfl) (by kernel_rfl) (by kernel_rfl)
      (OpenSpec.preRow_of_cond 8 hx (by kernel_rfl) (fun k hk => by cases hk) (by kernel_rfl) (laid_met os))) ?_
  intro W base args ds gs before hval hW _ _ _ hL hsh _
  exact contract H enc W base args ds gs before hval hW hL hsh

theorem said : Rows.NamesLoopsSaid :=
  OpenClaim.holds_of_cond 6 Tryz.f6 rfl rfl rfl rfl rfl rfl rfl ⟨rfl, rfl, rfl, rfl, rfl⟩ rfl rfl rfl rfl rfl (by kernel_rfl) Tryz.func6 (by kernel_rfl)
    (of_decide_eq_true (by kernel_rfl)) (by unfold Func.isWrapper; first | (rw [if_pos (by decide +kernel)]; kernel_rfl) | (rw [if_neg (by decide +kernel)]; exact ⟨rfl, rfl⟩))
    (fun os started H enc _ F => by rw [OpenClaim.pre_eq_preRow]; exact lifted os started H enc F)

set_option maxRecDepth 100000 in
/-- No parameter wants a stand-in; whether the program has looks of its own. -/
theorem plain (f : FuncId) (fn : Func) (hf : Tryz.pinned.checked.prog.funcNamed "timeball/timeballkeep.NamesLoops" = some f) (hfn : Tryz.pinned.checked.prog.funcs[f]? = some fn) :
    false = Tryz.pinned.checked.prog.looks [] ∧ ∀ (j : Nat) t, fn.params[j]? = some t → Tryz.pinned.checked.prog.wantsStandIn t = false := by
  obtain rfl : f = 6 := Option.some.inj ((show Tryz.prog.funcNamed "timeball/timeballkeep.NamesLoops" = some 6 by kernel_rfl).symm.trans hf) |>.symm
  obtain rfl : fn = Tryz.f6 := (Option.some.inj (Tryz.func6.symm.trans hfn)).symm
  refine ⟨by kernel_rfl, fun j t ht => ?_⟩
  rw [Tryz.params6] at ht
  obtain rfl : t = 35 := by simpa using Array.mem_of_getElem? ht
  exact (show Tryz.prog.wantsStandIn 35 = false by kernel_rfl)

end Go.Proofs.YtemdgipkcilpcaaGreatDoor.namesLoops
namespace Go.Proofs.YtemdgipkcilpcaaGreatDoor
/-- The card. -/
theorem namesLoops_holds : Rows.NamesLoopsCardSaid :=
  Claim7.holds_tied_plain_at .later [] _ _ _ _ namesLoops.said (fun _ h => by cases h) (by kernel_rfl) (fun _ h => by cases h) namesLoops_row_tie rfl ⟨rfl, rfl⟩ (by kernel_rfl) rfl namesLoops.plain (by kernel_rfl)
end Go.Proofs.YtemdgipkcilpcaaGreatDoor
