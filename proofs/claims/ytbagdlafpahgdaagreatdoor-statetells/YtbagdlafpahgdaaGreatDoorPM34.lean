/- Rows of a call's own that are appended tto; the reference's rulesOf. What the project's named, countYears and moment of package turns return. -/
import Derived.Deep.AppendLies
import Derived.OwnWalk
import Derived.Laws.OwnMore
import Derived.Test.YtbagdlafpahgdaaGreatDoorPM32
import Derived.Test.YtbagdlafpahgdaaGreatDoorPM33
import Derived.Test.YtbagdlafpahgdaaGreatDoorPM17
import Derived.Test.YtbagdlafpahgdaaGreatDoorPM13
import Derived.Test.YtbagdlafpahgdaaGreatDoorPM23
namespace Go.Proofs.YtbagdlafpahgdaaGreatDoor
set_option linter.unusedVariables false
set_option linter.unusedSimpArgs false
open Go.RowKit
theorem infoRule : (Tryz.prog.info? 44).map (fun i => (i.zero, i.size, i.bytes)) = some (some (.agg #[.string .empty, .int .i64 0, .int .i64 0, .int .i64 0, .int .i64 0, .int .i64 0, .int .i64 0, .int .i64 0, .int .i64 0, .int .i64 0, .string .empty]), 11, 104) := by kernel_rfl

/-- the rules of a name -/
def rusOf (rs : List RuD) (nm : ByteArray) : List RuD := rs.filter fun r => r.nm.toList == nm.toList
theorem rusOf_take {rs : List RuD} {nm : ByteArray} {k : Nat} {r : RuD} (h : rs[k]? = some r) : rusOf (rs.take (k + 1)) nm = rusOf (rs.take k) nm ++ (if (r.nm.toList == nm.toList) = true then [r] else []) := by
  have hk : k < rs.length := (List.getElem?_eq_some_iff.1 h).1
  have e : rs[k] = r := (List.getElem?_eq_some_iff.1 h).2
  unfold rusOf
  rw [List.take_succ_eq_append_getElem hk, List.filter_append, e, List.filter_cons]
  simp
theorem rusOf_len (rs : List RuD) (nm : ByteArray) : (rusOf rs nm).length ≤ rs.length := List.length_filter_le _ _
/-- what rulesOf leaves -/
def RusE (rs : List RuD) (nm : ByteArray) (w : World) (e : Ending) (w' : World) : Prop := ∃ v, e = .returned v ∧ Own w' w.heap.size 44 11 RuD.cells v (rusOf rs nm) ∧ Gr w w'

set_option maxRecDepth 100000 in
set_option maxHeartbeats 8000000 in
theorem rrulesOf (b : BokD) (nm : ByteArray) (w : World) (hb : RusAt w b.Ar b.cr b.rs) (h40 : b.rs.length ≤ 40) :
    Calls Tryz.prog 49 #[bookV b, .string nm] w (RusE b.rs nm w) := by
  obtain ⟨Ar, cr, rs, Az, cz, zs, Al, cl, ls⟩ := b
  have HR : Hid (Row w 11 RuD.cells Ar rs) := hb.2.1
  simp only at h40
  obtain ⟨i0, hi, hz0, hz1, hz2⟩ := info_parts infoRule
  have B0 := Lib.hid (box_one w (.cells #[.slice Ar rs.length cr, .slice Az zs.length cz, .slice Al ls.length cl] 26))
  have I1 := Lib.hid hi
  have I2 := Lib.hid hz0
  have I3 := Lib.hid hz1
  have I4 := Lib.hid hz2
  clear hb hi hz0 hz1 hz2
  show Calls _ _ _ _ (RusE rs nm w)
  go_enter Tryz.func49, Tryz.ntmps49
  go_wp2_with fail
  generalize w.alloc (.cells #[.slice Ar rs.length cr, .slice Az zs.length cz, .slice Al ls.length cl] 26) = w1 at B0 ⊢
  have G1 := Lib.hid B0.out.1
  clear B0
  go_loopw [5, 11] (fun v i W => ∃ k : Nat, k ≤ rs.length ∧ i = .int .i64 k ∧ Hid (Own W w.heap.size 44 11 RuD.cells v (rusOf (rs.take k) nm)) ∧ Hid (Gr w W)) (fun v i W => rs.length - (intOf i).toNat)
  case atStart => exact ⟨0, Nat.zero_le _, rfl, Own.nil_ _ _ _ _ _, G1⟩
  case round =>
    obtain ⟨k, hk, rfl, ho, hg⟩ := hrel
    by_cases hlt : k < rs.length
    · obtain ⟨⟨znm, fr, tt, mo, zk, d, n, at', by', sv, lt⟩, hx⟩ := get_lt hlt
      have RT := Lib.hid (rusOf_take (nm := nm) hx)
      obtain ⟨b, off, rfl, c0, c1, c2, c3, c4, c5, c6, c7, c8, c9, c10⟩ := HR.out.eleven hx rfl hg.out
      clear hx
      obtain ⟨p, ep⟩ : ∃ p, (znm.toList == nm.toList) = p := ⟨_, rfl⟩
      simp only [ep] at RT
      cases p with
      | false =>
        go_wp2_with fail
        go_roundw
        case rel => exact ⟨k + 1, by omega, by go_num, by unfold Hid; rw [RT.out]; simpa using ho.out.gr (Gr.alloc _ _), hg.out.alloc' _⟩
        case measure => simp [intOf]; omega
      | true =>
        have OW : Hid (Own ((wr.alloc (.cells #[.string znm, .int .i64 fr, .int .i64 tt, .int .i64 mo, .int .i64 zk, .int .i64 d, .int .i64 n, .int .i64 at', .int .i64 by', .int .i64 sv, .string lt] 44)).alloc (.cells #[.string znm, .int .i64 fr, .int .i64 tt, .int .i64 mo, .int .i64 zk, .int .i64 d, .int .i64 n, .int .i64 at', .int .i64 by', .int .i64 sv, .string lt] 44)) w.heap.size 44 11 RuD.cells u5 (rusOf (rs.take k) nm)) := ho.out.gr ((Gr.alloc _ _).alloc' _)
        have NB : Hid (((wr.alloc (.cells #[.string znm, .int .i64 fr, .int .i64 tt, .int .i64 mo, .int .i64 zk, .int .i64 d, .int .i64 n, .int .i64 at', .int .i64 by', .int .i64 sv, .string lt] 44)).alloc (.cells #[.string znm, .int .i64 fr, .int .i64 tt, .int .i64 mo, .int .i64 zk, .int .i64 d, .int .i64 n, .int .i64 at', .int .i64 by', .int .i64 sv, .string lt] 44)).heap[wr.heap.size + 1]? = some (.cells #[.string znm, .int .i64 fr, .int .i64 tt, .int .i64 mo, .int .i64 zk, .int .i64 d, .int .i64 n, .int .i64 at', .int .i64 by', .int .i64 sv, .string lt] 44)) := (box_two wr (.cells #[.string znm, .int .i64 fr, .int .i64 tt, .int .i64 mo, .int .i64 zk, .int .i64 d, .int .i64 n, .int .i64 at', .int .i64 by', .int .i64 sv, .string lt] 44) (.cells #[.string znm, .int .i64 fr, .int .i64 tt, .int .i64 mo, .int .i64 zk, .int .i64 d, .int .i64 n, .int .i64 at', .int .i64 by', .int .i64 sv, .string lt] 44)).2.2
        have GB : Hid (Below w.heap.size w ((wr.alloc (.cells #[.string znm, .int .i64 fr, .int .i64 tt, .int .i64 mo, .int .i64 zk, .int .i64 d, .int .i64 n, .int .i64 at', .int .i64 by', .int .i64 sv, .string lt] 44)).alloc (.cells #[.string znm, .int .i64 fr, .int .i64 tt, .int .i64 mo, .int .i64 zk, .int .i64 d, .int .i64 n, .int .i64 at', .int .i64 by', .int .i64 sv, .string lt] 44))) := hg.out.trans ((Gr.alloc _ _).alloc' _)
        have LN : Hid ((rusOf (rs.take k) nm).length ≤ 40) := by have := rusOf_len (rs.take k) nm; rw [List.length_take] at this; unfold Hid; omega
        have RT2 : Hid (rusOf (rs.take (k + 1)) nm = rusOf (rs.take k) nm ++ [⟨znm, fr, tt, mo, zk, d, n, at', by', sv, lt⟩]) := by unfold Hid; rw [RT.out]; simp
        clear RT ho
        generalize rusOf (rs.take k) nm = L at OW LN RT2
        go_wp2_with (at_builtin; refine wpList_append_lies _ (by rfl) _ _ 22 (by rfl) w.heap.size 44 i0 (.agg #[.string .empty, .int .i64 0, .int .i64 0, .int .i64 0, .int .i64 0, .int .i64 0, .int .i64 0, .int .i64 0, .int .i64 0, .int .i64 0, .string .empty]) 11 104 Tryz.underlying22 I1.out I2.out I3.out I4.out (by rfl) (by omega) u5 L.length (L.flatMap RuD.cells) (by rfl) OW.out ⟨wr.heap.size + 1, 0, none⟩ 1 1 [.string znm, .int .i64 fr, .int .i64 tt, .int .i64 mo, .int .i64 zk, .int .i64 d, .int .i64 n, .int .i64 at', .int .i64 by', .int .i64 sv, .string lt] (by rfl) (by rfl) (World.news_of_block NB.out) (ru_one ⟨znm, fr, tt, mo, zk, d, n, at', by', sv, lt⟩) (by omega) (by have := LN.out; unfold maxLen; omega) (by have := LN.out; omega) (Below.size GB.out) (wr.heap.size + 2) (by simp) ?_; intro g cap w3 hown hgrow hat hlt3)
        go_roundw
        case rel => exact ⟨k + 1, by omega, by go_num, own_more RT2.out hown, grown_gr GB.out hgrow (own_base OW.out)⟩
        case measure => simp [intOf]; omega
    · have e : k = rs.length := by omega
      have HO : Hid (Own wr w.heap.size 44 11 RuD.cells u5 (rusOf rs nm)) := by have := ho.out; rw [e, List.take_length] at this; exact this
      clear e ho
      go_wp2_with fail
      go_ret
      exact ⟨_, rfl, HO.out, hg.out⟩
end Go.Proofs.YtbagdlafpahgdaaGreatDoor
namespace Go.Proofs.YtbagdlafpahgdaaGreatDoor
set_option linter.unusedVariables false
set_option linter.unusedSimpArgs false
open Go.RowKit
set_option maxRecDepth 100000 in
set_option maxHeartbeats 8000000 in
theorem tnamed (Ar : Option Addr) (cr : Nat) (rs : List RuD) (nm : ByteArray) (w : World) (hb : RusAt w Ar cr rs) (h40 : rs.length ≤ 40) :
    Calls Tryz.prog 32 #[.slice Ar rs.length cr, .string nm] w fun e w' => ∃ v, e = .returned v ∧ Own w' w.heap.size 44 11 RuD.cells v (selR rs nm) ∧ Gr w w' := by
  have HR : Hid (Row w 11 RuD.cells Ar rs) := hb.2.1
  obtain ⟨i0, hi, hz0, hz1, hz2⟩ := info_parts infoRule
  have I1 := Lib.hid hi
  have I2 := Lib.hid hz0
  have I3 := Lib.hid hz1
  have I4 := Lib.hid hz2
  have G1 := Lib.hid (Gr.refl w)
  clear hb hi hz0 hz1 hz2
  go_enter Tryz.func32, Tryz.ntmps32
  go_wp2_with fail
  go_loopw [5, 10] (fun v i W => ∃ k : Nat, k ≤ rs.length ∧ i = .int .i64 k ∧ Hid (Own W w.heap.size 44 11 RuD.cells v (selR (rs.take k) nm)) ∧ Hid (Gr w W)) (fun v i W => rs.length - (intOf i).toNat)
  case atStart => exact ⟨0, Nat.zero_le _, rfl, Own.nil_ _ _ _ _ _, G1⟩
  case round =>
    obtain ⟨k, hk, rfl, ho, hg⟩ := hrel
    by_cases hlt : k < rs.length
    · obtain ⟨⟨znm, fr, tt, mo, zk, d, n, at', by', sv, lt⟩, hx⟩ := get_lt hlt
      have RT := Lib.hid (sel_take (nm := nm) hx)
      obtain ⟨b, off, rfl, c0, c1, c2, c3, c4, c5, c6, c7, c8, c9, c10⟩ := HR.out.eleven hx rfl hg.out
      clear hx
      obtain ⟨p, ep⟩ : ∃ p, (znm.toList == nm.toList) = p := ⟨_, rfl⟩
      simp only [ep] at RT
      cases p with
      | false =>
        go_wp2_with fail
        go_roundw
        case rel => exact ⟨k + 1, by omega, by go_num, by unfold Hid; rw [RT.out]; simpa using ho.out.gr (Gr.alloc _ _), hg.out.alloc' _⟩
        case measure => simp [intOf]; omega
      | true =>
        have OW : Hid (Own ((wr.alloc (.cells #[.string znm, .int .i64 fr, .int .i64 tt, .int .i64 mo, .int .i64 zk, .int .i64 d, .int .i64 n, .int .i64 at', .int .i64 by', .int .i64 sv, .string lt] 44)).alloc (.cells #[.string znm, .int .i64 fr, .int .i64 tt, .int .i64 mo, .int .i64 zk, .int .i64 d, .int .i64 n, .int .i64 at', .int .i64 by', .int .i64 sv, .string lt] 44)) w.heap.size 44 11 RuD.cells u5 (selR (rs.take k) nm)) := ho.out.gr ((Gr.alloc _ _).alloc' _)
        have NB : Hid (((wr.alloc (.cells #[.string znm, .int .i64 fr, .int .i64 tt, .int .i64 mo, .int .i64 zk, .int .i64 d, .int .i64 n, .int .i64 at', .int .i64 by', .int .i64 sv, .string lt] 44)).alloc (.cells #[.string znm, .int .i64 fr, .int .i64 tt, .int .i64 mo, .int .i64 zk, .int .i64 d, .int .i64 n, .int .i64 at', .int .i64 by', .int .i64 sv, .string lt] 44)).heap[wr.heap.size + 1]? = some (.cells #[.string znm, .int .i64 fr, .int .i64 tt, .int .i64 mo, .int .i64 zk, .int .i64 d, .int .i64 n, .int .i64 at', .int .i64 by', .int .i64 sv, .string lt] 44)) := (box_two wr (.cells #[.string znm, .int .i64 fr, .int .i64 tt, .int .i64 mo, .int .i64 zk, .int .i64 d, .int .i64 n, .int .i64 at', .int .i64 by', .int .i64 sv, .string lt] 44) (.cells #[.string znm, .int .i64 fr, .int .i64 tt, .int .i64 mo, .int .i64 zk, .int .i64 d, .int .i64 n, .int .i64 at', .int .i64 by', .int .i64 sv, .string lt] 44)).2.2
        have GB : Hid (Below w.heap.size w ((wr.alloc (.cells #[.string znm, .int .i64 fr, .int .i64 tt, .int .i64 mo, .int .i64 zk, .int .i64 d, .int .i64 n, .int .i64 at', .int .i64 by', .int .i64 sv, .string lt] 44)).alloc (.cells #[.string znm, .int .i64 fr, .int .i64 tt, .int .i64 mo, .int .i64 zk, .int .i64 d, .int .i64 n, .int .i64 at', .int .i64 by', .int .i64 sv, .string lt] 44))) := hg.out.trans ((Gr.alloc _ _).alloc' _)
        have LN : Hid ((selR (rs.take k) nm).length ≤ 40) := by have := sel_len (rs.take k) nm; rw [List.length_take] at this; unfold Hid; omega
        have RT2 : Hid (selR (rs.take (k + 1)) nm = selR (rs.take k) nm ++ [⟨znm, fr, tt, mo, zk, d, n, at', by', sv, lt⟩]) := by unfold Hid; rw [RT.out]; simp
        clear RT ho
        generalize selR (rs.take k) nm = L at OW LN RT2
        go_wp2_with (at_builtin; refine wpList_append_lies _ (by rfl) _ _ 22 (by rfl) w.heap.size 44 i0 (.agg #[.string .empty, .int .i64 0, .int .i64 0, .int .i64 0, .int .i64 0, .int .i64 0, .int .i64 0, .int .i64 0, .int .i64 0, .int .i64 0, .string .empty]) 11 104 Tryz.underlying22 I1.out I2.out I3.out I4.out (by rfl) (by omega) u5 L.length (L.flatMap RuD.cells) (by rfl) OW.out ⟨wr.heap.size + 1, 0, none⟩ 1 1 [.string znm, .int .i64 fr, .int .i64 tt, .int .i64 mo, .int .i64 zk, .int .i64 d, .int .i64 n, .int .i64 at', .int .i64 by', .int .i64 sv, .string lt] (by rfl) (by rfl) (World.news_of_block NB.out) (ru_one ⟨znm, fr, tt, mo, zk, d, n, at', by', sv, lt⟩) (by omega) (by have := LN.out; unfold maxLen; omega) (by have := LN.out; omega) (Below.size GB.out) (wr.heap.size + 2) (by simp) ?_; intro g cap w3 hown hgrow hat hlt3)
        go_roundw
        case rel => exact ⟨k + 1, by omega, by go_num, own_more RT2.out hown, grown_gr GB.out hgrow (own_base OW.out)⟩
        case measure => simp [intOf]; omega
    · have e : k = rs.length := by omega
      have HO : Hid (Own wr w.heap.size 44 11 RuD.cells u5 (selR rs nm)) := by have := ho.out; rw [e, List.take_length] at this; exact this
      clear e ho
      go_wp2_with fail
      go_ret
      exact ⟨_, rfl, HO.out, hg.out⟩

set_option maxRecDepth 100000 in
set_option maxHeartbeats 8000000 in
theorem tcount (A : Option Addr) (c : Nat) (l : List RuD) (w : World) (hr : Row w 11 RuD.cells A l) (hl : l.length ≤ 40) (ho : ∀ r ∈ l, r.Ok) :
    Calls Tryz.prog 33 #[.slice A l.length c] w fun e w' => e = .returned (.int .i64 (yrs l)) ∧ Gr w w' := by
  have HR := Lib.hid hr
  have HO := Lib.hid ho
  have G1 := Lib.hid (Gr.refl w)
  clear hr ho
  go_enter Tryz.func33, Tryz.ntmps33
  go_wp2_with fail
  go_loopw [3, 8] (fun v i W => ∃ (k : Nat) (y : Int), k ≤ l.length ∧ i = .int .i64 k ∧ v = .int .i64 y ∧ 0 ≤ y ∧ y ≤ 201 * k ∧ Hid (y = yrs (l.take k)) ∧ Hid (Gr w W)) (fun v i W => l.length - (intOf i).toNat)
  case atStart => exact ⟨0, 0, Nat.zero_le _, rfl, rfl, by omega, by omega, rfl, G1⟩
  case round =>
    obtain ⟨k, y, hk, rfl, rfl, hy0, hy1, HY, hg⟩ := hrel
    by_cases hlt : k < l.length
    · obtain ⟨⟨znm, fr, tt, mo, zk, d, n, at', by', sv, lt⟩, hx⟩ := get_lt hlt
      have RT := Lib.hid (yrs_take hx)
      have ok : RuleNum fr tt mo := (HO.out _ (get_mem hx)).1
      obtain ⟨o1, o2, o3, _⟩ := ok
      obtain ⟨b, off, rfl, c0, c1, c2, c3, c4, c5, c6, c7, c8, c9, c10⟩ := HR.out.eleven hx rfl hg.out
      clear hx
      go_wp2_with fail
      go_roundw
      case rel => exact ⟨k + 1, y + (tt - fr + 1), by omega, by go_num, rfl, by omega, by omega, by unfold Hid; rw [RT.out, ← HY.out], hg.out.alloc' _⟩
      case measure => simp [intOf]; omega
    · have e : k = l.length := by omega
      have HE : Hid (y = yrs l) := by have := HY.out; rw [e, List.take_length] at this; exact this
      clear e HY
      go_wp2_with fail
      go_ret
      exact ⟨by rw [← HE.out]; rfl, hg.out⟩

set_option maxRecDepth 100000 in
set_option maxHeartbeats 8000000 in
theorem tmoment (p : PenD) (off sv : Int) (w : World) (hp : p.Ok) (h1 : -64800 ≤ off) (h2 : off ≤ 64800) (h3 : 0 ≤ sv) (h4 : sv ≤ 10800) :
    Calls Tryz.prog 59 #[.agg p.cells.toArray, .int .i64 off, .int .i64 sv] w fun e w' => e = .returned (.int .i64 (momR off sv p)) ∧ Gr w w' := by
  obtain ⟨no, ⟨znm, fr, tt, mo, zk, d, n, at', by', psv, lt⟩⟩ := p
  obtain ⟨⟨_, _, _, _, hb0, _⟩, _, hn1, hn2⟩ := hp
  simp only at hb0 hn1 hn2
  simp only [PenD.cells, RuD.cells, List.cons_append, List.nil_append, momR]
  by_cases c1 : by' = 1
  · subst c1
    go_enter Tryz.func59, Tryz.ntmps59
    go_wp2_with fail
    go_ret
    exact ⟨rfl, Gr.alloc _ _⟩
  · by_cases c2 : by' = 2
    · subst c2
      go_enter Tryz.func59, Tryz.ntmps59
      go_wp2_with fail
      go_ret
      exact ⟨rfl, Gr.alloc _ _⟩
    · rw [if_neg c1, if_neg c2]
      have e1 : (by' == 1) = false := by rw [beq_eq_false_iff_ne]; exact c1
      have e2 : (by' == 2) = false := by rw [beq_eq_false_iff_ne]; exact c2
      go_enter Tryz.func59, Tryz.ntmps59
      go_wp2_with fail
      go_ret
      exact ⟨rfl, Gr.alloc _ _⟩
end Go.Proofs.YtbagdlafpahgdaaGreatDoor
