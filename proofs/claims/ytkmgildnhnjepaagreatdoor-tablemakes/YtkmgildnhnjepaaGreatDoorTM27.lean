/- What the project's named, countYears and moment of package turns return. What the project's inOrder of package turns returns: the transitions in their stable order. How long the texts of a book are that may be; a slice of eras copied; what the project's copyZone of package names returns. -/
import Derived.Test.YtkmgildnhnjepaaGreatDoorTM11
import Derived.Test.YtkmgildnhnjepaaGreatDoorTM26
import Derived.Test.YtkmgildnhnjepaaGreatDoorTM17
import Derived.Test.YtkmgildnhnjepaaGreatDoorTM16
import Derived.Test.YtkmgildnhnjepaaGreatDoorTM12
import Derived.Test.YtkmgildnhnjepaaGreatDoorTM23
namespace Go.Proofs.YtkmgildnhnjepaaGreatDoor
set_option linter.unusedVariables false
set_option linter.unusedSimpArgs false
open Go.RowKit
set_option maxRecDepth 100000 in
set_option maxHeartbeats 8000000 in
theorem tnamed (Ar : Option Addr) (cr : Nat) (rs : List RuD) (nm : ByteArray) (w : World) (hb : RusAt w Ar cr rs) (h40 : rs.length ≤ 40) :
    Calls Tryz.prog 77 #[.slice Ar rs.length cr, .string nm] w fun e w' => ∃ v, e = .returned v ∧ Own w' w.heap.size 118 11 RuD.cells v (selR rs nm) ∧ Gr w w' := by
  have HR : Hid (Row w 11 RuD.cells Ar rs) := hb.2.1
  obtain ⟨i0, hi, hz0, hz1, hz2⟩ := info_parts infoRule
  have I1 := Lib.hid hi
  have I2 := Lib.hid hz0
  have I3 := Lib.hid hz1
  have I4 := Lib.hid hz2
  have G1 := Lib.hid (Gr.refl w)
  clear hb hi hz0 hz1 hz2
  go_enter Tryz.func77, Tryz.ntmps77
  go_wp2_with fail
  go_loopw [5, 10] (fun v i W => ∃ k : Nat, k ≤ rs.length ∧ i = .int .i64 k ∧ Hid (Own W w.heap.size 118 11 RuD.cells v (selR (rs.take k) nm)) ∧ Hid (Gr w W)) (fun v i W => rs.length - (intOf i).toNat)
  case atStart => exact ⟨0, Nat.zero_le _, rfl, Own.nil_ _ _ _ _ _, G1⟩
  case round =>
    obtain ⟨k, hk, rfl, ho, hg⟩ := hrel
    by_cases hlt : k < rs.length
    · obtain ⟨⟨znm, fr, tt, mo, zk, d, n, at', by', sv, lt⟩, hx⟩ := get_lt hlt
      have RT := Lib.hid (sel_take (nm := nm) hx)
      obtain ⟨b, off, rfl, c0, c1, c2, c3, c4, c5, c6, c7, c8, c9, c10⟩ := HR.out.eleven hx rfl hg.out
      clear hx
      obtain ⟨p, ep⟩ : ∃ p, (znm.toList == nm.toList) = p := ⟨_, rfl⟩
      simp only [ep] at RT
      cases p with
      | false =>
        go_wp2_with fail
        go_roundw
        case rel => exact ⟨k + 1, by omega, by go_num, by unfold Hid; rw [RT.out]; simpa using ho.out.gr (Gr.alloc _ _), hg.out.alloc' _⟩
        case measure => simp [intOf]; omega
      | true =>
        have OW : Hid (Own ((wr.alloc (.cells #[.string znm, .int .i64 fr, .int .i64 tt, .int .i64 mo, .int .i64 zk, .int .i64 d, .int .i64 n, .int .i64 at', .int .i64 by', .int .i64 sv, .string lt] 118)).alloc (.cells #[.string znm, .int .i64 fr, .int .i64 tt, .int .i64 mo, .int .i64 zk, .int .i64 d, .int .i64 n, .int .i64 at', .int .i64 by', .int .i64 sv, .string lt] 118)) w.heap.size 118 11 RuD.cells u5 (selR (rs.take k) nm)) := ho.out.gr ((Gr.alloc _ _).alloc' _)
        have NB : Hid (((wr.alloc (.cells #[.string znm, .int .i64 fr, .int .i64 tt, .int .i64 mo, .int .i64 zk, .int .i64 d, .int .i64 n, .int .i64 at', .int .i64 by', .int .i64 sv, .string lt] 118)).alloc (.cells #[.string znm, .int .i64 fr, .int .i64 tt, .int .i64 mo, .int .i64 zk, .int .i64 d, .int .i64 n, .int .i64 at', .int .i64 by', .int .i64 sv, .string lt] 118)).heap[wr.heap.size + 1]? = some (.cells #[.string znm, .int .i64 fr, .int .i64 tt, .int .i64 mo, .int .i64 zk, .int .i64 d, .int .i64 n, .int .i64 at', .int .i64 by', .int .i64 sv, .string lt] 118)) := (box_two wr (.cells #[.string znm, .int .i64 fr, .int .i64 tt, .int .i64 mo, .int .i64 zk, .int .i64 d, .int .i64 n, .int .i64 at', .int .i64 by', .int .i64 sv, .string lt] 118) (.cells #[.string znm, .int .i64 fr, .int .i64 tt, .int .i64 mo, .int .i64 zk, .int .i64 d, .int .i64 n, .int .i64 at', .int .i64 by', .int .i64 sv, .string lt] 118)).2.2
        have GB : Hid (Below w.heap.size w ((wr.alloc (.cells #[.string znm, .int .i64 fr, .int .i64 tt, .int .i64 mo, .int .i64 zk, .int .i64 d, .int .i64 n, .int .i64 at', .int .i64 by', .int .i64 sv, .string lt] 118)).alloc (.cells #[.string znm, .int .i64 fr, .int .i64 tt, .int .i64 mo, .int .i64 zk, .int .i64 d, .int .i64 n, .int .i64 at', .int .i64 by', .int .i64 sv, .string lt] 118))) := hg.out.trans ((Gr.alloc _ _).alloc' _)
        have LN : Hid ((selR (rs.take k) nm).length ≤ 40) := by have := sel_len (rs.take k) nm; rw [List.length_take] at this; unfold Hid; omega
        have RT2 : Hid (selR (rs.take (k + 1)) nm = selR (rs.take k) nm ++ [⟨znm, fr, tt, mo, zk, d, n, at', by', sv, lt⟩]) := by unfold Hid; rw [RT.out]; simp
        clear RT ho
        generalize selR (rs.take k) nm = L at OW LN RT2
        go_wp2_with (at_builtin; refine wpList_append_lies _ (by rfl) _ _ 22 (by rfl) w.heap.size 118 i0 (.agg #[.string .empty, .int .i64 0, .int .i64 0, .int .i64 0, .int .i64 0, .int .i64 0, .int .i64 0, .int .i64 0, .int .i64 0, .int .i64 0, .string .empty]) 11 104 Tryz.underlying22 I1.out I2.out I3.out I4.out (by rfl) (by omega) u5 L.length (L.flatMap RuD.cells) (by rfl) OW.out ⟨wr.heap.size + 1, 0, none⟩ 1 1 [.string znm, .int .i64 fr, .int .i64 tt, .int .i64 mo, .int .i64 zk, .int .i64 d, .int .i64 n, .int .i64 at', .int .i64 by', .int .i64 sv, .string lt] (by rfl) (by rfl) (World.news_of_block NB.out) (ru_one ⟨znm, fr, tt, mo, zk, d, n, at', by', sv, lt⟩) (by omega) (by have := LN.out; unfold maxLen; omega) (by have := LN.out; omega) (Below.size GB.out) (wr.heap.size + 2) (by simp) ?_; intro g cap w3 hown hgrow hat hlt3)
        go_roundw
        case rel => exact ⟨k + 1, by omega, by go_num, own_more RT2.out hown, grown_gr GB.out hgrow (own_base OW.out)⟩
        case measure => simp [intOf]; omega
    · have e : k = rs.length := by omega
      have HO : Hid (Own wr w.heap.size 118 11 RuD.cells u5 (selR rs nm)) := by have := ho.out; rw [e, List.take_length] at this; exact this
      clear e ho
      go_wp2_with fail
      go_ret
      exact ⟨_, rfl, HO.out, hg.out⟩

set_option maxRecDepth 100000 in
set_option maxHeartbeats 8000000 in
theorem tcount (A : Option Addr) (c : Nat) (l : List RuD) (w : World) (hr : Row w 11 RuD.cells A l) (hl : l.length ≤ 40) (ho : ∀ r ∈ l, r.Ok) :
    Calls Tryz.prog 78 #[.slice A l.length c] w fun e w' => e = .returned (.int .i64 (yrs l)) ∧ Gr w w' := by
  have HR := Lib.hid hr
  have HO := Lib.hid ho
  have G1 := Lib.hid (Gr.refl w)
  clear hr ho
  go_enter Tryz.func78, Tryz.ntmps78
  go_wp2_with fail
  go_loopw [3, 8] (fun v i W => ∃ (k : Nat) (y : Int), k ≤ l.length ∧ i = .int .i64 k ∧ v = .int .i64 y ∧ 0 ≤ y ∧ y ≤ 201 * k ∧ Hid (y = yrs (l.take k)) ∧ Hid (Gr w W)) (fun v i W => l.length - (intOf i).toNat)
  case atStart => exact ⟨0, 0, Nat.zero_le _, rfl, rfl, by omega, by omega, rfl, G1⟩
  case round =>
    obtain ⟨k, y, hk, rfl, rfl, hy0, hy1, HY, hg⟩ := hrel
    by_cases hlt : k < l.length
    · obtain ⟨⟨znm, fr, tt, mo, zk, d, n, at', by', sv, lt⟩, hx⟩ := get_lt hlt
      have RT := Lib.hid (yrs_take hx)
      have ok : RuleNum fr tt mo := (HO.out _ (get_mem hx)).1
      obtain ⟨o1, o2, o3, _⟩ := ok
      obtain ⟨b, off, rfl, c0, c1, c2, c3, c4, c5, c6, c7, c8, c9, c10⟩ := HR.out.eleven hx rfl hg.out
      clear hx
      go_wp2_with fail
      go_roundw
      case rel => exact ⟨k + 1, y + (tt - fr + 1), by omega, by go_num, rfl, by omega, by omega, by unfold Hid; rw [RT.out, ← HY.out], hg.out.alloc' _⟩
      case measure => simp [intOf]; omega
    · have e : k = l.length := by omega
      have HE : Hid (y = yrs l) := by have := HY.out; rw [e, List.take_length] at this; exact this
      clear e HY
      go_wp2_with fail
      go_ret
      exact ⟨by rw [← HE.out]; rfl, hg.out⟩

set_option maxRecDepth 100000 in
set_option maxHeartbeats 8000000 in
theorem tmoment (p : PenD) (off sv : Int) (w : World) (hp : p.Ok) (h1 : -64800 ≤ off) (h2 : off ≤ 64800) (h3 : 0 ≤ sv) (h4 : sv ≤ 10800) :
    Calls Tryz.prog 111 #[.agg p.cells.toArray, .int .i64 off, .int .i64 sv] w fun e w' => e = .returned (.int .i64 (momR off sv p)) ∧ Gr w w' := by
  obtain ⟨no, ⟨znm, fr, tt, mo, zk, d, n, at', by', psv, lt⟩⟩ := p
  obtain ⟨⟨_, _, _, _, hb0, _⟩, _, hn1, hn2⟩ := hp
  simp only at hb0 hn1 hn2
  simp only [PenD.cells, RuD.cells, List.cons_append, List.nil_append, momR]
  by_cases c1 : by' = 1
  · subst c1
    go_enter Tryz.func111, Tryz.ntmps111
    go_wp2_with fail
    go_ret
    exact ⟨rfl, Gr.alloc _ _⟩
  · by_cases c2 : by' = 2
    · subst c2
      go_enter Tryz.func111, Tryz.ntmps111
      go_wp2_with fail
      go_ret
      exact ⟨rfl, Gr.alloc _ _⟩
    · rw [if_neg c1, if_neg c2]
      have e1 : (by' == 1) = false := by rw [beq_eq_false_iff_ne]; exact c1
      have e2 : (by' == 2) = false := by rw [beq_eq_false_iff_ne]; exact c2
      go_enter Tryz.func111, Tryz.ntmps111
      go_wp2_with fail
      go_ret
      exact ⟨rfl, Gr.alloc _ _⟩
end Go.Proofs.YtkmgildnhnjepaaGreatDoor
namespace Go.Proofs.YtkmgildnhnjepaaGreatDoor
set_option linter.unusedVariables false
set_option linter.unusedSimpArgs false
open Go.RowKit
theorem infoPend : (Tryz.prog.info? 163).map (fun i => (i.zero, i.size, i.bytes)) = some (some (.agg #[.string .empty, .int .i64 0, .int .i64 0, .int .i64 0, .int .i64 0, .int .i64 0, .int .i64 0, .int .i64 0, .int .i64 0, .int .i64 0, .string .empty, .int .i64 0]), 12, 112) := by kernel_rfl
theorem own_far {α : Type} {w : World} {base k q : Nat} {e T : TypeId} {enc : α → List Value} {v : Value} {l : List α} {cs : Array Value} (h : Own w base e k enc v l) (hq : w.heap[q]? = some (.cells cs T (0, 0))) (hT : T ≠ e) : some q ≠ v.ownBlock := by
  rcases h.2 with ⟨rfl, _⟩ | ⟨g, cap, cur, rfl, _, hg, _⟩
  · simp [Value.ownBlock]
  · intro e1
    have e2 : q = g := by simpa [Value.ownBlock] using e1
    subst e2
    rw [hq] at hg
    injection hg with hg
    injection hg with _ hg _
    exact hT hg
theorem heap_far {w w' : World} {row : Option Nat} {q : Nat} {o : Obj} (g : w.grownBy w' row) (h : w.heap[q]? = some o) (hr : some q ≠ row) : w'.heap[q]? = some o := by
  rw [g.block q (Array.getElem?_eq_some_iff.1 h).1 hr]; exact h
theorem pe_one (p : PenD) : ∀ u ∈ p.cells, u.oneCell' = true := fun u hu => by simp [PenD.cells, RuD.cells] at hu; rcases hu with rfl | rfl | rfl | rfl | rfl | rfl | rfl | rfl | rfl | rfl | rfl | rfl <;> rfl
theorem pe_len (p : PenD) : p.cells.length = 12 := rfl
/-- an own row of at least one thing -/
theorem own_some {α : Type} {w : World} {base k : Nat} {e : TypeId} {enc : α → List Value} {v : Value} {l : List α} (h : Own w base e k enc v l) (hl : 0 < l.length) : ∃ g cap cur, v = .slice (some ⟨g, 0, none⟩) l.length cap ∧ base ≤ g ∧ w.heap[g]? = some (.cells cur e (0, 0)) ∧ l.length ≤ cap ∧ cap ≤ maxLen := by
  rcases h.2 with ⟨_, h0⟩ | ⟨g, cap, cur, hv, hb, hg, h1, h2, _⟩
  · omega
  · exact ⟨g, cap, cur, hv, hb, hg, h1, h2⟩

set_option maxRecDepth 100000 in
set_option maxHeartbeats 20000000 in
theorem tinOrder (A : Option Addr) (c : Nat) (l : List RuD) (w : World) (hr : Row w 11 RuD.cells A l) (hl : l.length ≤ 40) (h0 : 0 < l.length) (ho : ∀ r ∈ l, r.Ok) (hy : yrs l ≤ 1500) (hlen : HasLen w) :
    Calls Tryz.prog 80 #[.slice A l.length c] w fun e w' => ∃ A' c', e = .returned (.slice A' (pens l).length c') ∧ Row w' 12 PenD.cells A' (stab PenD.no (pens l)) ∧ (pens l).length ≤ c' ∧ c' ≤ maxLen ∧ Gr w w' := by
  have HR := Lib.hid hr
  have HO := Lib.hid ho
  have HY := Lib.hid hy
  have HL := Lib.hid hlen
  have H0 := Lib.hid h0
  have KS := Lib.hid (fun l b cap w T cur hb hr hl => sort_any l b cap w (cur := cur) (T := T) hb hr hl)
  have KD := Lib.hid (fun y m k d n w hl => dayOf y m k d n w hl)
  obtain ⟨i0, hi, hz0, hz1, hz2⟩ := info_parts infoPend
  have I1 := Lib.hid hi
  have I2 := Lib.hid hz0
  have I3 := Lib.hid hz1
  have I4 := Lib.hid hz2
  have G1 := Lib.hid (Gr.refl w)
  clear hr ho hy hlen h0 hi hz0 hz1 hz2
  go_enter Tryz.func80, Tryz.ntmps80
  go_wp2_with fail
  go_loopw [3, 11] (fun v i W => ∃ k : Nat, k ≤ l.length ∧ i = .int .i64 k ∧ Hid (Own W w.heap.size 163 12 PenD.cells v (pens (l.take k))) ∧ Hid (Gr w W)) (fun v i W => l.length - (intOf i).toNat)
  case atStart => exact ⟨0, Nat.zero_le _, rfl, Own.nil_ _ _ _ _ _, G1⟩
  case round =>
    obtain ⟨k, hk, rfl, hw, hg⟩ := hrel
    by_cases hlt : k < l.length
    · obtain ⟨⟨znm, fr, tt, mo, zk, d, n, at', by', sv, lt⟩, hx⟩ := get_lt hlt
      have RT := Lib.hid (pens_take hx)
      have OKR := Lib.hid (HO.out _ (get_mem hx))
      have HYK : Hid (yrs (l.take k) + (tt - fr + 1) ≤ 1500 ∧ ((pens (l.take k)).length : Int) = yrs (l.take k)) := by
        have h1 := yrs_take hx
        have h2 := (yrs_take_le HO.out (k + 1)).2
        have h3 := HY.out
        exact ⟨by simp only at h1; omega, pens_len (fun r hr => HO.out r (List.mem_of_mem_take hr))⟩
      obtain ⟨⟨⟨o1, o2⟩, ⟨o3, o4⟩, o5, o6, o7⟩, _, _, ⟨o8, o9⟩, _⟩ := OKR.out
      simp only at o1 o2 o3 o4 o5 o6 o7 o8 o9
      obtain ⟨b, off, rfl, c0, c1, c2, c3, c4, c5, c6, c7, c8, c9, c10⟩ := HR.out.eleven hx rfl hg.out
      clear hx
      go_wp2_with fail
      clear c0 c1 c2 c3 c4 c5 c6 c7 c8 c9 c10
      have B0 := Lib.hid (box_one wr (.cells #[.string znm, .int .i64 fr, .int .i64 tt, .int .i64 mo, .int .i64 zk, .int .i64 d, .int .i64 n, .int .i64 at', .int .i64 by', .int .i64 sv, .string lt] 118))
      have OW0 := Lib.hid (hw.out.gr B0.out.1)
      have GW0 := Lib.hid (hg.out.trans B0.out.1)
      have BX0 := Lib.hid B0.out.2
      clear B0 hw hg
      generalize wr.alloc (.cells #[.string znm, .int .i64 fr, .int .i64 tt, .int .i64 mo, .int .i64 zk, .int .i64 d, .int .i64 n, .int .i64 at', .int .i64 by', .int .i64 sv, .string lt] 118) = wq at OW0 GW0 BX0 ⊢
      generalize wr.heap.size = q at BX0 ⊢
      generalize pens (l.take k) = L at OW0 RT HYK
      go_loopw [3, 6] (fun v y W => ∃ j : Nat, (j : Int) ≤ tt - fr + 1 ∧ y = .int .i64 (fr + j) ∧ Hid (Own W w.heap.size 163 12 PenD.cells v (L ++ penN ⟨znm, fr, tt, mo, zk, d, n, at', by', sv, lt⟩ j)) ∧ Hid (Gr w W) ∧ Hid (W.heap[q]? = some (.cells #[.string znm, .int .i64 fr, .int .i64 tt, .int .i64 mo, .int .i64 zk, .int .i64 d, .int .i64 n, .int .i64 at', .int .i64 by', .int .i64 sv, .string lt] 118 (0, 0)))) (fun v y W => (tt + 1 - intOf y).toNat)
      case atStart => exact ⟨0, by omega, by go_num, by unfold Hid; simpa [penN] using OW0.out, GW0, BX0⟩
      case round =>
        obtain ⟨j, hj, rfl, hw, hg, hq⟩ := hrel
        have x1 := bcell_row (i := 1) hq.out rfl
        have x2 := bcell_row (i := 2) hq.out rfl
        by_cases hle : fr + (j : Int) ≤ tt
        · have x3 := bcell_row (i := 3) hq.out rfl
          have x4 := bcell_row (i := 4) hq.out rfl
          have x5 := bcell_row (i := 5) hq.out rfl
          have x6 := bcell_row (i := 6) hq.out rfl
          have DB := dayT_bd OKR.out (y := fr + (j : Int)) (by simp only; omega) hle
          have DA := Lib.hid (dayA_rule OKR.out (y := fr + (j : Int)) (by simp only; omega) hle)
          have DN := Lib.hid (show nomR ⟨znm, fr, tt, mo, zk, d, n, at', by', sv, lt⟩ (fr + (j : Int)) = 86400 * dayT (fr + (j : Int)) mo zk d n + at' from rfl)
          simp only at DB DA
          go_wp2_with fail
          clear x1 x2 x3 x4 x5 x6
          refine (KD.out (fr + (j : Int)) mo zk d n _ (hg.out.len HL.out)).mono ?_
          rintro e w1 ⟨rfl, g1⟩
          rw [DA.out]
          have GG := Lib.hid (hg.out.trans g1)
          have OW := Lib.hid (hw.out.gr g1)
          have HQ := Lib.hid (bheap_gr g1 hq.out)
          clear hg hw hq g1 DA
          generalize dayT (fr + (j : Int)) mo zk d n = dn at DB DN ⊢
          have x0 := bcell_row (i := 0) HQ.out rfl
          have x1 := bcell_row (i := 1) HQ.out rfl
          have x2 := bcell_row (i := 2) HQ.out rfl
          have x3 := bcell_row (i := 3) HQ.out rfl
          have x4 := bcell_row (i := 4) HQ.out rfl
          have x5 := bcell_row (i := 5) HQ.out rfl
          have x6 := bcell_row (i := 6) HQ.out rfl
          have x7 := bcell_row (i := 7) HQ.out rfl
          have x8 := bcell_row (i := 8) HQ.out rfl
          have x9 := bcell_row (i := 9) HQ.out rfl
          have x10 := bcell_row (i := 10) HQ.out rfl
          have B1 := Lib.hid (box_one w1 (.cells #[.string znm, .int .i64 fr, .int .i64 tt, .int .i64 mo, .int .i64 zk, .int .i64 d, .int .i64 n, .int .i64 at', .int .i64 by', .int .i64 sv, .string lt, .int .i64 (dn * 86400 + at')] 163))
          have GB := Lib.hid (GG.out.trans B1.out.1)
          have OB := Lib.hid (OW.out.gr B1.out.1)
          have HB := Lib.hid (bheap_gr B1.out.1 HQ.out)
          have NB := Lib.hid B1.out.2
          have LN : Hid ((L ++ penN ⟨znm, fr, tt, mo, zk, d, n, at', by', sv, lt⟩ j).length ≤ 1500) := by
            unfold Hid
            have h1 := HYK.out
            rw [List.length_append, penN_len]; omega
          have RT2 : Hid (L ++ penN ⟨znm, fr, tt, mo, zk, d, n, at', by', sv, lt⟩ (j + 1) = (L ++ penN ⟨znm, fr, tt, mo, zk, d, n, at', by', sv, lt⟩ j) ++ [⟨dn * 86400 + at', ⟨znm, fr, tt, mo, zk, d, n, at', by', sv, lt⟩⟩]) := by
            unfold Hid
            rw [penN_succ, ← List.append_assoc, DN.out, Int.mul_comm]
          clear B1 OW DN
          generalize L ++ penN ⟨znm, fr, tt, mo, zk, d, n, at', by', sv, lt⟩ j = L2 at OB LN RT2
          go_wp2_with (at_builtin; refine wpList_append_lies _ (by rfl) _ _ 142 (by rfl) w.heap.size 163 i0 (.agg #[.string .empty, .int .i64 0, .int .i64 0, .int .i64 0, .int .i64 0, .int .i64 0, .int .i64 0, .int .i64 0, .int .i64 0, .int .i64 0, .string .empty, .int .i64 0]) 12 112 Tryz.underlying142 I1.out I2.out I3.out I4.out (by rfl) (by omega) u3 L2.length (L2.flatMap PenD.cells) (by rfl) OB.out ⟨w1.heap.size, 0, none⟩ 1 1 [.string znm, .int .i64 fr, .int .i64 tt, .int .i64 mo, .int .i64 zk, .int .i64 d, .int .i64 n, .int .i64 at', .int .i64 by', .int .i64 sv, .string lt, .int .i64 (dn * 86400 + at')] (by rfl) (by rfl) (World.news_of_block NB.out) (pe_one ⟨dn * 86400 + at', ⟨znm, fr, tt, mo, zk, d, n, at', by', sv, lt⟩⟩) (by omega) (by have := LN.out; unfold maxLen; omega) (by have := LN.out; omega) (Below.size GB.out) (w1.heap.size + 1) (by simp) ?_; intro g cap w3 hown hgrow hat hlt3)
          go_roundw
          case rel => exact ⟨j + 1, by omega, by go_num, own_more RT2.out hown, grown_gr GB.out hgrow (own_base OB.out), heap_far hgrow HB.out (own_far OB.out HB.out (by decide))⟩
          case measure => simp [intOf]; omega
        · have e : (j : Int) = tt - fr + 1 := by omega
          have HW : Hid (Own wr w.heap.size 163 12 PenD.cells u3 (pens (l.take (k + 1)))) := by
            unfold Hid
            rw [RT.out]
            have := hw.out
            rwa [show j = (tt - fr + 1).toNat by omega] at this
          clear e
          go_wp2_with fail
          go_roundw
          case rel => exact ⟨k + 1, by omega, by go_num, HW, hg⟩
          case measure => simp [intOf]; omega
    · have e : k = l.length := by omega
      have HW : Hid (Own wr w.heap.size 163 12 PenD.cells u3 (pens l)) := by have := hw.out; rw [e, List.take_length] at this; exact this
      clear e hw
      have LP : Hid (0 < (pens l).length ∧ (pens l).length ≤ 1500) := by
        have h1 := pens_len HO.out
        have h2 := HY.out
        refine ⟨?_, by omega⟩
        obtain ⟨r, hr⟩ := get_lt H0.out
        have h3 := yrs_take hr
        have h4 := (yrs_take_le HO.out 1).2
        have h5 := (HO.out _ (get_mem hr)).1
        unfold RuleNum at h5
        simp only [List.take_zero, yrs, Nat.zero_add] at h3
        omega
      obtain ⟨g, cap, cur, rfl, hb, hgc, hc1, hc2⟩ := own_some HW.out LP.out.1
      have K := Lib.hid (KS.out (pens l) g cap wr _ cur hgc (HW.out.row pe_len) (by have := LP.out.2; omega))
      have CC : Hid ((pens l).length ≤ cap ∧ cap ≤ maxLen ∧ w.heap.size ≤ g) := ⟨hc1, hc2, hb⟩
      clear hb hgc hc1 hc2 HW
      go_wp2_with fail
      refine K.out.mono ?_
      rintro e w2 ⟨rfl, hrow, hbel⟩
      have G2 := Lib.hid (Go.RowKit.Below.trans hg.out (hbel w.heap.size CC.out.2.2))
      go_wp2_with fail
      go_ret
      exact ⟨_, _, rfl, hrow, CC.out.1, CC.out.2.1, G2.out⟩
end Go.Proofs.YtkmgildnhnjepaaGreatDoor
namespace Go.Proofs.YtkmgildnhnjepaaGreatDoor
set_option linter.unusedVariables false
set_option linter.unusedSimpArgs false
open Go.RowKit
theorem name_small {s : ByteArray} (h : isNameB s.toList = true) : s.size ≤ 20 := by
  rw [isNameB_eq] at h
  simp only [Bool.and_eq_true, decide_eq_true_eq] at h
  exact h.1.1.1.2
theorem abbr_small {f : ByteArray} {sv : Int} {lt : ByteArray} (h : abbrC f sv lt = 0) : f.size ≤ 12 := by
  by_cases c : f.size ≤ 12
  · exact c
  · unfold abbrC abbrR at h
    rw [fmt_long (by have := len_toList f; omega), abbrOf_none] at h
    cases h
/-- a zone whose texts are short -/
def ZonD.Few (z : ZonD) : Prop := z.nm.size ≤ 1048576 ∧ z.eras.length ≤ 700 ∧ ∀ e ∈ z.eras, e.ru.size ≤ 1048576 ∧ e.fm.size ≤ 1048576
theorem zone_few {rs : List RuD} {zs : List ZonD} {ls : List LinD} (h : bokC rs zs ls = 0) : ∀ z ∈ zs, z.Few := by
  obtain ⟨a, b, c, d⟩ := bokC_ok.1 h
  intro z hz
  obtain ⟨i, hi, ei⟩ := List.getElem_of_mem hz
  have hz' : zs[i]? = some z := by rw [List.getElem?_eq_getElem hi, ei]
  have h0 := (fe_zero _).1 c i hi
  rw [zonC_at hz'] at h0
  split at h0
  · cases h0
  · rename_i q1
    split at h0
    · cases h0
    · split at h0
      · cases h0
      · split at h0
        · cases h0
        · rename_i q2
          refine ⟨Nat.le_trans (name_small (by simpa using q1)) (by omega), by omega, fun e he => ?_⟩
          obtain ⟨k, hk, ek⟩ := List.getElem_of_mem he
          have he' : z.eras[k]? = some e := by rw [List.getElem?_eq_getElem hk, ek]
          have h1 := (fe_zero _).1 h0 k hk
          rw [eraC_at he'] at h1
          split at h1
          · rename_i h2
            unfold eraA at h2
            split at h2
            · cases h2
            · split at h2
              · rename_i q3
                have hr : e.ru.size = 0 := by have := len_toList e.ru; rw [q3] at this; exact this.symm
                exact ⟨by omega, Nat.le_trans (abbr_small h2) (by omega)⟩
              · split at h2
                · cases h2
                · unfold rulC at h2
                  split at h2
                  · cases h2
                  · rename_i q4
                    have hR : hasR rs e.ru = true := by simpa using q4
                    obtain ⟨r, hr, er⟩ := List.any_eq_true.1 hR
                    obtain ⟨j, hj, ej⟩ := List.getElem_of_mem hr
                    have hr' : rs[j]? = some r := by rw [List.getElem?_eq_getElem hj, ej]
                    have hc := (fe_zero _).1 b j hj
                    rw [rusC_at hr'] at hc
                    unfold RuD.chk ruleC at hc
                    split at hc
                    · rename_i hs
                      have hn := name_small hs.1
                      have hsz : e.ru.size = r.nm.size := by rw [← len_toList, ← len_toList, eq_of_beq er]
                      split at h2
                      · exact ⟨by omega, Nat.le_trans (abbr_small h2) (by omega)⟩
                      · rename_i q5; exact absurd h2 q5
                    · cases hc
          · rename_i q6
            rw [h1] at q6
            exact absurd rfl q6
theorem clone_str (s : ByteArray) (w : World) (hs : s.size ≤ 1048576) :
    Calls Tryz.prog 40 #[.string s] w fun e w' => e = .returned (.string s) ∧ Gr w w' := by
  have K := Tryz.stringslite_Clone s w (by omega)
  clear hs
  go_enter Tryz.func40, Tryz.ntmps40
  go_wp2_with fail
  refine K.mono ?_
  rintro e w1 ⟨rfl, hg⟩
  go_wp2_with fail
  go_ret
  exact ⟨rfl, hg⟩

theorem infoEra : (Tryz.prog.info? 59).map (fun i => (i.zero, i.size, i.bytes)) = some (some (.agg #[.int .i64 0, .string .empty, .int .i64 0, .string .empty, .int .i64 0]), 5, 56) := by kernel_rfl

theorem era_one (l : List EraD) : ∀ u ∈ l.flatMap EraD.cells, u.oneCell' = true := fun u hu => by
  obtain ⟨x, _, hx'⟩ := List.mem_flatMap.1 hu
  exact er_one x u hx'

theorem own_flat {α : Type} {w : World} {base k : Nat} {e : TypeId} {enc : α → List Value} {v : Value} {l : List α} {n : Nat} {xs : List Value} (h : w.ownsRow base e k v n xs) (hn : n = l.length) (hx : xs = l.flatMap enc) : Own w base e k enc v l := by
  subst hn; subst hx; exact h

set_option maxRecDepth 100000 in
set_option maxHeartbeats 4000000 in
theorem pclone (A : Option Addr) (c : Nat) (l : List EraD) (w : World) (h : Row w 5 EraD.cells A l) (hl : l.length ≤ 700) :
    Calls Tryz.prog 76 #[.slice A l.length c] w fun e w' => ∃ v, e = .returned v ∧ Own w' w.heap.size 59 5 EraD.cells v l ∧ Gr w w' := by
  have H := Lib.hid h
  obtain ⟨i0, hi, hz0, hz1, hz2⟩ := info_parts infoEra
  have I1 := Lib.hid hi
  have I2 := Lib.hid hz0
  have I3 := Lib.hid hz1
  have I4 := Lib.hid hz2
  have qT : ∀ (w : World) (a : Option Addr) (n c : Nat), (binOp .eql 55 (.slice a n c) (.slice none 0 0)).run Tryz.prog w = .ok (.bool a.isNone) w := fun w a n c => Lib.run_eql_slice_nil w 55 59 a n c 0 0 Tryz.underlying55
  clear h hi hz0 hz1 hz2
  go_enter Tryz.func76, Tryz.ntmps76
  cases A with
  | none =>
    have e : l = [] := by
      cases l with
      | nil => rfl
      | cons y l => obtain ⟨_, _, e, _⟩ := H.out 0 y rfl; cases e
    subst e
    go_wp2_with fail
    go_ret
    exact ⟨_, rfl, Own.nil_ _ _ _ _ _, Gr.refl _⟩
  | some a =>
    have NW : Hid (∀ j u, (l.flatMap EraD.cells)[j]? = some u → (w.alloc (.cells #[] 59)).cell? (a.add j) = some u) := by
      cases l with
      | nil => intro j u hu; simp at hu
      | cons y l =>
        obtain ⟨b, off, e, _⟩ := H.out 0 y rfl
        injection e with e
        subst e
        exact Row.news er_len (H.out.gr (Gr.alloc w _))
    have OW : Hid ((w.alloc (.cells #[] 59)).ownsRow w.heap.size 59 5 (.slice (some ⟨w.heap.size, 0, none⟩) 0 0) 0 []) :=
      ⟨rfl, .inr ⟨w.heap.size, 0, #[], rfl, Nat.le_refl _, bheap_new w _, Nat.le_refl _, Nat.zero_le _, rfl, rfl⟩⟩
    have G1 := Lib.hid (Gr.alloc w (.cells #[] 59))
    clear H
    go_wp2_with (at_builtin; refine wpList_append_own _ (by rfl) _ _ 55 (by rfl) w.heap.size 59 i0 (.agg #[.int .i64 0, .string .empty, .int .i64 0, .string .empty, .int .i64 0]) 5 56 Tryz.underlying55 I1.out I2.out I3.out I4.out (by rfl) (by omega) (.slice (some ⟨w.heap.size, 0, none⟩) 0 0) 0 [] (by rfl) OW.out a l.length c (l.flatMap EraD.cells) (by rfl) (flat_len er_len l) NW.out (era_one l) (by unfold maxLen; omega) (by omega) (Below.size G1.out) ?_; intro v' w2 hown hgrow _)
    have HO : Hid (Own w2 w.heap.size 59 5 EraD.cells v' l) := own_flat hown (by omega) (by simp)
    have G2 := Lib.hid (grown_gr G1.out hgrow (fun j hj => by simp [Value.ownBlock] at hj; omega))
    clear hown hgrow
    go_wp2_with fail
    go_ret
    exact ⟨v', rfl, HO.out, G2.out⟩
end Go.Proofs.YtkmgildnhnjepaaGreatDoor
