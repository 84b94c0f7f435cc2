/- What the project's Of of package day returns, for every input. A slice copied by append. No function of the program in it. A region that draws its order and ends in a store: what it reads may be taken first, though the store turns what was read. No program in it. Slices written out in a plain region; rows of one thing or two. No function of the program in it. -/
import Derived.Deep.QuietTactic
import Derived.BigQuiet
import Derived.Test.YtkmgildnhnjepaaGreatDoorTM08
import Derived.Test.YtkmgildnhnjepaaGreatDoorTM06
import Derived.Laws.AppendOwn
import Derived.Test.YtkmgildnhnjepaaGreatDoorTM16
import Derived.Deep.RegionHeld3
import Derived.Deep.Upon
namespace Go.Proofs.YtkmgildnhnjepaaGreatDoor
set_option linter.unusedVariables false
set_option linter.unusedSimpArgs false
open Go.RowKit
set_option maxHeartbeats 1000000 in
theorem dayOf_bad (y m k d n : Int) (w : World) (h : ¬ DayOk k d n) :
    Calls Tryz.prog 112 #[.int .i64 y, .int .i64 m, dayV k d n] w fun e w' => e = dayA y m k d n ∧ Gr w w' := by
  have E := Lib.hid (show two 0 1 = dayA y m k d n by unfold dayA; rw [if_neg h])
  have c := dayCheck k d n (w.alloc (.cells #[.int .i64 k, .int .i64 d, .int .i64 n] 116))
  rw [dchk_no h] at c
  clear h
  go_enter Tryz.func112, Tryz.ntmps112
  go_wp2_with fail
  refine c.mono ?_
  rintro e w1 ⟨rfl, hg⟩
  go_wp2_with fail
  go_ret2
  exact ⟨E.out, (Gr.alloc _ _).trans hg⟩

set_option maxHeartbeats 1000000 in
theorem dayOf_month (y m k d n : Int) (w : World) (h : DayOk k d n) (hm : ¬ (1600 ≤ y ∧ y ≤ 2399 ∧ 1 ≤ m ∧ m ≤ 12)) :
    Calls Tryz.prog 112 #[.int .i64 y, .int .i64 m, dayV k d n] w fun e w' => e = dayA y m k d n ∧ Gr w w' := by
  have E := Lib.hid (show two 0 1 = dayA y m k d n by unfold dayA; rw [if_pos h, if_neg hm])
  have c := dayCheck k d n (w.alloc (.cells #[.int .i64 k, .int .i64 d, .int .i64 n] 116))
  rw [dchk_yes h] at c
  clear h
  go_enter Tryz.func112, Tryz.ntmps112
  go_wp2_with fail
  refine c.mono ?_
  rintro e w1 ⟨rfl, hg⟩
  go_wp2_with fail
  refine (length_no y m w1 hm).mono ?_
  rintro e w2 ⟨rfl, rfl⟩
  go_wp2_with fail
  go_ret2
  exact ⟨E.out, (Gr.alloc _ _).trans hg⟩

set_option maxHeartbeats 1000000 in
theorem dayOf_long (y m k d n : Int) (w : World) (hl0 : HasLen w) (h : DayOk k d n) (h1 : 1600 ≤ y) (h2 : y ≤ 2399) (h3 : 1 ≤ m) (h4 : m ≤ 12) (hl : Cal.ml y m < n) :
    Calls Tryz.prog 112 #[.int .i64 y, .int .i64 m, dayV k d n] w fun e w' => e = dayA y m k d n ∧ Gr w w' := by
  have E := Lib.hid (show two 0 6 = dayA y m k d n by unfold dayA; rw [if_pos h, if_pos ⟨h1, h2, h3, h4⟩, if_pos hl])
  have c := dayCheck k d n (w.alloc (.cells #[.int .i64 k, .int .i64 d, .int .i64 n] 116))
  rw [dchk_yes h] at c
  have hc : (w.alloc (.cells #[.int .i64 k, .int .i64 d, .int .i64 n] 116)).cell? ⟨w.heap.size, 2, none⟩ = some (.int .i64 n) := by rw [World.cell?_alloc_new]; rfl
  have HL := Lib.hid hl0
  clear h hl0
  go_enter Tryz.func112, Tryz.ntmps112
  go_wp2_with fail
  refine c.mono ?_
  rintro e w1 ⟨rfl, hg⟩
  have hc1 := hg.holds hc
  have hgw := (Gr.alloc w _).trans hg
  clear c hc hg
  generalize w.heap.size = b at hc1 ⊢
  go_wp2_with fail
  refine (length_yes y m w1 (hgw.len HL.out) h1 h2 h3 h4).mono ?_
  rintro e w2 ⟨rfl, rfl⟩
  go_wp2_with fail
  go_ret2
  exact ⟨E.out, hgw⟩

theorem dayOk_bd0 {k d n : Int} (h : DayOk k d n) : 0 ≤ d ∧ d ≤ 6 ∧ 0 ≤ n ∧ n ≤ 31 := by unfold DayOk at h; omega
theorem Gr.frozen' {w w' : World} (h : Gr w w') {b o : Nat} (hb : b < w.heap.size) : w'.frozen? ⟨b, o, none⟩ = w.frozen? ⟨b, o, none⟩ := Below.frozen (p := ⟨b, o, none⟩) h hb
theorem set_0 {W : World} {b : Nat} {u x y z : Value} (h : W.cell? ⟨b, 0, none⟩ = some u) : (((W.setCell ⟨b, 0, none⟩ x).setCell ⟨b, 1, none⟩ y).setCell ⟨b, 2, none⟩ z).cell? ⟨b, 0, none⟩ = some x :=
  (World.cell?_setCell_other _ _ _ _ (by simp)).trans ((World.cell?_setCell_other _ _ _ _ (by simp)).trans (World.cell?_setCell_same W _ _ h))
theorem set_1 {W : World} {b : Nat} {u x y z : Value} (h : W.cell? ⟨b, 1, none⟩ = some u) : (((W.setCell ⟨b, 0, none⟩ x).setCell ⟨b, 1, none⟩ y).setCell ⟨b, 2, none⟩ z).cell? ⟨b, 1, none⟩ = some y :=
  (World.cell?_setCell_other _ _ _ _ (by simp)).trans (World.cell?_setCell_same _ _ _ ((World.cell?_setCell_other W _ _ _ (by simp)).trans h))
theorem set_2 {W : World} {b : Nat} {u x y z : Value} (h : W.cell? ⟨b, 2, none⟩ = some u) : (((W.setCell ⟨b, 0, none⟩ x).setCell ⟨b, 1, none⟩ y).setCell ⟨b, 2, none⟩ z).cell? ⟨b, 2, none⟩ = some z :=
  World.cell?_setCell_same _ _ _ ((World.cell?_setCell_other _ _ _ _ (by simp)).trans ((World.cell?_setCell_other W _ _ _ (by simp)).trans h))
theorem days_at (y m n : Int) : Cal.days y m n = Cal.days y m 1 + n - 1 := by unfold Cal.days; omega
theorem dayT_mv {y m k d n : Int} (h : DayOk k d n) (hk : ¬ k = 2) : dayT y m k d n = Cal.days y m n + mv k d ((Cal.days y m n + 135146) % 7) := by
  have hb := dayOk_bd0 h
  rw [days_at y m n]
  obtain ⟨hk4, _⟩ := h
  have : k = 1 ∨ k = 3 ∨ k = 4 := by omega
  rcases this with rfl | rfl | rfl
  · simp [dayT, mv]
  · simp [dayT, mv, nd] <;> omega
  · simp [dayT, mv, nd] <;> omega
theorem dayT_last {y m d n : Int} (h : DayOk 2 d n) : dayT y m 2 d n = Cal.days y m (Cal.ml y m) + mv 4 d ((Cal.days y m (Cal.ml y m) + 135146) % 7) := by
  have hb := dayOk_bd0 h
  rw [days_at y m (Cal.ml y m)]
  simp [dayT, mv, nd] <;> omega

set_option maxHeartbeats 2000000 in
theorem dayOf_go (y m k d n : Int) (w : World) (hl0 : HasLen w) (h : DayOk k d n) (hk : ¬ k = 2) (h1 : 1600 ≤ y) (h2 : y ≤ 2399) (h3 : 1 ≤ m) (h4 : m ≤ 12) (hl : ¬ Cal.ml y m < n) :
    Calls Tryz.prog 112 #[.int .i64 y, .int .i64 m, dayV k d n] w fun e w' => e = dayA y m k d n ∧ Gr w w' := by
  have hA := dayA_ok h h1 h2 h3 h4 hl
  rw [dayT_mv h hk] at hA
  have hb := dayOk_bd0 h
  have hn1 : 1 ≤ n := (h.2.2.2.2 hk).1
  have hv : Cal.Valid y m n := ⟨h1, h2, h3, h4, hn1, by omega⟩
  have fb := Cal.days_bd hv
  have c := dayCheck k d n (w.alloc (.cells #[.int .i64 k, .int .i64 d, .int .i64 n] 116))
  have hc0 : (w.alloc (.cells #[.int .i64 k, .int .i64 d, .int .i64 n] 116)).cell? ⟨w.heap.size, 0, none⟩ = some (.int .i64 k) := by rw [World.cell?_alloc_new]; rfl
  have hc1 : (w.alloc (.cells #[.int .i64 k, .int .i64 d, .int .i64 n] 116)).cell? ⟨w.heap.size, 1, none⟩ = some (.int .i64 d) := by rw [World.cell?_alloc_new]; rfl
  have hc2 : (w.alloc (.cells #[.int .i64 k, .int .i64 d, .int .i64 n] 116)).cell? ⟨w.heap.size, 2, none⟩ = some (.int .i64 n) := by rw [World.cell?_alloc_new]; rfl
  rw [dchk_yes h] at c
  have HL := Lib.hid hl0
  have hk2 : (k == 2) = false := beqF hk
  have lT : ¬ Cal.ml y m < n := hl
  have HV := Lib.hid hv
  have HA := Lib.hid hA
  obtain ⟨d1, d2, n1, n2⟩ := hb
  obtain ⟨fb1, fb2⟩ := fb
  have mb := (Cal.ml_bd y h3 h4)
  obtain ⟨mb1, mb2⟩ := mb
  have wb1 : 0 ≤ (Cal.days y m n + 135146) % 7 := by omega
  have wb2 : (Cal.days y m n + 135146) % 7 ≤ 6 := by omega
  have M := Lib.hid (fun w => move_any k d n ((Cal.days y m n + 135146) % 7) w d1 d2 wb1 wb2)
  have WY := Lib.hid (fun w => weekday_yes (Cal.days y m n) w fb1 fb2)
  have vb : -6 ≤ mv k d ((Cal.days y m n + 135146) % 7) ∧ mv k d ((Cal.days y m n + 135146) % 7) ≤ 6 := by unfold mv; split; omega; split; omega; omega
  obtain ⟨vb1, vb2⟩ := vb
  clear h hl0 hv hA hk
  go_enter Tryz.func112, Tryz.ntmps112
  go_wp2_with fail
  refine c.mono ?_
  rintro e w1 ⟨rfl, hg⟩
  have g0 := hg.holds hc0
  have g1 := hg.holds hc1
  have g2 := hg.holds hc2
  have hgw := (Gr.alloc w _).trans hg
  clear c hc0 hc1 hc2 hg
  generalize w.heap.size = b at g0 g1 g2 ⊢
  go_wp2_with fail
  refine (length_yes y m w1 (hgw.len HL.out) h1 h2 h3 h4).mono ?_
  rintro e w2 ⟨rfl, rfl⟩
  go_wp2_with fail
  refine (days_yes y m n w1 (hgw.len HL.out) HV.out).mono ?_
  rintro e w2 ⟨rfl, rfl⟩
  generalize Cal.days y m n = D at *
  generalize (D + 135146) % 7 = wd at *
  go_wp2_with fail
  refine (WY.out w1).mono ?_
  rintro e w2 ⟨rfl, rfl⟩
  go_wp2_with fail
  refine (M.out w1).mono ?_
  rintro e w2 ⟨rfl, hg2⟩
  have hgw2 := hgw.trans hg2
  generalize mv k d wd = v at *
  by_cases r : -135140 ≤ D + v ∧ D + v ≤ 157053
  · have E := HA.out
    rw [if_pos r] at E
    have E' := Lib.hid E
    clear E HA
    obtain ⟨r1, r2⟩ := r
    go_wp2_with fail
    refine (weekday_yes (D + v) w2 r1 r2).mono ?_
    rintro e w3 ⟨rfl, rfl⟩
    go_wp2_with fail
    go_ret2
    exact ⟨E'.out.symm, hgw2⟩
  · have E := HA.out
    rw [if_neg r] at E
    have E' := Lib.hid E
    clear E HA
    go_wp2_with fail
    refine (weekday_no (D + v) w2 r).mono ?_
    rintro e w3 ⟨rfl, rfl⟩
    go_wp2_with fail
    go_ret2
    exact ⟨E'.out.symm, hgw2⟩

set_option maxHeartbeats 2000000 in
theorem dayOf_last (y m d n : Int) (w : World) (hl0 : HasLen w) (h : DayOk 2 d n) (h1 : 1600 ≤ y) (h2 : y ≤ 2399) (h3 : 1 ≤ m) (h4 : m ≤ 12) (hl : ¬ Cal.ml y m < n) :
    Calls Tryz.prog 112 #[.int .i64 y, .int .i64 m, dayV 2 d n] w fun e w' => e = dayA y m 2 d n ∧ Gr w w' := by
  have hA := dayA_ok h h1 h2 h3 h4 hl
  rw [dayT_last h] at hA
  have hb := dayOk_bd0 h
  have mb := (Cal.ml_bd y h3 h4)
  have hv : Cal.Valid y m (Cal.ml y m) := ⟨h1, h2, h3, h4, by omega, by omega⟩
  have fb := Cal.days_bd hv
  have c := dayCheck 2 d n (w.alloc (.cells #[.int .i64 2, .int .i64 d, .int .i64 n] 116))
  have hc0 : (w.alloc (.cells #[.int .i64 2, .int .i64 d, .int .i64 n] 116)).cell? ⟨w.heap.size, 0, none⟩ = some (.int .i64 2) := by rw [World.cell?_alloc_new]; rfl
  have hc1 : (w.alloc (.cells #[.int .i64 2, .int .i64 d, .int .i64 n] 116)).cell? ⟨w.heap.size, 1, none⟩ = some (.int .i64 d) := by rw [World.cell?_alloc_new]; rfl
  have hc2 : (w.alloc (.cells #[.int .i64 2, .int .i64 d, .int .i64 n] 116)).cell? ⟨w.heap.size, 2, none⟩ = some (.int .i64 n) := by rw [World.cell?_alloc_new]; rfl
  rw [dchk_yes h] at c
  have HL := Lib.hid hl0
  have lT : ¬ Cal.ml y m < n := hl
  have HV := Lib.hid hv
  have HA := Lib.hid hA
  obtain ⟨d1, d2, n1, n2⟩ := hb
  obtain ⟨fb1, fb2⟩ := fb
  obtain ⟨mb1, mb2⟩ := mb
  have wb1 : 0 ≤ (Cal.days y m (Cal.ml y m) + 135146) % 7 := by omega
  have wb2 : (Cal.days y m (Cal.ml y m) + 135146) % 7 ≤ 6 := by omega
  have M := Lib.hid (fun w => move_any 4 d (Cal.ml y m) ((Cal.days y m (Cal.ml y m) + 135146) % 7) w d1 d2 wb1 wb2)
  have WY := Lib.hid (fun w => weekday_yes (Cal.days y m (Cal.ml y m)) w fb1 fb2)
  have LY := Lib.hid (fun w hl => length_yes y m w hl h1 h2 h3 h4)
  have DY := Lib.hid (fun w hl => days_yes y m (Cal.ml y m) w hl HV.out)
  have vb : -6 ≤ mv 4 d ((Cal.days y m (Cal.ml y m) + 135146) % 7) ∧ mv 4 d ((Cal.days y m (Cal.ml y m) + 135146) % 7) ≤ 6 := by unfold mv; split; omega; split; omega; omega
  obtain ⟨vb1, vb2⟩ := vb
  have fz : (w.alloc (.cells #[.int .i64 2, .int .i64 d, .int .i64 n] 116)).frozen? ⟨w.heap.size, 0, none⟩ = false ∧ (w.alloc (.cells #[.int .i64 2, .int .i64 d, .int .i64 n] 116)).frozen? ⟨w.heap.size, 1, none⟩ = false ∧ (w.alloc (.cells #[.int .i64 2, .int .i64 d, .int .i64 n] 116)).frozen? ⟨w.heap.size, 2, none⟩ = false := by refine ⟨?_, ?_, ?_⟩ <;> go_simp
  obtain ⟨z0, z1, z2⟩ := fz
  have lt : w.heap.size < (w.alloc (.cells #[.int .i64 2, .int .i64 d, .int .i64 n] 116)).heap.size := by simp
  have BW := Lib.hid (Nat.le_refl w.heap.size)
  clear h hl0 hv hA HV
  go_enter Tryz.func112, Tryz.ntmps112
  go_wp2_with fail
  refine c.mono ?_
  rintro e w1 ⟨rfl, hg⟩
  have g0 := hg.holds hc0
  have g1 := hg.holds hc1
  have g2 := hg.holds hc2
  have y0 := (hg.frozen' lt).trans z0
  have y1 := (hg.frozen' lt).trans z1
  have y2 := (hg.frozen' lt).trans z2
  have hgw := (Gr.alloc w _).trans hg
  clear c hc0 hc1 hc2 hg z0 z1 z2 lt
  have BB : Hid (∃ b, b = w.heap.size ∧ w.heap.size ≤ b) := ⟨_, rfl, Nat.le_refl _⟩
  generalize hbb : w.heap.size = b at g0 g1 g2 y0 y1 y2 ⊢
  have HB := Lib.hid hbb
  clear hbb BB BW
  go_wp2_with fail
  refine (LY.out w1 (hgw.len HL.out)).mono ?_
  rintro e w2 ⟨rfl, rfl⟩
  generalize Cal.ml y m = L at *
  generalize Cal.days y m L = D at *
  go_wp2_with fail
  have gw : Gr w (((w1.setCell ⟨b, 0, none⟩ (.int .i64 4)).setCell ⟨b, 1, none⟩ (.int .i64 d)).setCell ⟨b, 2, none⟩ (.int .i64 L)) := by
    have := HB.out
    exact Below.setCell (Below.setCell (Below.setCell hgw (by show w.heap.size ≤ b; omega) _) (by show w.heap.size ≤ b; omega) _) (by show w.heap.size ≤ b; omega) _
  have s2 := set_2 g2 (x := .int .i64 4) (y := .int .i64 d) (z := .int .i64 L)
  have s1 := set_1 g1 (x := .int .i64 4) (y := .int .i64 d) (z := .int .i64 L)
  have s0 := set_0 g0 (x := .int .i64 4) (y := .int .i64 d) (z := .int .i64 L)
  clear g0 g1 g2 y0 y1 y2 hgw
  generalize ((w1.setCell ⟨b, 0, none⟩ (.int .i64 4)).setCell ⟨b, 1, none⟩ (.int .i64 d)).setCell ⟨b, 2, none⟩ (.int .i64 L) = w2 at *
  go_wp2_with fail
  refine (DY.out w2 (gw.len HL.out)).mono ?_
  rintro e w3 ⟨rfl, rfl⟩
  generalize (D + 135146) % 7 = wd at *
  go_wp2_with fail
  refine (WY.out w2).mono ?_
  rintro e w3 ⟨rfl, rfl⟩
  go_wp2_with fail
  refine (M.out w2).mono ?_
  rintro e w3 ⟨rfl, hg2⟩
  have hgw2 := gw.trans hg2
  generalize mv 4 d wd = v at *
  by_cases r : -135140 ≤ D + v ∧ D + v ≤ 157053
  · have E := HA.out
    rw [if_pos r] at E
    have E' := Lib.hid E
    clear E HA
    obtain ⟨r1, r2⟩ := r
    go_wp2_with fail
    refine (weekday_yes (D + v) w3 r1 r2).mono ?_
    rintro e w4 ⟨rfl, rfl⟩
    go_wp2_with fail
    go_ret2
    exact ⟨E'.out.symm, hgw2⟩
  · have E := HA.out
    rw [if_neg r] at E
    have E' := Lib.hid E
    clear E HA
    go_wp2_with fail
    refine (weekday_no (D + v) w3 r).mono ?_
    rintro e w4 ⟨rfl, rfl⟩
    go_wp2_with fail
    go_ret2
    exact ⟨E'.out.symm, hgw2⟩

theorem dayOf (y m k d n : Int) (w : World) (hl0 : HasLen w) :
    Calls Tryz.prog 112 #[.int .i64 y, .int .i64 m, dayV k d n] w fun e w' => e = dayA y m k d n ∧ Gr w w' := by
  by_cases h : DayOk k d n
  · by_cases hm : 1600 ≤ y ∧ y ≤ 2399 ∧ 1 ≤ m ∧ m ≤ 12
    · obtain ⟨h1, h2, h3, h4⟩ := hm
      by_cases hl : Cal.ml y m < n
      · exact dayOf_long y m k d n w hl0 h h1 h2 h3 h4 hl
      · by_cases hk : k = 2
        · subst hk
          exact dayOf_last y m d n w hl0 h h1 h2 h3 h4 hl
        · exact dayOf_go y m k d n w hl0 h hk h1 h2 h3 h4 hl
    · exact dayOf_month y m k d n w h hm
  · exact dayOf_bad y m k d n w h
end Go.Proofs.YtkmgildnhnjepaaGreatDoor
namespace Go.Proofs.YtkmgildnhnjepaaGreatDoor
set_option linter.unusedVariables false
set_option linter.unusedSimpArgs false
open Go.RowKit
/-- the cells of a row, one after another -/
theorem Row.news {α : Type} {w : World} {k : Nat} {enc : α → List Value} {b off : Nat} {l : List α} (hk : ∀ x, (enc x).length = k) (h : Row w k enc (some ⟨b, off, none⟩) l) :
    ∀ j u, (l.flatMap enc)[j]? = some u → w.cell? ((⟨b, off, none⟩ : Addr).add j) = some u := fun j u hu => by
  have hj := (List.getElem?_eq_some_iff.1 hu).1
  rw [flat_len hk] at hj
  have hk0 : 0 < k := by
    cases k with
    | zero => simp at hj
    | succ k => omega
  have hi : j / k < l.length := by rw [Nat.div_lt_iff_lt_mul hk0]; exact hj
  have hr : j % k < k := Nat.mod_lt _ hk0
  have he := Nat.div_add_mod j k
  obtain ⟨x, hx⟩ := get_lt hi
  have hv : (enc x)[j % k]? = some ((enc x)[j % k]'(by rw [hk]; exact hr)) := List.getElem?_eq_getElem _
  have hf := flat_get hk l (j / k) x hx (j % k) _ hv
  rw [show j / k * k + j % k = j by rw [Nat.mul_comm]; exact he] at hf
  rw [hu] at hf
  injection hf with hf
  obtain ⟨b', off', e, _, hc⟩ := h (j / k) x hx
  injection e with e; injection e with e1 e2; subst e1; subst e2
  have := hc (j % k) _ hv
  rw [← hf] at this
  rw [show (⟨b, off, none⟩ : Addr).add j = ⟨b, off + (j / k) * k + j % k, none⟩ by
    have q : off + (j / k) * k + j % k = off + j := by rw [Nat.add_assoc, Nat.mul_comm (j / k) k, he]
    rw [q]; unfold Addr.add; split <;> simp_all]
  exact this
end Go.Proofs.YtkmgildnhnjepaaGreatDoor
namespace Go.Proofs.YtkmgildnhnjepaaGreatDoor
open Go
set_option linter.unusedVariables false
section
variable {P : Program} {ops : Array Oper} {Q : Exit → Act → World → Prop} {md : Region.Mode} {T : World → Prop} {k : Nat}
/-- the last one has come up, or the world is as it is tto be -/
def Till (k : Nat) (T : World → Prop) (L : Array Bool) (w : World) : Prop := L.getD k true = true ∨ T w
/-- whatever order is picked from here on; behind each operation, but the last one, T is so -/
def wpTill (P : Program) (md : Region.Mode) (ops : Array Oper) (Q : Exit → Act → World → Prop) (k : Nat) (T : World → Prop) : Nat → Array Bool → Act → World → Prop
  | 0, L, a, w => Region.ready md ops L = [] ∧ Q .normal a w
  | n + 1, L, a, w => (Region.ready md ops L = [] → Q .normal a w) ∧
    ∀ i ∈ Region.ready md ops L, wpOp P ops Q i (fun a' w' => Till k T (L.setIfInBounds i true) w' ∧ wpTill P md ops Q k T n (L.setIfInBounds i true) a' w') a w
theorem till_any : ∀ (n : Nat) (L : Array Bool) (a : Act) (w : World), wpTill P md ops Q k T n L a w → wpAny P md ops Q n L a w
  | 0, _, _, _, h => h
  | n + 1, _, _, _, h => ⟨h.1, fun i hi => wpOp_mono (fun a' w' q => till_any n _ a' w' q.2) (h.2 i hi)⟩
/-- does the last one wait for i? -/
def waits (md : Region.Mode) (ops : Array Oper) (k i : Nat) : Bool := match ops[k]? with
  | some o => o.after.any fun e => Region.binds md e && e.on == i
  | none => false
theorem till_first {i : Nat} {oi : Oper} {v : Value} (hi : ops[i]? = some oi) (hsel : ∀ (j : Nat) (o : Oper) cs b, ops[j]? = some o → o.op ≠ .select cs b)
    (hQ : ∀ c a w, Q (.panic c) (a.put oi.dst v) w → Q (.panic c) a w) (hki : k ≠ i) (hw : waits md ops k i = true) :
    ∀ (n : Nat) (L : Array Bool) (a : Act) (w : World), L.getD k true = false →
      (∀ j oj, ops[j]? = some oj → j ≠ i → L.getD j true = false → (∀ e ∈ oj.after, Region.binds md e = true → e.on ≠ i) → oi.apart ops oj = true) →
      i ∈ Region.ready md ops L → YieldsIf P ops T oi v a → T w →
      wpTill P md ops Q k T n (L.setIfInBounds i true) (a.put oi.dst v) w → wpTill P md ops Q k T (n + 1) L a w := by
  intro n
  induction n with
  | zero =>
    intro L a w hk _ hr hy hT H
    refine ⟨fun h => (by rw [h] at hr; cases hr), fun j hj => ?_⟩
    by_cases hji : j = i
    · subst hji; exact hy.wpOp hi hT ⟨Or.inr hT, H⟩
    · have := ready_mono hj hji
      rw [H.1] at this
      cases this
  | succ n ih =>
    intro L a w hk hfree hr hy hT H
    refine ⟨fun h => (by rw [h] at hr; cases hr), fun j hj => ?_⟩
    by_cases hji : j = i
    · subst hji; exact hy.wpOp hi hT ⟨Or.inr hT, H⟩
    · have h1 := H.2 j (ready_mono hj hji)
      obtain ⟨hjun, oj, hoj, hall⟩ := mem_ready.1 hj
      have hnot : ∀ e ∈ oj.after, Region.binds md e = true → e.on ≠ i := fun e he hb heq => by
        have g1 := hall e he hb
        have g0 := (mem_ready.1 hr).1
        rw [heq] at g1
        rcases Nat.lt_or_ge i L.size with h' | h'
        · simp [h'] at g0 g1; rw [g0] at g1; cases g1
        · simp [Array.getElem?_eq_none h'] at g1
      have hjk : j ≠ k := fun e => by
        subst e
        unfold waits at hw
        rw [hoj] at hw
        simp only [Array.any_eq_true', Bool.and_eq_true, beq_iff_eq] at hw
        obtain ⟨e, he, hb, ho⟩ := hw
        exact hnot e he hb ho
      have hk' : (L.setIfInBounds j true).getD k true = false := by rw [getD_set_ne true hjk]; exact hk
      have hk2 : ((L.setIfInBounds i true).setIfInBounds j true).getD k true = false := by rw [getD_set_ne true hjk, getD_set_ne true (Ne.symm hki)]; exact hk
      have h1' := wpOp_mono (K' := fun a' w' => T w' ∧ wpTill P md ops Q k T n ((L.setIfInBounds i true).setIfInBounds j true) a' w') (fun a' w' q => ⟨q.1.resolve_left (by rw [hk2]; simp), q.2⟩) h1
      have h2 := wpOp_putIf hoj (hfree j oj hoj hji hjun hnot) (fun cs b => hsel i oi cs b hi) (fun cs b => hsel j oj cs b hoj) hQ hy h1'
      have hfree' : ∀ m om, ops[m]? = some om → m ≠ i → (L.setIfInBounds j true).getD m true = false → (∀ e ∈ om.after, Region.binds md e = true → e.on ≠ i) → oi.apart ops om = true := fun m om hm hmi hun hno => by
        refine hfree m om hm hmi ?_ hno
        by_cases hjm : j = m
        · subst hjm; exact hjun
        · rw [getD_set_ne true hjm] at hun; exact hun
      refine wpOp_mono (fun a' w' h3 => ⟨Or.inr h3.2.1, ih (L.setIfInBounds j true) a' w' hk' hfree' (ready_mono hr (Ne.symm hji)) h3.1 h3.2.1 ?_⟩) h2
      rw [Array.setIfInBounds_comm _ _ hji]
      exact h3.2.2
/-- take number i first -/
theorem till_take {i : Nat} {oi : Oper} {v : Value} {n : Nat} {L : Array Bool} {a : Act} {w : World} (hi : ops[i]? = some oi) (hs : Region.noSelect ops = true) (hf : Region.free md ops L i = true) (hr : (Region.ready md ops L).contains i = true)
    (hki : (L.getD k true == false && k != i && waits md ops k i) = true) (hQ : ∀ c a w, Q (.panic c) (a.put oi.dst v) w → Q (.panic c) a w) (hy : YieldsIf P ops T oi v a) (hT : T w)
    (h : wpTill P md ops Q k T n (L.setIfInBounds i true) (a.put oi.dst v) w) : wpTill P md ops Q k T (n + 1) L a w := by
  simp only [Bool.and_eq_true, bne_iff_ne, beq_iff_eq] at hki
  exact till_first hi (Region.noSelect_spec hs) hQ hki.1.2 hki.2 n L a w hki.1.1 (Region.free_spec hi hf) (by simpa using hr) hy hT h
/-- one of those that may come up comes up; the step is handed over behind a letter -/
theorem till_one {i : Nat} {o : Oper} {n : Nat} {L : Array Bool} {a : Act} {w : World} (hr : Region.ready md ops L = [i]) (ho : ops[i]? = some o)
    (h : ∀ K' : Act → World → Prop, Shut (∀ a w, Till k T (L.setIfInBounds i true) w → wpTill P md ops Q k T n (L.setIfInBounds i true) a w → K' a w) → if Region.wanted o (yielded ops a.tmps) = true then Oper.wp P o a w K' Q else K' (a.put o.dst undef) w) :
    wpTill P md ops Q k T (n + 1) L a w :=
  ⟨(fun h0 => by rw [hr] at h0; cases h0), fun j hj => by
    rw [hr] at hj
    obtain rfl : j = i := by simpa using hj
    exact wpOp_step ho (fun K' hK => h K' (fun a w hS hW => hK a w ⟨hS, hW⟩))⟩
/-- one of two comes up -/
theorem till_two {i j : Nat} {o o' : Oper} {n : Nat} {L : Array Bool} {a : Act} {w : World} (hr : Region.ready md ops L = [i, j]) (ho : ops[i]? = some o) (ho' : ops[j]? = some o')
    (h : ∀ K' : Act → World → Prop, Shut (∀ a w, Till k T (L.setIfInBounds i true) w → wpTill P md ops Q k T n (L.setIfInBounds i true) a w → K' a w) → if Region.wanted o (yielded ops a.tmps) = true then Oper.wp P o a w K' Q else K' (a.put o.dst undef) w)
    (h' : ∀ K' : Act → World → Prop, Shut (∀ a w, Till k T (L.setIfInBounds j true) w → wpTill P md ops Q k T n (L.setIfInBounds j true) a w → K' a w) → if Region.wanted o' (yielded ops a.tmps) = true then Oper.wp P o' a w K' Q else K' (a.put o'.dst undef) w) :
    wpTill P md ops Q k T (n + 1) L a w :=
  ⟨(fun h0 => by rw [hr] at h0; cases h0), fun m hm => by
    rw [hr] at hm
    have hm' : m = i ∨ m = j := by simpa using hm
    rcases hm' with rfl | rfl
    · exact wpOp_step ho (fun K' hK => h K' (fun a w hS hW => hK a w ⟨hS, hW⟩))
    · exact wpOp_step ho' (fun K' hK => h' K' (fun a w hS hW => hK a w ⟨hS, hW⟩))⟩
/-- all have come up -/
theorem till_done {L : Array Bool} {a : Act} {w : World} (hr : Region.ready md ops L = []) (h : Q .normal a w) : ∀ n, wpTill P md ops Q k T n L a w
  | 0 => ⟨hr, h⟩
  | _ + 1 => ⟨fun _ => h, by rw [hr]; simp⟩
/-- the beginning -/
theorem till_start {id : Nat} {a : Act} {w : World} (k : Nat) (T : World → Prop) (hm : P.follows .mixedOrders = true) (hT : T w.drew)
    (h : T w.drew → wpTill P .any ops Q k T ops.size (Array.replicate ops.size false) a w.drew) : (Code.region id ops true).wp P Q a w :=
  wp_region_any hm (till_any _ _ _ _ (h hT))
end
end Go.Proofs.YtkmgildnhnjepaaGreatDoor
namespace Go.Proofs.YtkmgildnhnjepaaGreatDoor
set_option linter.unusedVariables false
set_option linter.unusedSimpArgs false
open Go.RowKit
theorem lay_one {P : Program} {w : World} {ops : Array Oper} {rest : List Oper} {Q : Exit → Act → World → Prop} {a : Act} {d : Option Nat} {t ty : TypeId} {ps : String} {af : Array Edge} {x : Operand} (v0 v : Value) (w' : World)
    (hx : a.eval x = v0) (hr : (Instr.buildSlice t 1 #[(0, v0)]).run P w = .ok v w') (h : wpList P ops Q rest (a.put d v) w') :
    wpList P ops Q ({ dst := d, op := .buildSlice t 1 #[(0, x)], type := ty, pos := ps, after := af, guard := none } :: rest) a w := by
  refine wpList_plain rfl fun _ hK => ?_
  unfold Oper.wp execOp
  simp only [List.map_toArray, List.map_cons, List.map_nil, hx, Sem.run_bind, hr, Result.andThen_ok, Sem.run_pure]
  exact hK _ _ h
theorem step_one {P : Program} {w : World} {ops : Array Oper} {o : Oper} {a : Act} {K : Act → World → Prop} {Q : Exit → Act → World → Prop} {E : Prop} (hgd : o.guard = none) {t : TypeId} {x : Operand} (ho : o.op = .buildSlice t 1 #[(0, x)]) (v0 v : Value) (w' : World)
    (hx : a.eval x = v0) (hr : (Instr.buildSlice t 1 #[(0, v0)]).run P w = .ok v w') (h : K (a.put o.dst v) w') :
    if Region.wanted o (yielded ops a.tmps) = true then Oper.wp P o a w K Q else E := by
  have hw : Region.wanted o (yielded ops a.tmps) = true := by simp [Region.wanted, hgd]
  rw [if_pos hw]
  unfold Oper.wp execOp
  simp only [ho, List.map_toArray, List.map_cons, List.map_nil, hx, Sem.run_bind, hr, Result.andThen_ok, Sem.run_pure]
  exact h
/-- one thing in a block of its own -/
theorem row_sgl {α : Type} {w : World} {b k : Nat} {T : TypeId} {enc : α → List Value} {x : α} {cs : Array Value} (h : w.heap[b]? = some (.cells cs T (0, 0))) (hc : cs.toList = enc x) : Row w k enc (some ⟨b, 0, none⟩) [x] := fun i y hy => by
  have hi := (List.getElem?_eq_some_iff.1 hy).1
  have e : i = 0 := by simp at hi; exact hi
  subst e
  have ey : x = y := by simpa using hy
  subst ey
  refine ⟨b, 0, rfl, (Array.getElem?_eq_some_iff.1 h).1, fun j v hv => ?_⟩
  rw [Nat.zero_mul, Nat.add_zero, Nat.zero_add]
  refine bcell_row h ?_
  rw [← Array.getElem?_toList, hc]; exact hv
end Go.Proofs.YtkmgildnhnjepaaGreatDoor
