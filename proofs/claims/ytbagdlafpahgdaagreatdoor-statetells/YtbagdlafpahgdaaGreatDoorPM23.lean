/- What the project's Of of package day returns, for every input. -/
import Derived.Deep.QuietTactic
import Derived.BigQuiet
import Derived.Test.YtbagdlafpahgdaaGreatDoorPM09
import Derived.Test.YtbagdlafpahgdaaGreatDoorPM06
namespace Go.Proofs.YtbagdlafpahgdaaGreatDoor
set_option linter.unusedVariables false
set_option linter.unusedSimpArgs false
open Go.RowKit
set_option maxHeartbeats 1000000 in
theorem dayOf_bad (y m k d n : Int) (w : World) (h : ¬ DayOk k d n) :
    Calls Tryz.prog 60 #[.int .i64 y, .int .i64 m, dayV k d n] w fun e w' => e = dayA y m k d n ∧ Gr w w' := by
  have E := Lib.hid (show two 0 1 = dayA y m k d n by unfold dayA; rw [if_neg h])
  have c := dayCheck k d n (w.alloc (.cells #[.int .i64 k, .int .i64 d, .int .i64 n] 42))
  rw [dchk_no h] at c
  clear h
  go_enter Tryz.func60, Tryz.ntmps60
  go_wp2_with fail
  refine c.mono ?_
  rintro e w1 ⟨rfl, hg⟩
  go_wp2_with fail
  go_ret2
  exact ⟨E.out, (Gr.alloc _ _).trans hg⟩

set_option maxHeartbeats 1000000 in
theorem dayOf_month (y m k d n : Int) (w : World) (h : DayOk k d n) (hm : ¬ (1600 ≤ y ∧ y ≤ 2399 ∧ 1 ≤ m ∧ m ≤ 12)) :
    Calls Tryz.prog 60 #[.int .i64 y, .int .i64 m, dayV k d n] w fun e w' => e = dayA y m k d n ∧ Gr w w' := by
  have E := Lib.hid (show two 0 1 = dayA y m k d n by unfold dayA; rw [if_pos h, if_neg hm])
  have c := dayCheck k d n (w.alloc (.cells #[.int .i64 k, .int .i64 d, .int .i64 n] 42))
  rw [dchk_yes h] at c
  clear h
  go_enter Tryz.func60, Tryz.ntmps60
  go_wp2_with fail
  refine c.mono ?_
  rintro e w1 ⟨rfl, hg⟩
  go_wp2_with fail
  refine (length_no y m w1 hm).mono ?_
  rintro e w2 ⟨rfl, rfl⟩
  go_wp2_with fail
  go_ret2
  exact ⟨E.out, (Gr.alloc _ _).trans hg⟩

set_option maxHeartbeats 1000000 in
theorem dayOf_long (y m k d n : Int) (w : World) (hl0 : HasLen w) (h : DayOk k d n) (h1 : 1600 ≤ y) (h2 : y ≤ 2399) (h3 : 1 ≤ m) (h4 : m ≤ 12) (hl : Cal.ml y m < n) :
    Calls Tryz.prog 60 #[.int .i64 y, .int .i64 m, dayV k d n] w fun e w' => e = dayA y m k d n ∧ Gr w w' := by
  have E := Lib.hid (show two 0 6 = dayA y m k d n by unfold dayA; rw [if_pos h, if_pos ⟨h1, h2, h3, h4⟩, if_pos hl])
  have c := dayCheck k d n (w.alloc (.cells #[.int .i64 k, .int .i64 d, .int .i64 n] 42))
  rw [dchk_yes h] at c
  have hc : (w.alloc (.cells #[.int .i64 k, .int .i64 d, .int .i64 n] 42)).cell? ⟨w.heap.size, 2, none⟩ = some (.int .i64 n) := by rw [World.cell?_alloc_new]; rfl
  have HL := Lib.hid hl0
  clear h hl0
  go_enter Tryz.func60, Tryz.ntmps60
  go_wp2_with fail
  refine c.mono ?_
  rintro e w1 ⟨rfl, hg⟩
  have hc1 := hg.holds hc
  have hgw := (Gr.alloc w _).trans hg
  clear c hc hg
  generalize w.heap.size = b at hc1 ⊢
  go_wp2_with fail
  refine (length_yes y m w1 (hgw.len HL.out) h1 h2 h3 h4).mono ?_
  rintro e w2 ⟨rfl, rfl⟩
  go_wp2_with fail
  go_ret2
  exact ⟨E.out, hgw⟩

theorem dayOk_bd0 {k d n : Int} (h : DayOk k d n) : 0 ≤ d ∧ d ≤ 6 ∧ 0 ≤ n ∧ n ≤ 31 := by unfold DayOk at h; omega
theorem Gr.frozen' {w w' : World} (h : Gr w w') {b o : Nat} (hb : b < w.heap.size) : w'.frozen? ⟨b, o, none⟩ = w.frozen? ⟨b, o, none⟩ := Below.frozen (p := ⟨b, o, none⟩) h hb
theorem set_0 {W : World} {b : Nat} {u x y z : Value} (h : W.cell? ⟨b, 0, none⟩ = some u) : (((W.setCell ⟨b, 0, none⟩ x).setCell ⟨b, 1, none⟩ y).setCell ⟨b, 2, none⟩ z).cell? ⟨b, 0, none⟩ = some x :=
  (World.cell?_setCell_other _ _ _ _ (by simp)).trans ((World.cell?_setCell_other _ _ _ _ (by simp)).trans (World.cell?_setCell_same W _ _ h))
theorem set_1 {W : World} {b : Nat} {u x y z : Value} (h : W.cell? ⟨b, 1, none⟩ = some u) : (((W.setCell ⟨b, 0, none⟩ x).setCell ⟨b, 1, none⟩ y).setCell ⟨b, 2, none⟩ z).cell? ⟨b, 1, none⟩ = some y :=
  (World.cell?_setCell_other _ _ _ _ (by simp)).trans (World.cell?_setCell_same _ _ _ ((World.cell?_setCell_other W _ _ _ (by simp)).trans h))
theorem set_2 {W : World} {b : Nat} {u x y z : Value} (h : W.cell? ⟨b, 2, none⟩ = some u) : (((W.setCell ⟨b, 0, none⟩ x).setCell ⟨b, 1, none⟩ y).setCell ⟨b, 2, none⟩ z).cell? ⟨b, 2, none⟩ = some z :=
  World.cell?_setCell_same _ _ _ ((World.cell?_setCell_other _ _ _ _ (by simp)).trans ((World.cell?_setCell_other W _ _ _ (by simp)).trans h))
theorem days_at (y m n : Int) : Cal.days y m n = Cal.days y m 1 + n - 1 := by unfold Cal.days; omega
theorem dayT_mv {y m k d n : Int} (h : DayOk k d n) (hk : ¬ k = 2) : dayT y m k d n = Cal.days y m n + mv k d ((Cal.days y m n + 135146) % 7) := by
  have hb := dayOk_bd0 h
  rw [days_at y m n]
  obtain ⟨hk4, _⟩ := h
  have : k = 1 ∨ k = 3 ∨ k = 4 := by omega
  rcases this with rfl | rfl | rfl
  · simp [dayT, mv]
  · simp [dayT, mv, nd] <;> omega
  · simp [dayT, mv, nd] <;> omega
theorem dayT_last {y m d n : Int} (h : DayOk 2 d n) : dayT y m 2 d n = Cal.days y m (Cal.ml y m) + mv 4 d ((Cal.days y m (Cal.ml y m) + 135146) % 7) := by
  have hb := dayOk_bd0 h
  rw [days_at y m (Cal.ml y m)]
  simp [dayT, mv, nd] <;> omega

set_option maxHeartbeats 2000000 in
theorem dayOf_go (y m k d n : Int) (w : World) (hl0 : HasLen w) (h : DayOk k d n) (hk : ¬ k = 2) (h1 : 1600 ≤ y) (h2 : y ≤ 2399) (h3 : 1 ≤ m) (h4 : m ≤ 12) (hl : ¬ Cal.ml y m < n) :
    Calls Tryz.prog 60 #[.int .i64 y, .int .i64 m, dayV k d n] w fun e w' => e = dayA y m k d n ∧ Gr w w' := by
  have hA := dayA_ok h h1 h2 h3 h4 hl
  rw [dayT_mv h hk] at hA
  have hb := dayOk_bd0 h
  have hn1 : 1 ≤ n := (h.2.2.2.2 hk).1
  have hv : Cal.Valid y m n := ⟨h1, h2, h3, h4, hn1, by omega⟩
  have fb := Cal.days_bd hv
  have c := dayCheck k d n (w.alloc (.cells #[.int .i64 k, .int .i64 d, .int .i64 n] 42))
  have hc0 : (w.alloc (.cells #[.int .i64 k, .int .i64 d, .int .i64 n] 42)).cell? ⟨w.heap.size, 0, none⟩ = some (.int .i64 k) := by rw [World.cell?_alloc_new]; rfl
  have hc1 : (w.alloc (.cells #[.int .i64 k, .int .i64 d, .int .i64 n] 42)).cell? ⟨w.heap.size, 1, none⟩ = some (.int .i64 d) := by rw [World.cell?_alloc_new]; rfl
  have hc2 : (w.alloc (.cells #[.int .i64 k, .int .i64 d, .int .i64 n] 42)).cell? ⟨w.heap.size, 2, none⟩ = some (.int .i64 n) := by rw [World.cell?_alloc_new]; rfl
  rw [dchk_yes h] at c
  have HL := Lib.hid hl0
  have hk2 : (k == 2) = false := beqF hk
  have lT : ¬ Cal.ml y m < n := hl
  have HV := Lib.hid hv
  have HA := Lib.hid hA
  obtain ⟨d1, d2, n1, n2⟩ := hb
  obtain ⟨fb1, fb2⟩ := fb
  have mb := (Cal.ml_bd y h3 h4)
  obtain ⟨mb1, mb2⟩ := mb
  have wb1 : 0 ≤ (Cal.days y m n + 135146) % 7 := by omega
  have wb2 : (Cal.days y m n + 135146) % 7 ≤ 6 := by omega
  have M := Lib.hid (fun w => move_any k d n ((Cal.days y m n + 135146) % 7) w d1 d2 wb1 wb2)
  have WY := Lib.hid (fun w => weekday_yes (Cal.days y m n) w fb1 fb2)
  have vb : -6 ≤ mv k d ((Cal.days y m n + 135146) % 7) ∧ mv k d ((Cal.days y m n + 135146) % 7) ≤ 6 := by unfold mv; split; omega; split; omega; omega
  obtain ⟨vb1, vb2⟩ := vb
  clear h hl0 hv hA hk
  go_enter Tryz.func60, Tryz.ntmps60
  go_wp2_with fail
  refine c.mono ?_
  rintro e w1 ⟨rfl, hg⟩
  have g0 := hg.holds hc0
  have g1 := hg.holds hc1
  have g2 := hg.holds hc2
  have hgw := (Gr.alloc w _).trans hg
  clear c hc0 hc1 hc2 hg
  generalize w.heap.size = b at g0 g1 g2 ⊢
  go_wp2_with fail
  refine (length_yes y m w1 (hgw.len HL.out) h1 h2 h3 h4).mono ?_
  rintro e w2 ⟨rfl, rfl⟩
  go_wp2_with fail
  refine (days_yes y m n w1 (hgw.len HL.out) HV.out).mono ?_
  rintro e w2 ⟨rfl, rfl⟩
  generalize Cal.days y m n = D at *
  generalize (D + 135146) % 7 = wd at *
  go_wp2_with fail
  refine (WY.out w1).mono ?_
  rintro e w2 ⟨rfl, rfl⟩
  go_wp2_with fail
  refine (M.out w1).mono ?_
  rintro e w2 ⟨rfl, hg2⟩
  have hgw2 := hgw.trans hg2
  generalize mv k d wd = v at *
  by_cases r : -135140 ≤ D + v ∧ D + v ≤ 157053
  · have E := HA.out
    rw [if_pos r] at E
    have E' := Lib.hid E
    clear E HA
    obtain ⟨r1, r2⟩ := r
    go_wp2_with fail
    refine (weekday_yes (D + v) w2 r1 r2).mono ?_
    rintro e w3 ⟨rfl, rfl⟩
    go_wp2_with fail
    go_ret2
    exact ⟨E'.out.symm, hgw2⟩
  · have E := HA.out
    rw [if_neg r] at E
    have E' := Lib.hid E
    clear E HA
    go_wp2_with fail
    refine (weekday_no (D + v) w2 r).mono ?_
    rintro e w3 ⟨rfl, rfl⟩
    go_wp2_with fail
    go_ret2
    exact ⟨E'.out.symm, hgw2⟩

set_option maxHeartbeats 2000000 in
theorem dayOf_last (y m d n : Int) (w : World) (hl0 : HasLen w) (h : DayOk 2 d n) (h1 : 1600 ≤ y) (h2 : y ≤ 2399) (h3 : 1 ≤ m) (h4 : m ≤ 12) (hl : ¬ Cal.ml y m < n) :
    Calls Tryz.prog 60 #[.int .i64 y, .int .i64 m, dayV 2 d n] w fun e w' => e = dayA y m 2 d n ∧ Gr w w' := by
  have hA := dayA_ok h h1 h2 h3 h4 hl
  rw [dayT_last h] at hA
  have hb := dayOk_bd0 h
  have mb := (Cal.ml_bd y h3 h4)
  have hv : Cal.Valid y m (Cal.ml y m) := ⟨h1, h2, h3, h4, by omega, by omega⟩
  have fb := Cal.days_bd hv
  have c := dayCheck 2 d n (w.alloc (.cells #[.int .i64 2, .int .i64 d, .int .i64 n] 42))
  have hc0 : (w.alloc (.cells #[.int .i64 2, .int .i64 d, .int .i64 n] 42)).cell? ⟨w.heap.size, 0, none⟩ = some (.int .i64 2) := by rw [World.cell?_alloc_new]; rfl
  have hc1 : (w.alloc (.cells #[.int .i64 2, .int .i64 d, .int .i64 n] 42)).cell? ⟨w.heap.size, 1, none⟩ = some (.int .i64 d) := by rw [World.cell?_alloc_new]; rfl
  have hc2 : (w.alloc (.cells #[.int .i64 2, .int .i64 d, .int .i64 n] 42)).cell? ⟨w.heap.size, 2, none⟩ = some (.int .i64 n) := by rw [World.cell?_alloc_new]; rfl
  rw [dchk_yes h] at c
  have HL := Lib.hid hl0
  have lT : ¬ Cal.ml y m < n := hl
  have HV := Lib.hid hv
  have HA := Lib.hid hA
  obtain ⟨d1, d2, n1, n2⟩ := hb
  obtain ⟨fb1, fb2⟩ := fb
  obtain ⟨mb1, mb2⟩ := mb
  have wb1 : 0 ≤ (Cal.days y m (Cal.ml y m) + 135146) % 7 := by omega
  have wb2 : (Cal.days y m (Cal.ml y m) + 135146) % 7 ≤ 6 := by omega
  have M := Lib.hid (fun w => move_any 4 d (Cal.ml y m) ((Cal.days y m (Cal.ml y m) + 135146) % 7) w d1 d2 wb1 wb2)
  have WY := Lib.hid (fun w => weekday_yes (Cal.days y m (Cal.ml y m)) w fb1 fb2)
  have LY := Lib.hid (fun w hl => length_yes y m w hl h1 h2 h3 h4)
  have DY := Lib.hid (fun w hl => days_yes y m (Cal.ml y m) w hl HV.out)
  have vb : -6 ≤ mv 4 d ((Cal.days y m (Cal.ml y m) + 135146) % 7) ∧ mv 4 d ((Cal.days y m (Cal.ml y m) + 135146) % 7) ≤ 6 := by unfold mv; split; omega; split; omega; omega
  obtain ⟨vb1, vb2⟩ := vb
  have fz : (w.alloc (.cells #[.int .i64 2, .int .i64 d, .int .i64 n] 42)).frozen? ⟨w.heap.size, 0, none⟩ = false ∧ (w.alloc (.cells #[.int .i64 2, .int .i64 d, .int .i64 n] 42)).frozen? ⟨w.heap.size, 1, none⟩ = false ∧ (w.alloc (.cells #[.int .i64 2, .int .i64 d, .int .i64 n] 42)).frozen? ⟨w.heap.size, 2, none⟩ = false := by refine ⟨?_, ?_, ?_⟩ <;> go_simp
  obtain ⟨z0, z1, z2⟩ := fz
  have lt : w.heap.size < (w.alloc (.cells #[.int .i64 2, .int .i64 d, .int .i64 n] 42)).heap.size := by simp
  have BW := Lib.hid (Nat.le_refl w.heap.size)
  clear h hl0 hv hA HV
  go_enter Tryz.func60, Tryz.ntmps60
  go_wp2_with fail
  refine c.mono ?_
  rintro e w1 ⟨rfl, hg⟩
  have g0 := hg.holds hc0
  have g1 := hg.holds hc1
  have g2 := hg.holds hc2
  have y0 := (hg.frozen' lt).trans z0
  have y1 := (hg.frozen' lt).trans z1
  have y2 := (hg.frozen' lt).trans z2
  have hgw := (Gr.alloc w _).trans hg
  clear c hc0 hc1 hc2 hg z0 z1 z2 lt
  have BB : Hid (∃ b, b = w.heap.size ∧ w.heap.size ≤ b) := ⟨_, rfl, Nat.le_refl _⟩
  generalize hbb : w.heap.size = b at g0 g1 g2 y0 y1 y2 ⊢
  have HB := Lib.hid hbb
  clear hbb BB BW
  go_wp2_with fail
  refine (LY.out w1 (hgw.len HL.out)).mono ?_
  rintro e w2 ⟨rfl, rfl⟩
  generalize Cal.ml y m = L at *
  generalize Cal.days y m L = D at *
  go_wp2_with fail
  have gw : Gr w (((w1.setCell ⟨b, 0, none⟩ (.int .i64 4)).setCell ⟨b, 1, none⟩ (.int .i64 d)).setCell ⟨b, 2, none⟩ (.int .i64 L)) := by
    have := HB.out
    exact Below.setCell (Below.setCell (Below.setCell hgw (by show w.heap.size ≤ b; omega) _) (by show w.heap.size ≤ b; omega) _) (by show w.heap.size ≤ b; omega) _
  have s2 := set_2 g2 (x := .int .i64 4) (y := .int .i64 d) (z := .int .i64 L)
  have s1 := set_1 g1 (x := .int .i64 4) (y := .int .i64 d) (z := .int .i64 L)
  have s0 := set_0 g0 (x := .int .i64 4) (y := .int .i64 d) (z := .int .i64 L)
  clear g0 g1 g2 y0 y1 y2 hgw
  generalize ((w1.setCell ⟨b, 0, none⟩ (.int .i64 4)).setCell ⟨b, 1, none⟩ (.int .i64 d)).setCell ⟨b, 2, none⟩ (.int .i64 L) = w2 at *
  go_wp2_with fail
  refine (DY.out w2 (gw.len HL.out)).mono ?_
  rintro e w3 ⟨rfl, rfl⟩
  generalize (D + 135146) % 7 = wd at *
  go_wp2_with fail
  refine (WY.out w2).mono ?_
  rintro e w3 ⟨rfl, rfl⟩
  go_wp2_with fail
  refine (M.out w2).mono ?_
  rintro e w3 ⟨rfl, hg2⟩
  have hgw2 := gw.trans hg2
  generalize mv 4 d wd = v at *
  by_cases r : -135140 ≤ D + v ∧ D + v ≤ 157053
  · have E := HA.out
    rw [if_pos r] at E
    have E' := Lib.hid E
    clear E HA
    obtain ⟨r1, r2⟩ := r
    go_wp2_with fail
    refine (weekday_yes (D + v) w3 r1 r2).mono ?_
    rintro e w4 ⟨rfl, rfl⟩
    go_wp2_with fail
    go_ret2
    exact ⟨E'.out.symm, hgw2⟩
  · have E := HA.out
    rw [if_neg r] at E
    have E' := Lib.hid E
    clear E HA
    go_wp2_with fail
    refine (weekday_no (D + v) w3 r).mono ?_
    rintro e w4 ⟨rfl, rfl⟩
    go_wp2_with fail
    go_ret2
    exact ⟨E'.out.symm, hgw2⟩

theorem dayOf (y m k d n : Int) (w : World) (hl0 : HasLen w) :
    Calls Tryz.prog 60 #[.int .i64 y, .int .i64 m, dayV k d n] w fun e w' => e = dayA y m k d n ∧ Gr w w' := by
  by_cases h : DayOk k d n
  · by_cases hm : 1600 ≤ y ∧ y ≤ 2399 ∧ 1 ≤ m ∧ m ≤ 12
    · obtain ⟨h1, h2, h3, h4⟩ := hm
      by_cases hl : Cal.ml y m < n
      · exact dayOf_long y m k d n w hl0 h h1 h2 h3 h4 hl
      · by_cases hk : k = 2
        · subst hk
          exact dayOf_last y m d n w hl0 h h1 h2 h3 h4 hl
        · exact dayOf_go y m k d n w hl0 h hk h1 h2 h3 h4 hl
    · exact dayOf_month y m k d n w h hm
  · exact dayOf_bad y m k d n w h
end Go.Proofs.YtbagdlafpahgdaaGreatDoor
