/- What the project's Span and Stamp return, for every input. The project's map of operators, its table of weekdays, and what Text of package day returns, for every input. -/
import Derived.Test.YtkkilmmpmiichaaGreatDoorYM17
import Derived.Test.YtkkilmmpmiichaaGreatDoorYM02
import Derived.MapKept
import Derived.Deep.RegionHeld3
import Derived.Test.YtkkilmmpmiichaaGreatDoorYM09
import Derived.Test.YtkkilmmpmiichaaGreatDoorYM10
namespace Go.Proofs.YtkkilmmpmiichaaGreatDoor
set_option linter.unusedVariables false
set_option linter.unusedSimpArgs false
open Go.RowKit
set_option maxHeartbeats 1000000 in
theorem span_pos (n : Int) (w : World) (hp : HasPow w) (h1 : 0 ≤ n) (h2 : n ≤ 604800) :
    Calls Tryz.prog 115 #[.int .i64 n] w fun e w' => e = strInt (S (spanL0 n)) 0 ∧ Gr w w' := by
  have hl := (dz_len 8 (n / 3600) (by omega) (by omega)).2
  have q : Hid (n % 3600 / 60 = n / 60 % 60) := by unfold Hid; omega
  by_cases h : n % 60 = 0
  · have t := bneF h
    have E : Hid (spanL0 n = dz (n / 3600) ++ 58 :: d2 (n / 60 % 60)) := by simp [Hid, spanL0, h]
    clear h
    go_enter Tryz.func115, Tryz.ntmps115
    go_wp2_with fail
    refine (itoa_any (n / 3600) w (by omega) (by omega) hp).mono ?_
    rintro e w1 ⟨rfl, hg⟩
    go_wp2_with fail
    refine (twoDigits_any (n % 3600 / 60) w1 (by omega) (by omega)).mono ?_
    rintro e w2 ⟨rfl, hg2⟩
    go_wp2_with fail
    go_ret2
    exact ⟨strInt_eq (by rw [E.out, q.out]) rfl, hg.trans hg2⟩
  · have t := bneT h
    have E : Hid (spanL0 n = dz (n / 3600) ++ 58 :: (d2 (n / 60 % 60) ++ 58 :: d2 (n % 60))) := by simp [Hid, spanL0, h]
    clear h
    go_enter Tryz.func115, Tryz.ntmps115
    go_wp2_with fail
    refine (itoa_any (n / 3600) w (by omega) (by omega) hp).mono ?_
    rintro e w1 ⟨rfl, hg⟩
    go_wp2_with fail
    refine (twoDigits_any (n % 3600 / 60) w1 (by omega) (by omega)).mono ?_
    rintro e w2 ⟨rfl, hg2⟩
    go_wp2_with fail
    refine (twoDigits_any (n % 60) w2 (by omega) (by omega)).mono ?_
    rintro e w3 ⟨rfl, hg3⟩
    go_wp2_with fail
    go_ret2
    exact ⟨strInt_eq (by rw [E.out, q.out]) rfl, (hg.trans hg2).trans hg3⟩

set_option maxHeartbeats 1000000 in
theorem span_neg (n : Int) (w : World) (hp : HasPow w) (h1 : 0 < n) (h2 : n ≤ 604800) :
    Calls Tryz.prog 115 #[.int .i64 (-n)] w fun e w' => e = strInt (S (45 :: spanL0 n)) 0 ∧ Gr w w' := by
  have hl := (dz_len 8 (n / 3600) (by omega) (by omega)).2
  have q : Hid (n % 3600 / 60 = n / 60 % 60) := by unfold Hid; omega
  by_cases h : n % 60 = 0
  · have t := bneF h
    have E : Hid (spanL0 n = dz (n / 3600) ++ 58 :: d2 (n / 60 % 60)) := by simp [Hid, spanL0, h]
    clear h
    go_enter Tryz.func115, Tryz.ntmps115
    go_wp2_with fail
    refine (itoa_any (n / 3600) w (by omega) (by omega) hp).mono ?_
    rintro e w1 ⟨rfl, hg⟩
    go_wp2_with fail
    refine (twoDigits_any (n % 3600 / 60) w1 (by omega) (by omega)).mono ?_
    rintro e w2 ⟨rfl, hg2⟩
    go_wp2_with fail
    go_ret2
    exact ⟨strInt_eq (by rw [E.out, q.out]) rfl, hg.trans hg2⟩
  · have t := bneT h
    have E : Hid (spanL0 n = dz (n / 3600) ++ 58 :: (d2 (n / 60 % 60) ++ 58 :: d2 (n % 60))) := by simp [Hid, spanL0, h]
    clear h
    go_enter Tryz.func115, Tryz.ntmps115
    go_wp2_with fail
    refine (itoa_any (n / 3600) w (by omega) (by omega) hp).mono ?_
    rintro e w1 ⟨rfl, hg⟩
    go_wp2_with fail
    refine (twoDigits_any (n % 3600 / 60) w1 (by omega) (by omega)).mono ?_
    rintro e w2 ⟨rfl, hg2⟩
    go_wp2_with fail
    refine (twoDigits_any (n % 60) w2 (by omega) (by omega)).mono ?_
    rintro e w3 ⟨rfl, hg3⟩
    go_wp2_with fail
    go_ret2
    exact ⟨strInt_eq (by rw [E.out, q.out]) rfl, (hg.trans hg2).trans hg3⟩

theorem span_yes (n : Int) (w : World) (hp : HasPow w) (h1 : -604800 ≤ n) (h2 : n ≤ 604800) :
    Calls Tryz.prog 115 #[.int .i64 n] w fun e w' => e = strInt (S (spanL n)) 0 ∧ Gr w w' := by
  by_cases h : n < 0
  · have e : spanL n = 45 :: spanL0 (-n) := by simp [spanL, h]
    rw [e]
    have := span_neg (-n) w hp (by omega) (by omega)
    rw [Int.neg_neg] at this
    exact this
  · have e : spanL n = spanL0 n := by simp [spanL, h]
    rw [e]
    exact span_pos n w hp (by omega) h2

set_option maxHeartbeats 1000000 in
theorem stamp_yes (t y m d r : Int) (w : World) (hl : HasLen w) (hp : HasPow w) (hv : Cal.Valid y m d) (h1 : 0 ≤ r) (h2 : r < 86400) (ht : 86400 * Cal.days y m d + r = t) :
    Calls Tryz.prog 99 #[.int .i64 t] w fun e w' => e = strInt (S (stampL y m d r)) 0 ∧ Gr w w' := by
  have hb := Cal.days_bd hv
  have hr : t % 86400 = r := by omega
  have hd : t / 86400 = Cal.days y m d := by omega
  have c1 := splitDay_any t w (by omega) (by omega)
  rw [hr, hd] at c1
  have v1 := hv.1
  have v2 := hv.2.1
  have v3 := hv.2.2.1
  have v4 := hv.2.2.2.1
  have v5 := hv.2.2.2.2.1
  have v6 : d ≤ 31 := by have := (Cal.ml_bd y v3 v4).2; have := hv.2.2.2.2.2; omega
  have q : Hid (r % 3600 / 60 = r / 60 % 60) := by unfold Hid; omega
  have hy := dz_d4 (n := y) (by omega) (by omega)
  have HY := Lib.hid hy
  have hyl : (dz y).length = 4 := by rw [hy]; rfl
  clear hr ht hd hb hy
  go_enter Tryz.func99, Tryz.ntmps99
  go_wp2_with fail
  refine c1.mono ?_
  rintro e w1 ⟨rfl, hg1⟩
  clear c1
  go_wp2_with fail
  refine (date_yes (Cal.days y m d) y m d w1 (hg1.len hl) hv rfl).mono ?_
  rintro e w2 ⟨rfl, rfl⟩
  go_wp2_with fail
  refine (itoa_any y w1 (by omega) (by omega) (hg1.pow hp)).mono ?_
  rintro e w3 ⟨rfl, hg3⟩
  go_wp2_with fail
  refine (twoDigits_any m w3 (by omega) (by omega)).mono ?_
  rintro e w4 ⟨rfl, hg4⟩
  go_wp2_with fail
  refine (twoDigits_any d w4 (by omega) (by omega)).mono ?_
  rintro e w5 ⟨rfl, hg5⟩
  go_wp2_with fail
  refine (twoDigits_any (r / 3600) w5 (by omega) (by omega)).mono ?_
  rintro e w6 ⟨rfl, hg6⟩
  go_wp2_with fail
  refine (twoDigits_any (r % 3600 / 60) w6 (by omega) (by omega)).mono ?_
  rintro e w7 ⟨rfl, hg7⟩
  go_wp2_with fail
  refine (twoDigits_any (r % 60) w7 (by omega) (by omega)).mono ?_
  rintro e w8 ⟨rfl, hg8⟩
  go_wp2_with fail
  go_ret2
  exact ⟨strInt_eq (by rw [HY.out, q.out]; unfold stampL; simp) rfl, (((((hg1.trans hg3).trans hg4).trans hg5).trans hg6).trans hg7).trans hg8⟩

set_option maxHeartbeats 400000 in
theorem stamp_no (t : Int) (w : World) (t1 : -9223372036854775808 ≤ t) (t2 : t ≤ 9223372036854775807) (h : ¬ (-135140 ≤ t / 86400 ∧ t / 86400 ≤ 157053)) :
    Calls Tryz.prog 99 #[.int .i64 t] w fun e w' => e = strInt (S []) 1 ∧ Gr w w' := by
  have c1 := splitDay_any t w t1 t2
  have c2 := fun w => date_no (t / 86400) w h
  have C2 := Lib.hid c2
  clear h c2
  generalize t / 86400 = q at c1 C2
  generalize t % 86400 = r at c1
  go_enter Tryz.func99, Tryz.ntmps99
  go_wp2_with fail
  refine c1.mono ?_
  rintro e w1 ⟨rfl, hg1⟩
  clear c1
  go_wp2_with fail
  refine (C2.out w1).mono ?_
  rintro e w2 ⟨rfl, hg2⟩
  go_wp2_with fail
  go_ret2
  exact ⟨rfl, by first | exact hg1.trans hg2 | (subst hg2; exact hg1)⟩
end Go.Proofs.YtkkilmmpmiichaaGreatDoor
namespace Go.Proofs.YtkkilmmpmiichaaGreatDoor
set_option linter.unusedVariables false
set_option linter.unusedSimpArgs false
open Go.RowKit
/-- a new key put into a map -/
theorem run_put {P : Program} {w : World} {mty kt et : TypeId} {r clock : Nat} {es : Array MapEntry} (k : Int) (val : Value) (hm : P.underlying mty = some (.map kt et)) (hk : P.underlying kt = some (.int .i64))
    (hb : w.heap[r]? = some (.map es clock)) (hf : Instr.findNow (.int .i64) (.int .i64 k) es.toList 0 = some none) :
    (Instr.mapUpdate mty (.map (some r)) (.int .i64 k) val).run P w = .ok () { w with heap := w.heap.setIfInBounds r (.map (es.push { key := .int .i64 k, val := val, born := clock }) (clock + 1)) } := by
  have hc : (Instr.checkKey false 10000 kt (.int .i64 k)).run P w = .ok () w := MapKept.run_checkKey (k := .int .i64 k) hk (by simp [MapKept.IsKey]) false 9999
  simp [Instr.mapUpdate, run_underlying hm, MapKept.run_getObj_map hb, hc, MapKept.run_findKey hk hf, MapKept.run_setObj_map _ hb, Result.andThen]
/-- a key that a map has -/
theorem run_ask {P : Program} {w : World} {mty kt et : TypeId} {r clock i : Nat} {es : Array MapEntry} (k : Int) (val : Value) (hm : P.underlying mty = some (.map kt et)) (hk : P.underlying kt = some (.int .i64))
    (hb : w.heap[r]? = some (.map es clock)) (hf : Instr.findNow (.int .i64) (.int .i64 k) es.toList 0 = some (some (i, val))) :
    (Instr.lookup mty (.map (some r)) (.int .i64 k) false).run P w = .ok val w := by
  have hc : (Instr.checkKey es.isEmpty 10000 kt (.int .i64 k)).run P w = .ok () w := MapKept.run_checkKey (k := .int .i64 k) hk (by simp [MapKept.IsKey]) _ 9999
  simp [Instr.lookup, run_underlying hm, MapKept.run_getObj_map hb, hc, MapKept.run_findKey hk hf, Result.andThen]
theorem gr_set {a w : World} (h : Gr a w) {r : Nat} (hr : a.heap.size ≤ r) (o : Obj) : Gr a { w with heap := w.heap.setIfInBounds r o } :=
  ⟨h.os, h.tape, h.output, by simpa using h.size, fun i hi => by
    have : (w.heap.setIfInBounds r o)[i]? = w.heap[i]? := by rw [Array.getElem?_setIfInBounds_ne (by omega)]
    exact this.trans (h.block i hi)⟩
def ent3 : MapEntry := { key := .int .i64 3, val := .string ⟨#[62, 61]⟩, born := 0 }
def ent4 : MapEntry := { key := .int .i64 4, val := .string ⟨#[60, 61]⟩, born := 1 }
/-- the map of operators lies there -/
def OpsAt (w : World) (b : Nat) : Prop := w.heap[b]? = some (.map #[ent3, ent4] 2)
theorem OpsAt.lt {w : World} {b : Nat} (h : OpsAt w b) : b < w.heap.size := by
  unfold OpsAt at h
  exact (Array.getElem?_eq_some_iff.1 h).1
theorem OpsAt.gr {w w' : World} {b : Nat} (h : OpsAt w b) (g : Gr w w') : OpsAt w' b := (Below.block g b h.lt).trans h
theorem OpsAt.ask3 {w : World} {b : Nat} (h : OpsAt w b) : (Instr.lookup 154 (.map (some b)) (.int .i64 3) false).run Tryz.prog w = .ok (.string ⟨#[62, 61]⟩) w :=
  run_ask (i := 0) 3 _ Tryz.underlying154 Tryz.underlying3 h rfl
theorem OpsAt.ask4 {w : World} {b : Nat} (h : OpsAt w b) : (Instr.lookup 154 (.map (some b)) (.int .i64 4) false).run Tryz.prog w = .ok (.string ⟨#[60, 61]⟩) w :=
  run_ask (i := 1) 4 _ Tryz.underlying154 Tryz.underlying3 h rfl
/-- what operators returns -/
def OpsA (w : World) (e : Ending) (w' : World) : Prop := ∃ b, e = .returned (.map (some b)) ∧ OpsAt w' b ∧ Gr w w'

set_option maxHeartbeats 400000 in
theorem operators_any (w : World) : Calls Tryz.prog 138 #[] w (OpsA w) := by
  obtain ⟨w2, r2, h2, g2⟩ : ∃ w2, (Instr.mapUpdate 154 (.map (some w.heap.size)) (.int .i64 3) (.string ⟨#[62, 61]⟩)).run Tryz.prog (w.alloc (.map #[] 0)) = .ok () w2 ∧ w2.heap[w.heap.size]? = some (.map #[ent3] 1) ∧ Gr w w2 :=
    have hb := (MapKept.heap_alloc w (.map #[] 0)).1
    ⟨_, run_put 3 _ Tryz.underlying154 Tryz.underlying3 hb rfl, (MapKept.heap_set hb).1, gr_set (Gr.alloc _ _) (Nat.le_refl _) _⟩
  obtain ⟨w3, r3, h3, g3⟩ : ∃ w3, (Instr.mapUpdate 154 (.map (some w.heap.size)) (.int .i64 4) (.string ⟨#[60, 61]⟩)).run Tryz.prog w2 = .ok () w3 ∧ w3.heap[w.heap.size]? = some (.map #[ent3, ent4] 2) ∧ Gr w w3 :=
    ⟨_, run_put 4 _ Tryz.underlying154 Tryz.underlying3 h2 rfl, (MapKept.heap_set h2).1, gr_set g2 (Nat.le_refl _) _⟩
  have hmk : ∀ wx : World, (Instr.makeMap 154 none).run Tryz.prog wx = .ok (.map (some wx.heap.size)) (wx.alloc (.map #[] 0)) := fun wx => by simp [Instr.makeMap]
  have H3 := Lib.hid h3
  clear h2 h3
  go_enter Tryz.func138, Tryz.ntmps138
  go_wp2
  go_ret
  exact ⟨_, rfl, H3.out, g3⟩

/-- the table of weekdays lies as its initialiser lays it -/
def HasWk (w : World) : Prop := 5 < w.heap.size ∧ ∀ i : Nat, i < 7 → w.cell? ⟨5, i, none⟩ = some (.string (S (wk i)))
theorem Gr.wkT {w w' : World} (h : Gr w w') (hl : HasWk w) : HasWk w' := ⟨Nat.lt_of_lt_of_le hl.1 h.size, fun i hi => (h.cell hl.1).trans (hl.2 i hi)⟩
theorem HasWk.at_ {w : World} (h : HasWk w) {d : Int} (h1 : 0 ≤ d) (h2 : d ≤ 6) : w.cell? ⟨5, d.toNat, none⟩ = some (.string (S (wk d))) := by
  have := h.2 d.toNat (by omega)
  rw [show ((d.toNat : Nat) : Int) = d by omega] at this
  exact this
/-- what Text reads -/
def TxTab (w : World) : Prop := HasPow w ∧ HasWk w
theorem Gr.txT {w w' : World} (h : Gr w w') (k : TxTab w) : TxTab w' := ⟨h.pow k.1, h.wkT k.2⟩

theorem keep5 {w W W' : World} {b g i : Nat} {x y z u : Value} (h : W.cell? ⟨b, 0, none⟩ = some x ∧ W.cell? ⟨b, 1, none⟩ = some y ∧ W.cell? ⟨b, 2, none⟩ = some z ∧ W.cell? ⟨g, i, none⟩ = some u ∧ Gr w W) (hg : Gr W W') :
    W'.cell? ⟨b, 0, none⟩ = some x ∧ W'.cell? ⟨b, 1, none⟩ = some y ∧ W'.cell? ⟨b, 2, none⟩ = some z ∧ W'.cell? ⟨g, i, none⟩ = some u ∧ Gr w W' := ⟨hg.holds h.1, hg.holds h.2.1, hg.holds h.2.2.1, hg.holds h.2.2.2.1, h.2.2.2.2.trans hg⟩

set_option maxHeartbeats 1000000 in
theorem dayText_bad (k d n : Int) (w : World) (h : ¬ DayOk k d n) :
    Calls Tryz.prog 114 #[dayV k d n] w fun e w' => e = dayTextA k d n ∧ Gr w w' := by
  have E := Lib.hid (show dayTextA k d n = strInt ⟨#[]⟩ 1 by unfold dayTextA; rw [if_neg h]; rfl)
  have c := dayCheck k d n (w.alloc (.cells #[.int .i64 k, .int .i64 d, .int .i64 n] 40))
  rw [dchk_no h] at c
  clear h
  go_enter Tryz.func114, Tryz.ntmps114
  go_wp2_with fail
  refine c.mono ?_
  rintro e w1 ⟨rfl, hg⟩
  go_wp2_with fail
  go_ret2
  exact ⟨E.out.symm, (Gr.alloc _ _).trans hg⟩

set_option maxHeartbeats 1000000 in
theorem dayText_1 (d n : Int) (w : World) (ht : TxTab w) (h : DayOk 1 d n) :
    Calls Tryz.prog 114 #[dayV 1 d n] w fun e w' => e = strInt (S (dayL 1 d n)) 0 ∧ Gr w w' := by
  have c := dayCheck 1 d n (w.alloc (.cells #[.int .i64 1, .int .i64 d, .int .i64 n] 40))
  rw [dchk_yes h] at c
  have hc0 : (w.alloc (.cells #[.int .i64 1, .int .i64 d, .int .i64 n] 40)).cell? ⟨w.heap.size, 0, none⟩ = some (.int .i64 1) := by rw [World.cell?_alloc_new]; rfl
  have hc1 : (w.alloc (.cells #[.int .i64 1, .int .i64 d, .int .i64 n] 40)).cell? ⟨w.heap.size, 1, none⟩ = some (.int .i64 d) := by rw [World.cell?_alloc_new]; rfl
  have hc2 : (w.alloc (.cells #[.int .i64 1, .int .i64 d, .int .i64 n] 40)).cell? ⟨w.heap.size, 2, none⟩ = some (.int .i64 n) := by rw [World.cell?_alloc_new]; rfl
  obtain ⟨d1, d2, n1, n2⟩ := dayOk_bd h
  have hz := dz_len 8 n (by omega) (by omega)
  obtain ⟨z1, z2⟩ := hz
  have HT := Lib.hid ht
  have CI := Lib.hid (fun w hp => itoa_any n w (by omega) (by omega) hp)
  clear h ht
  go_enter Tryz.func114, Tryz.ntmps114
  go_wp2_with fail
  refine c.mono ?_
  rintro e w1 ⟨rfl, hg⟩
  have g0 := hg.holds hc0
  have g1 := hg.holds hc1
  have g2 := hg.holds hc2
  have hgw := (Gr.alloc w _).trans hg
  have gk := (hgw.wkT HT.out.2).at_ d1 d2
  clear c hc0 hc1 hc2 hg
  generalize w.heap.size = b at g0 g1 g2 ⊢
  have E := Lib.hid (show dayL 1 d n = dz n by simp [dayL])
  go_wp2_with fail
  refine (CI.out w1 (hgw.pow HT.out.1)).mono ?_
  rintro e w2 ⟨rfl, hg2⟩
  go_wp2_with fail
  go_ret2
  exact ⟨by rw [E.out]; rfl, hgw.trans hg2⟩

set_option maxHeartbeats 1000000 in
theorem dayText_2 (d n : Int) (w : World) (ht : TxTab w) (h : DayOk 2 d n) :
    Calls Tryz.prog 114 #[dayV 2 d n] w fun e w' => e = strInt (S (dayL 2 d n)) 0 ∧ Gr w w' := by
  have c := dayCheck 2 d n (w.alloc (.cells #[.int .i64 2, .int .i64 d, .int .i64 n] 40))
  rw [dchk_yes h] at c
  have hc0 : (w.alloc (.cells #[.int .i64 2, .int .i64 d, .int .i64 n] 40)).cell? ⟨w.heap.size, 0, none⟩ = some (.int .i64 2) := by rw [World.cell?_alloc_new]; rfl
  have hc1 : (w.alloc (.cells #[.int .i64 2, .int .i64 d, .int .i64 n] 40)).cell? ⟨w.heap.size, 1, none⟩ = some (.int .i64 d) := by rw [World.cell?_alloc_new]; rfl
  have hc2 : (w.alloc (.cells #[.int .i64 2, .int .i64 d, .int .i64 n] 40)).cell? ⟨w.heap.size, 2, none⟩ = some (.int .i64 n) := by rw [World.cell?_alloc_new]; rfl
  obtain ⟨d1, d2, n1, n2⟩ := dayOk_bd h
  have hz := dz_len 8 n (by omega) (by omega)
  obtain ⟨z1, z2⟩ := hz
  have HT := Lib.hid ht
  have CI := Lib.hid (fun w hp => itoa_any n w (by omega) (by omega) hp)
  clear h ht
  go_enter Tryz.func114, Tryz.ntmps114
  go_wp2_with fail
  refine c.mono ?_
  rintro e w1 ⟨rfl, hg⟩
  have g0 := hg.holds hc0
  have g1 := hg.holds hc1
  have g2 := hg.holds hc2
  have hgw := (Gr.alloc w _).trans hg
  have gk := (hgw.wkT HT.out.2).at_ d1 d2
  clear c hc0 hc1 hc2 hg
  generalize w.heap.size = b at g0 g1 g2 ⊢
  have E := Lib.hid (show dayL 2 d n = [108, 97, 115, 116] ++ wk d by simp [dayL])
  go_wp2
  go_ret2
  exact ⟨by rw [E.out]; rfl, hgw⟩

set_option maxHeartbeats 1000000 in
theorem dayText_3 (d n : Int) (w : World) (ht : TxTab w) (h : DayOk 3 d n) :
    Calls Tryz.prog 114 #[dayV 3 d n] w fun e w' => e = strInt (S (dayL 3 d n)) 0 ∧ Gr w w' := by
  have c := dayCheck 3 d n (w.alloc (.cells #[.int .i64 3, .int .i64 d, .int .i64 n] 40))
  rw [dchk_yes h] at c
  have hc0 : (w.alloc (.cells #[.int .i64 3, .int .i64 d, .int .i64 n] 40)).cell? ⟨w.heap.size, 0, none⟩ = some (.int .i64 3) := by rw [World.cell?_alloc_new]; rfl
  have hc1 : (w.alloc (.cells #[.int .i64 3, .int .i64 d, .int .i64 n] 40)).cell? ⟨w.heap.size, 1, none⟩ = some (.int .i64 d) := by rw [World.cell?_alloc_new]; rfl
  have hc2 : (w.alloc (.cells #[.int .i64 3, .int .i64 d, .int .i64 n] 40)).cell? ⟨w.heap.size, 2, none⟩ = some (.int .i64 n) := by rw [World.cell?_alloc_new]; rfl
  obtain ⟨d1, d2, n1, n2⟩ := dayOk_bd h
  have hz := dz_len 8 n (by omega) (by omega)
  obtain ⟨z1, z2⟩ := hz
  have HT := Lib.hid ht
  have CI := Lib.hid (fun w hp => itoa_any n w (by omega) (by omega) hp)
  clear h ht
  go_enter Tryz.func114, Tryz.ntmps114
  go_wp2_with fail
  refine c.mono ?_
  rintro e w1 ⟨rfl, hg⟩
  have g0 := hg.holds hc0
  have g1 := hg.holds hc1
  have g2 := hg.holds hc2
  have hgw := (Gr.alloc w _).trans hg
  have gk := (hgw.wkT HT.out.2).at_ d1 d2
  clear c hc0 hc1 hc2 hg
  generalize w.heap.size = b at g0 g1 g2 ⊢
  have E := Lib.hid (show dayL 3 d n = wk d ++ 62 :: 61 :: dz n by simp [dayL])
  go_wp2_with fail
  have L1 : w1.cell? ⟨b, 0, none⟩ = some (.int .i64 3) ∧ w1.cell? ⟨b, 1, none⟩ = some (.int .i64 d) ∧ w1.cell? ⟨b, 2, none⟩ = some (.int .i64 n) ∧ w1.cell? ⟨5, d.toNat, none⟩ = some (.string (S (wk d))) ∧ Gr w w1 := ⟨g0, g1, g2, gk, hgw⟩
  have HL := Lib.hid L1
  clear L1 g0 g1 g2 gk hgw
  have CO := Lib.hid operators_any
  have hs5 : ¬ (9223372036854775807 < 5 + (dz n).length) := by omega
  have d3 : d < 7 := by omega
  go_region_held3 (fun wx => wx.cell? ⟨b, 0, none⟩ = some (.int .i64 3) ∧ wx.cell? ⟨b, 1, none⟩ = some (.int .i64 d) ∧ wx.cell? ⟨b, 2, none⟩ = some (.int .i64 n) ∧ wx.cell? ⟨5, d.toNat, none⟩ = some (.string (S (wk d))) ∧ Gr w wx) (first | exact ⟨HL.out.1, HL.out.2.1, HL.out.2.2.1, HL.out.2.2.2.1, HL.out.2.2.2.2.drew'⟩ | assumption) (first | (go_at_call 138; refine (CO.out _).mono ?_; rintro e wa ⟨mb, rfl, hma, hga⟩; have LA := OpsAt.ask3 hma; have HMA := Lib.hid hma; clear hma; have Ha := keep5 (by assumption) hga) | (go_at_call 116; refine (CI.out _ ?_).mono ?_; (refine Gr.pow (w := w) ?_ HT.out.1; exact And.right (And.right (And.right (And.right (by assumption))))); rintro e wb ⟨rfl, hgb⟩; have Hb := keep5 (by assumption) hgb; try (have LB := OpsAt.ask3 (OpsAt.gr HMA.out hgb))))
  all_goals go_wp2
  all_goals go_ret2
  all_goals exact ⟨by rw [E.out]; rfl, Hb.2.2.2.2⟩

set_option maxHeartbeats 1000000 in
theorem dayText_4 (d n : Int) (w : World) (ht : TxTab w) (h : DayOk 4 d n) :
    Calls Tryz.prog 114 #[dayV 4 d n] w fun e w' => e = strInt (S (dayL 4 d n)) 0 ∧ Gr w w' := by
  have c := dayCheck 4 d n (w.alloc (.cells #[.int .i64 4, .int .i64 d, .int .i64 n] 40))
  rw [dchk_yes h] at c
  have hc0 : (w.alloc (.cells #[.int .i64 4, .int .i64 d, .int .i64 n] 40)).cell? ⟨w.heap.size, 0, none⟩ = some (.int .i64 4) := by rw [World.cell?_alloc_new]; rfl
  have hc1 : (w.alloc (.cells #[.int .i64 4, .int .i64 d, .int .i64 n] 40)).cell? ⟨w.heap.size, 1, none⟩ = some (.int .i64 d) := by rw [World.cell?_alloc_new]; rfl
  have hc2 : (w.alloc (.cells #[.int .i64 4, .int .i64 d, .int .i64 n] 40)).cell? ⟨w.heap.size, 2, none⟩ = some (.int .i64 n) := by rw [World.cell?_alloc_new]; rfl
  obtain ⟨d1, d2, n1, n2⟩ := dayOk_bd h
  have hz := dz_len 8 n (by omega) (by omega)
  obtain ⟨z1, z2⟩ := hz
  have HT := Lib.hid ht
  have CI := Lib.hid (fun w hp => itoa_any n w (by omega) (by omega) hp)
  clear h ht
  go_enter Tryz.func114, Tryz.ntmps114
  go_wp2_with fail
  refine c.mono ?_
  rintro e w1 ⟨rfl, hg⟩
  have g0 := hg.holds hc0
  have g1 := hg.holds hc1
  have g2 := hg.holds hc2
  have hgw := (Gr.alloc w _).trans hg
  have gk := (hgw.wkT HT.out.2).at_ d1 d2
  clear c hc0 hc1 hc2 hg
  generalize w.heap.size = b at g0 g1 g2 ⊢
  have E := Lib.hid (show dayL 4 d n = wk d ++ 60 :: 61 :: dz n by simp [dayL])
  go_wp2_with fail
  have L1 : w1.cell? ⟨b, 0, none⟩ = some (.int .i64 4) ∧ w1.cell? ⟨b, 1, none⟩ = some (.int .i64 d) ∧ w1.cell? ⟨b, 2, none⟩ = some (.int .i64 n) ∧ w1.cell? ⟨5, d.toNat, none⟩ = some (.string (S (wk d))) ∧ Gr w w1 := ⟨g0, g1, g2, gk, hgw⟩
  have HL := Lib.hid L1
  clear L1 g0 g1 g2 gk hgw
  have CO := Lib.hid operators_any
  have hs5 : ¬ (9223372036854775807 < 5 + (dz n).length) := by omega
  have d3 : d < 7 := by omega
  go_region_held3 (fun wx => wx.cell? ⟨b, 0, none⟩ = some (.int .i64 4) ∧ wx.cell? ⟨b, 1, none⟩ = some (.int .i64 d) ∧ wx.cell? ⟨b, 2, none⟩ = some (.int .i64 n) ∧ wx.cell? ⟨5, d.toNat, none⟩ = some (.string (S (wk d))) ∧ Gr w wx) (first | exact ⟨HL.out.1, HL.out.2.1, HL.out.2.2.1, HL.out.2.2.2.1, HL.out.2.2.2.2.drew'⟩ | assumption) (first | (go_at_call 138; refine (CO.out _).mono ?_; rintro e wa ⟨mb, rfl, hma, hga⟩; have LA := OpsAt.ask4 hma; have HMA := Lib.hid hma; clear hma; have Ha := keep5 (by assumption) hga) | (go_at_call 116; refine (CI.out _ ?_).mono ?_; (refine Gr.pow (w := w) ?_ HT.out.1; exact And.right (And.right (And.right (And.right (by assumption))))); rintro e wb ⟨rfl, hgb⟩; have Hb := keep5 (by assumption) hgb; try (have LB := OpsAt.ask4 (OpsAt.gr HMA.out hgb))))
  all_goals go_wp2
  all_goals go_ret2
  all_goals exact ⟨by rw [E.out]; rfl, Hb.2.2.2.2⟩

theorem dayText (k d n : Int) (w : World) (h : TxTab w) :
    Calls Tryz.prog 114 #[dayV k d n] w fun e w' => e = dayTextA k d n ∧ Gr w w' := by
  by_cases ok : DayOk k d n
  · have hk : k = 1 ∨ k = 2 ∨ k = 3 ∨ k = 4 := by have := ok.1; omega
    unfold dayTextA
    rw [if_pos ok]
    rcases hk with e | e | e | e <;> subst e
    · exact dayText_1 d n w h ok
    · exact dayText_2 d n w h ok
    · exact dayText_3 d n w h ok
    · exact dayText_4 d n w h ok
  · exact dayText_bad k d n w ok
end Go.Proofs.YtkkilmmpmiichaaGreatDoor
