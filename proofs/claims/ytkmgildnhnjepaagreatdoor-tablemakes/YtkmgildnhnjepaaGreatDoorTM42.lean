/- The reference's built: a table out of times. -/
import Derived.BigQuiet
import Derived.Deep.QuietTactic
import Derived.Test.YtkmgildnhnjepaaGreatDoorTM41
import Derived.Test.YtkmgildnhnjepaaGreatDoorTM39
import Derived.Test.YtkmgildnhnjepaaGreatDoorTM17
namespace Go.Proofs.YtkmgildnhnjepaaGreatDoor
set_option linter.unusedVariables false
set_option linter.unusedSimpArgs false
open Go.RowKit
theorem bsn_type1 (w : World) (a : Int) (b : Bool) (c : ByteArray) : (Instr.buildSlice 29 1 #[(0, Value.agg #[.int .i64 a, .bool b, .string c])]).run Tryz.prog w = .ok (.slice (some ⟨w.heap.size, 0, none⟩) 1 1) (w.alloc (.cells #[.int .i64 a, .bool b, .string c] 46)) := by kernel_rfl

theorem bsn_change1 (w : World) (a b : Int) : (Instr.buildSlice 30 1 #[(0, Value.agg #[.int .i64 a, .int .i64 b])]).run Tryz.prog w = .ok (.slice (some ⟨w.heap.size, 0, none⟩) 1 1) (w.alloc (.cells #[.int .i64 a, .int .i64 b] 44)) := by kernel_rfl

theorem infoTyp : (Tryz.prog.info? 46).map (fun i => (i.zero, i.size, i.bytes)) = some (some (.agg #[.int .i64 0, .bool false, .string .empty]), 3, 32) := by kernel_rfl

theorem infoCha : (Tryz.prog.info? 44).map (fun i => (i.zero, i.size, i.bytes)) = some (some (.agg #[.int .i64 0, .int .i64 0]), 2, 16) := by kernel_rfl

theorem box_5 (w : World) (o1 o2 o3 o4 o5 : Obj) : Gr w (((((w.alloc o1).alloc o2).alloc o3).alloc o4).alloc o5) ∧ (((((w.alloc o1).alloc o2).alloc o3).alloc o4).alloc o5).heap[w.heap.size]? = some o1 ∧ (((((w.alloc o1).alloc o2).alloc o3).alloc o4).alloc o5).heap[w.heap.size + 1]? = some o2 ∧ (((((w.alloc o1).alloc o2).alloc o3).alloc o4).alloc o5).heap[w.heap.size + 1 + 1]? = some o3 ∧ (((((w.alloc o1).alloc o2).alloc o3).alloc o4).alloc o5).heap[w.heap.size + 1 + 1 + 1]? = some o4 ∧ (((((w.alloc o1).alloc o2).alloc o3).alloc o4).alloc o5).heap[w.heap.size + 1 + 1 + 1 + 1]? = some o5 := by
  have sz : ∀ (W : World) (o : Obj), (W.alloc o).heap.size = W.heap.size + 1 := fun W o => by unfold World.alloc; simp
  have h1 := bheap_new w o1
  have h2 := bheap_new (w.alloc o1) o2
  have h3 := bheap_new ((w.alloc o1).alloc o2) o3
  have h4 := bheap_new (((w.alloc o1).alloc o2).alloc o3) o4
  have h5 := bheap_new ((((w.alloc o1).alloc o2).alloc o3).alloc o4) o5
  rw [sz] at h2
  rw [sz, sz] at h3
  rw [sz, sz, sz] at h4
  rw [sz, sz, sz, sz] at h5
  have g2 := Gr.alloc (w.alloc o1) o2
  have g3 := Gr.alloc ((w.alloc o1).alloc o2) o3
  have g4 := Gr.alloc (((w.alloc o1).alloc o2).alloc o3) o4
  have g5 := Gr.alloc ((((w.alloc o1).alloc o2).alloc o3).alloc o4) o5
  exact ⟨((((Gr.alloc w o1).trans g2).trans g3).trans g4).trans g5, bheap_gr g5 (bheap_gr g4 (bheap_gr g3 (bheap_gr g2 h1))), bheap_gr g5 (bheap_gr g4 (bheap_gr g3 h2)), bheap_gr g5 (bheap_gr g4 h3), bheap_gr g5 h4, h5⟩
theorem own_sgl {α : Type} {w : World} {base g k : Nat} {T : TypeId} {enc : α → List Value} {x : α} {cs : Array Value} (hb : base ≤ g) (h : w.heap[g]? = some (.cells cs T (0, 0))) (hc : cs.toList = enc x) (hk : (enc x).length = k) : Own w base T k enc (.slice (some ⟨g, 0, none⟩) 1 1) [x] := by
  refine ⟨by simp [hk], Or.inr ⟨g, 1, cs, rfl, hb, h, Nat.le_refl _, by unfold maxLen; omega, ?_, ?_⟩⟩
  · rw [← Array.length_toList, hc, hk]; omega
  · rw [hc]
    simp
    exact List.take_of_length_le (Nat.le_of_eq hk)
theorem bld_len (f : Int → TypD) : ∀ (l : List Int) (s : BlS TypD), (bld f s l).ty.length ≤ s.ty.length + l.length ∧ (bld f s l).ch.length ≤ s.ch.length + l.length
  | [], s => by simp [bld_nil]
  | a :: l, s => by
    have h := bld_len f l (bstep f s a)
    rw [bld_cons]
    have e : (bstep f s a).ty.length ≤ s.ty.length + 1 ∧ (bstep f s a).ch.length ≤ s.ch.length + 1 := by
      unfold bstep
      split
      · omega
      · constructor
        · show (if _ then _ else _ : List TypD).length ≤ _
          split <;> simp
        · simp
    simp only [List.length_cons]
    omega
theorem bld_few (f : Int → TypD) (l : List Int) (x0 : TypD) (hl : l.length ≤ 2000000) (k : Nat) : (bld f ⟨[x0], [], x0⟩ (l.take k)).ty.length ≤ 3000000 ∧ (bld f ⟨[x0], [], x0⟩ (l.take k)).chs.length ≤ 3000000 := by
  have h := bld_len f (l.take k) ⟨[x0], [], x0⟩
  have e : (bld f ⟨[x0], [], x0⟩ (l.take k)).chs.length = (bld f ⟨[x0], [], x0⟩ (l.take k)).ch.length := by unfold BlS.chs; simp
  rw [List.length_take] at h
  simp only [List.length_singleton, List.length_nil] at h
  omega
theorem blk_ne {w : World} {a b : Nat} {c1 c2 : Array Value} {T1 T2 : TypeId} {m1 m2 : Nat × Nat} (h1 : w.heap[a]? = some (.cells c1 T1 m1)) (h2 : w.heap[b]? = some (.cells c2 T2 m2)) (h : T1 ≠ T2) : a ≠ b := fun e => by
  subst e
  rw [h1] at h2
  injection h2 with h2
  injection h2 with _ h2 _
  exact h h2
theorem idx_first {l : List TypD} {k : Nat} {x : TypD} (h : l[k]? = some x) (hn : ∀ (m : Nat) (y : TypD), m < k → l[m]? = some y → y ≠ x) : l.idxOf x = k := by
  have hm : x ∈ l := List.mem_of_getElem? h
  have hl := List.idxOf_lt_length_of_mem hm
  have hk := (List.getElem?_eq_some_iff.1 h).1
  have hg : l[l.idxOf x]? = some x := by rw [List.getElem?_eq_getElem hl, List.getElem_idxOf]
  rcases Nat.lt_trichotomy (l.idxOf x) k with q | q | q
  · exact absurd rfl (hn _ x q hg)
  · exact q
  · have := List.not_of_lt_findIdx (p := fun y => y == x) (xs := l) (i := k) q
    rw [(List.getElem?_eq_some_iff.1 h).2] at this
    simp at this
theorem own_new {v : Value} {g1 ql n cap H : Nat} (h : v.ownBlock ≠ some ql) (hat : v.ownBlock = some g1 ∨ g1 = H) (hl : ql < H) : (Value.slice (some ⟨g1, 0, none⟩) n cap).ownBlock ≠ some ql := fun e => by
  have e2 : g1 = ql := by simpa [Value.ownBlock] using e
  rcases hat with q | q
  · exact h (by rw [q, e2])
  · omega
/-- what built leaves -/
def BuiltE (s : BlS TypD) (w : World) (e : Ending) (w' : World) : Prop :=
  ∃ At ct Ac cc, e = .returned (.agg #[.slice At s.ty.length ct, .int .i64 0, .slice Ac s.chs.length cc]) ∧ (SlOk s.ty.length ct ∧ Row w' 3 TypD.cells At s.ty) ∧ (SlOk s.chs.length cc ∧ Row w' 2 ChaD.cells Ac s.chs) ∧ Gr w w'
def inC (n : Int) : List Value := [.int .i64 n]

set_option maxRecDepth 100000 in
set_option maxHeartbeats 16000000 in
theorem rbuilt (f : Int → TypD) (g : Nat) (cb : Array Value) (eg : ∀ args w, (callFunc g args).run Tryz.prog w = .ok (.enter g args) w) (A : Option Addr) (c : Nat) (l : List Int) (x0 : TypD) (w : World) (hA : Row w 1 inC A l) (hl : l.length ≤ 2000000)
    (hf : ∀ t ∈ l, ∀ W, Gr w W → Calls Tryz.prog g (#[.int .i64 t] ++ cb) W fun e w' => e = .returned (.agg #[.int .i64 (f t).off, .bool (f t).sv, .string (f t).nm]) ∧ Gr W w') :
    Calls Tryz.prog 29 #[.agg #[.int .i64 x0.off, .bool x0.sv, .string x0.nm], .slice A l.length c, .func (.func g) #[] cb] w (BuiltE (bld f ⟨[x0], [], x0⟩ l) w) := by
  obtain ⟨i0, hi, hz0, hz1, hz2⟩ := info_parts infoTyp
  have I1 := Lib.hid hi
  have I2 := Lib.hid hz0
  have I3 := Lib.hid hz1
  have I4 := Lib.hid hz2
  clear hi hz0 hz1 hz2
  obtain ⟨j0, hi, hz0, hz1, hz2⟩ := info_parts infoCha
  have J1 := Lib.hid hi
  have J2 := Lib.hid hz0
  have J3 := Lib.hid hz1
  have J4 := Lib.hid hz2
  clear hi hz0 hz1 hz2
  have HA := Lib.hid hA
  have HF := Lib.hid hf
  clear hA hf
  have XIN := Lib.hid (fun W => box_5 W (.cells #[.int .i64 x0.off, .bool x0.sv, .string x0.nm] 46) (.cells #[.slice none 0 0, .int .i64 0, .slice none 0 0] 32) (.cells #[.int .i64 x0.off, .bool x0.sv, .string x0.nm] 46) (.cells #[.slice (some ⟨W.heap.size + 1 + 1, 0, none⟩) 1 1, .int .i64 0, .slice none 0 0] 32) (.cells #[.int .i64 x0.off, .bool x0.sv, .string x0.nm] 46))
  go_enter Tryz.func29, Tryz.ntmps29
  go_wp2_with (refine lay_one _ _ _ (by rfl) (bsn_type1 _ x0.off x0.sv x0.nm) ?_)
  have B0 := Lib.hid (XIN.out w)
  clear XIN
  generalize ((((w.alloc (.cells #[.int .i64 x0.off, .bool x0.sv, .string x0.nm] 46)).alloc (.cells #[.slice none 0 0, .int .i64 0, .slice none 0 0] 32)).alloc (.cells #[.int .i64 x0.off, .bool x0.sv, .string x0.nm] 46)).alloc (.cells #[.slice (some ⟨w.heap.size + 1 + 1, 0, none⟩) 1 1, .int .i64 0, .slice none 0 0] 32)).alloc (.cells #[.int .i64 x0.off, .bool x0.sv, .string x0.nm] 46) = w1 at B0 ⊢
  obtain ⟨q, hq⟩ : ∃ q, w.heap.size = q := ⟨_, rfl⟩
  have HQ := Lib.hid hq
  rw [hq] at B0 ⊢
  clear hq
  have HB0 : Hid (BAt 46 44 32 w w1 (q + 1 + 1 + 1) (q + 1 + 1 + 1 + 1) ⟨[x0], [], x0⟩ (.slice (some ⟨q + 1 + 1, 0, none⟩) 1 1) (.slice none 0 0)) := ⟨B0.out.1, B0.out.2.2.2.2.1, B0.out.2.2.2.2.2, own_sgl (x := x0) (by have := HQ.out; omega) B0.out.2.2.2.1 rfl rfl, Own.nil_ _ _ _ _ _, by simp [Value.ownBlock], by have := HQ.out; omega, by have := HQ.out; omega, by omega⟩
  have HR0 := Lib.hid B0.out.2.2.1
  clear B0
  generalize hqt : q + 1 + 1 + 1 = qt at HB0 ⊢
  generalize hql : qt + 1 = ql at HB0 ⊢
  have QN : Hid (q + 1 ≠ qt ∧ q + 1 ≠ ql) := ⟨by omega, by omega⟩
  clear hqt hql
  go_loopw [19] (fun i W => ∃ (k : Nat) (vt vc : Value), k ≤ l.length ∧ i = .int .i64 k ∧ Hid (BAt 46 44 32 w W qt ql (bld f ⟨[x0], [], x0⟩ (l.take k)) vt vc) ∧ Hid (W.heap[q + 1]? = some (.cells #[.slice none 0 0, .int .i64 0, .slice none 0 0] 32 (0, 0)))) (fun i W => l.length - (intOf i).toNat)
  case atStart => exact ⟨0, _, _, Nat.zero_le _, rfl, HB0.out, HR0.out⟩
  case round =>
    obtain ⟨k, vt, vc, hk, rfl, hb, hr⟩ := hrel
    clear HB0 HR0
    by_cases hlt : k < l.length
    · obtain ⟨t, hx⟩ := get_lt hlt
      have SB : Hid (bld f ⟨[x0], [], x0⟩ (l.take (k + 1)) = bstep f (bld f ⟨[x0], [], x0⟩ (l.take k)) t) := by
        unfold Hid
        rw [List.take_succ_eq_append_getElem hlt, bld_app, (List.getElem?_eq_some_iff.1 hx).2]; rfl
      obtain ⟨b, off, rfl, hbk, hcl⟩ := HA.out k t hx
      have c0 : wr.cell? ⟨b, off + k, none⟩ = some (.int .i64 t) := hb.out.gr.holds (by simpa using hcl 0 (.int .i64 t) rfl)
      have KF := Lib.hid (HF.out t (get_mem hx) wr hb.out.gr)
      have TL : Hid ((bld f ⟨[x0], [], x0⟩ (l.take k)).ty.length ≤ 3000000 ∧ (bld f ⟨[x0], [], x0⟩ (l.take k)).chs.length ≤ 3000000) := bld_few f l x0 hl k
      clear hx hcl hbk
      go_wp2_with fail
      clear c0
      refine KF.out.mono ?_
      rintro e w4 ⟨rfl, g4⟩
      obtain ⟨xx, hxx⟩ : ∃ x, f t = x := ⟨_, rfl⟩
      have FX := Lib.hid hxx
      rw [hxx]
      clear hxx KF
      obtain ⟨xo, xs, xn⟩ := xx
      obtain ⟨ss, hss⟩ : ∃ s, bld f ⟨[x0], [], x0⟩ (l.take k) = s := ⟨_, rfl⟩
      rw [hss] at hb SB TL
      clear hss
      obtain ⟨ty, ch, lo, lsv, ln⟩ := ss
      simp only
      have NX := Lib.hid (box_one w4 (.cells #[.int .i64 xo, .bool xs, .string xn] 46))
      have HB5 := Lib.hid (hb.out.grow (g4.trans NX.out.1))
      have HR5 := Lib.hid (bheap_gr (g4.trans NX.out.1) hr.out)
      have LB := Lib.hid HB5.out.lb
      have NVX : Hid (∀ j, vt.ownBlock = some j → j < w4.heap.size) := fun j hj => (World.ownsRow.lt (hb.out.grow g4).ot j hj).2
      clear hb hr g4
      have c0 : (w4.alloc (.cells #[.int .i64 xo, .bool xs, .string xn] 46)).cell? ⟨ql, 0, none⟩ = some (.int .i64 lo) := bcell_row LB.out rfl
      have c1 : (w4.alloc (.cells #[.int .i64 xo, .bool xs, .string xn] 46)).cell? ⟨ql, 1, none⟩ = some (.bool lsv) := bcell_row LB.out rfl
      have c2 : (w4.alloc (.cells #[.int .i64 xo, .bool xs, .string xn] 46)).cell? ⟨ql, 2, none⟩ = some (.string ln) := bcell_row LB.out rfl
      have EQ := fun w => eqlType xo lo xs lsv xn ln w
      obtain ⟨dd, hdd⟩ : ∃ d, decide (TypD.mk xo xs xn = TypD.mk lo lsv ln) = d := ⟨_, rfl⟩
      rw [hdd] at EQ
      have DD := Lib.hid hdd
      clear hdd
      cases dd with
      | true =>
        have ST : Hid (bld f ⟨[x0], [], x0⟩ (l.take (k + 1)) = ⟨ty, ch, ⟨lo, lsv, ln⟩⟩) := by unfold Hid; rw [SB.out]; unfold bstep; rw [FX.out, if_pos (of_decide_eq_true DD.out)]
        clear SB FX DD
        go_wp2_with fail
        go_roundw
        case rel => exact ⟨k + 1, vt, vc, by omega, by go_num, by rw [ST.out]; exact HB5.out, HR5.out⟩
        case measure => simp [intOf]; omega
      | false =>
        have SN : Hid (bld f ⟨[x0], [], x0⟩ (l.take (k + 1)) = ⟨if TypD.mk xo xs xn ∈ ty then ty else ty ++ [⟨xo, xs, xn⟩], ch ++ [(t, ty.idxOf ⟨xo, xs, xn⟩)], ⟨xo, xs, xn⟩⟩) := by unfold Hid; rw [SB.out]; unfold bstep; rw [FX.out, if_neg (of_decide_eq_false DD.out)]
        clear SB FX DD
        go_wp2_with fail
        clear c0 c1 c2 EQ LB
        generalize w4.alloc (.cells #[.int .i64 xo, .bool xs, .string xn] 46) = w5 at NX HB5 HR5 ⊢
        generalize w4.heap.size = qx at NX NVX ⊢
        have HX := Lib.hid NX.out.2
        clear NX
        obtain ⟨A1, n1, rfl, hn1, hn2, _⟩ := HB5.out.ot.form
        obtain ⟨A2, n2, rfl, hm1, hm2, _⟩ := HB5.out.oc.form
        simp only at hn1 hm1
        go_loopw [12] (fun i W => ∃ j : Nat, j ≤ ty.length ∧ i = .int .i64 j ∧ Hid (∀ (m : Nat) (y : TypD), m < j → ty[m]? = some y → y ≠ ⟨xo, xs, xn⟩) ∧ Hid (Gr w5 W)) (fun i W => ty.length - (intOf i).toNat)
        case atStart => exact ⟨0, Nat.zero_le _, rfl, fun m y hm _ => by omega, Gr.refl _⟩
        case round =>
          obtain ⟨jj, hj, rfl, hno, hg⟩ := hrel
          have HBW := Lib.hid (HB5.out.grow hg.out)
          have HXW := Lib.hid (bheap_gr hg.out HX.out)
          have HRW := Lib.hid (bheap_gr hg.out HR5.out)
          have TL1 := TL.out.1
          have y0 : wr.cell? ⟨qt, 0, none⟩ = some (.slice A1 ty.length n1) := bcell_row HBW.out.tb rfl
          have z0 : wr.cell? ⟨qx, 0, none⟩ = some (.int .i64 xo) := bcell_row HXW.out rfl
          have z1 : wr.cell? ⟨qx, 1, none⟩ = some (.bool xs) := bcell_row HXW.out rfl
          have z2 : wr.cell? ⟨qx, 2, none⟩ = some (.string xn) := bcell_row HXW.out rfl
          by_cases jl : jj < ty.length
          · obtain ⟨⟨yo, ys, yn⟩, hy⟩ := get_lt jl
            obtain ⟨b2, off2, rfl, d0, d1, d2⟩ := Row.three (HBW.out.ot.row ty_len) hy rfl (Gr.refl wr)
            have NQ := fun w => neqlType yo xo ys xs yn xn w
            have HY := Lib.hid hy
            obtain ⟨dd, hdd⟩ : ∃ d, decide (TypD.mk yo ys yn = TypD.mk xo xs xn) = d := ⟨_, rfl⟩
            rw [hdd] at NQ
            have DD := Lib.hid hdd
            have t1 : decide ((jj : Int) < (ty.length : Int)) = true := ltT (by omega)
            clear hdd hy
            cases dd with
            | false =>
              simp only [Bool.not_false] at NQ
              go_wp2_with fail
              go_quiet (fail)
              go_wp2_with fail
              go_roundw
              case rel => exact ⟨jj + 1, by omega, by go_num, fun m y hm hy2 => by
                by_cases e : m = jj
                · subst e; rw [HY.out] at hy2; injection hy2 with hy2; rw [← hy2]; exact of_decide_eq_false DD.out
                · exact hno.out m y (by omega) hy2, hg.out.drewN _⟩
              case measure => simp [intOf]; omega
            | true =>
              simp only [Bool.not_true] at NQ
              go_wp2_with fail
              go_quiet (fail)
              clear y0 z0 z1 z2 d0 d1 d2 NQ
              have HYX : Hid (ty[jj]? = some ⟨xo, xs, xn⟩) := by unfold Hid; rw [HY.out, of_decide_eq_true DD.out]
              have HB6 := Lib.hid (HBW.out.grow ((Gr.refl wr).drewN nq))
              have HX6 := Lib.hid (bheap_gr ((Gr.refl wr).drewN nq) HXW.out)
              have HR6 := Lib.hid (bheap_gr ((Gr.refl wr).drewN nq) HRW.out)
              clear HBW HXW HRW hg HB5 HX HR5 DD HY
              generalize wr.drewN nq = w6 at HB6 HX6 HR6 ⊢
              have ID := Lib.hid (idx_first HYX.out hno.out)
              have MM : Hid (TypD.mk xo xs xn ∈ ty) := List.mem_of_getElem? HYX.out
              have NC := Lib.hid (bheap_new w6 (.cells #[.int .i64 t, .int .i64 jj] 44))
              have HB7 := Lib.hid (HB6.out.grow (Gr.alloc w6 (.cells #[.int .i64 t, .int .i64 jj] 44)))
              have HX7 := Lib.hid (bheap_gr (Gr.alloc w6 (.cells #[.int .i64 t, .int .i64 jj] 44)) HX6.out)
              have HR7 := Lib.hid (bheap_gr (Gr.alloc w6 (.cells #[.int .i64 t, .int .i64 jj] 44)) HR6.out)
              have y0 : w6.cell? ⟨qt, 0, none⟩ = some (.slice (some ⟨b2, off2, none⟩) ty.length n1) := bcell_row HB6.out.tb rfl
              have y2 : w6.cell? ⟨qt, 2, none⟩ = some (.slice A2 (BlS.chs ⟨ty, ch, ⟨lo, lsv, ln⟩⟩).length n2) := bcell_row HB6.out.tb rfl
              have t2 : ((jj : Int) == (ty.length : Int)) = false := beqF (by omega)
              go_wp2_with (first | (refine lay_one _ _ _ (by rfl) (bsn_change1 _ t jj) ?_) | (at_builtin; refine wpList_append_lies _ (by rfl) _ _ 30 (by rfl) w.heap.size 44 j0 (.agg #[.int .i64 0, .int .i64 0]) 2 16 Tryz.underlying30 J1.out J2.out J3.out J4.out (by rfl) (by omega) (.slice A2 (BlS.chs ⟨ty, ch, ⟨lo, lsv, ln⟩⟩).length n2) (BlS.chs ⟨ty, ch, ⟨lo, lsv, ln⟩⟩).length ((BlS.chs ⟨ty, ch, ⟨lo, lsv, ln⟩⟩).flatMap ChaD.cells) (by rfl) HB7.out.oc ⟨w6.heap.size, 0, none⟩ 1 1 [.int .i64 t, .int .i64 jj] (by rfl) (by rfl) (World.news_of_block NC.out) (ch_one ⟨t, jj⟩) (by omega) (by have := TL.out.2; unfold maxLen; omega) (by have := TL.out.2; omega) (Below.size HB7.out.gr) _ rfl ?_; intro g2 cap2 w8 hown2 hgrow2 hat2 hlt2; have BC := Lib.hid (BAt.addC HB7.out (t := t) (k := jj) (own_more rfl hown2) hgrow2 (by decide) (by decide) (by decide)); have tb8 := blk_far hgrow2 HB7.out.tb (row_apart HB7.out.oc HB7.out.tb (by decide)); have hx8 := blk_far hgrow2 HX7.out (row_apart HB7.out.oc HX7.out (by decide)); have hr8 := blk_far hgrow2 HR7.out (row_apart HB7.out.oc HR7.out (by decide)); have HR9 := Lib.hid (blk_set2 (p := ⟨qt, 2, none⟩) (u := .slice (some ⟨g2, 0, none⟩) ((BlS.chs ⟨ty, ch, ⟨lo, lsv, ln⟩⟩).length + 1) cap2) hr8 QN.out.1); have p2 : w8.cell? ⟨qt, 2, none⟩ = some (.slice A2 (BlS.chs ⟨ty, ch, ⟨lo, lsv, ln⟩⟩).length n2) := bcell_row tb8 rfl; have fp2 : w8.frozen? ⟨qt, 2, none⟩ = false := unfrozen tb8; have hx9 := blk_set2 (p := ⟨qt, 2, none⟩) (u := .slice (some ⟨g2, 0, none⟩) ((BlS.chs ⟨ty, ch, ⟨lo, lsv, ln⟩⟩).length + 1) cap2) hx8 (blk_ne hx8 tb8 (by decide)); have e0 : (w8.setCell ⟨qt, 2, none⟩ (.slice (some ⟨g2, 0, none⟩) ((BlS.chs ⟨ty, ch, ⟨lo, lsv, ln⟩⟩).length + 1) cap2)).cell? ⟨qx, 0, none⟩ = some (.int .i64 xo) := bcell_row hx9 rfl; have e1 : (w8.setCell ⟨qt, 2, none⟩ (.slice (some ⟨g2, 0, none⟩) ((BlS.chs ⟨ty, ch, ⟨lo, lsv, ln⟩⟩).length + 1) cap2)).cell? ⟨qx, 1, none⟩ = some (.bool xs) := bcell_row hx9 rfl; have e2 : (w8.setCell ⟨qt, 2, none⟩ (.slice (some ⟨g2, 0, none⟩) ((BlS.chs ⟨ty, ch, ⟨lo, lsv, ln⟩⟩).length + 1) cap2)).cell? ⟨qx, 2, none⟩ = some (.string xn) := bcell_row hx9 rfl; have m0 : (w8.setCell ⟨qt, 2, none⟩ (.slice (some ⟨g2, 0, none⟩) ((BlS.chs ⟨ty, ch, ⟨lo, lsv, ln⟩⟩).length + 1) cap2)).cell? ⟨ql, 0, none⟩ = some (.int .i64 lo) := bcell_row BC.out.lb rfl; have fm0 : (w8.setCell ⟨qt, 2, none⟩ (.slice (some ⟨g2, 0, none⟩) ((BlS.chs ⟨ty, ch, ⟨lo, lsv, ln⟩⟩).length + 1) cap2)).frozen? ⟨ql, 0, none⟩ = false := unfrozen BC.out.lb; have m1 : (w8.setCell ⟨qt, 2, none⟩ (.slice (some ⟨g2, 0, none⟩) ((BlS.chs ⟨ty, ch, ⟨lo, lsv, ln⟩⟩).length + 1) cap2)).cell? ⟨ql, 1, none⟩ = some (.bool lsv) := bcell_row BC.out.lb rfl; have fm1 : (w8.setCell ⟨qt, 2, none⟩ (.slice (some ⟨g2, 0, none⟩) ((BlS.chs ⟨ty, ch, ⟨lo, lsv, ln⟩⟩).length + 1) cap2)).frozen? ⟨ql, 1, none⟩ = false := unfrozen BC.out.lb; have m2 : (w8.setCell ⟨qt, 2, none⟩ (.slice (some ⟨g2, 0, none⟩) ((BlS.chs ⟨ty, ch, ⟨lo, lsv, ln⟩⟩).length + 1) cap2)).cell? ⟨ql, 2, none⟩ = some (.string ln) := bcell_row BC.out.lb rfl; have fm2 : (w8.setCell ⟨qt, 2, none⟩ (.slice (some ⟨g2, 0, none⟩) ((BlS.chs ⟨ty, ch, ⟨lo, lsv, ln⟩⟩).length + 1) cap2)).frozen? ⟨ql, 2, none⟩ = false := unfrozen BC.out.lb; clear hown2 hgrow2 hat2 hlt2 tb8 hx8 hx9 hr8))
              go_roundw
              case rel => exact ⟨k + 1, _, _, by omega, by go_num, by rw [SN.out, if_pos MM.out, ID.out]; exact BC.out.last ⟨xo, xs, xn⟩ (by decide), blk_set2 (blk_set2 (blk_set2 HR9.out QN.out.2) QN.out.2) QN.out.2⟩
              case measure => simp [intOf]; omega
          · have t1 : decide ((jj : Int) < (ty.length : Int)) = false := ltF (by omega)
            go_wp2_with fail
            go_quiet (fail)
            clear y0 z0 z1 z2
            obtain rfl : jj = ty.length := by omega
            have HB6 := Lib.hid (HBW.out.grow ((Gr.refl wr).drewN nq))
            have HX6 := Lib.hid (bheap_gr ((Gr.refl wr).drewN nq) HXW.out)
            have HR6 := Lib.hid (bheap_gr ((Gr.refl wr).drewN nq) HRW.out)
            clear HBW HXW HRW hg HB5 HX HR5 jl t1
            generalize wr.drewN nq = w6 at HB6 HX6 HR6 ⊢
            have MM : Hid (¬ TypD.mk xo xs xn ∈ ty) := fun hm => by
              obtain ⟨m, hm2⟩ := List.getElem?_of_mem hm
              exact hno.out m _ (List.getElem?_eq_some_iff.1 hm2).1 hm2 rfl
            have ID := Lib.hid (List.idxOf_eq_length MM.out)
            have NT := Lib.hid (bheap_new w6 (.cells #[.int .i64 xo, .bool xs, .string xn] 46))
            have HB7 := Lib.hid (HB6.out.grow (Gr.alloc w6 (.cells #[.int .i64 xo, .bool xs, .string xn] 46)))
            have HX7 := Lib.hid (bheap_gr (Gr.alloc w6 (.cells #[.int .i64 xo, .bool xs, .string xn] 46)) HX6.out)
            have HR7 := Lib.hid (bheap_gr (Gr.alloc w6 (.cells #[.int .i64 xo, .bool xs, .string xn] 46)) HR6.out)
            have y0 : w6.cell? ⟨qt, 0, none⟩ = some (.slice A1 ty.length n1) := bcell_row HB6.out.tb rfl
            have y2 : w6.cell? ⟨qt, 2, none⟩ = some (.slice A2 (BlS.chs ⟨ty, ch, ⟨lo, lsv, ln⟩⟩).length n2) := bcell_row HB6.out.tb rfl
            have z0 : w6.cell? ⟨qx, 0, none⟩ = some (.int .i64 xo) := bcell_row HX6.out rfl
            have z1 : w6.cell? ⟨qx, 1, none⟩ = some (.bool xs) := bcell_row HX6.out rfl
            have z2 : w6.cell? ⟨qx, 2, none⟩ = some (.string xn) := bcell_row HX6.out rfl
            have t2 : ((ty.length : Int) == (ty.length : Int)) = true := beqT rfl
            go_wp2_with (first | (refine lay_one _ _ _ (by rfl) (bsn_type1 _ xo xs xn) ?_) | (refine lay_one _ _ _ (by rfl) (bsn_change1 _ t ty.length) ?_) | (at_builtin; refine wpList_append_lies _ (by rfl) _ _ 29 (by rfl) w.heap.size 46 i0 (.agg #[.int .i64 0, .bool false, .string .empty]) 3 32 Tryz.underlying29 I1.out I2.out I3.out I4.out (by rfl) (by omega) (.slice A1 ty.length n1) ty.length (ty.flatMap TypD.cells) (by rfl) HB7.out.ot ⟨w6.heap.size, 0, none⟩ 1 1 [.int .i64 xo, .bool xs, .string xn] (by rfl) (by rfl) (World.news_of_block NT.out) (ty_one ⟨xo, xs, xn⟩) (by omega) (by have := TL.out.1; unfold maxLen; omega) (by have := TL.out.1; omega) (Below.size HB7.out.gr) _ rfl ?_; intro g1 cap1 w7 hown1 hgrow1 hat1 hlt1; have BT : Hid (BAt 46 44 32 w (w7.setCell ⟨qt, 0, none⟩ (.slice (some ⟨g1, 0, none⟩) (ty.length + 1) cap1)) qt ql ⟨ty ++ [⟨xo, xs, xn⟩], ch, ⟨lo, lsv, ln⟩⟩ (.slice (some ⟨g1, 0, none⟩) (ty.length + 1) cap1) (.slice A2 (BlS.chs ⟨ty, ch, ⟨lo, lsv, ln⟩⟩).length n2)) := (BAt.addT HB7.out (x := ⟨xo, xs, xn⟩) (own_more rfl hown1) hgrow1 (own_new HB7.out.nl hat1 (Array.getElem?_eq_some_iff.1 HB7.out.lb).1) (by decide) (by decide) (by decide)); have tb7 := blk_far hgrow1 HB7.out.tb (row_apart HB7.out.ot HB7.out.tb (by decide)); have hx7 := blk_far hgrow1 HX7.out (fun e => Nat.lt_irrefl _ (NVX.out _ e)); have hr7 := blk_far hgrow1 HR7.out (row_apart HB7.out.ot HR7.out (by decide)); have p0 : w7.cell? ⟨qt, 0, none⟩ = some (.slice A1 ty.length n1) := bcell_row tb7 rfl; have fp0 : w7.frozen? ⟨qt, 0, none⟩ = false := unfrozen tb7; have hxT := Lib.hid (blk_set2 (p := ⟨qt, 0, none⟩) (u := (.slice (some ⟨g1, 0, none⟩) (ty.length + 1) cap1)) hx7 (blk_ne hx7 tb7 (by decide))); have hrT := Lib.hid (blk_set2 (p := ⟨qt, 0, none⟩) (u := (.slice (some ⟨g1, 0, none⟩) (ty.length + 1) cap1)) hr7 QN.out.1); have r2 : (w7.setCell ⟨qt, 0, none⟩ (.slice (some ⟨g1, 0, none⟩) (ty.length + 1) cap1)).cell? ⟨qt, 2, none⟩ = some (.slice A2 (BlS.chs ⟨ty, ch, ⟨lo, lsv, ln⟩⟩).length n2) := bcell_row BT.out.tb rfl; have NC := Lib.hid (bheap_new (w7.setCell ⟨qt, 0, none⟩ (.slice (some ⟨g1, 0, none⟩) (ty.length + 1) cap1)) (.cells #[.int .i64 t, .int .i64 ty.length] 44)); have HB9 := Lib.hid (BT.out.grow (Gr.alloc (w7.setCell ⟨qt, 0, none⟩ (.slice (some ⟨g1, 0, none⟩) (ty.length + 1) cap1)) (.cells #[.int .i64 t, .int .i64 ty.length] 44))); have HX9 := Lib.hid (bheap_gr (Gr.alloc (w7.setCell ⟨qt, 0, none⟩ (.slice (some ⟨g1, 0, none⟩) (ty.length + 1) cap1)) (.cells #[.int .i64 t, .int .i64 ty.length] 44)) hxT.out); have HR9' := Lib.hid (bheap_gr (Gr.alloc (w7.setCell ⟨qt, 0, none⟩ (.slice (some ⟨g1, 0, none⟩) (ty.length + 1) cap1)) (.cells #[.int .i64 t, .int .i64 ty.length] 44)) hrT.out); clear hown1 hgrow1 hat1 hlt1 tb7 hx7 hr7) | (at_builtin; refine wpList_append_lies _ (by rfl) _ _ 30 (by rfl) w.heap.size 44 j0 (.agg #[.int .i64 0, .int .i64 0]) 2 16 Tryz.underlying30 J1.out J2.out J3.out J4.out (by rfl) (by omega) (.slice A2 (BlS.chs ⟨ty, ch, ⟨lo, lsv, ln⟩⟩).length n2) (BlS.chs ⟨ty, ch, ⟨lo, lsv, ln⟩⟩).length ((BlS.chs ⟨ty, ch, ⟨lo, lsv, ln⟩⟩).flatMap ChaD.cells) (by rfl) HB9.out.oc ⟨(w7.setCell ⟨qt, 0, none⟩ (.slice (some ⟨g1, 0, none⟩) (ty.length + 1) cap1)).heap.size, 0, none⟩ 1 1 [.int .i64 t, .int .i64 ty.length] (by rfl) (by rfl) (World.news_of_block NC.out) (ch_one ⟨t, ty.length⟩) (by omega) (by have := TL.out.2; unfold maxLen; omega) (by have := TL.out.2; omega) (Below.size HB9.out.gr) _ rfl ?_; intro g2 cap2 w8 hown2 hgrow2 hat2 hlt2; have BC := Lib.hid (BAt.addC HB9.out (t := t) (k := ty.length) (own_more rfl hown2) hgrow2 (by decide) (by decide) (by decide)); have tb8 := blk_far hgrow2 HB9.out.tb (row_apart HB9.out.oc HB9.out.tb (by decide)); have hx8 := blk_far hgrow2 HX9.out (row_apart HB9.out.oc HX9.out (by decide)); have hr8 := blk_far hgrow2 HR9'.out (row_apart HB9.out.oc HR9'.out (by decide)); have HR9 := Lib.hid (blk_set2 (p := ⟨qt, 2, none⟩) (u := .slice (some ⟨g2, 0, none⟩) ((BlS.chs ⟨ty, ch, ⟨lo, lsv, ln⟩⟩).length + 1) cap2) hr8 QN.out.1); have p2 : w8.cell? ⟨qt, 2, none⟩ = some (.slice A2 (BlS.chs ⟨ty, ch, ⟨lo, lsv, ln⟩⟩).length n2) := bcell_row tb8 rfl; have fp2 : w8.frozen? ⟨qt, 2, none⟩ = false := unfrozen tb8; have hx9 := blk_set2 (p := ⟨qt, 2, none⟩) (u := .slice (some ⟨g2, 0, none⟩) ((BlS.chs ⟨ty, ch, ⟨lo, lsv, ln⟩⟩).length + 1) cap2) hx8 (blk_ne hx8 tb8 (by decide)); have e0 : (w8.setCell ⟨qt, 2, none⟩ (.slice (some ⟨g2, 0, none⟩) ((BlS.chs ⟨ty, ch, ⟨lo, lsv, ln⟩⟩).length + 1) cap2)).cell? ⟨qx, 0, none⟩ = some (.int .i64 xo) := bcell_row hx9 rfl; have e1 : (w8.setCell ⟨qt, 2, none⟩ (.slice (some ⟨g2, 0, none⟩) ((BlS.chs ⟨ty, ch, ⟨lo, lsv, ln⟩⟩).length + 1) cap2)).cell? ⟨qx, 1, none⟩ = some (.bool xs) := bcell_row hx9 rfl; have e2 : (w8.setCell ⟨qt, 2, none⟩ (.slice (some ⟨g2, 0, none⟩) ((BlS.chs ⟨ty, ch, ⟨lo, lsv, ln⟩⟩).length + 1) cap2)).cell? ⟨qx, 2, none⟩ = some (.string xn) := bcell_row hx9 rfl; have m0 : (w8.setCell ⟨qt, 2, none⟩ (.slice (some ⟨g2, 0, none⟩) ((BlS.chs ⟨ty, ch, ⟨lo, lsv, ln⟩⟩).length + 1) cap2)).cell? ⟨ql, 0, none⟩ = some (.int .i64 lo) := bcell_row BC.out.lb rfl; have fm0 : (w8.setCell ⟨qt, 2, none⟩ (.slice (some ⟨g2, 0, none⟩) ((BlS.chs ⟨ty, ch, ⟨lo, lsv, ln⟩⟩).length + 1) cap2)).frozen? ⟨ql, 0, none⟩ = false := unfrozen BC.out.lb; have m1 : (w8.setCell ⟨qt, 2, none⟩ (.slice (some ⟨g2, 0, none⟩) ((BlS.chs ⟨ty, ch, ⟨lo, lsv, ln⟩⟩).length + 1) cap2)).cell? ⟨ql, 1, none⟩ = some (.bool lsv) := bcell_row BC.out.lb rfl; have fm1 : (w8.setCell ⟨qt, 2, none⟩ (.slice (some ⟨g2, 0, none⟩) ((BlS.chs ⟨ty, ch, ⟨lo, lsv, ln⟩⟩).length + 1) cap2)).frozen? ⟨ql, 1, none⟩ = false := unfrozen BC.out.lb; have m2 : (w8.setCell ⟨qt, 2, none⟩ (.slice (some ⟨g2, 0, none⟩) ((BlS.chs ⟨ty, ch, ⟨lo, lsv, ln⟩⟩).length + 1) cap2)).cell? ⟨ql, 2, none⟩ = some (.string ln) := bcell_row BC.out.lb rfl; have fm2 : (w8.setCell ⟨qt, 2, none⟩ (.slice (some ⟨g2, 0, none⟩) ((BlS.chs ⟨ty, ch, ⟨lo, lsv, ln⟩⟩).length + 1) cap2)).frozen? ⟨ql, 2, none⟩ = false := unfrozen BC.out.lb; clear hown2 hgrow2 hat2 hlt2 tb8 hx8 hx9 hr8))
            go_roundw
            case rel => exact ⟨k + 1, _, _, by omega, by go_num, by rw [SN.out, if_neg MM.out, ID.out]; exact BC.out.last ⟨xo, xs, xn⟩ (by decide), blk_set2 (blk_set2 (blk_set2 HR9.out QN.out.2) QN.out.2) QN.out.2⟩
            case measure => simp [intOf]; omega
    · obtain rfl : k = l.length := by omega
      have HBF : Hid (BAt 46 44 32 w wr qt ql (bld f ⟨[x0], [], x0⟩ l) vt vc) := by have := hb.out; rw [List.take_length] at this; exact this
      clear hb hk hlt
      obtain ⟨A1, n1, rfl, hn1, hn2, _⟩ := HBF.out.ot.form
      obtain ⟨A2, n2, rfl, hm1, hm2, _⟩ := HBF.out.oc.form
      have S1 := Lib.hid (And.intro hn1 hn2)
      have S2 := Lib.hid (And.intro hm1 hm2)
      clear hn1 hn2 hm1 hm2
      have NT := Lib.hid (row_apart HBF.out.ot hr.out (by decide))
      have NC := Lib.hid (row_apart HBF.out.oc hr.out (by decide))
      have NQ : Hid (w.heap.size ≤ q + 1) := by have := HQ.out; unfold Hid; omega
      have v0 : wr.cell? ⟨qt, 0, none⟩ = some (.slice A1 (bld f ⟨[x0], [], x0⟩ l).ty.length n1) := bcell_row HBF.out.tb rfl
      have v1 : wr.cell? ⟨qt, 1, none⟩ = some (.int .i64 0) := bcell_row HBF.out.tb rfl
      have v2 : wr.cell? ⟨qt, 2, none⟩ = some (.slice A2 (bld f ⟨[x0], [], x0⟩ l).chs.length n2) := bcell_row HBF.out.tb rfl
      have y0 : wr.cell? ⟨q + 1, 0, none⟩ = some (.slice none 0 0) := bcell_row hr.out rfl
      have y1 : wr.cell? ⟨q + 1, 1, none⟩ = some (.int .i64 0) := bcell_row hr.out rfl
      have y2 : wr.cell? ⟨q + 1, 2, none⟩ = some (.slice none 0 0) := bcell_row hr.out rfl
      have f0 : wr.frozen? ⟨q + 1, 0, none⟩ = false := unfrozen hr.out
      have f1 : wr.frozen? ⟨q + 1, 1, none⟩ = false := unfrozen hr.out
      have f2 : wr.frozen? ⟨q + 1, 2, none⟩ = false := unfrozen hr.out
      have s0 : (((wr.setCell ⟨q + 1, 0, none⟩ (.slice A1 (bld f ⟨[x0], [], x0⟩ l).ty.length n1)).setCell ⟨q + 1, 1, none⟩ (.int .i64 0)).setCell ⟨q + 1, 2, none⟩ (.slice A2 (bld f ⟨[x0], [], x0⟩ l).chs.length n2)).cell? ⟨q + 1, 0, none⟩ = some (.slice A1 (bld f ⟨[x0], [], x0⟩ l).ty.length n1) := bcell_row (st3 hr.out (.slice A1 (bld f ⟨[x0], [], x0⟩ l).ty.length n1) (.int .i64 0) (.slice A2 (bld f ⟨[x0], [], x0⟩ l).chs.length n2)) rfl
      have s1 : (((wr.setCell ⟨q + 1, 0, none⟩ (.slice A1 (bld f ⟨[x0], [], x0⟩ l).ty.length n1)).setCell ⟨q + 1, 1, none⟩ (.int .i64 0)).setCell ⟨q + 1, 2, none⟩ (.slice A2 (bld f ⟨[x0], [], x0⟩ l).chs.length n2)).cell? ⟨q + 1, 1, none⟩ = some (.int .i64 0) := bcell_row (st3 hr.out (.slice A1 (bld f ⟨[x0], [], x0⟩ l).ty.length n1) (.int .i64 0) (.slice A2 (bld f ⟨[x0], [], x0⟩ l).chs.length n2)) rfl
      have s2 : (((wr.setCell ⟨q + 1, 0, none⟩ (.slice A1 (bld f ⟨[x0], [], x0⟩ l).ty.length n1)).setCell ⟨q + 1, 1, none⟩ (.int .i64 0)).setCell ⟨q + 1, 2, none⟩ (.slice A2 (bld f ⟨[x0], [], x0⟩ l).chs.length n2)).cell? ⟨q + 1, 2, none⟩ = some (.slice A2 (bld f ⟨[x0], [], x0⟩ l).chs.length n2) := bcell_row (st3 hr.out (.slice A1 (bld f ⟨[x0], [], x0⟩ l).ty.length n1) (.int .i64 0) (.slice A2 (bld f ⟨[x0], [], x0⟩ l).chs.length n2)) rfl
      go_wp2_with fail
      exact bodyPost_ret (v := .agg #[.slice A1 (bld f ⟨[x0], [], x0⟩ l).ty.length n1, .int .i64 0, .slice A2 (bld f ⟨[x0], [], x0⟩ l).chs.length n2]) (by simp [results, Tryz.results29, go_sem, s0, s1, s2]) rfl ⟨A1, n1, A2, n2, rfl, ⟨S1.out, (row_far (row_far (row_far HBF.out.ot _ NT.out) _ NT.out) _ NT.out).row ty_len⟩, ⟨S2.out, (row_far (row_far (row_far HBF.out.oc _ NC.out) _ NC.out) _ NC.out).row ch_len⟩, (st3_below HBF.out.gr NQ.out (.slice A1 (bld f ⟨[x0], [], x0⟩ l).ty.length n1) (.int .i64 0) (.slice A2 (bld f ⟨[x0], [], x0⟩ l).chs.length n2))⟩
end Go.Proofs.YtkmgildnhnjepaaGreatDoor
