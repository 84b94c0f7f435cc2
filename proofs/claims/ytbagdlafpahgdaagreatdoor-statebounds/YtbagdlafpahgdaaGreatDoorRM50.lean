/- A book of given rules and of one zone with one era; types compared; stated, the closed fact of the laws of states. Where the offset of a type comes from. No function of the program in it. -/
import Derived.Test.YtbagdlafpahgdaaGreatDoorRM49
import Derived.Test.YtbagdlafpahgdaaGreatDoorRM27
import Derived.Test.YtbagdlafpahgdaaGreatDoorRM46
namespace Go.Proofs.YtbagdlafpahgdaaGreatDoor
set_option linter.unusedVariables false
set_option linter.unusedSimpArgs false
open Go.RowKit
theorem bsn_era1 (w : World) (a c e : Int) (b d : ByteArray) : (Instr.buildSlice 34 1 #[(0, Value.agg #[.int .i64 a, .string b, .int .i64 c, .string d, .int .i64 e])]).run Tryz.prog w = .ok (.slice (some ⟨w.heap.size, 0, none⟩) 1 1) (w.alloc (.cells #[.int .i64 a, .string b, .int .i64 c, .string d, .int .i64 e] 40)) := by kernel_rfl

theorem bsn_zone1 (w : World) (a : ByteArray) (A : Option Addr) (n c : Nat) : (Instr.buildSlice 23 1 #[(0, Value.agg #[.string a, .slice A n c])]).run Tryz.prog w = .ok (.slice (some ⟨w.heap.size, 0, none⟩) 1 1) (w.alloc (.cells #[.string a, .slice A n c] 36)) := by kernel_rfl

set_option maxRecDepth 100000 in
theorem eqType (o : Int) (s : Bool) (n : ByteArray) (w : World) : (binOp .eql 28 (.agg #[.int .i64 o, .bool s, .string n]) (.agg #[.int .i64 o, .bool s, .string n])).run Tryz.prog w = .ok (.bool true) w := by
  have h : Tryz.prog.underlying 28 = some (.struct (Tryz.prog.fieldsOf 28)) := by kernel_rfl
  have hh : Tryz.prog.stoodInHeld 28 = false := by kernel_rfl
  have u3 := Tryz.underlying3
  have a3 := Tryz.isAgg3
  have z3 := Tryz.sizeOf3
  have u4 := Tryz.underlying4
  have a4 := Tryz.isAgg4
  have z4 := Tryz.sizeOf4
  have u9 := Tryz.underlying9
  have a9 := Tryz.isAgg9
  have z9 := Tryz.sizeOf9
  rw [run_eql_struct, show (10000 : Nat) = 9999 + 1 from rfl, run_equalIn_agg w 9999 28 _ _ h hh]
  simp only [Program.fieldsOf, Tryz.underlying28]
  go_simp

set_option maxRecDepth 100000 in
theorem neqType (o : Int) (s : Bool) (n : ByteArray) (w : World) : (binOp .neq 28 (.agg #[.int .i64 o, .bool s, .string n]) (.agg #[.int .i64 o, .bool s, .string n])).run Tryz.prog w = .ok (.bool false) w := by
  have h : Tryz.prog.underlying 28 = some (.struct (Tryz.prog.fieldsOf 28)) := by kernel_rfl
  have hh : Tryz.prog.stoodInHeld 28 = false := by kernel_rfl
  have u3 := Tryz.underlying3
  have a3 := Tryz.isAgg3
  have z3 := Tryz.sizeOf3
  have u4 := Tryz.underlying4
  have a4 := Tryz.isAgg4
  have z4 := Tryz.sizeOf4
  have u9 := Tryz.underlying9
  have a9 := Tryz.isAgg9
  have z9 := Tryz.sizeOf9
  rw [run_neq_struct, show (10000 : Nat) = 9999 + 1 from rfl, run_equalIn_agg w 9999 28 _ _ h hh]
  simp only [Program.fieldsOf, Tryz.underlying28]
  go_simp

/-- a book of these rules and of one zone with one era -/
def aloneB (Ar : Option Addr) (cr : Nat) (rs : List RuD) (q q2 : Nat) (nm : ByteArray) (e : EraD) : BokD := ⟨Ar, cr, rs, some ⟨q2, 0, none⟩, 1, [⟨nm, some ⟨q, 0, none⟩, 1, [e]⟩], none, 0, []⟩
theorem aloneB_at {w : World} {Ar : Option Addr} {cr : Nat} {rs : List RuD} {q q2 : Nat} {nm : ByteArray} {e : EraD} (hr : RusAt w Ar cr rs) (hn : nm.size ≤ maxLen) (he : e.In)
    (h1 : w.heap[q]? = some (.cells #[.int .i64 e.off, .string e.ru, .int .i64 e.sv, .string e.fm, .int .i64 e.un] 40 (0, 0)))
    (h2 : w.heap[q2]? = some (.cells #[.string nm, .slice (some ⟨q, 0, none⟩) 1 1] 36 (0, 0))) : (aloneB Ar cr rs q q2 nm e).At w := by
  refine ⟨hr, ⟨⟨Nat.le_refl _, by show (1 : Nat) ≤ maxLen; unfold maxLen; omega⟩, row_sgl (enc := ZonD.cells) (x := ⟨nm, some ⟨q, 0, none⟩, 1, [e]⟩) h2 rfl, fun z hz => ?_⟩, ⟨⟨Nat.le_refl _, by unfold maxLen; exact Nat.zero_le _⟩, Row.nil _ _ _ _, fun x hx => by cases hx⟩⟩
  have : z = ⟨nm, some ⟨q, 0, none⟩, 1, [e]⟩ := by simpa [aloneB] using hz
  subst this
  exact ⟨hn, ⟨Nat.le_refl _, by show (1 : Nat) ≤ maxLen; unfold maxLen; omega⟩, row_sgl (enc := EraD.cells) (x := e) h1 rfl, fun x hx => by
    have : x = e := by simpa using hx
    rw [this]; exact he⟩

/-- the era of the closed fact -/
def eF : EraD := ⟨3600, S [], 0, S [67, 69, 84], 0⟩
theorem eF_ok : eraA [] eF = 0 := by
  unfold eraA
  rw [if_neg (by simp [eF, svB]), if_pos (by simp [eF, S_toList])]
  have e : dash = S [45] := rfl
  unfold abbrC
  rw [e, S_toList, show eF.fm.toList = [67, 69, 84] from S_toList _]
  decide
theorem eF_at {z : ZonD} (hn : z.nm = S [65]) (hz : z.eras = [eF]) : atC [] [z] [] (S [65]) 0 = 0 ∧ atT [] [z] [] (S [65]) 0 = ⟨3600, false, S [67, 69, 84]⟩ := by
  have nn : isNameB z.nm.toList = true := by rw [hn, S_toList]; decide
  have h := at_alone (rs := []) (zs := []) (ls := []) bok_none nn hz rfl eF_ok 0
  rw [hn] at h
  have hr : eF.ru.toList = [] := by simp [eF, S_toList]
  have hk : ateC [] [] [] eF 0 = 0 := by
    unfold ateC eraK
    rw [if_neg (by decide), if_pos hr]
  refine ⟨h.1.trans hk, ?_⟩
  rw [h.2]
  unfold ateT
  rw [if_pos hk]
  unfold typE
  rw [savP_fix hr]
  unfold typP
  have e : (abbrR eF.fm.toList eF.sv dash.toList).1 = [67, 69, 84] := by
    rw [dash_list, show eF.fm.toList = [67, 69, 84] from S_toList _]
    decide
  show (⟨eF.off + eF.sv, decide (0 < eF.sv), S (abbrR eF.fm.toList eF.sv dash.toList).1⟩ : TypD) = _
  rw [e]; rfl

set_option maxRecDepth 100000 in
set_option maxHeartbeats 8000000 in
theorem pfixed (w : World) : Calls Tryz.prog 26 #[] w fun e w' => ∃ q, e = .returned (.agg #[.slice none 0 0, .slice (some ⟨q + 1, 0, none⟩) 1 1, .slice none 0 0]) ∧ w'.heap[q]? = some (.cells #[.int .i64 3600, .string ⟨#[]⟩, .int .i64 0, .string ⟨#[67, 69, 84]⟩, .int .i64 0] 40 (0, 0)) ∧ w'.heap[q + 1]? = some (.cells #[.string ⟨#[65]⟩, .slice (some ⟨q, 0, none⟩) 1 1] 36 (0, 0)) ∧ Gr w w' := by
  go_enter Tryz.func26, Tryz.ntmps26
  go_wp2_with (first | (refine lay_one _ _ _ (by rfl) (bsn_era1 _ 3600 0 0 ⟨#[]⟩ ⟨#[67, 69, 84]⟩) ?_) | (refine lay_one _ _ _ (by rfl) (bsn_zone1 _ ⟨#[65]⟩ _ 1 1) ?_))
  have B := Lib.hid (box_three w (.cells #[.slice none 0 0, .slice (some ⟨w.heap.size + 1 + 1, 0, none⟩) 1 1, .slice none 0 0] 26) (.cells #[.int .i64 3600, .string ⟨#[]⟩, .int .i64 0, .string ⟨#[67, 69, 84]⟩, .int .i64 0] 40) (.cells #[.string ⟨#[65]⟩, .slice (some ⟨w.heap.size + 1, 0, none⟩) 1 1] 36))
  generalize ((w.alloc (.cells #[.slice none 0 0, .slice (some ⟨w.heap.size + 1 + 1, 0, none⟩) 1 1, .slice none 0 0] 26)).alloc (.cells #[.int .i64 3600, .string ⟨#[]⟩, .int .i64 0, .string ⟨#[67, 69, 84]⟩, .int .i64 0] 40)).alloc (.cells #[.string ⟨#[65]⟩, .slice (some ⟨w.heap.size + 1, 0, none⟩) 1 1] 36) = w1 at B ⊢
  generalize w.heap.size = q at B ⊢
  have s0 : w1.cell? ⟨q, 0, none⟩ = some (.slice none 0 0) := bcell_row B.out.2.1 rfl
  have s1 : w1.cell? ⟨q, 1, none⟩ = some (.slice (some ⟨q + 1 + 1, 0, none⟩) 1 1) := bcell_row B.out.2.1 rfl
  have s2 : w1.cell? ⟨q, 2, none⟩ = some (.slice none 0 0) := bcell_row B.out.2.1 rfl
  exact bodyPost_ret (v := .agg #[.slice none 0 0, .slice (some ⟨q + 1 + 1, 0, none⟩) 1 1, .slice none 0 0]) (by simp [results, Tryz.results26, go_sem, s0, s1, s2]) rfl ⟨q + 1, rfl, B.out.2.2.1, B.out.2.2.2, B.out.1⟩

set_option maxRecDepth 100000 in
set_option maxHeartbeats 8000000 in
theorem pstated (w : World) (ht : BkTab w) : Calls Tryz.prog 10 #[] w fun e w' => e = .returned (.bool true) ∧ Gr w w' := by
  have HT := Lib.hid ht
  have EQ := fun w => eqType 3600 false ⟨#[67, 69, 84]⟩ w
  clear ht
  go_enter Tryz.func10, Tryz.ntmps10
  go_wp2_with fail
  refine (pfixed w).mono ?_
  rintro e w1 ⟨q, rfl, h1, h2, g1⟩
  have G1 := Lib.hid g1
  have B := Lib.hid (aloneB_at (w := w1) (Ar := none) (cr := 0) (rs := []) (q := q) (q2 := q + 1) (nm := S [65]) (e := eF) ⟨⟨Nat.le_refl _, by unfold maxLen; exact Nat.zero_le _⟩, Row.nil _ _ _ _, fun r hr => by cases hr⟩ (by rw [S_size]; unfold maxLen; decide) ⟨by rw [show eF.ru = S [] from rfl, S_size]; unfold maxLen; decide, by rw [show eF.fm = S [67, 69, 84] from rfl, S_size]; unfold maxLen; decide, by show (-9223372036854775808 : Int) ≤ 0; decide, by show (0 : Int) ≤ 9223372036854775807; decide⟩ h1 h2)
  clear h1 h2 g1
  go_wp2_with fail
  refine (pAt (aloneB none 0 [] q (q + 1) (S [65]) eF) (S [65]) 0 w1 B.out (by rw [S_size]; unfold maxLen; decide) (by decide) (by decide) (G1.out.bk HT.out)).mono ?_
  rintro e w2 ⟨rfl, g2⟩
  have G2 := Lib.hid (G1.out.trans g2)
  have R := eF_at (z := ⟨S [65], some ⟨q, 0, none⟩, 1, [eF]⟩) rfl rfl
  have R1 : atC (aloneB none 0 [] q (q + 1) (S [65]) eF).rs (aloneB none 0 [] q (q + 1) (S [65]) eF).zs (aloneB none 0 [] q (q + 1) (S [65]) eF).ls (S [65]) 0 = 0 := R.1
  have R2 : atT (aloneB none 0 [] q (q + 1) (S [65]) eF).rs (aloneB none 0 [] q (q + 1) (S [65]) eF).zs (aloneB none 0 [] q (q + 1) (S [65]) eF).ls (S [65]) 0 = ⟨3600, false, ⟨#[67, 69, 84]⟩⟩ := R.2
  rw [R1, R2]
  clear R R1 R2 g2 B
  go_wp2_with fail
  go_ret
  exact ⟨rfl, G2.out.alloc' _⟩
end Go.Proofs.YtbagdlafpahgdaaGreatDoor
namespace Go.Proofs.YtbagdlafpahgdaaGreatDoor
set_option linter.unusedVariables false
set_option linter.unusedSimpArgs false
open Go.RowKit
theorem bounds_of {rs : List RuD} {zs : List ZonD} {ls : List LinD} {nm : ByteArray} {t : Int} (h : atC rs zs ls nm t = 0) :
    ∃ (j : Nat) (x : EraD) (sv : Int), (erasN zs ls nm)[j]? = some x ∧ (atT rs zs ls nm t).off = x.off + sv ∧ (atT rs zs ls nm t).sv = decide (0 < sv) ∧ (0 ≤ sv ∧ sv ≤ 10800) ∧ (x.ru.toList = [] → sv = x.sv) ∧
      (x.ru.toList ≠ [] → sv ≠ 0 → ∃ (m : Nat) (r : RuD), rs[m]? = some r ∧ r.nm.toList = x.ru.toList ∧ r.sv = sv) ∧ 1 ≤ (atT rs zs ls nm t).nm.size ∧ (atT rs zs ls nm t).nm.size ≤ 8 := by
  obtain ⟨h1, h2, h3⟩ := atC_zero.1 h
  obtain ⟨l1, l2, _⟩ := good_erasN h1
  have ha := good_eraN t h1
  have ok := abbrC_zero (savP_ok zs ls t ha)
  refine ⟨eraI (erasN zs ls nm) t, eraN zs ls nm t, (savP (eraN zs ls nm t) (eraT rs zs ls (eraN zs ls nm t)) t).1, eraE_get l1, ?_, ?_, ok.2, ?_, ?_, ?_⟩
  · rw [atT_yes h]; rfl
  · rw [atT_yes h]; rfl
  · intro hn; rw [savP_fix hn]
  · intro hn h0
    rcases savP_from rs zs ls (eraN zs ls nm t) t hn with g | ⟨r, hr, er, g⟩
    · rw [g] at h0; exact absurd rfl h0
    · obtain ⟨m, hm⟩ := List.getElem?_of_mem hr
      exact ⟨m, r, hm, er, by rw [g]⟩
  · rw [atT_yes h]
    show 1 ≤ (S _).size ∧ (S _).size ≤ 8
    rw [S_size]
    exact ok.1
end Go.Proofs.YtbagdlafpahgdaaGreatDoor
