/- A book of given rules and of one zone with one era; types compared; stated, the closed fact of the laws of states. The times at which the reference's TableMake looks. No function of the program in it. -/
import Derived.Test.YtkmgildnhnjepaaGreatDoorRM33
import Derived.Test.YtkmgildnhnjepaaGreatDoorRM17
import Derived.Test.YtkmgildnhnjepaaGreatDoorRM29
namespace Go.Proofs.YtkmgildnhnjepaaGreatDoor
set_option linter.unusedVariables false
set_option linter.unusedSimpArgs false
open Go.RowKit
theorem bsn_era1 (w : World) (a c e : Int) (b d : ByteArray) : (Instr.buildSlice 55 1 #[(0, Value.agg #[.int .i64 a, .string b, .int .i64 c, .string d, .int .i64 e])]).run Tryz.prog w = .ok (.slice (some ⟨w.heap.size, 0, none⟩) 1 1) (w.alloc (.cells #[.int .i64 a, .string b, .int .i64 c, .string d, .int .i64 e] 59)) := by kernel_rfl

theorem bsn_zone1 (w : World) (a : ByteArray) (A : Option Addr) (n c : Nat) : (Instr.buildSlice 23 1 #[(0, Value.agg #[.string a, .slice A n c])]).run Tryz.prog w = .ok (.slice (some ⟨w.heap.size, 0, none⟩) 1 1) (w.alloc (.cells #[.string a, .slice A n c] 57)) := by kernel_rfl

set_option maxRecDepth 100000 in
theorem eqType (o : Int) (s : Bool) (n : ByteArray) (w : World) : (binOp .eql 46 (.agg #[.int .i64 o, .bool s, .string n]) (.agg #[.int .i64 o, .bool s, .string n])).run Tryz.prog w = .ok (.bool true) w := by
  have h : Tryz.prog.underlying 46 = some (.struct (Tryz.prog.fieldsOf 46)) := by kernel_rfl
  have hh : Tryz.prog.stoodInHeld 46 = false := by kernel_rfl
  have u3 := Tryz.underlying3
  have a3 := Tryz.isAgg3
  have z3 := Tryz.sizeOf3
  have u4 := Tryz.underlying4
  have a4 := Tryz.isAgg4
  have z4 := Tryz.sizeOf4
  have u9 := Tryz.underlying9
  have a9 := Tryz.isAgg9
  have z9 := Tryz.sizeOf9
  rw [run_eql_struct, show (10000 : Nat) = 9999 + 1 from rfl, run_equalIn_agg w 9999 46 _ _ h hh]
  simp only [Program.fieldsOf, Tryz.underlying46]
  go_simp

set_option maxRecDepth 100000 in
theorem neqType (o : Int) (s : Bool) (n : ByteArray) (w : World) : (binOp .neq 46 (.agg #[.int .i64 o, .bool s, .string n]) (.agg #[.int .i64 o, .bool s, .string n])).run Tryz.prog w = .ok (.bool false) w := by
  have h : Tryz.prog.underlying 46 = some (.struct (Tryz.prog.fieldsOf 46)) := by kernel_rfl
  have hh : Tryz.prog.stoodInHeld 46 = false := by kernel_rfl
  have u3 := Tryz.underlying3
  have a3 := Tryz.isAgg3
  have z3 := Tryz.sizeOf3
  have u4 := Tryz.underlying4
  have a4 := Tryz.isAgg4
  have z4 := Tryz.sizeOf4
  have u9 := Tryz.underlying9
  have a9 := Tryz.isAgg9
  have z9 := Tryz.sizeOf9
  rw [run_neq_struct, show (10000 : Nat) = 9999 + 1 from rfl, run_equalIn_agg w 9999 46 _ _ h hh]
  simp only [Program.fieldsOf, Tryz.underlying46]
  go_simp

/-- a book of these rules and of one zone with one era -/
def aloneB (Ar : Option Addr) (cr : Nat) (rs : List RuD) (q q2 : Nat) (nm : ByteArray) (e : EraD) : BokD := ⟨Ar, cr, rs, some ⟨q2, 0, none⟩, 1, [⟨nm, some ⟨q, 0, none⟩, 1, [e]⟩], none, 0, []⟩
theorem aloneB_at {w : World} {Ar : Option Addr} {cr : Nat} {rs : List RuD} {q q2 : Nat} {nm : ByteArray} {e : EraD} (hr : RusAt w Ar cr rs) (hn : nm.size ≤ maxLen) (he : e.In)
    (h1 : w.heap[q]? = some (.cells #[.int .i64 e.off, .string e.ru, .int .i64 e.sv, .string e.fm, .int .i64 e.un] 59 (0, 0)))
    (h2 : w.heap[q2]? = some (.cells #[.string nm, .slice (some ⟨q, 0, none⟩) 1 1] 57 (0, 0))) : (aloneB Ar cr rs q q2 nm e).At w := by
  refine ⟨hr, ⟨⟨Nat.le_refl _, by show (1 : Nat) ≤ maxLen; unfold maxLen; omega⟩, row_sgl (enc := ZonD.cells) (x := ⟨nm, some ⟨q, 0, none⟩, 1, [e]⟩) h2 rfl, fun z hz => ?_⟩, ⟨⟨Nat.le_refl _, by unfold maxLen; exact Nat.zero_le _⟩, Row.nil _ _ _ _, fun x hx => by cases hx⟩⟩
  have : z = ⟨nm, some ⟨q, 0, none⟩, 1, [e]⟩ := by simpa [aloneB] using hz
  subst this
  exact ⟨hn, ⟨Nat.le_refl _, by show (1 : Nat) ≤ maxLen; unfold maxLen; omega⟩, row_sgl (enc := EraD.cells) (x := e) h1 rfl, fun x hx => by
    have : x = e := by simpa using hx
    rw [this]; exact he⟩

/-- the era of the closed fact -/
def eF : EraD := ⟨3600, S [], 0, S [67, 69, 84], 0⟩
theorem eF_ok : eraA [] eF = 0 := by
  unfold eraA
  rw [if_neg (by simp [eF, svB]), if_pos (by simp [eF, S_toList])]
  have e : dash = S [45] := rfl
  unfold abbrC
  rw [e, S_toList, show eF.fm.toList = [67, 69, 84] from S_toList _]
  decide
theorem eF_at {z : ZonD} (hn : z.nm = S [65]) (hz : z.eras = [eF]) : atC [] [z] [] (S [65]) 0 = 0 ∧ atT [] [z] [] (S [65]) 0 = ⟨3600, false, S [67, 69, 84]⟩ := by
  have nn : isNameB z.nm.toList = true := by rw [hn, S_toList]; decide
  have h := at_alone (rs := []) (zs := []) (ls := []) bok_none nn hz rfl eF_ok 0
  rw [hn] at h
  have hr : eF.ru.toList = [] := by simp [eF, S_toList]
  have hk : ateC [] [] [] eF 0 = 0 := by
    unfold ateC eraK
    rw [if_neg (by decide), if_pos hr]
  refine ⟨h.1.trans hk, ?_⟩
  rw [h.2]
  unfold ateT
  rw [if_pos hk]
  unfold typE
  rw [savP_fix hr]
  unfold typP
  have e : (abbrR eF.fm.toList eF.sv dash.toList).1 = [67, 69, 84] := by
    rw [dash_list, show eF.fm.toList = [67, 69, 84] from S_toList _]
    decide
  show (⟨eF.off + eF.sv, decide (0 < eF.sv), S (abbrR eF.fm.toList eF.sv dash.toList).1⟩ : TypD) = _
  rw [e]; rfl

set_option maxRecDepth 100000 in
set_option maxHeartbeats 8000000 in
theorem pfixed (w : World) : Calls Tryz.prog 36 #[] w fun e w' => ∃ q, e = .returned (.agg #[.slice none 0 0, .slice (some ⟨q + 1, 0, none⟩) 1 1, .slice none 0 0]) ∧ w'.heap[q]? = some (.cells #[.int .i64 3600, .string ⟨#[]⟩, .int .i64 0, .string ⟨#[67, 69, 84]⟩, .int .i64 0] 59 (0, 0)) ∧ w'.heap[q + 1]? = some (.cells #[.string ⟨#[65]⟩, .slice (some ⟨q, 0, none⟩) 1 1] 57 (0, 0)) ∧ Gr w w' := by
  go_enter Tryz.func36, Tryz.ntmps36
  go_wp2_with (first | (refine lay_one _ _ _ (by rfl) (bsn_era1 _ 3600 0 0 ⟨#[]⟩ ⟨#[67, 69, 84]⟩) ?_) | (refine lay_one _ _ _ (by rfl) (bsn_zone1 _ ⟨#[65]⟩ _ 1 1) ?_))
  have B := Lib.hid (box_three w (.cells #[.slice none 0 0, .slice (some ⟨w.heap.size + 1 + 1, 0, none⟩) 1 1, .slice none 0 0] 26) (.cells #[.int .i64 3600, .string ⟨#[]⟩, .int .i64 0, .string ⟨#[67, 69, 84]⟩, .int .i64 0] 59) (.cells #[.string ⟨#[65]⟩, .slice (some ⟨w.heap.size + 1, 0, none⟩) 1 1] 57))
  generalize ((w.alloc (.cells #[.slice none 0 0, .slice (some ⟨w.heap.size + 1 + 1, 0, none⟩) 1 1, .slice none 0 0] 26)).alloc (.cells #[.int .i64 3600, .string ⟨#[]⟩, .int .i64 0, .string ⟨#[67, 69, 84]⟩, .int .i64 0] 59)).alloc (.cells #[.string ⟨#[65]⟩, .slice (some ⟨w.heap.size + 1, 0, none⟩) 1 1] 57) = w1 at B ⊢
  generalize w.heap.size = q at B ⊢
  have s0 : w1.cell? ⟨q, 0, none⟩ = some (.slice none 0 0) := bcell_row B.out.2.1 rfl
  have s1 : w1.cell? ⟨q, 1, none⟩ = some (.slice (some ⟨q + 1 + 1, 0, none⟩) 1 1) := bcell_row B.out.2.1 rfl
  have s2 : w1.cell? ⟨q, 2, none⟩ = some (.slice none 0 0) := bcell_row B.out.2.1 rfl
  exact bodyPost_ret (v := .agg #[.slice none 0 0, .slice (some ⟨q + 1 + 1, 0, none⟩) 1 1, .slice none 0 0]) (by simp [results, Tryz.results36, go_sem, s0, s1, s2]) rfl ⟨q + 1, rfl, B.out.2.2.1, B.out.2.2.2, B.out.1⟩

end Go.Proofs.YtkmgildnhnjepaaGreatDoor
namespace Go.Proofs.YtkmgildnhnjepaaGreatDoor
set_option linter.unusedVariables false
set_option linter.unusedSimpArgs false
/-- the end of an era, by its place -/
def unK (es : List EraD) (k : Nat) : Int := (es.getD k default).un
theorem unK_at {es : List EraD} {k : Nat} {e : EraD} (h : es[k]? = some e) : unK es k = e.un := by unfold unK; rw [List.getD_eq_getElem?_getD, h]; rfl
/-- what is looked at in an era -/
def cand1 (L : List TurD) (fr tt : Int) : List Int := if tt < fr then [] else fr :: ((L.filter fun u => decide (fr < u.at' ∧ u.at' ≤ tt)).map TurD.at')
theorem mem_cand1 {L : List TurD} {fr tt t : Int} : t ∈ cand1 L fr tt ↔ fr ≤ tt ∧ (t = fr ∨ ∃ u ∈ L, u.at' = t ∧ fr < t ∧ t ≤ tt) := by
  unfold cand1
  by_cases c : tt < fr
  · rw [if_pos c]
    simp only [List.not_mem_nil, false_iff]
    omega
  · rw [if_neg c, List.mem_cons, List.mem_map]
    constructor
    · rintro (h | ⟨u, hu, rfl⟩)
      · exact ⟨by omega, Or.inl h⟩
      · rw [List.mem_filter] at hu
        have := hu.2
        simp only [decide_eq_true_eq] at this
        exact ⟨by omega, Or.inr ⟨u, hu.1, rfl, this⟩⟩
    · rintro ⟨_, h | ⟨u, hu, rfl, h1, h2⟩⟩
      · exact Or.inl h
      · exact Or.inr ⟨u, List.mem_filter.2 ⟨hu, decide_eq_true ⟨h1, h2⟩⟩, rfl⟩
theorem rise_pair {L : List TurD} (h : Rise L) : (L.map TurD.at').Pairwise (· < ·) := by
  rw [List.pairwise_map, List.pairwise_iff_getElem]
  intro i j hi hj hij
  exact rise_lt h j i _ _ hij (List.getElem?_eq_getElem hi) (List.getElem?_eq_getElem hj)
theorem cand1_sorted {L : List TurD} {fr tt : Int} (h : Rise L) : (cand1 L fr tt).Pairwise (· < ·) := by
  unfold cand1
  split
  · exact List.Pairwise.nil
  · rw [List.pairwise_cons]
    constructor
    · intro t ht
      obtain ⟨u, hu, rfl⟩ := List.mem_map.1 ht
      have := (List.mem_filter.1 hu).2
      simp only [decide_eq_true_eq] at this
      exact this.1
    · have := rise_pair h
      rw [List.pairwise_map] at this ⊢
      exact this.filter _
section
variable {rs : List RuD} {zs : List ZonD} {ls : List LinD} {es : List EraD} {F T : Int}
/-- the ends of eras rise -/
def UnOk (es : List EraD) : Prop := ∀ (k : Nat) (e : EraD), es[k]? = some e → untC es k = 0
theorem unK_lt (h : UnOk es) {j k : Nat} (hj : j < k) (hk : k + 1 < es.length) : unK es j < unK es k := by
  obtain ⟨p, hp⟩ := get_lt (show j < es.length by omega)
  obtain ⟨e, he⟩ := get_lt (show k < es.length by omega)
  rw [unK_at hp, unK_at he]
  exact un_lt h k j p e hj hk hp he
/-- an era lies about a time at which it applies -/
theorem eraI_un (h : UnOk es) (hl : 1 ≤ es.length) (t : Int) : (eraI es t + 1 < es.length → t < unK es (eraI es t)) ∧ (∀ j, j < eraI es t → unK es j ≤ t) := by
  have hle := eraI_le es t
  constructor
  · intro hk
    obtain ⟨e, he⟩ := get_lt (show eraI es t < es.length by omega)
    rw [unK_at he]
    unfold eraI at he hk
    have hd : es.dropLast.findIdx (fun e => decide (t < e.un)) < es.dropLast.length := by simp; omega
    have := List.findIdx_getElem (w := hd)
    simp only [decide_eq_true_eq] at this
    rw [List.getElem_dropLast] at this
    have hget := List.getElem?_eq_some_iff.1 he
    obtain ⟨g1, g2⟩ := hget
    rw [g2] at this
    exact this
  · intro j hj
    obtain ⟨e, he⟩ := get_lt (show j < es.length by omega)
    rw [unK_at he]
    unfold eraI at hj
    have hjl : j < es.dropLast.length := by have := List.findIdx_le_length (xs := es.dropLast) (p := fun e => decide (t < e.un)); omega
    have this := of_decide_eq_false (List.not_of_lt_findIdx hj)
    rw [List.getElem_dropLast] at this
    obtain ⟨g1, g2⟩ := List.getElem?_eq_some_iff.1 he
    rw [g2] at this
    omega
end
end Go.Proofs.YtkmgildnhnjepaaGreatDoor
