/- How long the texts of a book are that may be; a slice of eras copied; what the project's copyZone of package names returns. -/
import Derived.Test.YtbagdlafpahgdaaGreatDoorRM16
import Derived.Test.YtbagdlafpahgdaaGreatDoorRM18
import Derived.Test.YtbagdlafpahgdaaGreatDoorRM31
namespace Go.Proofs.YtbagdlafpahgdaaGreatDoor
set_option linter.unusedVariables false
set_option linter.unusedSimpArgs false
open Go.RowKit
theorem name_small {s : ByteArray} (h : isNameB s.toList = true) : s.size ≤ 20 := by
  rw [isNameB_eq] at h
  simp only [Bool.and_eq_true, decide_eq_true_eq] at h
  exact h.1.1.1.2
theorem abbr_small {f : ByteArray} {sv : Int} {lt : ByteArray} (h : abbrC f sv lt = 0) : f.size ≤ 12 := by
  by_cases c : f.size ≤ 12
  · exact c
  · unfold abbrC abbrR at h
    rw [fmt_long (by have := len_toList f; omega), abbrOf_none] at h
    cases h
/-- a zone whose texts are short -/
def ZonD.Few (z : ZonD) : Prop := z.nm.size ≤ 1048576 ∧ z.eras.length ≤ 700 ∧ ∀ e ∈ z.eras, e.ru.size ≤ 1048576 ∧ e.fm.size ≤ 1048576
theorem zone_few {rs : List RuD} {zs : List ZonD} {ls : List LinD} (h : bokC rs zs ls = 0) : ∀ z ∈ zs, z.Few := by
  obtain ⟨a, b, c, d⟩ := bokC_ok.1 h
  intro z hz
  obtain ⟨i, hi, ei⟩ := List.getElem_of_mem hz
  have hz' : zs[i]? = some z := by rw [List.getElem?_eq_getElem hi, ei]
  have h0 := (fe_zero _).1 c i hi
  rw [zonC_at hz'] at h0
  split at h0
  · cases h0
  · rename_i q1
    split at h0
    · cases h0
    · split at h0
      · cases h0
      · split at h0
        · cases h0
        · rename_i q2
          refine ⟨Nat.le_trans (name_small (by simpa using q1)) (by omega), by omega, fun e he => ?_⟩
          obtain ⟨k, hk, ek⟩ := List.getElem_of_mem he
          have he' : z.eras[k]? = some e := by rw [List.getElem?_eq_getElem hk, ek]
          have h1 := (fe_zero _).1 h0 k hk
          rw [eraC_at he'] at h1
          split at h1
          · rename_i h2
            unfold eraA at h2
            split at h2
            · cases h2
            · split at h2
              · rename_i q3
                have hr : e.ru.size = 0 := by have := len_toList e.ru; rw [q3] at this; exact this.symm
                exact ⟨by omega, Nat.le_trans (abbr_small h2) (by omega)⟩
              · split at h2
                · cases h2
                · unfold rulC at h2
                  split at h2
                  · cases h2
                  · rename_i q4
                    have hR : hasR rs e.ru = true := by simpa using q4
                    obtain ⟨r, hr, er⟩ := List.any_eq_true.1 hR
                    obtain ⟨j, hj, ej⟩ := List.getElem_of_mem hr
                    have hr' : rs[j]? = some r := by rw [List.getElem?_eq_getElem hj, ej]
                    have hc := (fe_zero _).1 b j hj
                    rw [rusC_at hr'] at hc
                    unfold RuD.chk ruleC at hc
                    split at hc
                    · rename_i hs
                      have hn := name_small hs.1
                      have hsz : e.ru.size = r.nm.size := by rw [← len_toList, ← len_toList, eq_of_beq er]
                      split at h2
                      · exact ⟨by omega, Nat.le_trans (abbr_small h2) (by omega)⟩
                      · rename_i q5; exact absurd h2 q5
                    · cases hc
          · rename_i q6
            rw [h1] at q6
            exact absurd rfl q6
theorem clone_str (s : ByteArray) (w : World) (hs : s.size ≤ 1048576) :
    Calls Tryz.prog 56 #[.string s] w fun e w' => e = .returned (.string s) ∧ Gr w w' := by
  have K := Tryz.stringslite_Clone s w (by omega)
  clear hs
  go_enter Tryz.func56, Tryz.ntmps56
  go_wp2_with fail
  refine K.mono ?_
  rintro e w1 ⟨rfl, hg⟩
  go_wp2_with fail
  go_ret
  exact ⟨rfl, hg⟩

theorem infoEra : (Tryz.prog.info? 40).map (fun i => (i.zero, i.size, i.bytes)) = some (some (.agg #[.int .i64 0, .string .empty, .int .i64 0, .string .empty, .int .i64 0]), 5, 56) := by kernel_rfl

theorem era_one (l : List EraD) : ∀ u ∈ l.flatMap EraD.cells, u.oneCell' = true := fun u hu => by
  obtain ⟨x, _, hx'⟩ := List.mem_flatMap.1 hu
  exact er_one x u hx'

theorem own_flat {α : Type} {w : World} {base k : Nat} {e : TypeId} {enc : α → List Value} {v : Value} {l : List α} {n : Nat} {xs : List Value} (h : w.ownsRow base e k v n xs) (hn : n = l.length) (hx : xs = l.flatMap enc) : Own w base e k enc v l := by
  subst hn; subst hx; exact h

set_option maxRecDepth 100000 in
set_option maxHeartbeats 4000000 in
theorem pclone (A : Option Addr) (c : Nat) (l : List EraD) (w : World) (h : Row w 5 EraD.cells A l) (hl : l.length ≤ 700) :
    Calls Tryz.prog 55 #[.slice A l.length c] w fun e w' => ∃ v, e = .returned v ∧ Own w' w.heap.size 40 5 EraD.cells v l ∧ Gr w w' := by
  have H := Lib.hid h
  obtain ⟨i0, hi, hz0, hz1, hz2⟩ := info_parts infoEra
  have I1 := Lib.hid hi
  have I2 := Lib.hid hz0
  have I3 := Lib.hid hz1
  have I4 := Lib.hid hz2
  have qT : ∀ (w : World) (a : Option Addr) (n c : Nat), (binOp .eql 34 (.slice a n c) (.slice none 0 0)).run Tryz.prog w = .ok (.bool a.isNone) w := fun w a n c => Lib.run_eql_slice_nil w 34 40 a n c 0 0 Tryz.underlying34
  clear h hi hz0 hz1 hz2
  go_enter Tryz.func55, Tryz.ntmps55
  cases A with
  | none =>
    have e : l = [] := by
      cases l with
      | nil => rfl
      | cons y l => obtain ⟨_, _, e, _⟩ := H.out 0 y rfl; cases e
    subst e
    go_wp2_with fail
    go_ret
    exact ⟨_, rfl, Own.nil_ _ _ _ _ _, Gr.refl _⟩
  | some a =>
    have NW : Hid (∀ j u, (l.flatMap EraD.cells)[j]? = some u → (w.alloc (.cells #[] 40)).cell? (a.add j) = some u) := by
      cases l with
      | nil => intro j u hu; simp at hu
      | cons y l =>
        obtain ⟨b, off, e, _⟩ := H.out 0 y rfl
        injection e with e
        subst e
        exact Row.news er_len (H.out.gr (Gr.alloc w _))
    have OW : Hid ((w.alloc (.cells #[] 40)).ownsRow w.heap.size 40 5 (.slice (some ⟨w.heap.size, 0, none⟩) 0 0) 0 []) :=
      ⟨rfl, .inr ⟨w.heap.size, 0, #[], rfl, Nat.le_refl _, bheap_new w _, Nat.le_refl _, Nat.zero_le _, rfl, rfl⟩⟩
    have G1 := Lib.hid (Gr.alloc w (.cells #[] 40))
    clear H
    go_wp2_with (at_builtin; refine wpList_append_own _ (by rfl) _ _ 34 (by rfl) w.heap.size 40 i0 (.agg #[.int .i64 0, .string .empty, .int .i64 0, .string .empty, .int .i64 0]) 5 56 Tryz.underlying34 I1.out I2.out I3.out I4.out (by rfl) (by omega) (.slice (some ⟨w.heap.size, 0, none⟩) 0 0) 0 [] (by rfl) OW.out a l.length c (l.flatMap EraD.cells) (by rfl) (flat_len er_len l) NW.out (era_one l) (by unfold maxLen; omega) (by omega) (Below.size G1.out) ?_; intro v' w2 hown hgrow _)
    have HO : Hid (Own w2 w.heap.size 40 5 EraD.cells v' l) := own_flat hown (by omega) (by simp)
    have G2 := Lib.hid (grown_gr G1.out hgrow (fun j hj => by simp [Value.ownBlock] at hj; omega))
    clear hown hgrow
    go_wp2_with fail
    go_ret
    exact ⟨v', rfl, HO.out, G2.out⟩
end Go.Proofs.YtbagdlafpahgdaaGreatDoor
