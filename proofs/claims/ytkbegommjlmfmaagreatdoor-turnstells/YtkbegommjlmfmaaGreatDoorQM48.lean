/- A rule parted into two, one of which goes on where the other one ends: the transitions are the same. No function of the program in it. -/
import Derived.Test.YtkbegommjlmfmaaGreatDoorQM47
namespace Go.Proofs.YtkbegommjlmfmaaGreatDoor
set_option linter.unusedVariables false
set_option linter.unusedSimpArgs false
open Go.RowKit
theorem hasR_one {rs : List RuD} {nm : ByteArray} : hasR rs nm = true ↔ ∃ r ∈ rs, r.nm.toList = nm.toList := by
  unfold hasR
  rw [List.any_eq_true]
  simp
/-- of books with such rules the zones may be alike -/
theorem zon_same {rs rs' : List RuD} {zs : List ZonD} (hsub : ∀ r' ∈ rs', ∃ r ∈ rs, r'.nm = r.nm ∧ r'.sv = r.sv ∧ r'.lt = r.lt) (hhas : ∀ r ∈ rs, ∃ r' ∈ rs', r'.nm = r.nm) (h : fe (zonC rs zs) zs.length = 0) : fe (zonC rs' zs) zs.length = 0 := by
  rw [fe_zero] at h ⊢
  intro i hi
  obtain ⟨z, hz⟩ := get_lt hi
  have h1 := h i hi
  rw [zonC_at hz] at h1 ⊢
  split at h1
  · omega
  · rename_i c1
    rw [if_neg c1]
    split at h1
    · omega
    · rename_i c2
      rw [if_neg c2]
      split at h1
      · omega
      · rename_i c3
        rw [if_neg c3]
        split at h1
        · omega
        · rename_i c4
          rw [if_neg c4]
          rw [fe_zero] at h1 ⊢
          intro k hk
          obtain ⟨e, he⟩ := get_lt hk
          have h2 := h1 k hk
          rw [eraC_at he] at h2 ⊢
          split at h2
          · rename_i a
            have a' : eraA rs' e = 0 := by
              unfold eraA at a ⊢
              split at a
              · omega
              · rename_i d1
                rw [if_neg d1]
                split at a
                · rename_i d2; rw [if_pos d2]; exact a
                · rename_i d2
                  rw [if_neg d2]
                  split at a
                  · omega
                  · rename_i d3
                    rw [if_neg d3]
                    unfold rulC at a ⊢
                    split at a
                    · omega
                    · rename_i f1
                      split at a
                      · rename_i f2
                        have g1 : hasR rs' e.ru = true := by
                          have := hasR_one.1 (show hasR rs e.ru = true by simpa using f1)
                          obtain ⟨r, hr, hn⟩ := this
                          obtain ⟨r', hr', hn'⟩ := hhas r hr
                          exact hasR_one.2 ⟨r', hr', by rw [hn']; exact hn⟩
                        have g2 : fe (ruA rs' e) rs'.length = 0 := by
                          rw [fe_zero] at f2 ⊢
                          intro j hj
                          obtain ⟨r', hr'⟩ := get_lt hj
                          obtain ⟨r, hr, n1, n2, n3⟩ := hsub r' (get_mem hr')
                          obtain ⟨j', hj'⟩ := List.getElem?_of_mem hr
                          have := f2 j' (List.getElem?_eq_some_iff.1 hj').1
                          rw [ruA_at hj'] at this
                          rw [ruA_at hr', n1, n2, n3]
                          exact this
                        rw [if_neg (by rw [g1]; simp), if_pos g2]
                        exact a
                      · rename_i f2; exact absurd a f2
            rw [if_pos a']; exact h2
          · rename_i a; exact absurd h2 a

def partX (r : RuD) (t : Int) : RuD := { r with tt := t }
def partZ (r : RuD) (t : Int) : RuD := { r with fr := t + 1 }
/-- what a transition needs of its rule -/
def bareP (p : PenD) : PenD := ⟨p.no, { p.r with fr := 0, tt := 0 }⟩
theorem turL_bare (off : Int) : ∀ (l : List PenD) (sv : Int), turL off sv (l.map bareP) = turL off sv l
  | [], _ => rfl
  | p :: l, sv => by
    simp only [List.map_cons, turL]
    rw [show (bareP p).r.sv = p.r.sv from rfl, turL_bare off l]
    rfl
theorem penN_split (r : RuD) (t : Int) (a b : Nat) (h : r.fr + a = t + 1) : ((penN (partX r t) a) ++ (penN (partZ r t) b)).map bareP = (penN r (a + b)).map bareP := by
  unfold penN
  rw [List.range_add, List.map_append, List.map_append, List.map_append, List.map_map, List.map_map, List.map_map, List.map_map, List.map_map]
  congr 1
  apply List.map_congr_left
  intro i _
  simp only [Function.comp, bareP, partZ, nomR]
  congr 2
  rw [show t + 1 + (i : Int) = r.fr + ((a + i : Nat) : Int) by omega]
theorem penR_split {r : RuD} {t : Int} (h1 : r.fr ≤ t) (h2 : t < r.tt) : (penR (partX r t) ++ penR (partZ r t)).map bareP = (penR r).map bareP := by
  unfold penR
  have e1 : ((partX r t).tt - (partX r t).fr + 1).toNat = (t - r.fr + 1).toNat := rfl
  have e2 : ((partZ r t).tt - (partZ r t).fr + 1).toNat = (r.tt - t).toNat := by show (r.tt - (t + 1) + 1).toNat = _; omega
  rw [e1, e2, penN_split r t _ _ (by omega)]
  congr 2
  omega
theorem sel_app (a b : List RuD) (nm : ByteArray) : selR (a ++ b) nm = selR a nm ++ selR b nm := by unfold selR; rw [List.filter_append]
theorem sel_hit {r : RuD} {l : List RuD} {nm : ByteArray} (h : r.nm = nm) : selR (r :: l) nm = r :: selR l nm := by unfold selR; rw [List.filter_cons]; simp [h]
theorem pens_cons (r : RuD) (l : List RuD) : pens (r :: l) = penR r ++ pens l := by simp [pens]
theorem split_of {P Q : List RuD} {r : RuD} {t off : Int} {zs : List ZonD} {ls : List LinD} (h : bokC (P ++ r :: Q) zs ls = 0) (hl : (P ++ r :: Q).length ≤ 39) (h1 : r.fr ≤ t) (h2 : t < r.tt) :
    ofC (P ++ partX r t :: partZ r t :: Q) zs ls r.nm off = ofC (P ++ r :: Q) zs ls r.nm off ∧ ofL (P ++ partX r t :: partZ r t :: Q) zs ls r.nm off = ofL (P ++ r :: Q) zs ls r.nm off := by
  obtain ⟨b1, b2, b3, b4⟩ := bokC_ok.1 h
  have rk := rules_ok h
  have rr := rk r (by simp)
  have sx : (partX r t).chk = 0 ∧ (partZ r t).chk = 0 := by
    unfold RuD.chk partX partZ ruleC at *
    split at rr
    · rename_i a
      split at rr
      · rename_i c
        split at rr
        · rename_i d
          split at rr
          · rename_i e
            have nx : RuleNum r.fr t r.mo := by unfold RuleNum at c ⊢; omega
            have nz : RuleNum (t + 1) r.tt r.mo := by unfold RuleNum at c ⊢; omega
            exact ⟨by rw [if_pos a, if_pos nx, if_pos d, if_pos e], by rw [if_pos a, if_pos nz, if_pos d, if_pos e]⟩
          · omega
        · omega
      · omega
    · omega
  have hb : bokC (P ++ partX r t :: partZ r t :: Q) zs ls = 0 := by
    refine bokC_ok.2 ⟨by simp at hl b1 ⊢; omega, ?_, ?_, b4⟩
    · rw [fe_zero]
      intro i hi
      obtain ⟨x, hx⟩ := get_lt hi
      rw [rusC_at hx]
      have hm := get_mem hx
      rw [List.mem_append, List.mem_cons, List.mem_cons] at hm
      rcases hm with hm | rfl | rfl | hm
      · exact rk x (by simp [hm])
      · exact sx.1
      · exact sx.2
      · exact rk x (by simp [hm])
    · refine zon_same (rs := P ++ r :: Q) (fun x hm => ?_) (fun x hm => ?_) b3
      · rw [List.mem_append, List.mem_cons, List.mem_cons] at hm
        rcases hm with hm | rfl | rfl | hm
        · exact ⟨x, by simp [hm], rfl, rfl, rfl⟩
        · exact ⟨r, by simp, rfl, rfl, rfl⟩
        · exact ⟨r, by simp, rfl, rfl, rfl⟩
        · exact ⟨x, by simp [hm], rfl, rfl, rfl⟩
      · rw [List.mem_append, List.mem_cons] at hm
        rcases hm with hm | rfl | hm
        · exact ⟨x, by simp [hm], rfl⟩
        · exact ⟨partX x t, by simp, rfl⟩
        · exact ⟨x, by simp [hm], rfl⟩
  have e1 : selR (P ++ r :: Q) r.nm = selR P r.nm ++ r :: selR Q r.nm := by rw [sel_app, sel_hit rfl]
  have e2 : selR (P ++ partX r t :: partZ r t :: Q) r.nm = selR P r.nm ++ partX r t :: partZ r t :: selR Q r.nm := by rw [sel_app, sel_hit (show (partX r t).nm = r.nm from rfl), sel_hit (show (partZ r t).nm = r.nm from rfl)]
  have ey : yrs (selR (P ++ partX r t :: partZ r t :: Q) r.nm) = yrs (selR (P ++ r :: Q) r.nm) := by
    rw [e1, e2, yrs_app, yrs_app]
    simp only [yrs, partX, partZ]
    omega
  have es : (sorted (P ++ partX r t :: partZ r t :: Q) r.nm).map bareP = (sorted (P ++ r :: Q) r.nm).map bareP := by
    unfold sorted
    rw [stab_map (f := bareP) (key := PenD.no) (key' := PenD.no) (fun x => rfl), stab_map (f := bareP) (key := PenD.no) (key' := PenD.no) (fun x => rfl), e1, e2]
    congr 1
    rw [pens_app, pens_app, pens_cons, pens_cons, pens_cons]
    simp only [List.map_append]
    rw [← List.append_assoc (List.map bareP (penR (partX r t))), ← List.map_append, penR_split h1 h2]
  have et : turL off 0 (sorted (P ++ partX r t :: partZ r t :: Q) r.nm) = turL off 0 (sorted (P ++ r :: Q) r.nm) := by
    rw [← turL_bare off (sorted (P ++ partX r t :: partZ r t :: Q) r.nm), es, turL_bare]
  have hc : ofC (P ++ partX r t :: partZ r t :: Q) zs ls r.nm off = ofC (P ++ r :: Q) zs ls r.nm off := by
    unfold ofC
    rw [hb, h, ey, et, e1, e2]
    simp
  refine ⟨hc, ?_⟩
  unfold ofL
  rw [hc, et]
end Go.Proofs.YtkbegommjlmfmaaGreatDoor
