/- What the reference's eraCheck returns. -/
import Derived.Deep.QuietTactic
import Derived.BigQuiet
import Derived.Test.YtbagdlafpahgdaaGreatDoorPM34
import Derived.Test.YtbagdlafpahgdaaGreatDoorPM37
import Derived.Test.YtbagdlafpahgdaaGreatDoorPM07
namespace Go.Proofs.YtbagdlafpahgdaaGreatDoor
set_option linter.unusedVariables false
set_option linter.unusedSimpArgs false
open Go.RowKit
/-- the first error of the things of a list -/
def fxL {α : Type} (h : α → Int) (l : List α) (i : Nat) : Int := match l[i]? with
  | some x => h x
  | none => 0
theorem fxL_at {α : Type} {h : α → Int} {l : List α} {i : Nat} {x : α} (hx : l[i]? = some x) : fxL h l i = h x := by unfold fxL; rw [hx]
def feL {α : Type} (h : α → Int) (l : List α) : Int := fe (fxL h l) l.length
theorem feL_snoc {α : Type} (h : α → Int) (l : List α) (x : α) : feL h (l ++ [x]) = if feL h l = 0 then h x else feL h l := by
  have e : fe (fxL h (l ++ [x])) l.length = feL h l := fe_congr _ (fun i hi => by unfold fxL; rw [List.getElem?_append_left hi])
  unfold feL at e ⊢
  rw [List.length_append, List.length_singleton]
  show (if fe (fxL h (l ++ [x])) l.length = 0 then _ else _) = _
  rw [e]
  split
  · unfold fxL; simp
  · rfl
theorem feL_filter {α : Type} (h : α → Int) (p : α → Bool) (l : List α) : ∀ k, k ≤ l.length → feL (fun x => if p x = true then h x else 0) (l.take k) = feL h ((l.take k).filter p)
  | 0, _ => by simp [feL, fe]
  | k + 1, hk => by
    have ih := feL_filter h p l k (by omega)
    rw [List.take_succ_eq_append_getElem (by omega), feL_snoc, ih, List.filter_append]
    cases hp : p l[k] with
    | true =>
      rw [show [l[k]].filter p = [l[k]] by simp [hp], feL_snoc]
      simp [hp]
    | false =>
      rw [show [l[k]].filter p = [] by simp [hp], List.append_nil]
      simp
      intro e; exact e.symm
def dashR : RuD := ⟨.empty, 0, 0, 0, 0, 0, 0, 0, 0, 0, dash⟩
theorem hasR_iff (rs : List RuD) (nm : ByteArray) : hasR rs nm = false ↔ rusOf rs nm = [] := by
  unfold hasR rusOf
  rw [List.filter_eq_nil_iff, List.any_eq_false]
theorem rulC_nil {rs : List RuD} {e : EraD} (h : rusOf rs e.ru = []) : rulC rs e = 6 := by unfold rulC; rw [if_pos ((hasR_iff _ _).2 h)]
theorem rulC_list {rs : List RuD} {e : EraD} (h : rusOf rs e.ru ≠ []) : rulC rs e = feL (fun r => abbrC e.fm r.sv r.lt) (rusOf rs e.ru ++ [dashR]) := by
  have h1 := feL_filter (fun r : RuD => abbrC e.fm r.sv r.lt) (fun r => r.nm.toList == e.ru.toList) rs rs.length (Nat.le_refl _)
  rw [List.take_length] at h1
  unfold rulC
  rw [if_neg (fun g => h ((hasR_iff _ _).1 g)), feL_snoc]
  have h2 : fe (ruA rs e) rs.length = feL (fun r : RuD => abbrC e.fm r.sv r.lt) (rusOf rs e.ru) := by
    refine Eq.trans ?_ h1
    unfold feL
    exact fe_congr _ (fun i _ => by unfold ruA fxL; cases rs[i]? <;> rfl)
  rw [h2]
  rfl
theorem feL_hit {α : Type} {h : α → Int} {l : List α} {k : Nat} {x : α} (hx : l[k]? = some x) (h0 : fe (fxL h l) k = 0) (h1 : h x ≠ 0) : feL h l = h x := by
  have hk : k < l.length := (List.getElem?_eq_some_iff.1 hx).1
  have := fe_hit (f := fxL h l) h0 (by rw [fxL_at hx]; exact h1) l.length hk
  rw [fxL_at hx] at this
  exact this

set_option maxHeartbeats 1000000 in
theorem risTime (t : Int) (w : World) (t1 : -1099511627776 ≤ t) (t2 : t ≤ 1099511627776) :
    Calls Tryz.prog 22 #[.int .i64 t] w fun e w' => e = .returned (.bool (tmB t)) ∧ w = w' := by
  have K1 := fun w => yearDay_any 1600 w (by omega) (by omega)
  have K2 := fun w => yearDay_any 2400 w (by omega) (by omega)
  rw [Cal.ys_1600] at K1
  rw [Cal.ys_2400] at K2
  have KA := Lib.hid K1
  have KB := Lib.hid K2
  have T : Hid (tmB t = (decide (-11676096000 ≤ t) && decide (t < 13569465600))) := by
    unfold Hid tmB
    rw [Bool.eq_iff_iff]; simp; omega
  clear K1 K2
  generalize tmB t = R at T ⊢
  obtain ⟨p, ep⟩ : ∃ p, decide (-11676096000 ≤ t) = p := ⟨_, rfl⟩
  obtain ⟨q, eq⟩ : ∃ q, decide (t < 13569465600) = q := ⟨_, rfl⟩
  rw [ep, eq] at T
  cases p with
  | false =>
    go_enter Tryz.func22, Tryz.ntmps22
    go_wp2_with fail
    refine (KA.out w).mono ?_
    rintro e w1 ⟨rfl, rfl⟩
    go_wp2_with fail
    go_ret
    exact ⟨ret_bool T.out.symm, rfl⟩
  | true =>
    go_enter Tryz.func22, Tryz.ntmps22
    go_wp2_with fail
    refine (KA.out w).mono ?_
    rintro e w1 ⟨rfl, rfl⟩
    go_wp2_with fail
    refine (KB.out w).mono ?_
    rintro e w1 ⟨rfl, rfl⟩
    cases q
    all_goals
      go_wp2
      go_ret
      exact ⟨ret_bool T.out.symm, rfl⟩

end Go.Proofs.YtbagdlafpahgdaaGreatDoor
