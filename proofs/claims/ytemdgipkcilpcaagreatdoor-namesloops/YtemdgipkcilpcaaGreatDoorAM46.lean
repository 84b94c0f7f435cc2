/- A book whose links lead round. No function of the program in it. -/
import Derived.Test.YtemdgipkcilpcaaGreatDoorAM45
import Derived.Test.YtemdgipkcilpcaaGreatDoorAM16
namespace Go.Proofs.YtemdgipkcilpcaaGreatDoor
set_option linter.unusedVariables false
set_option linter.unusedSimpArgs false
open Go.RowKit
def zoneN : List UInt8 := [90, 111, 110, 101]
/-- names that may be links' -/
structure RoundOk (R : List (List UInt8)) : Prop where
  nd : R.Nodup
  ok : ∀ x ∈ R, isNameB x = true ∧ x ≠ zoneN
  few : R.length ≤ 20
theorem RoundOk.nil : RoundOk [] := ⟨List.nodup_nil, (fun x h => by cases h), by simp⟩
theorem RoundOk.more {R : List (List UInt8)} {x : List UInt8} (h : RoundOk R) (h1 : isNameB x = true) (h2 : x ≠ zoneN) (h3 : R.contains x = false) (h4 : R.length < 20) : RoundOk (R ++ [x]) := by
  refine ⟨List.nodup_append.2 ⟨h.nd, by simp, fun a ha b hb e => ?_⟩, fun y hy => ?_, by simp; omega⟩
  · have : b = x := by simpa using hb
    subst this; subst e
    have : R.contains a = true := by simpa using ha
    rw [h3] at this; cases this
  · rcases List.mem_append.1 hy with hy | hy
    · exact h.ok y hy
    · have : y = x := by simpa using hy
      subst this; exact ⟨h1, h2⟩
/-- the i-th link -/
def lnk (R : List (List UInt8)) (i : Nat) : LinD := lS (R.getD i []) (R.getD ((i + 1) % R.length) [])
def lnks (R : List (List UInt8)) (n : Nat) : List LinD := (List.range n).map (lnk R)
theorem lnks_len (R : List (List UInt8)) (n : Nat) : (lnks R n).length = n := by simp [lnks]
theorem lnks_succ (R : List (List UInt8)) (n : Nat) : lnks R (n + 1) = lnks R n ++ [lnk R n] := by simp [lnks, List.range_succ]
theorem getD_of {R : List (List UInt8)} {i : Nat} (h : i < R.length) : R[i]? = some (R.getD i []) := by simp [List.getD, List.getElem?_eq_getElem h]
theorem lnks_at {R : List (List UInt8)} {n i : Nat} (h : i < n) : (lnks R n)[i]? = some (lnk R i) := by simp [lnks, h]
theorem lnk_nm (R : List (List UInt8)) (i : Nat) : (lnk R i).nm.toList = R.getD i [] := S_toList _
theorem lnk_to (R : List (List UInt8)) (i : Nat) : (lnk R i).to'.toList = R.getD ((i + 1) % R.length) [] := S_toList _
theorem mem_getD {R : List (List UInt8)} {i : Nat} (h : i < R.length) : R.getD i [] ∈ R := List.mem_of_getElem? (getD_of h)
theorem to_mem {R : List (List UInt8)} (h : 0 < R.length) (i : Nat) : R.getD ((i + 1) % R.length) [] ∈ R := mem_getD (Nat.mod_lt _ h)
theorem round_nms (R : List (List UInt8)) (A : Option Addr) (c : Nat) : nms [zX zoneN A c] (lnks R R.length) = zoneN :: R := by
  unfold nms
  have e : (lnks R R.length).map (fun x => x.nm.toList) = R := by
    apply List.ext_getElem?
    intro i
    rw [List.getElem?_map]
    by_cases hi : i < R.length
    · rw [lnks_at hi, getD_of hi]
      simp [lnk_nm]
    · rw [List.getElem?_eq_none (by rw [lnks_len]; omega), List.getElem?_eq_none (by omega)]
      rfl
  rw [e]
  simp [zX, S_toList]
theorem round_chk {R : List (List UInt8)} (h : RoundOk R) (A : Option Addr) (c : Nat) : bokC [] [zX zoneN A c] (lnks R R.length) = 0 := by
  refine bok_of (by decide) (by rw [lnks_len]; exact h.few) ?_
  refine (fe_zero _).2 fun i hi => ?_
  rw [lnks_len] at hi
  have hp : 0 < R.length := by omega
  obtain ⟨n1, n2⟩ := h.ok _ (mem_getD hi)
  obtain ⟨t1, _⟩ := h.ok _ (to_mem hp i)
  rw [linC_at (lnks_at hi), lnk_nm, lnk_to, n1, t1]
  have hz : hasZ [zX zoneN A c] (lnk R i).nm = false := by
    cases q : hasZ [zX zoneN A c] (lnk R i).nm with
    | false => rfl
    | true =>
      have := hasZ_mem.1 q
      rw [lnk_nm] at this
      exact absurd (by simpa [zX, S_toList] using this) n2
  have hl : hasL ((lnks R R.length).take i) (lnk R i).nm = false := by
    cases q : hasL ((lnks R R.length).take i) (lnk R i).nm with
    | false => rfl
    | true =>
      have := hasL_mem.1 q
      rw [lnk_nm] at this
      obtain ⟨y, hy, e⟩ := List.mem_map.1 this
      obtain ⟨j, hj, ej⟩ := List.getElem_of_mem hy
      rw [List.length_take, lnks_len] at hj
      rw [List.getElem_take] at ej
      have hyj : (lnks R R.length)[j]? = some y := by rw [List.getElem?_eq_getElem (by rw [lnks_len]; omega), ej]
      rw [lnks_at (show j < R.length by omega)] at hyj
      injection hyj with hyj
      subst hyj
      rw [lnk_nm] at e
      have a := getD_of (show j < R.length by omega)
      rw [e] at a
      have := nodup_inj h.nd a (getD_of hi)
      omega
  have ht : hasL (lnks R R.length) (lnk R i).to' = true := by
    refine hasL_mem.2 ?_
    rw [lnk_to]
    have hm : (i + 1) % R.length < R.length := Nat.mod_lt _ hp
    exact List.mem_map.2 ⟨lnk R ((i + 1) % R.length), List.mem_of_getElem? (lnks_at hm), lnk_nm _ _⟩
  rw [hz, hl, ht]
  simp
/-- no link of a round leads tto the zone -/
theorem round_nx {R : List (List UInt8)} (h : RoundOk R) (A : Option Addr) (c : Nat) {p : Nat} (hp : 1 ≤ p) : 1 ≤ nx [zX zoneN A c] (lnks R R.length) p := by
  unfold nx
  rw [if_neg (by simp; omega)]
  cases hx : (lnks R R.length)[p - [zX zoneN A c].length]? with
  | none => exact hp
  | some x =>
    have hi := (List.getElem?_eq_some_iff.1 hx).1
    rw [lnks_len] at hi
    rw [lnks_at hi] at hx
    injection hx with hx
    subst hx
    simp only
    rw [lnk_to, round_nms]
    have hm := to_mem (show 0 < R.length by omega) (p - [zX zoneN A c].length)
    have hne := (h.ok _ hm).2
    rw [List.idxOf_cons]
    have : (zoneN == R.getD ((p - [zX zoneN A c].length + 1) % R.length) []) = false := by
      cases q : (zoneN == R.getD ((p - [zX zoneN A c].length + 1) % R.length) []) with
      | false => rfl
      | true => exact absurd (eq_of_beq q).symm hne
    rw [this]
    simp
theorem round_ends {R : List (List UInt8)} (h : RoundOk R) (A : Option Addr) (c : Nat) : ∀ (n p : Nat), 1 ≤ p → 1 ≤ ends [zX zoneN A c] (lnks R R.length) n p
  | 0, p, hp => hp
  | n + 1, p, hp => round_ends h A c n _ (round_nx h A c hp)
theorem round_end {R : List (List UInt8)} (h : RoundOk R) (A : Option Addr) (c : Nat) {x : List UInt8} (hx : x ∈ R) : ¬ endN [zX zoneN A c] (lnks R R.length) x < [zX zoneN A c].length := by
  have hne := (h.ok _ hx).2
  have : 1 ≤ endN [zX zoneN A c] (lnks R R.length) x := by
    refine round_ends h A c _ _ ?_
    rw [round_nms, List.idxOf_cons]
    have : (zoneN == x) = false := by
      cases q : (zoneN == x) with
      | false => rfl
      | true => exact absurd (eq_of_beq q).symm hne
    rw [this]
    simp
  simp; omega
theorem round_res {R : List (List UInt8)} (h : RoundOk R) (A : Option Addr) (c : Nat) {x : List UInt8} (hx : x ∈ R) : resC [] [zX zoneN A c] (lnks R R.length) (S x) = 8 :=
  resC_loop (round_chk h A c) (by rw [round_nms, S_toList]; exact List.mem_cons_of_mem _ hx) (by rw [S_toList]; exact round_end h A c hx)
theorem round_all {R : List (List UInt8)} (h : RoundOk R) (A : Option Addr) (c : Nat) : allN [zX zoneN A c] (lnks R R.length) = [zoneN] := by
  have hz : endN [zX zoneN A c] (lnks R R.length) zoneN < [zX zoneN A c].length := by
    unfold endN
    rw [round_nms, show (zoneN :: R).idxOf zoneN = 0 by simp, ends_zone (by simp)]
    simp
  have e : goods [zX zoneN A c] (lnks R R.length) = [zoneN] := by
    unfold goods
    rw [round_nms, List.filter_cons, if_pos (by simpa using hz)]
    congr 1
    refine List.filter_eq_nil_iff.2 fun x hx => ?_
    simpa using round_end h A c hx
  unfold allN
  rw [e]
  exact List.mergeSort_singleton _
theorem name_len {x : List UInt8} (h : isNameB x = true) : x.length ≤ 20 := by
  have := name_small (s := S x) (by rw [S_toList]; exact h)
  rwa [S_size] at this
theorem row_gb {α : Type} {w w' : World} {k r : Nat} {enc : α → List Value} {A : Option Addr} {l : List α} (h : Row w k enc A l) (g : w.grownBy w' (some r)) (hne : ∀ b o, A = some ⟨b, o, none⟩ → b ≠ r) : Row w' k enc A l := fun i x hx => by
  obtain ⟨b, o, e, hb, hc⟩ := h i x hx
  exact ⟨b, o, e, Nat.lt_of_lt_of_le hb g.size, fun j v hv => g.cell (hc j v hv) (fun q => hne b o e (Option.some.inj q))⟩
theorem gb_set2 (w : World) (q o : Nat) (v : Value) : w.grownBy (w.setCell ⟨q, o, none⟩ v) (some q) :=
  ⟨rfl, rfl, rfl, by simp [World.setCell], fun i hi hne => RowKit.Below.heap_setCell _ _ _ _ (fun e => hne (by rw [e]))⟩
theorem own_set {α : Type} {w : World} {base k : Nat} {e : TypeId} {enc : α → List Value} {v : Value} {l : List α} {q : Nat} (h : Own w base e k enc v l) (hq : q < base) (o : Nat) (u : Value) : Own (w.setCell ⟨q, o, none⟩ u) base e k enc v l :=
  World.ownsRow.kept h (gb_set2 w q o u) (by
    rcases hb : v.ownBlock with _ | j
    · exact Or.inl rfl
    · right
      intro e
      have := own_base h j hb
      injection e with e
      omega)
theorem gb_heap2 {w w' : World} {q b : Nat} {o : Obj} (h : w.heap[b]? = some o) (g : w.grownBy w' (some q)) (hne : b ≠ q) : w'.heap[b]? = some o :=
  (g.block b (Array.getElem?_eq_some_iff.1 h).1 (fun e => hne (Option.some.inj e))).trans h
/-- the book of a round -/
def loopB (q : Nat) (R : List (List UInt8)) (A : Option Addr) (c : Nat) : BokD := ⟨none, 0, [], some ⟨q + 1, 0, none⟩, 1, [zX zoneN (some ⟨q, 0, none⟩) 1], A, c, lnks R R.length⟩
theorem loopB_at {w : World} {q n base : Nat} {T : TypeId} {R : List (List UInt8)} {A : Option Addr} {c : Nat} (h1 : w.heap[q]? = some (.cells #[.int .i64 0, .string ⟨#[]⟩, .int .i64 0, .string ⟨#[88]⟩, .int .i64 0] 45 (0, 0)))
    (h2 : w.heap[q + 1]? = some (.cells #[.string ⟨#[90, 111, 110, 101]⟩, .slice (some ⟨q, 0, none⟩) 1 1] 29 (0, 0)))
    (ho : Own w base T 2 LinD.cells (.slice A n c) (lnks R R.length)) (hR : RoundOk R) : (loopB q R A c).At w := by
  have zx : (zX zoneN (some ⟨q, 0, none⟩) 1).At w := zX_at (by decide) h1
  obtain ⟨A', c', ev, hle, hcm, _⟩ := ho.form
  injection ev with e1 e2 e3
  subst e1; subst e3
  refine ⟨⟨⟨Nat.le_refl _, by unfold maxLen; exact Nat.zero_le _⟩, Row.nil _ _ _ _, fun r hr => by cases hr⟩, ⟨⟨Nat.le_refl _, by show (1 : Nat) ≤ maxLen; unfold maxLen; omega⟩, row_single (enc := ZonD.cells) (x := zX zoneN (some ⟨q, 0, none⟩) 1) rfl h2 rfl, fun z hz => ?_⟩, ⟨⟨hle, hcm⟩, ho.row (fun _ => rfl), fun x hx => ?_⟩⟩
  · have : z = zX zoneN (some ⟨q, 0, none⟩) 1 := by simpa [loopB] using hz
    subst this; exact zx
  · obtain ⟨i, hi, e⟩ := List.getElem_of_mem hx
    have hi' : i < R.length := by simpa [loopB, lnks_len] using hi
    have hx' : (lnks R R.length)[i]? = some x := by rw [List.getElem?_eq_getElem (by rw [lnks_len]; exact hi')]; exact congrArg some e
    rw [lnks_at hi'] at hx'
    injection hx' with hx'
    subst hx'
    have a := name_len (hR.ok _ (mem_getD hi')).1
    have b := name_len (hR.ok _ (to_mem (show 0 < R.length by omega) i)).1
    refine ⟨?_, ?_⟩ <;> (simp only [lnk, lS, S_size]; unfold maxLen; omega)
end Go.Proofs.YtemdgipkcilpcaaGreatDoor
