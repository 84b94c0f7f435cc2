/- A slice copied by append. No function of the program in it. Where the reference's zoneAt and linkAt find a name. -/
import Derived.Laws.AppendOwn
import Derived.Test.YtemdgipkcilpcaaGreatDoorAM16
import Derived.Test.YtemdgipkcilpcaaGreatDoorAM11
namespace Go.Proofs.YtemdgipkcilpcaaGreatDoor
set_option linter.unusedVariables false
set_option linter.unusedSimpArgs false
open Go.RowKit
/-- the cells of a row, one after another -/
theorem Row.news {α : Type} {w : World} {k : Nat} {enc : α → List Value} {b off : Nat} {l : List α} (hk : ∀ x, (enc x).length = k) (h : Row w k enc (some ⟨b, off, none⟩) l) :
    ∀ j u, (l.flatMap enc)[j]? = some u → w.cell? ((⟨b, off, none⟩ : Addr).add j) = some u := fun j u hu => by
  have hj := (List.getElem?_eq_some_iff.1 hu).1
  rw [flat_len hk] at hj
  have hk0 : 0 < k := by
    cases k with
    | zero => simp at hj
    | succ k => omega
  have hi : j / k < l.length := by rw [Nat.div_lt_iff_lt_mul hk0]; exact hj
  have hr : j % k < k := Nat.mod_lt _ hk0
  have he := Nat.div_add_mod j k
  obtain ⟨x, hx⟩ := get_lt hi
  have hv : (enc x)[j % k]? = some ((enc x)[j % k]'(by rw [hk]; exact hr)) := List.getElem?_eq_getElem _
  have hf := flat_get hk l (j / k) x hx (j % k) _ hv
  rw [show j / k * k + j % k = j by rw [Nat.mul_comm]; exact he] at hf
  rw [hu] at hf
  injection hf with hf
  obtain ⟨b', off', e, _, hc⟩ := h (j / k) x hx
  injection e with e; injection e with e1 e2; subst e1; subst e2
  have := hc (j % k) _ hv
  rw [← hf] at this
  rw [show (⟨b, off, none⟩ : Addr).add j = ⟨b, off + (j / k) * k + j % k, none⟩ by
    have q : off + (j / k) * k + j % k = off + j := by rw [Nat.add_assoc, Nat.mul_comm (j / k) k, he]
    rw [q]; unfold Addr.add; split <;> simp_all]
  exact this
theorem gr_of_none {w w' : World} (h : w.grownBy w' none) : Gr w w' := ⟨h.os, h.tape, h.output, h.size, fun i hi => h.block i hi (by simp)⟩
end Go.Proofs.YtemdgipkcilpcaaGreatDoor
namespace Go.Proofs.YtemdgipkcilpcaaGreatDoor
set_option linter.unusedVariables false
set_option linter.unusedSimpArgs false
open Go.RowKit
/-- the place of a zone of this name; -1 where there is none -/
def FindsZ (l : List ZonD) (nm : ByteArray) (w : World) (e : Ending) (w' : World) : Prop := ∃ n : Int, e = .returned (.int .i64 n) ∧ ((∃ (k : Nat) (z : ZonD), n = k ∧ l[k]? = some z ∧ z.nm.toList = nm.toList) ∨ (n = -1 ∧ hasZ l nm = false)) ∧ Gr w w'
def FindsL (l : List LinD) (nm : ByteArray) (w : World) (e : Ending) (w' : World) : Prop := ∃ n : Int, e = .returned (.int .i64 n) ∧ ((∃ (k : Nat) (z : LinD), n = k ∧ l[k]? = some z ∧ z.nm.toList = nm.toList) ∨ (n = -1 ∧ hasL l nm = false)) ∧ Gr w w'

set_option maxHeartbeats 4000000 in
theorem rzoneAt2 (A : Option Addr) (c : Nat) (l : List ZonD) (nm : ByteArray) (w : World) (hl : l.length ≤ maxLen) (h : Row w 2 ZonD.cells A l) :
    Calls Tryz.prog 21 #[.slice A l.length c, .string nm] w (FindsZ l nm w) := by
  have H := Lib.hid h
  unfold maxLen at hl
  clear h
  go_enter Tryz.func21, Tryz.ntmps21
  go_wp2_with fail
  go_loopw [9] (fun i W => ∃ k : Nat, k ≤ l.length ∧ i = .int .i64 k ∧ Hid (hasZ (l.take k) nm = false) ∧ Hid (Gr w W)) (fun i W => l.length - (intOf i).toNat)
  case atStart => exact ⟨0, Nat.zero_le _, rfl, rfl, Gr.refl _⟩
  case round =>
    obtain ⟨k, hk, rfl, hf, hg⟩ := hrel
    by_cases hlt : k < l.length
    · obtain ⟨⟨znm, zA, zc, ze⟩, hz⟩ := get_lt hlt
      obtain ⟨b, off, rfl, c0, c1⟩ := H.out.two hz rfl hg.out
      have HT : Hid (hasZ (l.take (k + 1)) nm = (hasZ (l.take k) nm || (znm.toList == nm.toList))) := any_take hz
      have HZ := Lib.hid hz
      clear hz H
      obtain ⟨q, eq⟩ : ∃ q, (znm.toList == nm.toList) = q := ⟨_, rfl⟩
      have EQ := Lib.hid eq
      rw [eq] at HT
      cases q with
      | true =>
        clear HT hf
        go_wp2_with fail
        go_ret
        exact ⟨k, rfl, Or.inl ⟨k, _, rfl, HZ.out, eq_of_beq EQ.out⟩, hg.out.alloc' _⟩
      | false =>
        clear HZ EQ
        go_wp2_with fail
        go_roundw
        case rel => exact ⟨k + 1, by omega, by go_num, by unfold Hid; rw [HT.out, hf.out]; rfl, hg.out.alloc' _⟩
        case measure => simp [intOf]; omega
    · have e : k = l.length := by omega
      have HA : Hid (hasZ l nm = false) := by unfold Hid; have := hf.out; rw [e, List.take_length] at this; exact this
      clear e hf H
      go_wp2_with fail
      go_ret
      exact ⟨-1, rfl, Or.inr ⟨rfl, HA.out⟩, hg.out⟩

set_option maxHeartbeats 4000000 in
theorem rlinkAt2 (A : Option Addr) (c : Nat) (l : List LinD) (nm : ByteArray) (w : World) (hl : l.length ≤ maxLen) (h : Row w 2 LinD.cells A l) :
    Calls Tryz.prog 22 #[.slice A l.length c, .string nm] w (FindsL l nm w) := by
  have H := Lib.hid h
  unfold maxLen at hl
  clear h
  go_enter Tryz.func22, Tryz.ntmps22
  go_wp2_with fail
  go_loopw [9] (fun i W => ∃ k : Nat, k ≤ l.length ∧ i = .int .i64 k ∧ Hid (hasL (l.take k) nm = false) ∧ Hid (Gr w W)) (fun i W => l.length - (intOf i).toNat)
  case atStart => exact ⟨0, Nat.zero_le _, rfl, rfl, Gr.refl _⟩
  case round =>
    obtain ⟨k, hk, rfl, hf, hg⟩ := hrel
    by_cases hlt : k < l.length
    · obtain ⟨⟨znm, zt⟩, hz⟩ := get_lt hlt
      obtain ⟨b, off, rfl, c0, c1⟩ := H.out.two hz rfl hg.out
      have HT : Hid (hasL (l.take (k + 1)) nm = (hasL (l.take k) nm || (znm.toList == nm.toList))) := any_take hz
      have HZ := Lib.hid hz
      clear hz H
      obtain ⟨q, eq⟩ : ∃ q, (znm.toList == nm.toList) = q := ⟨_, rfl⟩
      have EQ := Lib.hid eq
      rw [eq] at HT
      cases q with
      | true =>
        clear HT hf
        go_wp2_with fail
        go_ret
        exact ⟨k, rfl, Or.inl ⟨k, _, rfl, HZ.out, eq_of_beq EQ.out⟩, hg.out.alloc' _⟩
      | false =>
        clear HZ EQ
        go_wp2_with fail
        go_roundw
        case rel => exact ⟨k + 1, by omega, by go_num, by unfold Hid; rw [HT.out, hf.out]; rfl, hg.out.alloc' _⟩
        case measure => simp [intOf]; omega
    · have e : k = l.length := by omega
      have HA : Hid (hasL l nm = false) := by unfold Hid; have := hf.out; rw [e, List.take_length] at this; exact this
      clear e hf H
      go_wp2_with fail
      go_ret
      exact ⟨-1, rfl, Or.inr ⟨rfl, HA.out⟩, hg.out⟩

end Go.Proofs.YtemdgipkcilpcaaGreatDoor
