/- What the reference's zoneAt and linkAt return. -/
import Derived.Deep.LoopGhost
import Derived.Laws.Cells
import Derived.Test.YtbagdlafpahgdaaGreatDoorPM10
namespace Go.Proofs.YtbagdlafpahgdaaGreatDoor
set_option linter.unusedVariables false
set_option linter.unusedSimpArgs false
open Go.RowKit
/-- is one of this name among them? -/
def hasZ (l : List ZonD) (nm : ByteArray) : Bool := l.any fun z => z.nm.toList == nm.toList
def hasL (l : List LinD) (nm : ByteArray) : Bool := l.any fun z => z.nm.toList == nm.toList
theorem any_take {α : Type} {p : α → Bool} {l : List α} {k : Nat} {x : α} (hx : l[k]? = some x) : (l.take (k + 1)).any p = ((l.take k).any p || p x) := by
  have hk : k < l.length := (List.getElem?_eq_some_iff.1 hx).1
  have e : l[k] = x := (List.getElem?_eq_some_iff.1 hx).2
  rw [List.take_succ_eq_append_getElem hk, List.any_append, e]; simp
theorem any_hit {α : Type} {p : α → Bool} {l : List α} {k : Nat} {x : α} (hx : l[k]? = some x) (h : p x = true) : l.any p = true :=
  List.any_eq_true.2 ⟨x, List.mem_of_getElem? hx, h⟩
theorem Row.two {α : Type} {w W : World} {e : α → List Value} {A : Option Addr} {l : List α} {i : Nat} {x : α} {v0 v1 : Value} (h : Row w 2 e A l) (hx : l[i]? = some x) (he : e x = [v0, v1]) (g : Gr w W) :
    ∃ b off, A = some ⟨b, off, none⟩ ∧ W.cell? ⟨b, off + i * 2, none⟩ = some v0 ∧ W.cell? ⟨b, off + i * 2 + 1, none⟩ = some v1 := by
  obtain ⟨b, off, rfl, hb, hc⟩ := h i x hx
  rw [he] at hc
  exact ⟨b, off, rfl, g.holds (hc 0 v0 rfl), g.holds (hc 1 v1 rfl)⟩
theorem Row.five {α : Type} {w W : World} {e : α → List Value} {A : Option Addr} {l : List α} {i : Nat} {x : α} {v0 v1 v2 v3 v4 : Value} (h : Row w 5 e A l) (hx : l[i]? = some x) (he : e x = [v0, v1, v2, v3, v4]) (g : Gr w W) :
    ∃ b off, A = some ⟨b, off, none⟩ ∧ W.cell? ⟨b, off + i * 5, none⟩ = some v0 ∧ W.cell? ⟨b, off + i * 5 + 1, none⟩ = some v1 ∧ W.cell? ⟨b, off + i * 5 + 2, none⟩ = some v2 ∧ W.cell? ⟨b, off + i * 5 + 3, none⟩ = some v3 ∧ W.cell? ⟨b, off + i * 5 + 4, none⟩ = some v4 := by
  obtain ⟨b, off, rfl, hb, hc⟩ := h i x hx
  rw [he] at hc
  exact ⟨b, off, rfl, g.holds (hc 0 v0 rfl), g.holds (hc 1 v1 rfl), g.holds (hc 2 v2 rfl), g.holds (hc 3 v3 rfl), g.holds (hc 4 v4 rfl)⟩
theorem Row.eleven {α : Type} {w W : World} {e : α → List Value} {A : Option Addr} {l : List α} {i : Nat} {x : α} {v0 v1 v2 v3 v4 v5 v6 v7 v8 v9 v10 : Value} (h : Row w 11 e A l) (hx : l[i]? = some x) (he : e x = [v0, v1, v2, v3, v4, v5, v6, v7, v8, v9, v10]) (g : Gr w W) :
    ∃ b off, A = some ⟨b, off, none⟩ ∧ W.cell? ⟨b, off + i * 11, none⟩ = some v0 ∧ W.cell? ⟨b, off + i * 11 + 1, none⟩ = some v1 ∧ W.cell? ⟨b, off + i * 11 + 2, none⟩ = some v2 ∧ W.cell? ⟨b, off + i * 11 + 3, none⟩ = some v3 ∧ W.cell? ⟨b, off + i * 11 + 4, none⟩ = some v4 ∧ W.cell? ⟨b, off + i * 11 + 5, none⟩ = some v5 ∧ W.cell? ⟨b, off + i * 11 + 6, none⟩ = some v6 ∧ W.cell? ⟨b, off + i * 11 + 7, none⟩ = some v7 ∧ W.cell? ⟨b, off + i * 11 + 8, none⟩ = some v8 ∧ W.cell? ⟨b, off + i * 11 + 9, none⟩ = some v9 ∧ W.cell? ⟨b, off + i * 11 + 10, none⟩ = some v10 := by
  obtain ⟨b, off, rfl, hb, hc⟩ := h i x hx
  rw [he] at hc
  exact ⟨b, off, rfl, g.holds (hc 0 v0 rfl), g.holds (hc 1 v1 rfl), g.holds (hc 2 v2 rfl), g.holds (hc 3 v3 rfl), g.holds (hc 4 v4 rfl), g.holds (hc 5 v5 rfl), g.holds (hc 6 v6 rfl), g.holds (hc 7 v7 rfl), g.holds (hc 8 v8 rfl), g.holds (hc 9 v9 rfl), g.holds (hc 10 v10 rfl)⟩

/-- a number that tells whether -/
def Tells01 (b : Bool) (w : World) (e : Ending) (w' : World) : Prop := ∃ n : Int, e = .returned (.int .i64 n) ∧ (b = true → 0 ≤ n) ∧ (b = false → n = -1) ∧ Gr w w'

set_option maxHeartbeats 4000000 in
theorem rzoneAt (A : Option Addr) (c : Nat) (l : List ZonD) (nm : ByteArray) (w : World) (hl : l.length ≤ maxLen) (h : Row w 2 ZonD.cells A l) :
    Calls Tryz.prog 45 #[.slice A l.length c, .string nm] w (Tells01 (hasZ l nm) w) := by
  have H := Lib.hid h
  unfold maxLen at hl
  clear h
  go_enter Tryz.func45, Tryz.ntmps45
  go_wp2_with fail
  go_loopw [9] (fun i W => ∃ k : Nat, k ≤ l.length ∧ i = .int .i64 k ∧ Hid (hasZ (l.take k) nm = false) ∧ Hid (Gr w W)) (fun i W => l.length - (intOf i).toNat)
  case atStart => exact ⟨0, Nat.zero_le _, rfl, rfl, Gr.refl _⟩
  case round =>
    obtain ⟨k, hk, rfl, hf, hg⟩ := hrel
    by_cases hlt : k < l.length
    · obtain ⟨⟨znm, zA, zc, ze⟩, hz⟩ := get_lt hlt
      obtain ⟨b, off, rfl, c0, c1⟩ := H.out.two hz rfl hg.out
      have HT : Hid (hasZ (l.take (k + 1)) nm = (hasZ (l.take k) nm || (znm.toList == nm.toList))) := any_take hz
      have HH : Hid ((znm.toList == nm.toList) = true → hasZ l nm = true) := fun q => any_hit hz q
      clear hz H
      obtain ⟨q, eq⟩ : ∃ q, (znm.toList == nm.toList) = q := ⟨_, rfl⟩
      rw [eq] at HT HH
      cases q with
      | true =>
        have HA := Lib.hid (HH.out rfl)
        clear HH HT hf
        go_wp2_with fail
        go_ret
        exact ⟨k, rfl, fun _ => by omega, (fun q => by rw [HA.out] at q; cases q), hg.out.alloc' _⟩
      | false =>
        clear HH
        go_wp2_with fail
        go_roundw
        case rel => exact ⟨k + 1, by omega, by go_num, by unfold Hid; rw [HT.out, hf.out]; rfl, hg.out.alloc' _⟩
        case measure => simp [intOf]; omega
    · have e : k = l.length := by omega
      have HA : Hid (hasZ l nm = false) := by unfold Hid; have := hf.out; rw [e, List.take_length] at this; exact this
      clear e hf H
      go_wp2_with fail
      go_ret
      exact ⟨-1, rfl, (fun q => by rw [HA.out] at q; cases q), fun _ => rfl, hg.out⟩

set_option maxHeartbeats 4000000 in
theorem rlinkAt (A : Option Addr) (c : Nat) (l : List LinD) (nm : ByteArray) (w : World) (hl : l.length ≤ maxLen) (h : Row w 2 LinD.cells A l) :
    Calls Tryz.prog 46 #[.slice A l.length c, .string nm] w (Tells01 (hasL l nm) w) := by
  have H := Lib.hid h
  unfold maxLen at hl
  clear h
  go_enter Tryz.func46, Tryz.ntmps46
  go_wp2_with fail
  go_loopw [9] (fun i W => ∃ k : Nat, k ≤ l.length ∧ i = .int .i64 k ∧ Hid (hasL (l.take k) nm = false) ∧ Hid (Gr w W)) (fun i W => l.length - (intOf i).toNat)
  case atStart => exact ⟨0, Nat.zero_le _, rfl, rfl, Gr.refl _⟩
  case round =>
    obtain ⟨k, hk, rfl, hf, hg⟩ := hrel
    by_cases hlt : k < l.length
    · obtain ⟨⟨znm, zt⟩, hz⟩ := get_lt hlt
      obtain ⟨b, off, rfl, c0, c1⟩ := H.out.two hz rfl hg.out
      have HT : Hid (hasL (l.take (k + 1)) nm = (hasL (l.take k) nm || (znm.toList == nm.toList))) := any_take hz
      have HH : Hid ((znm.toList == nm.toList) = true → hasL l nm = true) := fun q => any_hit hz q
      clear hz H
      obtain ⟨q, eq⟩ : ∃ q, (znm.toList == nm.toList) = q := ⟨_, rfl⟩
      rw [eq] at HT HH
      cases q with
      | true =>
        have HA := Lib.hid (HH.out rfl)
        clear HH HT hf
        go_wp2_with fail
        go_ret
        exact ⟨k, rfl, fun _ => by omega, (fun q => by rw [HA.out] at q; cases q), hg.out.alloc' _⟩
      | false =>
        clear HH
        go_wp2_with fail
        go_roundw
        case rel => exact ⟨k + 1, by omega, by go_num, by unfold Hid; rw [HT.out, hf.out]; rfl, hg.out.alloc' _⟩
        case measure => simp [intOf]; omega
    · have e : k = l.length := by omega
      have HA : Hid (hasL l nm = false) := by unfold Hid; have := hf.out; rw [e, List.take_length] at this; exact this
      clear e hf H
      go_wp2_with fail
      go_ret
      exact ⟨-1, rfl, (fun q => by rw [HA.out] at q; cases q), fun _ => rfl, hg.out⟩
end Go.Proofs.YtbagdlafpahgdaaGreatDoor
