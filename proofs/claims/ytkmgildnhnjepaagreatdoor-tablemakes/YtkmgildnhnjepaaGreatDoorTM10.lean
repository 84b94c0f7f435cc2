/- What the reference's zoneAt and linkAt return. What the function literals of book.Check return, and slices.IndexFunc and slices.ContainsFunc at them. What the reference's StampRead returns, for every input. Timestamps as texts, place by place and as a whole: the two ways tto say 'this text is a timestamp' are one. No program in it. -/
import Derived.Deep.LoopGhost
import Derived.Laws.Cells
import Derived.Test.YtkmgildnhnjepaaGreatDoorTM09
import Derived.Deep.QuietTactic
import Derived.BigQuiet
import Derived.Lib.Strings
import Derived.Test.YtkmgildnhnjepaaGreatDoorTM01
import Derived.Test.YtkmgildnhnjepaaGreatDoorTM06
import Derived.Test.YtkmgildnhnjepaaGreatDoorTM03
namespace Go.Proofs.YtkmgildnhnjepaaGreatDoor
set_option linter.unusedVariables false
set_option linter.unusedSimpArgs false
open Go.RowKit
/-- is one of this name among them? -/
def hasZ (l : List ZonD) (nm : ByteArray) : Bool := l.any fun z => z.nm.toList == nm.toList
def hasL (l : List LinD) (nm : ByteArray) : Bool := l.any fun z => z.nm.toList == nm.toList
theorem any_take {α : Type} {p : α → Bool} {l : List α} {k : Nat} {x : α} (hx : l[k]? = some x) : (l.take (k + 1)).any p = ((l.take k).any p || p x) := by
  have hk : k < l.length := (List.getElem?_eq_some_iff.1 hx).1
  have e : l[k] = x := (List.getElem?_eq_some_iff.1 hx).2
  rw [List.take_succ_eq_append_getElem hk, List.any_append, e]; simp
theorem any_hit {α : Type} {p : α → Bool} {l : List α} {k : Nat} {x : α} (hx : l[k]? = some x) (h : p x = true) : l.any p = true :=
  List.any_eq_true.2 ⟨x, List.mem_of_getElem? hx, h⟩
theorem Row.two {α : Type} {w W : World} {e : α → List Value} {A : Option Addr} {l : List α} {i : Nat} {x : α} {v0 v1 : Value} (h : Row w 2 e A l) (hx : l[i]? = some x) (he : e x = [v0, v1]) (g : Gr w W) :
    ∃ b off, A = some ⟨b, off, none⟩ ∧ W.cell? ⟨b, off + i * 2, none⟩ = some v0 ∧ W.cell? ⟨b, off + i * 2 + 1, none⟩ = some v1 := by
  obtain ⟨b, off, rfl, hb, hc⟩ := h i x hx
  rw [he] at hc
  exact ⟨b, off, rfl, g.holds (hc 0 v0 rfl), g.holds (hc 1 v1 rfl)⟩
theorem Row.five {α : Type} {w W : World} {e : α → List Value} {A : Option Addr} {l : List α} {i : Nat} {x : α} {v0 v1 v2 v3 v4 : Value} (h : Row w 5 e A l) (hx : l[i]? = some x) (he : e x = [v0, v1, v2, v3, v4]) (g : Gr w W) :
    ∃ b off, A = some ⟨b, off, none⟩ ∧ W.cell? ⟨b, off + i * 5, none⟩ = some v0 ∧ W.cell? ⟨b, off + i * 5 + 1, none⟩ = some v1 ∧ W.cell? ⟨b, off + i * 5 + 2, none⟩ = some v2 ∧ W.cell? ⟨b, off + i * 5 + 3, none⟩ = some v3 ∧ W.cell? ⟨b, off + i * 5 + 4, none⟩ = some v4 := by
  obtain ⟨b, off, rfl, hb, hc⟩ := h i x hx
  rw [he] at hc
  exact ⟨b, off, rfl, g.holds (hc 0 v0 rfl), g.holds (hc 1 v1 rfl), g.holds (hc 2 v2 rfl), g.holds (hc 3 v3 rfl), g.holds (hc 4 v4 rfl)⟩
theorem Row.eleven {α : Type} {w W : World} {e : α → List Value} {A : Option Addr} {l : List α} {i : Nat} {x : α} {v0 v1 v2 v3 v4 v5 v6 v7 v8 v9 v10 : Value} (h : Row w 11 e A l) (hx : l[i]? = some x) (he : e x = [v0, v1, v2, v3, v4, v5, v6, v7, v8, v9, v10]) (g : Gr w W) :
    ∃ b off, A = some ⟨b, off, none⟩ ∧ W.cell? ⟨b, off + i * 11, none⟩ = some v0 ∧ W.cell? ⟨b, off + i * 11 + 1, none⟩ = some v1 ∧ W.cell? ⟨b, off + i * 11 + 2, none⟩ = some v2 ∧ W.cell? ⟨b, off + i * 11 + 3, none⟩ = some v3 ∧ W.cell? ⟨b, off + i * 11 + 4, none⟩ = some v4 ∧ W.cell? ⟨b, off + i * 11 + 5, none⟩ = some v5 ∧ W.cell? ⟨b, off + i * 11 + 6, none⟩ = some v6 ∧ W.cell? ⟨b, off + i * 11 + 7, none⟩ = some v7 ∧ W.cell? ⟨b, off + i * 11 + 8, none⟩ = some v8 ∧ W.cell? ⟨b, off + i * 11 + 9, none⟩ = some v9 ∧ W.cell? ⟨b, off + i * 11 + 10, none⟩ = some v10 := by
  obtain ⟨b, off, rfl, hb, hc⟩ := h i x hx
  rw [he] at hc
  exact ⟨b, off, rfl, g.holds (hc 0 v0 rfl), g.holds (hc 1 v1 rfl), g.holds (hc 2 v2 rfl), g.holds (hc 3 v3 rfl), g.holds (hc 4 v4 rfl), g.holds (hc 5 v5 rfl), g.holds (hc 6 v6 rfl), g.holds (hc 7 v7 rfl), g.holds (hc 8 v8 rfl), g.holds (hc 9 v9 rfl), g.holds (hc 10 v10 rfl)⟩

/-- a number that tells whether -/
def Tells01 (b : Bool) (w : World) (e : Ending) (w' : World) : Prop := ∃ n : Int, e = .returned (.int .i64 n) ∧ (b = true → 0 ≤ n) ∧ (b = false → n = -1) ∧ Gr w w'

set_option maxHeartbeats 4000000 in
theorem rzoneAt (A : Option Addr) (c : Nat) (l : List ZonD) (nm : ByteArray) (w : World) (hl : l.length ≤ maxLen) (h : Row w 2 ZonD.cells A l) :
    Calls Tryz.prog 55 #[.slice A l.length c, .string nm] w (Tells01 (hasZ l nm) w) := by
  have H := Lib.hid h
  unfold maxLen at hl
  clear h
  go_enter Tryz.func55, Tryz.ntmps55
  go_wp2_with fail
  go_loopw [9] (fun i W => ∃ k : Nat, k ≤ l.length ∧ i = .int .i64 k ∧ Hid (hasZ (l.take k) nm = false) ∧ Hid (Gr w W)) (fun i W => l.length - (intOf i).toNat)
  case atStart => exact ⟨0, Nat.zero_le _, rfl, rfl, Gr.refl _⟩
  case round =>
    obtain ⟨k, hk, rfl, hf, hg⟩ := hrel
    by_cases hlt : k < l.length
    · obtain ⟨⟨znm, zA, zc, ze⟩, hz⟩ := get_lt hlt
      obtain ⟨b, off, rfl, c0, c1⟩ := H.out.two hz rfl hg.out
      have HT : Hid (hasZ (l.take (k + 1)) nm = (hasZ (l.take k) nm || (znm.toList == nm.toList))) := any_take hz
      have HH : Hid ((znm.toList == nm.toList) = true → hasZ l nm = true) := fun q => any_hit hz q
      clear hz H
      obtain ⟨q, eq⟩ : ∃ q, (znm.toList == nm.toList) = q := ⟨_, rfl⟩
      rw [eq] at HT HH
      cases q with
      | true =>
        have HA := Lib.hid (HH.out rfl)
        clear HH HT hf
        go_wp2_with fail
        go_ret
        exact ⟨k, rfl, fun _ => by omega, (fun q => by rw [HA.out] at q; cases q), hg.out.alloc' _⟩
      | false =>
        clear HH
        go_wp2_with fail
        go_roundw
        case rel => exact ⟨k + 1, by omega, by go_num, by unfold Hid; rw [HT.out, hf.out]; rfl, hg.out.alloc' _⟩
        case measure => simp [intOf]; omega
    · have e : k = l.length := by omega
      have HA : Hid (hasZ l nm = false) := by unfold Hid; have := hf.out; rw [e, List.take_length] at this; exact this
      clear e hf H
      go_wp2_with fail
      go_ret
      exact ⟨-1, rfl, (fun q => by rw [HA.out] at q; cases q), fun _ => rfl, hg.out⟩

set_option maxHeartbeats 4000000 in
theorem rlinkAt (A : Option Addr) (c : Nat) (l : List LinD) (nm : ByteArray) (w : World) (hl : l.length ≤ maxLen) (h : Row w 2 LinD.cells A l) :
    Calls Tryz.prog 56 #[.slice A l.length c, .string nm] w (Tells01 (hasL l nm) w) := by
  have H := Lib.hid h
  unfold maxLen at hl
  clear h
  go_enter Tryz.func56, Tryz.ntmps56
  go_wp2_with fail
  go_loopw [9] (fun i W => ∃ k : Nat, k ≤ l.length ∧ i = .int .i64 k ∧ Hid (hasL (l.take k) nm = false) ∧ Hid (Gr w W)) (fun i W => l.length - (intOf i).toNat)
  case atStart => exact ⟨0, Nat.zero_le _, rfl, rfl, Gr.refl _⟩
  case round =>
    obtain ⟨k, hk, rfl, hf, hg⟩ := hrel
    by_cases hlt : k < l.length
    · obtain ⟨⟨znm, zt⟩, hz⟩ := get_lt hlt
      obtain ⟨b, off, rfl, c0, c1⟩ := H.out.two hz rfl hg.out
      have HT : Hid (hasL (l.take (k + 1)) nm = (hasL (l.take k) nm || (znm.toList == nm.toList))) := any_take hz
      have HH : Hid ((znm.toList == nm.toList) = true → hasL l nm = true) := fun q => any_hit hz q
      clear hz H
      obtain ⟨q, eq⟩ : ∃ q, (znm.toList == nm.toList) = q := ⟨_, rfl⟩
      rw [eq] at HT HH
      cases q with
      | true =>
        have HA := Lib.hid (HH.out rfl)
        clear HH HT hf
        go_wp2_with fail
        go_ret
        exact ⟨k, rfl, fun _ => by omega, (fun q => by rw [HA.out] at q; cases q), hg.out.alloc' _⟩
      | false =>
        clear HH
        go_wp2_with fail
        go_roundw
        case rel => exact ⟨k + 1, by omega, by go_num, by unfold Hid; rw [HT.out, hf.out]; rfl, hg.out.alloc' _⟩
        case measure => simp [intOf]; omega
    · have e : k = l.length := by omega
      have HA : Hid (hasL l nm = false) := by unfold Hid; have := hf.out; rw [e, List.take_length] at this; exact this
      clear e hf H
      go_wp2_with fail
      go_ret
      exact ⟨-1, rfl, (fun q => by rw [HA.out] at q; cases q), fun _ => rfl, hg.out⟩
end Go.Proofs.YtkmgildnhnjepaaGreatDoor
namespace Go.Proofs.YtkmgildnhnjepaaGreatDoor
set_option linter.unusedVariables false
set_option linter.unusedSimpArgs false
open Go.RowKit
/-- is a rule of this name among them? -/
def hasR (l : List RuD) (nm : ByteArray) : Bool := l.any fun z => z.nm.toList == nm.toList

theorem clo_z1 (z : ZonD) (nm : ByteArray) (B : Nat) (w : World) (hc : w.cell? ⟨B, 0, none⟩ = some (.string nm)) :
    Calls Tryz.prog 103 #[.agg #[.string z.nm, .slice z.A z.eras.length z.c], .pointer (some ⟨B, 0, none⟩)] w fun e w' => e = .returned (.bool (z.nm.toList == nm.toList)) ∧ Gr w w' := by
  obtain ⟨znm, zA, zc, ze⟩ := z
  obtain ⟨q, eq⟩ : ∃ q, (znm.toList == nm.toList) = q := ⟨_, rfl⟩
  have hb := World.block_lt_of_cell? w ⟨B, 0, none⟩ hc
  have hb' : B < w.heap.size := hb
  have hne : ¬ B = w.heap.size := by omega
  clear hb
  show Calls _ _ _ _ fun e w' => e = .returned (.bool (znm.toList == nm.toList)) ∧ Gr w w'
  rw [eq]
  cases q
  all_goals
    go_enter Tryz.func103, Tryz.ntmps103
    go_wp2
    go_ret
    exact ⟨rfl, Gr.alloc _ _⟩

set_option maxHeartbeats 4000000 in
theorem idx_z1 (A : Option Addr) (n c : Nat) (l : List ZonD) (nm : ByteArray) (B : Nat) (w : World) (hn : l.length = n) (hl : n ≤ maxLen) (h : Row w 2 ZonD.cells A l) (hc : w.cell? ⟨B, 0, none⟩ = some (.string nm)) :
    Calls Tryz.prog 126 #[.slice A n c, .func (.func 103) #[] #[.pointer (some ⟨B, 0, none⟩)]] w (Tells01 (hasZ l nm) w) := by
  have H := Lib.hid h
  have HC := Lib.hid hc
  unfold maxLen at hl
  have HN := Lib.hid hn
  clear h hc hn
  go_enter Tryz.func126, Tryz.ntmps126
  go_wp2_with fail
  go_loopw [8] (fun i W => ∃ k : Nat, k ≤ n ∧ i = .int .i64 k ∧ Hid (hasZ (l.take k) nm = false) ∧ Hid (Gr w W)) (fun i W => n - (intOf i).toNat)
  case atStart => exact ⟨0, Nat.zero_le _, rfl, rfl, Gr.refl _⟩
  case round =>
    obtain ⟨k, hk, rfl, hf, hg⟩ := hrel
    by_cases hlt : k < n
    · obtain ⟨z, hz⟩ := get_lt (show k < l.length by rw [HN.out]; exact hlt)
      have KK := Lib.hid (fun W h => clo_z1 z nm B W h)
      have HT : Hid (hasZ (l.take (k + 1)) nm = (hasZ (l.take k) nm || (z.nm.toList == nm.toList))) := any_take hz
      have HH : Hid ((z.nm.toList == nm.toList) = true → hasZ l nm = true) := fun q => any_hit hz q
      obtain ⟨znm, zA, zc, ze⟩ := z
      obtain ⟨b, off, rfl, c0, c1⟩ := H.out.two hz rfl hg.out
      clear hz H
      obtain ⟨q, eq⟩ : ∃ q, (znm.toList == nm.toList) = q := ⟨_, rfl⟩
      have EQ := Lib.hid eq
      simp only [eq] at HT HH KK
      clear eq
      cases q with
      | true =>
        have HA := Lib.hid (HH.out rfl)
        clear HH HT hf
        go_wp2_with fail
        refine (KK.out wr (hg.out.holds HC.out)).mono ?_
        rintro e w2 ⟨rfl, g2⟩
        go_wp2_with fail
        go_ret
        exact ⟨k, rfl, fun _ => by omega, (fun q => by rw [HA.out] at q; cases q), hg.out.trans g2⟩
      | false =>
        clear HH
        go_wp2_with fail
        refine (KK.out wr (hg.out.holds HC.out)).mono ?_
        rintro e w2 ⟨rfl, g2⟩
        go_wp2_with fail
        go_roundw
        case rel => exact ⟨k + 1, by omega, by go_num, by unfold Hid; rw [HT.out, hf.out]; rfl, hg.out.trans g2⟩
        case measure => simp [intOf]; omega
    · have e : k = l.length := by rw [HN.out]; omega
      have HA : Hid (hasZ l nm = false) := by unfold Hid; have := hf.out; rw [e, List.take_length] at this; exact this
      clear e hf H
      go_wp2_with fail
      go_ret
      exact ⟨-1, rfl, (fun q => by rw [HA.out] at q; cases q), fun _ => rfl, hg.out⟩

theorem con_z1 (A : Option Addr) (n c : Nat) (l : List ZonD) (nm : ByteArray) (B : Nat) (w : World) (hn : l.length = n) (hl : n ≤ maxLen) (h : Row w 2 ZonD.cells A l) (hc : w.cell? ⟨B, 0, none⟩ = some (.string nm)) :
    Calls Tryz.prog 104 #[.slice A n c, .func (.func 103) #[] #[.pointer (some ⟨B, 0, none⟩)]] w fun e w' => e = .returned (.bool (hasZ l nm)) ∧ Gr w w' := by
  have K := Lib.hid (idx_z1 A n c l nm B w hn hl h hc)
  clear hn hl h hc
  generalize hasZ l nm = q at K ⊢
  go_enter Tryz.func104, Tryz.ntmps104
  go_wp2_with fail
  refine K.out.mono ?_
  rintro e w1 ⟨m, rfl, h1, h2, g1⟩
  cases q with
  | true =>
    have h0 := h1 rfl
    have h0' : decide (0 ≤ m) = true := decide_eq_true h0
    clear h1 h2
    go_wp2
    go_ret
    exact ⟨rfl, g1⟩
  | false =>
    obtain rfl := h2 rfl
    clear h1 h2
    go_wp2
    go_ret
    exact ⟨rfl, g1⟩

theorem clo_z2 (z : ZonD) (nm : ByteArray) (B : Nat) (w : World) (hc : w.cell? ⟨B, 0, none⟩ = some (.string nm)) :
    Calls Tryz.prog 108 #[.agg #[.string z.nm, .slice z.A z.eras.length z.c], .pointer (some ⟨B, 0, none⟩)] w fun e w' => e = .returned (.bool (z.nm.toList == nm.toList)) ∧ Gr w w' := by
  obtain ⟨znm, zA, zc, ze⟩ := z
  obtain ⟨q, eq⟩ : ∃ q, (znm.toList == nm.toList) = q := ⟨_, rfl⟩
  have hb := World.block_lt_of_cell? w ⟨B, 0, none⟩ hc
  have hb' : B < w.heap.size := hb
  have hne : ¬ B = w.heap.size := by omega
  clear hb
  show Calls _ _ _ _ fun e w' => e = .returned (.bool (znm.toList == nm.toList)) ∧ Gr w w'
  rw [eq]
  cases q
  all_goals
    go_enter Tryz.func108, Tryz.ntmps108
    go_wp2
    go_ret
    exact ⟨rfl, Gr.alloc _ _⟩

set_option maxHeartbeats 4000000 in
theorem idx_z2 (A : Option Addr) (n c : Nat) (l : List ZonD) (nm : ByteArray) (B : Nat) (w : World) (hn : l.length = n) (hl : n ≤ maxLen) (h : Row w 2 ZonD.cells A l) (hc : w.cell? ⟨B, 0, none⟩ = some (.string nm)) :
    Calls Tryz.prog 126 #[.slice A n c, .func (.func 108) #[] #[.pointer (some ⟨B, 0, none⟩)]] w (Tells01 (hasZ l nm) w) := by
  have H := Lib.hid h
  have HC := Lib.hid hc
  unfold maxLen at hl
  have HN := Lib.hid hn
  clear h hc hn
  go_enter Tryz.func126, Tryz.ntmps126
  go_wp2_with fail
  go_loopw [8] (fun i W => ∃ k : Nat, k ≤ n ∧ i = .int .i64 k ∧ Hid (hasZ (l.take k) nm = false) ∧ Hid (Gr w W)) (fun i W => n - (intOf i).toNat)
  case atStart => exact ⟨0, Nat.zero_le _, rfl, rfl, Gr.refl _⟩
  case round =>
    obtain ⟨k, hk, rfl, hf, hg⟩ := hrel
    by_cases hlt : k < n
    · obtain ⟨z, hz⟩ := get_lt (show k < l.length by rw [HN.out]; exact hlt)
      have KK := Lib.hid (fun W h => clo_z2 z nm B W h)
      have HT : Hid (hasZ (l.take (k + 1)) nm = (hasZ (l.take k) nm || (z.nm.toList == nm.toList))) := any_take hz
      have HH : Hid ((z.nm.toList == nm.toList) = true → hasZ l nm = true) := fun q => any_hit hz q
      obtain ⟨znm, zA, zc, ze⟩ := z
      obtain ⟨b, off, rfl, c0, c1⟩ := H.out.two hz rfl hg.out
      clear hz H
      obtain ⟨q, eq⟩ : ∃ q, (znm.toList == nm.toList) = q := ⟨_, rfl⟩
      have EQ := Lib.hid eq
      simp only [eq] at HT HH KK
      clear eq
      cases q with
      | true =>
        have HA := Lib.hid (HH.out rfl)
        clear HH HT hf
        go_wp2_with fail
        refine (KK.out wr (hg.out.holds HC.out)).mono ?_
        rintro e w2 ⟨rfl, g2⟩
        go_wp2_with fail
        go_ret
        exact ⟨k, rfl, fun _ => by omega, (fun q => by rw [HA.out] at q; cases q), hg.out.trans g2⟩
      | false =>
        clear HH
        go_wp2_with fail
        refine (KK.out wr (hg.out.holds HC.out)).mono ?_
        rintro e w2 ⟨rfl, g2⟩
        go_wp2_with fail
        go_roundw
        case rel => exact ⟨k + 1, by omega, by go_num, by unfold Hid; rw [HT.out, hf.out]; rfl, hg.out.trans g2⟩
        case measure => simp [intOf]; omega
    · have e : k = l.length := by rw [HN.out]; omega
      have HA : Hid (hasZ l nm = false) := by unfold Hid; have := hf.out; rw [e, List.take_length] at this; exact this
      clear e hf H
      go_wp2_with fail
      go_ret
      exact ⟨-1, rfl, (fun q => by rw [HA.out] at q; cases q), fun _ => rfl, hg.out⟩

theorem con_z2 (A : Option Addr) (n c : Nat) (l : List ZonD) (nm : ByteArray) (B : Nat) (w : World) (hn : l.length = n) (hl : n ≤ maxLen) (h : Row w 2 ZonD.cells A l) (hc : w.cell? ⟨B, 0, none⟩ = some (.string nm)) :
    Calls Tryz.prog 104 #[.slice A n c, .func (.func 108) #[] #[.pointer (some ⟨B, 0, none⟩)]] w fun e w' => e = .returned (.bool (hasZ l nm)) ∧ Gr w w' := by
  have K := Lib.hid (idx_z2 A n c l nm B w hn hl h hc)
  clear hn hl h hc
  generalize hasZ l nm = q at K ⊢
  go_enter Tryz.func104, Tryz.ntmps104
  go_wp2_with fail
  refine K.out.mono ?_
  rintro e w1 ⟨m, rfl, h1, h2, g1⟩
  cases q with
  | true =>
    have h0 := h1 rfl
    have h0' : decide (0 ≤ m) = true := decide_eq_true h0
    clear h1 h2
    go_wp2
    go_ret
    exact ⟨rfl, g1⟩
  | false =>
    obtain rfl := h2 rfl
    clear h1 h2
    go_wp2
    go_ret
    exact ⟨rfl, g1⟩

theorem clo_l1 (z : LinD) (nm : ByteArray) (B : Nat) (w : World) (hc : w.cell? ⟨B, 0, none⟩ = some (.string nm)) :
    Calls Tryz.prog 110 #[.agg #[.string z.nm, .string z.to'], .pointer (some ⟨B, 0, none⟩)] w fun e w' => e = .returned (.bool (z.nm.toList == nm.toList)) ∧ Gr w w' := by
  obtain ⟨znm, zt⟩ := z
  obtain ⟨q, eq⟩ : ∃ q, (znm.toList == nm.toList) = q := ⟨_, rfl⟩
  have hb := World.block_lt_of_cell? w ⟨B, 0, none⟩ hc
  have hb' : B < w.heap.size := hb
  have hne : ¬ B = w.heap.size := by omega
  clear hb
  show Calls _ _ _ _ fun e w' => e = .returned (.bool (znm.toList == nm.toList)) ∧ Gr w w'
  rw [eq]
  cases q
  all_goals
    go_enter Tryz.func110, Tryz.ntmps110
    go_wp2
    go_ret
    exact ⟨rfl, Gr.alloc _ _⟩

set_option maxHeartbeats 4000000 in
theorem idx_l1 (A : Option Addr) (n c : Nat) (l : List LinD) (nm : ByteArray) (B : Nat) (w : World) (hn : l.length = n) (hl : n ≤ maxLen) (h : Row w 2 LinD.cells A l) (hc : w.cell? ⟨B, 0, none⟩ = some (.string nm)) :
    Calls Tryz.prog 128 #[.slice A n c, .func (.func 110) #[] #[.pointer (some ⟨B, 0, none⟩)]] w (Tells01 (hasL l nm) w) := by
  have H := Lib.hid h
  have HC := Lib.hid hc
  unfold maxLen at hl
  have HN := Lib.hid hn
  clear h hc hn
  go_enter Tryz.func128, Tryz.ntmps128
  go_wp2_with fail
  go_loopw [8] (fun i W => ∃ k : Nat, k ≤ n ∧ i = .int .i64 k ∧ Hid (hasL (l.take k) nm = false) ∧ Hid (Gr w W)) (fun i W => n - (intOf i).toNat)
  case atStart => exact ⟨0, Nat.zero_le _, rfl, rfl, Gr.refl _⟩
  case round =>
    obtain ⟨k, hk, rfl, hf, hg⟩ := hrel
    by_cases hlt : k < n
    · obtain ⟨z, hz⟩ := get_lt (show k < l.length by rw [HN.out]; exact hlt)
      have KK := Lib.hid (fun W h => clo_l1 z nm B W h)
      have HT : Hid (hasL (l.take (k + 1)) nm = (hasL (l.take k) nm || (z.nm.toList == nm.toList))) := any_take hz
      have HH : Hid ((z.nm.toList == nm.toList) = true → hasL l nm = true) := fun q => any_hit hz q
      obtain ⟨znm, zt⟩ := z
      obtain ⟨b, off, rfl, c0, c1⟩ := H.out.two hz rfl hg.out
      clear hz H
      obtain ⟨q, eq⟩ : ∃ q, (znm.toList == nm.toList) = q := ⟨_, rfl⟩
      have EQ := Lib.hid eq
      simp only [eq] at HT HH KK
      clear eq
      cases q with
      | true =>
        have HA := Lib.hid (HH.out rfl)
        clear HH HT hf
        go_wp2_with fail
        refine (KK.out wr (hg.out.holds HC.out)).mono ?_
        rintro e w2 ⟨rfl, g2⟩
        go_wp2_with fail
        go_ret
        exact ⟨k, rfl, fun _ => by omega, (fun q => by rw [HA.out] at q; cases q), hg.out.trans g2⟩
      | false =>
        clear HH
        go_wp2_with fail
        refine (KK.out wr (hg.out.holds HC.out)).mono ?_
        rintro e w2 ⟨rfl, g2⟩
        go_wp2_with fail
        go_roundw
        case rel => exact ⟨k + 1, by omega, by go_num, by unfold Hid; rw [HT.out, hf.out]; rfl, hg.out.trans g2⟩
        case measure => simp [intOf]; omega
    · have e : k = l.length := by rw [HN.out]; omega
      have HA : Hid (hasL l nm = false) := by unfold Hid; have := hf.out; rw [e, List.take_length] at this; exact this
      clear e hf H
      go_wp2_with fail
      go_ret
      exact ⟨-1, rfl, (fun q => by rw [HA.out] at q; cases q), fun _ => rfl, hg.out⟩

theorem con_l1 (A : Option Addr) (n c : Nat) (l : List LinD) (nm : ByteArray) (B : Nat) (w : World) (hn : l.length = n) (hl : n ≤ maxLen) (h : Row w 2 LinD.cells A l) (hc : w.cell? ⟨B, 0, none⟩ = some (.string nm)) :
    Calls Tryz.prog 109 #[.slice A n c, .func (.func 110) #[] #[.pointer (some ⟨B, 0, none⟩)]] w fun e w' => e = .returned (.bool (hasL l nm)) ∧ Gr w w' := by
  have K := Lib.hid (idx_l1 A n c l nm B w hn hl h hc)
  clear hn hl h hc
  generalize hasL l nm = q at K ⊢
  go_enter Tryz.func109, Tryz.ntmps109
  go_wp2_with fail
  refine K.out.mono ?_
  rintro e w1 ⟨m, rfl, h1, h2, g1⟩
  cases q with
  | true =>
    have h0 := h1 rfl
    have h0' : decide (0 ≤ m) = true := decide_eq_true h0
    clear h1 h2
    go_wp2
    go_ret
    exact ⟨rfl, g1⟩
  | false =>
    obtain rfl := h2 rfl
    clear h1 h2
    go_wp2
    go_ret
    exact ⟨rfl, g1⟩

theorem clo_r1 (z : RuD) (nm : ByteArray) (B : Nat) (w : World) (hc : w.cell? ⟨B, 1, none⟩ = some (.string nm)) :
    Calls Tryz.prog 143 #[ruleV z.nm z.fr z.tt z.mo z.k z.d z.n z.at' z.by' z.sv z.lt, .pointer (some ⟨B, 0, none⟩)] w fun e w' => e = .returned (.bool (z.nm.toList == nm.toList)) ∧ Gr w w' := by
  obtain ⟨znm, fr, tt, mo, zk, d, n, at', by', sv, lt⟩ := z
  obtain ⟨q, eq⟩ : ∃ q, (znm.toList == nm.toList) = q := ⟨_, rfl⟩
  have hb := World.block_lt_of_cell? w ⟨B, 1, none⟩ hc
  have hb' : B < w.heap.size := hb
  have hne : ¬ B = w.heap.size := by omega
  clear hb
  show Calls _ _ _ _ fun e w' => e = .returned (.bool (znm.toList == nm.toList)) ∧ Gr w w'
  rw [eq]
  cases q
  all_goals
    go_enter Tryz.func143, Tryz.ntmps143
    go_wp2
    go_ret
    exact ⟨rfl, Gr.alloc _ _⟩

set_option maxHeartbeats 4000000 in
theorem idx_r1 (A : Option Addr) (n c : Nat) (l : List RuD) (nm : ByteArray) (B : Nat) (w : World) (hn : l.length = n) (hl : n ≤ maxLen) (h : Row w 11 RuD.cells A l) (hc : w.cell? ⟨B, 1, none⟩ = some (.string nm)) :
    Calls Tryz.prog 159 #[.slice A n c, .func (.func 143) #[] #[.pointer (some ⟨B, 0, none⟩)]] w (Tells01 (hasR l nm) w) := by
  have H := Lib.hid h
  have HC := Lib.hid hc
  unfold maxLen at hl
  have HN := Lib.hid hn
  clear h hc hn
  go_enter Tryz.func159, Tryz.ntmps159
  go_wp2_with fail
  go_loopw [8] (fun i W => ∃ k : Nat, k ≤ n ∧ i = .int .i64 k ∧ Hid (hasR (l.take k) nm = false) ∧ Hid (Gr w W)) (fun i W => n - (intOf i).toNat)
  case atStart => exact ⟨0, Nat.zero_le _, rfl, rfl, Gr.refl _⟩
  case round =>
    obtain ⟨k, hk, rfl, hf, hg⟩ := hrel
    by_cases hlt : k < n
    · obtain ⟨z, hz⟩ := get_lt (show k < l.length by rw [HN.out]; exact hlt)
      have KK := Lib.hid (fun W h => clo_r1 z nm B W h)
      have HT : Hid (hasR (l.take (k + 1)) nm = (hasR (l.take k) nm || (z.nm.toList == nm.toList))) := any_take hz
      have HH : Hid ((z.nm.toList == nm.toList) = true → hasR l nm = true) := fun q => any_hit hz q
      obtain ⟨znm, fr, tt, mo, zk, d, n, at', by', sv, lt⟩ := z
      obtain ⟨b, off, rfl, c0, c1, c2, c3, c4, c5, c6, c7, c8, c9, c10⟩ := H.out.eleven hz rfl hg.out
      clear hz H
      obtain ⟨q, eq⟩ : ∃ q, (znm.toList == nm.toList) = q := ⟨_, rfl⟩
      have EQ := Lib.hid eq
      simp only [eq] at HT HH KK
      clear eq
      cases q with
      | true =>
        have HA := Lib.hid (HH.out rfl)
        clear HH HT hf
        go_wp2_with fail
        refine (KK.out wr (hg.out.holds HC.out)).mono ?_
        rintro e w2 ⟨rfl, g2⟩
        go_wp2_with fail
        go_ret
        exact ⟨k, rfl, fun _ => by omega, (fun q => by rw [HA.out] at q; cases q), hg.out.trans g2⟩
      | false =>
        clear HH
        go_wp2_with fail
        refine (KK.out wr (hg.out.holds HC.out)).mono ?_
        rintro e w2 ⟨rfl, g2⟩
        go_wp2_with fail
        go_roundw
        case rel => exact ⟨k + 1, by omega, by go_num, by unfold Hid; rw [HT.out, hf.out]; rfl, hg.out.trans g2⟩
        case measure => simp [intOf]; omega
    · have e : k = l.length := by rw [HN.out]; omega
      have HA : Hid (hasR l nm = false) := by unfold Hid; have := hf.out; rw [e, List.take_length] at this; exact this
      clear e hf H
      go_wp2_with fail
      go_ret
      exact ⟨-1, rfl, (fun q => by rw [HA.out] at q; cases q), fun _ => rfl, hg.out⟩

theorem con_r1 (A : Option Addr) (n c : Nat) (l : List RuD) (nm : ByteArray) (B : Nat) (w : World) (hn : l.length = n) (hl : n ≤ maxLen) (h : Row w 11 RuD.cells A l) (hc : w.cell? ⟨B, 1, none⟩ = some (.string nm)) :
    Calls Tryz.prog 144 #[.slice A n c, .func (.func 143) #[] #[.pointer (some ⟨B, 0, none⟩)]] w fun e w' => e = .returned (.bool (hasR l nm)) ∧ Gr w w' := by
  have K := Lib.hid (idx_r1 A n c l nm B w hn hl h hc)
  clear hn hl h hc
  generalize hasR l nm = q at K ⊢
  go_enter Tryz.func144, Tryz.ntmps144
  go_wp2_with fail
  refine K.out.mono ?_
  rintro e w1 ⟨m, rfl, h1, h2, g1⟩
  cases q with
  | true =>
    have h0 := h1 rfl
    have h0' : decide (0 ≤ m) = true := decide_eq_true h0
    clear h1 h2
    go_wp2
    go_ret
    exact ⟨rfl, g1⟩
  | false =>
    obtain rfl := h2 rfl
    clear h1 h2
    go_wp2
    go_ret
    exact ⟨rfl, g1⟩

end Go.Proofs.YtkmgildnhnjepaaGreatDoor
namespace Go.Proofs.YtkmgildnhnjepaaGreatDoor
set_option linter.unusedVariables false
set_option linter.unusedSimpArgs false
open Go.RowKit
/-- the form of a timestamp -/
def stampForm : List UInt8 := [48, 48, 48, 48, 45, 48, 48, 45, 48, 48, 84, 48, 48, 58, 48, 48, 58, 48, 48]
/-- does the text fit the form at this place? -/
def fits (l : List UInt8) (k : Nat) : Prop := if bt stampForm k = 48 then 48 ≤ bt l k ∧ bt l k ≤ 57 else bt l k = bt stampForm k

end Go.Proofs.YtkmgildnhnjepaaGreatDoor
namespace Go.Proofs.YtkmgildnhnjepaaGreatDoor
set_option linter.unusedVariables false
set_option linter.unusedSimpArgs false
theorem at2 (c0 c1 c2 c3 c4 c5 c6 c7 c8 c9 c10 c11 c12 c13 c14 c15 c16 c17 c18 : UInt8) : fits [c0, c1, c2, c3, c4, c5, c6, c7, c8, c9, c10, c11, c12, c13, c14, c15, c16, c17, c18] 2 ↔ (48 ≤ (c2.toNat : Int) ∧ (c2.toNat : Int) ≤ 57) := by simp [fits, bt, stampForm]
end Go.Proofs.YtkmgildnhnjepaaGreatDoor
