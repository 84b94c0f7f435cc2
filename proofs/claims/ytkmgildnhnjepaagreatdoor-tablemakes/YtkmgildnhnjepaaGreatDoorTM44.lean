/- The project's addEra: the types that apply in a part of an era. -/
import Derived.Test.YtkmgildnhnjepaaGreatDoorTM40
import Derived.Test.YtkmgildnhnjepaaGreatDoorTM43
import Derived.Test.YtkmgildnhnjepaaGreatDoorTM38
import Derived.Test.YtkmgildnhnjepaaGreatDoorTM36
import Derived.Test.YtkmgildnhnjepaaGreatDoorTM19
namespace Go.Proofs.YtkmgildnhnjepaaGreatDoor
set_option linter.unusedVariables false
set_option linter.unusedSimpArgs false
open Go.RowKit
/-- the builder behind the first k transitions of an era's part -/
def eraW (e : EraD) (L : List TurD) (F T : Int) (s : PS) (k : Nat) : PS := (L.take k).foldl (fun s u => if F < u.at' ∧ u.at' < T then s.put u.at' (typP e (u.sv, u.lt)) else s) (s.put F (typE e L F))
theorem eraW_zero (e : EraD) (L : List TurD) (F T : Int) (s : PS) : eraW e L F T s 0 = s.put F (typE e L F) := rfl
theorem eraW_succ {e : EraD} {L : List TurD} {F T : Int} {s : PS} {k : Nat} {u : TurD} (h : L[k]? = some u) : eraW e L F T s (k + 1) = if F < u.at' ∧ u.at' < T then (eraW e L F T s k).put u.at' (typP e (u.sv, u.lt)) else eraW e L F T s k := by
  unfold eraW
  rw [take_more h, List.foldl_append]; rfl
theorem eraW_len (e : EraD) (L : List TurD) (F T : Int) (s : PS) (k : Nat) : (eraW e L F T s k).ty.length ≤ s.ty.length + 1 + L.length ∧ (eraW e L F T s k).ch.length ≤ s.ch.length + 1 + L.length := by
  have key : ∀ (l : List TurD) (s : PS), (l.foldl (fun s u => if F < u.at' ∧ u.at' < T then s.put u.at' (typP e (u.sv, u.lt)) else s) s).ty.length ≤ s.ty.length + l.length ∧ (l.foldl (fun s u => if F < u.at' ∧ u.at' < T then s.put u.at' (typP e (u.sv, u.lt)) else s) s).ch.length ≤ s.ch.length + l.length := fun l => by
    induction l with
    | nil => intro s; simp
    | cons u l ih =>
      intro s
      have h := ih (if F < u.at' ∧ u.at' < T then s.put u.at' (typP e (u.sv, u.lt)) else s)
      have p := put_len s u.at' (typP e (u.sv, u.lt))
      rw [List.foldl_cons]
      simp only [List.length_cons]
      split at h
      · rename_i c; rw [if_pos c]; omega
      · rename_i c; rw [if_neg c]; omega
  have h := key (L.take k) (s.put F (typE e L F))
  have p := put_len s F (typE e L F)
  have t : (L.take k).length ≤ L.length := by rw [List.length_take]; omega
  unfold eraW
  omega
/-- and behind all -/
def eraS (e : EraD) (L : List TurD) (F T : Int) (s : PS) : PS := if T ≤ F then s else eraW e L F T s L.length
theorem eraS_len (e : EraD) (L : List TurD) (F T : Int) (s : PS) : (eraS e L F T s).ty.length ≤ s.ty.length + 1 + L.length ∧ (eraS e L F T s).ch.length ≤ s.ch.length + 1 + L.length := by
  unfold eraS
  split
  · omega
  · exact eraW_len e L F T s _
/-- of an era of a zone: the times of its part -/
theorem eraS_pst {rs : List RuD} {zs : List ZonD} {ls : List LinD} {es : List EraD} {F T : Int} (h : UnOk es) {k : Nat} {e : EraD} (he : es[k]? = some e) (s : PS) :
    eraS e (eraT rs zs ls e) (rfP es F T k) (toP es T k) s = pst (locT rs zs ls es) s (pK rs zs ls es F T k) := by
  rw [pK_at he]
  unfold eraS cand1
  by_cases c : toP es T k ≤ rfP es F T k
  · rw [if_pos c, if_pos (by omega), pst_nil]
  · rw [if_neg c, if_neg (by omega), pst_cons, loc_from h he (by omega)]
    unfold eraW
    rw [List.take_length]
    have key : ∀ (l : List TurD) (s : PS), (∀ u ∈ l, u ∈ eraT rs zs ls e) → l.foldl (fun s u => if rfP es F T k < u.at' ∧ u.at' < toP es T k then s.put u.at' (typP e (u.sv, u.lt)) else s) s = pst (locT rs zs ls es) s ((l.filter fun u => decide (rfP es F T k < u.at' ∧ u.at' ≤ toP es T k - 1)).map TurD.at') := fun l => by
      induction l with
      | nil => intro s _; rfl
      | cons u l ih =>
        intro s hl
        rw [List.foldl_cons, List.filter_cons]
        by_cases q : rfP es F T k < u.at' ∧ u.at' < toP es T k
        · rw [if_pos q, if_pos (decide_eq_true (show rfP es F T k < u.at' ∧ u.at' ≤ toP es T k - 1 by omega)), List.map_cons, pst_cons, loc_turn (F := F) (T := T) h he (hl u (by simp)) (by omega) (by omega)]
          exact ih _ fun x hx => hl x (by simp [hx])
        · rw [if_neg q, if_neg (by simp only [decide_eq_true_eq]; omega)]
          exact ih _ fun x hx => hl x (by simp [hx])
    exact key _ _ fun u hu => hu
theorem abbr_le8 (f : List UInt8) (sv : Int) (lt : List UInt8) : (abbrR f sv lt).1.length ≤ 8 := by
  unfold abbrR
  cases fmtOut f sv lt with
  | none => exact Nat.zero_le _
  | some l =>
    simp only [abbrOf]
    split
    · exact Nat.zero_le _
    · split
      · exact Nat.zero_le _
      · split
        · exact Nat.zero_le _
        · show l.length ≤ 8; omega
theorem typP_in {e : EraD} {p : Int × ByteArray} (h : -64800 ≤ e.off ∧ e.off ≤ 64800) (h1 : 0 ≤ p.1) (h2 : p.1 ≤ 10800) : (typP e p).In := by
  refine ⟨?_, ?_⟩
  · show (S _).size ≤ maxLen
    rw [S_size]
    have := abbr_le8 e.fm.toList p.1 p.2.toList
    unfold maxLen; omega
  · show I64 (e.off + p.1)
    unfold I64; omega
theorem row_lt {α : Type} {w : World} {k : Nat} {en : α → List Value} {A : Option Addr} {l : List α} (h : Row w k en A l) (hl : 0 < l.length) {a : Addr} (ha : A = some a) : a.block < w.heap.size := by
  obtain ⟨x, hx⟩ := get_lt hl
  obtain ⟨b, off, e, hb, _⟩ := h 0 x hx
  rw [ha] at e
  injection e with e
  subst e
  exact hb
theorem row_kp {α : Type} {X : Nat → Prop} {w w' : World} {k : Nat} {en : α → List Value} {A : Option Addr} {l : List α} (h : Row w k en A l) (hX : ∀ a, A = some a → 0 < l.length → X a.block) (g : Kp X w w') : Row w' k en A l := fun i x hx => by
  obtain ⟨b, off, hA, hb, hc⟩ := h i x hx
  exact ⟨b, off, hA, Nat.lt_of_lt_of_le hb g.size, fun j v hv => g.holds (hX _ hA (by have := (List.getElem?_eq_some_iff.1 hx).1; omega)) (hc j v hv)⟩
theorem nm_zone : isNameB (ByteArray.toList ⟨#[90, 111, 110, 101]⟩) = true := by decide +kernel

theorem max_kp {X : Nat → Prop} {w w' : World} (g : Kp X w w') (hX : X 1) (h : HasMax w) : HasMax w' := by
  obtain ⟨m, hm⟩ := h
  exact ⟨m, g.holds hX hm⟩

/-- the book of bookOf -/
abbrev alB (Ar : Option Addr) (cr : Nat) (rs : List RuD) (q q2 : Nat) (e : EraD) : BokD := aloneB Ar cr rs q q2 ⟨#[90, 111, 110, 101]⟩ e.open_

theorem alone_ok {rs : List RuD} {zs : List ZonD} {ls : List LinD} (h0 : bokC rs zs ls = 0) {e : EraD} (ha : eraA rs e = 0) (q : Nat) : bokC rs [⟨⟨#[90, 111, 110, 101]⟩, some ⟨q, 0, none⟩, 1, [e.open_]⟩] [] = 0 :=
  bok_alone h0 (z := ⟨⟨#[90, 111, 110, 101]⟩, some ⟨q, 0, none⟩, 1, [e.open_]⟩) nm_zone rfl rfl ((eraA_open e).trans ha)

theorem alone_of (Ar : Option Addr) (cr : Nat) (rs : List RuD) (zs : List ZonD) (ls : List LinD) (e : EraD) (q q2 : Nat) (W : World) (h0 : bokC rs zs ls = 0) (ha : eraA rs e = 0) (hb : (alB Ar cr rs q q2 e).At W) (ht : BkTab W) :
    Calls Tryz.prog 51 #[.agg #[.slice Ar rs.length cr, .slice (some ⟨q2, 0, none⟩) 1 1, .slice none 0 0], .string e.ru, .int .i64 e.off] W (OfF rs zs ls e.ru e.off W) := by
  have h := tOfF (alB Ar cr rs q q2 e) e.ru e.off W hb ht
  have k := ofC_book (nm := e.ru) (off := e.off) h0 (alone_ok h0 ha q)
  have e2 : OfF rs zs ls e.ru e.off W = OfF (alB Ar cr rs q q2 e).rs (alB Ar cr rs q q2 e).zs (alB Ar cr rs q q2 e).ls e.ru e.off W := by
    unfold OfF
    rw [show ofC (alB Ar cr rs q q2 e).rs (alB Ar cr rs q q2 e).zs (alB Ar cr rs q q2 e).ls e.ru e.off = ofC rs zs ls e.ru e.off from k.1, show ofL (alB Ar cr rs q q2 e).rs (alB Ar cr rs q q2 e).zs (alB Ar cr rs q q2 e).ls e.ru e.off = ofL rs zs ls e.ru e.off from k.2]
  rw [e2]
  exact h

theorem alone_at (Ar : Option Addr) (cr : Nat) (rs : List RuD) (zs : List ZonD) (ls : List LinD) (e : EraD) (t : Int) (q q2 : Nat) (W : World) (h0 : bokC rs zs ls = 0) (ha : eraA rs e = 0) (hb : (alB Ar cr rs q q2 e).At W) (ht : BkTab W) (tt : tmB t = true) (hk : eraK rs zs ls e = 0) :
    Calls Tryz.prog 17 #[.agg #[.slice Ar rs.length cr, .slice (some ⟨q2, 0, none⟩) 1 1, .slice none 0 0], .string ⟨#[90, 111, 110, 101]⟩, .int .i64 t] W fun r w' => r = .returned (.tuple #[.agg #[.int .i64 (typE e (eraT rs zs ls e) t).off, .bool (typE e (eraT rs zs ls e) t).sv, .string (typE e (eraT rs zs ls e) t).nm], .int .i64 0]) ∧ Gr W w' := by
  have b := tmB_yes.1 tt
  have h := pAt (alB Ar cr rs q q2 e) ⟨#[90, 111, 110, 101]⟩ t W hb (by unfold maxLen; decide +kernel) (by omega) (by omega) ht
  have k := at_alone h0 (z := ⟨⟨#[90, 111, 110, 101]⟩, some ⟨q, 0, none⟩, 1, [e.open_]⟩) nm_zone rfl rfl ((eraA_open e).trans ha) t
  have o := ate_open (rs := rs) (zs := zs) (ls := ls) e t
  have c0 : ateC rs zs ls e t = 0 := by unfold ateC; rw [if_neg (by rw [tt]; decide), hk]
  have e1 : atC (alB Ar cr rs q q2 e).rs (alB Ar cr rs q q2 e).zs (alB Ar cr rs q q2 e).ls ⟨#[90, 111, 110, 101]⟩ t = 0 := (k.1.trans o.1).trans c0
  have e2 : atT (alB Ar cr rs q q2 e).rs (alB Ar cr rs q q2 e).zs (alB Ar cr rs q q2 e).ls ⟨#[90, 111, 110, 101]⟩ t = typE e (eraT rs zs ls e) t := (k.2.trans o.2).trans (by unfold ateT; rw [if_pos c0])
  refine h.mono fun r w' hr => ?_
  obtain ⟨hr, g⟩ := hr
  rw [e1, e2] at hr
  exact ⟨hr, g⟩

/-- what addEra leaves -/
def AddE (X : Nat → Prop) (pb mb : Nat) (k : Int) (s : PS) (w : World) (r : Ending) (w' : World) : Prop :=
  r = .returned (.int .i64 k) ∧ (k = 0 → ∃ vt vc, MAt 46 44 66 X pb mb w' s.ty s vt vc) ∧ Kp X w w'

set_option maxRecDepth 100000 in
set_option maxHeartbeats 40000000 in
theorem paddEra (X : Nat → Prop) (pb mb : Nat) (s : PS) (Ar : Option Addr) (cr : Nat) (rs : List RuD) (zs : List ZonD) (ls : List LinD) (e : EraD) (F T : Int) (w : World) (vt vc : Value) (hm : MAt 46 44 66 X pb mb w s.ty s vt vc) (hr : RusAt w Ar cr rs) (h0 : bokC rs zs ls = 0) (ha : eraA rs e = 0) (he : e.In) (ht : BkTab w) (hX : X 1)
    (tf : tmB F = true) (l1 : s.ty.length ≤ 99000000) (l2 : s.ch.length ≤ 99000000) :
    Calls Tryz.prog 21 #[.pointer (some ⟨pb, 0, none⟩), .slice Ar rs.length cr, .agg #[.int .i64 e.off, .string e.ru, .int .i64 e.sv, .string e.fm, .int .i64 e.un], .agg #[.int .i64 F, .int .i64 T]] w (AddE X pb mb (eraK rs zs ls e) (eraS e (eraT rs zs ls e) F T s) w) := by
  have mixed : Tryz.prog.follows .mixedOrders = true := by kernel_rfl
  have HM := Lib.hid hm
  have XL : Hid (X 1) := hX
  have MX : Hid (HasMax w) := ht.2.2
  have SL := Lib.hid (And.intro l1 l2)
  have EN := eraA_num ha
  have OI : Hid (∀ p : Int × ByteArray, 0 ≤ p.1 → p.1 ≤ 10800 → (typP e p).In) := fun p h1 h2 => typP_in EN.1 h1 h2
  have TI0 : Hid (typE e (eraT rs zs ls e) F).In := (typE_ok zs ls F ha).2
  have RI := Lib.hid (hr.2.2)
  have HAL : Hid (∀ qz q2 W, Gr w W → W.heap[qz]? = some (.cells #[.int .i64 e.off, .string e.ru, .int .i64 e.sv, .string e.fm, .int .i64 0] 59 (0, 0)) → W.heap[q2]? = some (.cells #[.string ⟨#[90, 111, 110, 101]⟩, .slice (some ⟨qz, 0, none⟩) 1 1] 57 (0, 0)) → (alB Ar cr rs qz q2 e).At W) :=
    fun qz q2 W g h1 h2 => aloneB_at (e := e.open_) ⟨hr.1, hr.2.1.gr g, hr.2.2⟩ (by unfold maxLen; decide +kernel) ⟨he.1, he.2.1, (by decide : (-9223372036854775808 : Int) ≤ 0), (by decide : (0 : Int) ≤ 9223372036854775807)⟩ h1 h2
  have KO := Lib.hid (fun qz q2 W hb (g : Gr w W) => alone_of Ar cr rs zs ls e qz q2 W h0 ha hb (g.bk ht))
  have KA0 := Lib.hid (fun hk qz q2 W hb (g : Gr w W) => alone_at Ar cr rs zs ls e F qz q2 W h0 ha hb (g.bk ht) tf hk)
  have EO1 := EN.1.1
  have EO2 := EN.1.2
  have KT := Lib.hid (fun us ua ul W hm hl s1 s2 => ptypeAfter e.off e.sv e.un ua us e.ru e.fm ul W hm hl EO1 EO2 s1 s2)
  have FI0 : Hid (∀ W s2, (F < T → eraW e (eraT rs zs ls e) F T s (eraT rs zs ls e).length = s2) → (T ≤ F → s = s2) → eraK rs zs ls e = 0 → (∃ vt vc, MAt 46 44 66 X pb mb W s2.ty s2 vt vc) → Kp X w W → AddE X pb mb (eraK rs zs ls e) (eraS e (eraT rs zs ls e) F T s) w (.returned (.int .i64 0)) W) := fun W s2 h1 h2 hk h3 h4 => by
    have hs : eraS e (eraT rs zs ls e) F T s = s2 := by
      unfold eraS
      split
      · rename_i c; exact h2 c
      · rename_i c; exact h1 (by omega)
    rw [hs, hk]
    exact ⟨rfl, fun _ => h3, h4⟩
  have FE0 : Hid (∀ W C, eraK rs zs ls e = C → C ≠ 0 → Kp X w W → AddE X pb mb (eraK rs zs ls e) (eraS e (eraT rs zs ls e) F T s) w (.returned (.int .i64 C)) W) := fun W C h1 h2 h3 => by
    rw [h1]
    exact ⟨rfl, fun h => absurd h h2, h3⟩
  clear hm hr he ht hX tf l1 l2 EN
  by_cases hru : e.ru.toList = []
  · have ET : eraT rs zs ls e = [] := by unfold eraT; rw [if_pos hru]
    have EK : eraK rs zs ls e = 0 := by unfold eraK; rw [if_pos hru]
    rw [ET] at FI0 TI0 KA0 ⊢
    have FI := Lib.hid (fun W s2 h1 h2 h3 h4 => FI0.out W s2 h1 h2 EK h3 h4)
    have KA := Lib.hid (fun qz q2 W hb g => KA0.out EK qz q2 W hb g)
    rw [EK] at FI ⊢
    obtain ⟨eo, ru, sv, fm, un⟩ := e
    obtain rfl := str_nil hru
    have TI := Lib.hid TI0.out
    clear ET EK FI0 FE0 KA0 KO KT OI RI h0 ha TI0 hru
    simp only at HAL KA ⊢
    simp only [List.length_nil] at FI
    have B0 := Lib.hid (box_two w (.cells #[.int .i64 eo, .string ⟨#[]⟩, .int .i64 sv, .string fm, .int .i64 un] 59) (.cells #[.int .i64 F, .int .i64 T] 28))
    go_enter Tryz.func21, Tryz.ntmps21
    go_wp2_with fail
    generalize (w.alloc (.cells #[.int .i64 eo, .string ⟨#[]⟩, .int .i64 sv, .string fm, .int .i64 un] 59)).alloc (.cells #[.int .i64 F, .int .i64 T] 28) = w1 at B0 ⊢
    obtain ⟨q, hq⟩ : ∃ q, w.heap.size = q := ⟨_, rfl⟩
    have QW : Hid (w.heap.size ≤ q) := Nat.le_of_eq hq
    rw [hq] at B0 ⊢
    clear hq
    have x0 : w1.cell? ⟨q, 0, none⟩ = some (.int .i64 eo) := bcell_row B0.out.2.1 rfl
    have x1 : w1.cell? ⟨q, 1, none⟩ = some (.string ⟨#[]⟩) := bcell_row B0.out.2.1 rfl
    have x2 : w1.cell? ⟨q, 2, none⟩ = some (.int .i64 sv) := bcell_row B0.out.2.1 rfl
    have x3 : w1.cell? ⟨q, 3, none⟩ = some (.string fm) := bcell_row B0.out.2.1 rfl
    have x4 : w1.cell? ⟨q, 4, none⟩ = some (.int .i64 un) := bcell_row B0.out.2.1 rfl
    go_wp2_with fail
    clear x0 x1 x2 x3 x4
    refine (pbookOf Ar cr rs ⟨eo, ⟨#[]⟩, sv, fm, un⟩ w1).mono ?_
    rintro r w2 ⟨qz, q2, rfl, h1, h2, g2⟩
    have NB := Lib.hid (box_one w2 (.cells #[.slice Ar rs.length cr, .slice (some ⟨q2, 0, none⟩) 1 1, .slice none 0 0] 26))
    have G := Lib.hid ((B0.out.1.trans g2).trans NB.out.1)
    have HE := Lib.hid (bheap_gr (g2.trans NB.out.1) B0.out.2.1)
    have HS := Lib.hid (bheap_gr (g2.trans NB.out.1) B0.out.2.2)
    have AL := Lib.hid (HAL.out qz q2 _ G.out (bheap_gr NB.out.1 h1) (bheap_gr NB.out.1 h2))
    have HB := Lib.hid NB.out.2
    clear B0 h1 h2 g2 HAL NB
    have x0 : (w2.alloc (.cells #[.slice Ar rs.length cr, .slice (some ⟨q2, 0, none⟩) 1 1, .slice none 0 0] 26)).cell? ⟨q, 0, none⟩ = some (.int .i64 eo) := bcell_row HE.out rfl
    have x1 : (w2.alloc (.cells #[.slice Ar rs.length cr, .slice (some ⟨q2, 0, none⟩) 1 1, .slice none 0 0] 26)).cell? ⟨q, 1, none⟩ = some (.string ⟨#[]⟩) := bcell_row HE.out rfl
    have x2 : (w2.alloc (.cells #[.slice Ar rs.length cr, .slice (some ⟨q2, 0, none⟩) 1 1, .slice none 0 0] 26)).cell? ⟨q, 2, none⟩ = some (.int .i64 sv) := bcell_row HE.out rfl
    have x3 : (w2.alloc (.cells #[.slice Ar rs.length cr, .slice (some ⟨q2, 0, none⟩) 1 1, .slice none 0 0] 26)).cell? ⟨q, 3, none⟩ = some (.string fm) := bcell_row HE.out rfl
    have x4 : (w2.alloc (.cells #[.slice Ar rs.length cr, .slice (some ⟨q2, 0, none⟩) 1 1, .slice none 0 0] 26)).cell? ⟨q, 4, none⟩ = some (.int .i64 un) := bcell_row HE.out rfl
    have y0 : (w2.alloc (.cells #[.slice Ar rs.length cr, .slice (some ⟨q2, 0, none⟩) 1 1, .slice none 0 0] 26)).cell? ⟨q + 1, 0, none⟩ = some (.int .i64 F) := bcell_row HS.out rfl
    have y1 : (w2.alloc (.cells #[.slice Ar rs.length cr, .slice (some ⟨q2, 0, none⟩) 1 1, .slice none 0 0] 26)).cell? ⟨q + 1, 1, none⟩ = some (.int .i64 T) := bcell_row HS.out rfl
    have z0 : (w2.alloc (.cells #[.slice Ar rs.length cr, .slice (some ⟨q2, 0, none⟩) 1 1, .slice none 0 0] 26)).cell? ⟨w2.heap.size, 0, none⟩ = some (.slice Ar rs.length cr) := bcell_row HB.out rfl
    have z1 : (w2.alloc (.cells #[.slice Ar rs.length cr, .slice (some ⟨q2, 0, none⟩) 1 1, .slice none 0 0] 26)).cell? ⟨w2.heap.size, 1, none⟩ = some (.slice (some ⟨q2, 0, none⟩) 1 1) := bcell_row HB.out rfl
    have z2 : (w2.alloc (.cells #[.slice Ar rs.length cr, .slice (some ⟨q2, 0, none⟩) 1 1, .slice none 0 0] 26)).cell? ⟨w2.heap.size, 2, none⟩ = some (.slice none 0 0) := bcell_row HB.out rfl
    by_cases hT : T ≤ F
    · have t0 : decide (T ≤ F) = true := decide_eq_true hT
      have HT := Lib.hid hT
      clear hT
      go_wp2_with fail
      go_ret
      exact FI.out _ s (fun h => absurd HT.out (by omega)) (fun _ => rfl) ⟨_, _, HM.out.grow G.out⟩ ((Kp.refl X w).gr G.out HM.out.xl)
    · have t0 : decide (T ≤ F) = false := decide_eq_false hT
      have HT := Lib.hid hT
      clear hT
      go_wp2_with fail
      clear y0 y1 z0 z1 z2 t0 x0 x1 x2 x3 x4
      generalize w2.alloc (.cells #[.slice Ar rs.length cr, .slice (some ⟨q2, 0, none⟩) 1 1, .slice none 0 0] 26) = w3 at G HE HS AL HB ⊢
      generalize w2.heap.size = qb at HB ⊢
      refine (KA.out qz q2 w3 AL.out G.out).mono ?_
      rintro e w5 ⟨rfl, g5⟩
      have G5 := Lib.hid (G.out.trans g5)
      have HE5 := Lib.hid (bheap_gr g5 HE.out)
      have HS5 := Lib.hid (bheap_gr g5 HS.out)
      clear g5 HE HS HB AL G KA
      obtain ⟨⟨xo, xs, xn⟩, hx⟩ : ∃ x, typE ⟨eo, ⟨#[]⟩, sv, fm, un⟩ [] F = x := ⟨_, rfl⟩
      have TX := Lib.hid hx
      have XI := Lib.hid (TI.out)
      rw [hx] at XI ⊢
      clear hx TI
      have NK := Lib.hid (box_one w5 (.cells #[.int .i64 xo, .bool xs, .string xn] 46))
      have G6 := Lib.hid (G5.out.trans NK.out.1)
      have HE6 := Lib.hid (bheap_gr NK.out.1 HE5.out)
      have HS6 := Lib.hid (bheap_gr NK.out.1 HS5.out)
      simp only
      have y0 : (w5.alloc (.cells #[.int .i64 xo, .bool xs, .string xn] 46)).cell? ⟨q + 1, 0, none⟩ = some (.int .i64 F) := bcell_row HS6.out rfl
      have y1 : (w5.alloc (.cells #[.int .i64 xo, .bool xs, .string xn] 46)).cell? ⟨q + 1, 1, none⟩ = some (.int .i64 T) := bcell_row HS6.out rfl
      go_wp2_with fail
      clear y0 y1
      generalize w5.alloc (.cells #[.int .i64 xo, .bool xs, .string xn] 46) = w6 at NK G6 HE6 HS6 ⊢
      generalize w5.heap.size = qk at NK ⊢
      clear HE5 HS5 G5
      have y0 : w6.cell? ⟨q + 1, 0, none⟩ = some (.int .i64 F) := bcell_row HS6.out rfl
      have y1 : w6.cell? ⟨q + 1, 1, none⟩ = some (.int .i64 T) := bcell_row HS6.out rfl
      have z0 : w6.cell? ⟨qk, 0, none⟩ = some (.int .i64 xo) := bcell_row NK.out.2 rfl
      have z1 : w6.cell? ⟨qk, 1, none⟩ = some (.bool xs) := bcell_row NK.out.2 rfl
      have z2 : w6.cell? ⟨qk, 2, none⟩ = some (.string xn) := bcell_row NK.out.2 rfl
      go_wp2_with fail
      clear y0 y1 z0 z1 z2
      have HM6 := Lib.hid (HM.out.more G6.out)
      have KP6 := Lib.hid ((Kp.refl X w).gr G6.out HM.out.xl)
      have XE : Hid (X q ∨ (w.heap.size ≤ q ∧ q < w6.heap.size)) := Or.inr ⟨QW.out, (Array.getElem?_eq_some_iff.1 HE6.out).1⟩
      have XS : Hid (X (q + 1) ∨ (w.heap.size ≤ q + 1 ∧ q + 1 < w6.heap.size)) := Or.inr ⟨Nat.le_succ_of_le QW.out, (Array.getElem?_eq_some_iff.1 HS6.out).1⟩
      obtain ⟨X2, hX2⟩ : ∃ X2, (fun j => X j ∨ (w.heap.size ≤ j ∧ j < w6.heap.size)) = X2 := ⟨_, rfl⟩
      have XSUB : Hid (∀ j, X j → X2 j) := fun j hj => by rw [← hX2]; exact Or.inl hj
      rw [hX2] at HM6
      have XE2 : Hid (X2 q) := by have := XE.out; rw [← hX2]; exact this
      have XS2 : Hid (X2 (q + 1)) := by have := XS.out; rw [← hX2]; exact this
      clear hX2 XE XS NK
      have L1 := SL.out.1
      have L2 := SL.out.2
      refine (papply X2 pb mb s ⟨xo, xs, xn⟩ F w6 vt vc HM6.out XI.out (by omega) (by omega)).mono ?_
      rintro e w7 ⟨rfl, ⟨vt7, vc7, hm7⟩, kp7⟩
      have HE7 := Lib.hid (kp7.heap XE2.out HE6.out)
      have HS7 := Lib.hid (kp7.heap XS2.out HS6.out)
      have HM7 := Lib.hid hm7
      have KP7 := Lib.hid kp7
      clear hm7 kp7 HE6 HS6 L1 L2
      go_wp2_with fail
      go_loopw [53] (fun i W => i = .int .i64 0 ∧ Hid (W = w7)) (fun i W => 0)
      case atStart => exact ⟨rfl, rfl⟩
      case round =>
        obtain ⟨rfl, hg⟩ := hrel
        obtain rfl := hg.out
        go_wp2_with fail
        go_ret
        exact FI.out _ (s.put F ⟨xo, xs, xn⟩) (fun _ => by rw [← TX.out]; rfl) (fun h => absurd HT.out (by omega)) ⟨_, _, HM7.out.less XSUB.out⟩ (KP6.out.trans (KP7.out.less XSUB.out))
  · have ET : eraT rs zs ls e = ofL rs zs ls e.ru e.off := by unfold eraT; rw [if_neg hru]
    have EK : eraK rs zs ls e = ofC rs zs ls e.ru e.off := by unfold eraK; rw [if_neg hru]
    have LI0 := ofL_in (zs := zs) (ls := ls) (nm := e.ru) (off := e.off) RI.out
    have LB0 := ofL_len (rs := rs) (zs := zs) (ls := ls) (nm := e.ru) (off := e.off)
    rw [ET, EK] at FI0 KA0 ⊢
    rw [EK, ET] at FE0
    rw [ET] at TI0
    have KO1 : Hid (∀ qz q2 W, (alB Ar cr rs qz q2 e).At W → Gr w W → Calls Tryz.prog 51 #[.agg #[.slice Ar rs.length cr, .slice (some ⟨q2, 0, none⟩) 1 1, .slice none 0 0], .string e.ru, .int .i64 e.off] W fun r w' => ∃ A c, r = .returned (.tuple #[.slice A (ofL rs zs ls e.ru e.off).length c, .int .i64 (ofC rs zs ls e.ru e.off)]) ∧ TursAt w' A c (ofL rs zs ls e.ru e.off) ∧ Gr W w' ∧ ∀ a, A = some a → W.heap.size ≤ a.block) := KO.out
    clear KO ET EK RI h0 ha
    generalize ofL rs zs ls e.ru e.off = L at FI0 FE0 TI0 KA0 KO1 LI0 LB0 ⊢
    generalize ofC rs zs ls e.ru e.off = C at FI0 FE0 KA0 KO1 ⊢
    have LI := Lib.hid LI0
    have LB := Lib.hid LB0
    have TI := Lib.hid TI0.out
    clear LI0 LB0 TI0
    obtain ⟨eo, ru, sv, fm, un⟩ := e
    obtain ⟨n1, n2, n3⟩ := str_nonnil hru
    have TP := Lib.hid (fun us ul h1 h2 => OI.out (us, ul) h1 h2)
    clear hru OI
    simp only at HAL KA0 KO1 KT n1 n2 n3 ⊢
    have B0 := Lib.hid (box_two w (.cells #[.int .i64 eo, .string ru, .int .i64 sv, .string fm, .int .i64 un] 59) (.cells #[.int .i64 F, .int .i64 T] 28))
    go_enter Tryz.func21, Tryz.ntmps21
    go_wp2_with fail
    generalize (w.alloc (.cells #[.int .i64 eo, .string ru, .int .i64 sv, .string fm, .int .i64 un] 59)).alloc (.cells #[.int .i64 F, .int .i64 T] 28) = w1 at B0 ⊢
    obtain ⟨q, hq⟩ : ∃ q, w.heap.size = q := ⟨_, rfl⟩
    have QW : Hid (w.heap.size ≤ q) := Nat.le_of_eq hq
    rw [hq] at B0 ⊢
    clear hq
    have x0 : w1.cell? ⟨q, 0, none⟩ = some (.int .i64 eo) := bcell_row B0.out.2.1 rfl
    have x1 : w1.cell? ⟨q, 1, none⟩ = some (.string ru) := bcell_row B0.out.2.1 rfl
    have x2 : w1.cell? ⟨q, 2, none⟩ = some (.int .i64 sv) := bcell_row B0.out.2.1 rfl
    have x3 : w1.cell? ⟨q, 3, none⟩ = some (.string fm) := bcell_row B0.out.2.1 rfl
    have x4 : w1.cell? ⟨q, 4, none⟩ = some (.int .i64 un) := bcell_row B0.out.2.1 rfl
    go_wp2_with fail
    clear x0 x1 x2 x3 x4
    refine (pbookOf Ar cr rs ⟨eo, ru, sv, fm, un⟩ w1).mono ?_
    rintro r w2 ⟨qz, q2, rfl, h1, h2, g2⟩
    have NB := Lib.hid (box_one w2 (.cells #[.slice Ar rs.length cr, .slice (some ⟨q2, 0, none⟩) 1 1, .slice none 0 0] 26))
    have G := Lib.hid ((B0.out.1.trans g2).trans NB.out.1)
    have HE := Lib.hid (bheap_gr (g2.trans NB.out.1) B0.out.2.1)
    have HS := Lib.hid (bheap_gr (g2.trans NB.out.1) B0.out.2.2)
    have AL := Lib.hid (HAL.out qz q2 _ G.out (bheap_gr NB.out.1 h1) (bheap_gr NB.out.1 h2))
    have HB := Lib.hid NB.out.2
    clear B0 h1 h2 g2 HAL NB
    have x0 : (w2.alloc (.cells #[.slice Ar rs.length cr, .slice (some ⟨q2, 0, none⟩) 1 1, .slice none 0 0] 26)).cell? ⟨q, 0, none⟩ = some (.int .i64 eo) := bcell_row HE.out rfl
    have x1 : (w2.alloc (.cells #[.slice Ar rs.length cr, .slice (some ⟨q2, 0, none⟩) 1 1, .slice none 0 0] 26)).cell? ⟨q, 1, none⟩ = some (.string ru) := bcell_row HE.out rfl
    have x2 : (w2.alloc (.cells #[.slice Ar rs.length cr, .slice (some ⟨q2, 0, none⟩) 1 1, .slice none 0 0] 26)).cell? ⟨q, 2, none⟩ = some (.int .i64 sv) := bcell_row HE.out rfl
    have x3 : (w2.alloc (.cells #[.slice Ar rs.length cr, .slice (some ⟨q2, 0, none⟩) 1 1, .slice none 0 0] 26)).cell? ⟨q, 3, none⟩ = some (.string fm) := bcell_row HE.out rfl
    have x4 : (w2.alloc (.cells #[.slice Ar rs.length cr, .slice (some ⟨q2, 0, none⟩) 1 1, .slice none 0 0] 26)).cell? ⟨q, 4, none⟩ = some (.int .i64 un) := bcell_row HE.out rfl
    have z0 : (w2.alloc (.cells #[.slice Ar rs.length cr, .slice (some ⟨q2, 0, none⟩) 1 1, .slice none 0 0] 26)).cell? ⟨w2.heap.size, 0, none⟩ = some (.slice Ar rs.length cr) := bcell_row HB.out rfl
    have z1 : (w2.alloc (.cells #[.slice Ar rs.length cr, .slice (some ⟨q2, 0, none⟩) 1 1, .slice none 0 0] 26)).cell? ⟨w2.heap.size, 1, none⟩ = some (.slice (some ⟨q2, 0, none⟩) 1 1) := bcell_row HB.out rfl
    have z2 : (w2.alloc (.cells #[.slice Ar rs.length cr, .slice (some ⟨q2, 0, none⟩) 1 1, .slice none 0 0] 26)).cell? ⟨w2.heap.size, 2, none⟩ = some (.slice none 0 0) := bcell_row HB.out rfl
    go_wp2_with fail
    clear x0 x1 x2 x3 x4 z0 z1 z2 n1 n2 n3
    generalize w2.alloc (.cells #[.slice Ar rs.length cr, .slice (some ⟨q2, 0, none⟩) 1 1, .slice none 0 0] 26) = w3 at G HE HS AL HB ⊢
    generalize w2.heap.size = qb at HB ⊢
    refine (KO1.out qz q2 w3 AL.out G.out).mono ?_
    rintro r w4 ⟨A, c, rfl, ta, g4, fr⟩
    have FR : Hid (∀ a, A = some a → w.heap.size ≤ a.block) := fun a ha => Nat.le_trans (Below.size G.out) (fr a ha)
    have RW := Lib.hid ta.2
    have SLO := Lib.hid ta.1
    have G4 := Lib.hid (G.out.trans g4)
    have AL4 := Lib.hid (BokD.At.gr AL.out g4)
    have HE4 := Lib.hid (bheap_gr g4 HE.out)
    have HS4 := Lib.hid (bheap_gr g4 HS.out)
    have HB4 := Lib.hid (bheap_gr g4 HB.out)
    clear ta g4 fr KO1 G AL HE HS HB
    by_cases hC : C = 0
    case neg =>
      have tC : (C != 0) = true := bneT hC
      have FE := Lib.hid (fun W h => FE0.out W C rfl hC h)
      clear hC FI0 FE0 KA0
      go_wp2_with fail
      go_ret
      exact FE.out _ ((Kp.refl X w).gr G4.out HM.out.xl)
    case pos =>
      subst hC
      have FI := Lib.hid (fun W s2 h1 h2 h3 h4 => FI0.out W s2 h1 h2 rfl h3 h4)
      have KA := Lib.hid (fun qz q2 W hb g => KA0.out rfl qz q2 W hb g)
      obtain ⟨n, hn⟩ : ∃ n, L.length = n := ⟨_, rfl⟩
      have LN := Lib.hid hn
      have nb : n ≤ 100000 := by have := LB.out; omega
      rw [hn]
      have G := Lib.hid G4.out
      have AL := Lib.hid AL4.out
      have HE := Lib.hid HE4.out
      have HS := Lib.hid HS4.out
      have HB := Lib.hid HB4.out
      clear FI0 FE0 KA0 hn G4 AL4 HE4 HS4 HB4
      have y0 : w4.cell? ⟨q + 1, 0, none⟩ = some (.int .i64 F) := bcell_row HS.out rfl
      have y1 : w4.cell? ⟨q + 1, 1, none⟩ = some (.int .i64 T) := bcell_row HS.out rfl
      have z0 : w4.cell? ⟨qb, 0, none⟩ = some (.slice Ar rs.length cr) := bcell_row HB.out rfl
      have z1 : w4.cell? ⟨qb, 1, none⟩ = some (.slice (some ⟨q2, 0, none⟩) 1 1) := bcell_row HB.out rfl
      have z2 : w4.cell? ⟨qb, 2, none⟩ = some (.slice none 0 0) := bcell_row HB.out rfl
      by_cases hT : T ≤ F
      · have t0 : decide (T ≤ F) = true := decide_eq_true hT
        have HT := Lib.hid hT
        clear hT
        go_wp2_with fail
        go_ret
        exact FI.out _ s (fun h => absurd HT.out (by omega)) (fun _ => rfl) ⟨_, _, HM.out.grow G.out⟩ ((Kp.refl X w).gr G.out HM.out.xl)
      · have t0 : decide (T ≤ F) = false := decide_eq_false hT
        have HT := Lib.hid hT
        clear hT
        go_wp2_with fail
        clear y0 y1 z0 z1 z2 t0
        refine (KA.out qz q2 w4 AL.out G.out).mono ?_
        rintro e w5 ⟨rfl, g5⟩
        have G5 := Lib.hid (G.out.trans g5)
        have HE5 := Lib.hid (bheap_gr g5 HE.out)
        have HS5 := Lib.hid (bheap_gr g5 HS.out)
        have RW5 := Lib.hid (RW.out.gr g5)
        clear g5 HE HS HB AL G KA RW
        obtain ⟨⟨xo, xs, xn⟩, hx⟩ : ∃ x, typE ⟨eo, ru, sv, fm, un⟩ L F = x := ⟨_, rfl⟩
        have TX := Lib.hid hx
        have XI := Lib.hid (TI.out)
        rw [hx] at XI ⊢
        clear hx TI
        have NK := Lib.hid (box_one w5 (.cells #[.int .i64 xo, .bool xs, .string xn] 46))
        have G6 := Lib.hid (G5.out.trans NK.out.1)
        have HE6 := Lib.hid (bheap_gr NK.out.1 HE5.out)
        have HS6 := Lib.hid (bheap_gr NK.out.1 HS5.out)
        have RW6 := Lib.hid (RW5.out.gr NK.out.1)
        simp only
        have y0 : (w5.alloc (.cells #[.int .i64 xo, .bool xs, .string xn] 46)).cell? ⟨q + 1, 0, none⟩ = some (.int .i64 F) := bcell_row HS6.out rfl
        have y1 : (w5.alloc (.cells #[.int .i64 xo, .bool xs, .string xn] 46)).cell? ⟨q + 1, 1, none⟩ = some (.int .i64 T) := bcell_row HS6.out rfl
        go_wp2_with fail
        clear y0 y1
        generalize w5.alloc (.cells #[.int .i64 xo, .bool xs, .string xn] 46) = w6 at NK G6 HE6 HS6 RW6 ⊢
        generalize w5.heap.size = qk at NK ⊢
        clear HE5 HS5 G5 RW5
        have y0 : w6.cell? ⟨q + 1, 0, none⟩ = some (.int .i64 F) := bcell_row HS6.out rfl
        have y1 : w6.cell? ⟨q + 1, 1, none⟩ = some (.int .i64 T) := bcell_row HS6.out rfl
        have z0 : w6.cell? ⟨qk, 0, none⟩ = some (.int .i64 xo) := bcell_row NK.out.2 rfl
        have z1 : w6.cell? ⟨qk, 1, none⟩ = some (.bool xs) := bcell_row NK.out.2 rfl
        have z2 : w6.cell? ⟨qk, 2, none⟩ = some (.string xn) := bcell_row NK.out.2 rfl
        go_wp2_with fail
        clear y0 y1 z0 z1 z2
        have HM6 := Lib.hid (HM.out.more G6.out)
        have KP6 := Lib.hid ((Kp.refl X w).gr G6.out HM.out.xl)
        have XE : Hid (X q ∨ (w.heap.size ≤ q ∧ q < w6.heap.size)) := Or.inr ⟨QW.out, (Array.getElem?_eq_some_iff.1 HE6.out).1⟩
        have XS : Hid (X (q + 1) ∨ (w.heap.size ≤ q + 1 ∧ q + 1 < w6.heap.size)) := Or.inr ⟨Nat.le_succ_of_le QW.out, (Array.getElem?_eq_some_iff.1 HS6.out).1⟩
        have XA : Hid (∀ a, A = some a → 0 < L.length → X a.block ∨ (w.heap.size ≤ a.block ∧ a.block < w6.heap.size)) := fun a ha hl => Or.inr ⟨FR.out a ha, row_lt RW6.out hl ha⟩
        obtain ⟨X2, hX2⟩ : ∃ X2, (fun j => X j ∨ (w.heap.size ≤ j ∧ j < w6.heap.size)) = X2 := ⟨_, rfl⟩
        have XSUB : Hid (∀ j, X j → X2 j) := fun j hj => by rw [← hX2]; exact Or.inl hj
        rw [hX2] at HM6
        have XE2 : Hid (X2 q) := by have := XE.out; rw [← hX2]; exact this
        have XS2 : Hid (X2 (q + 1)) := by have := XS.out; rw [← hX2]; exact this
        have XA2 : Hid (∀ a, A = some a → 0 < L.length → X2 a.block) := fun a ha hl => by have := XA.out a ha hl; rw [← hX2]; exact this
        clear hX2 XE XS NK XA
        have L1 := SL.out.1
        have L2 := SL.out.2
        refine (papply X2 pb mb s ⟨xo, xs, xn⟩ F w6 vt vc HM6.out XI.out (by omega) (by omega)).mono ?_
        rintro e w7 ⟨rfl, ⟨vt7, vc7, hm7⟩, kp7⟩
        have HE7 := Lib.hid (kp7.heap XE2.out HE6.out)
        have HS7 := Lib.hid (kp7.heap XS2.out HS6.out)
        have RW7 := Lib.hid (row_kp RW6.out XA2.out kp7)
        have HM7 := Lib.hid hm7
        have KP7 := Lib.hid kp7
        clear hm7 kp7 HE6 HS6 L1 L2 RW6
        go_wp2_with fail
        have HM70 : Hid (∃ vt vc, MAt 46 44 66 X2 pb mb w7 (eraW ⟨eo, ru, sv, fm, un⟩ L F T s 0).ty (eraW ⟨eo, ru, sv, fm, un⟩ L F T s 0) vt vc) := ⟨_, _, by rw [eraW_zero, TX.out]; exact HM7.out⟩
        clear HM7
        go_loopw [53] (fun i W => ∃ k : Nat, k ≤ n ∧ i = .int .i64 k ∧ Hid (∃ vt vc, MAt 46 44 66 X2 pb mb W (eraW ⟨eo, ru, sv, fm, un⟩ L F T s k).ty (eraW ⟨eo, ru, sv, fm, un⟩ L F T s k) vt vc) ∧ Hid (Kp X2 w7 W)) (fun i W => n - (intOf i).toNat)
        case atStart => exact ⟨0, Nat.zero_le _, rfl, HM70.out, Kp.refl _ _⟩
        case round =>
          obtain ⟨kk, hk, rfl, hmk, hkp⟩ := hrel
          clear HM70
          by_cases hlt : kk < n
          · obtain ⟨⟨ua, us, ul⟩, hu⟩ := get_lt (show kk < L.length by rw [LN.out]; exact hlt)
            have RWR := Lib.hid (row_kp RW7.out XA2.out hkp.out)
            obtain ⟨b, off, hAA, c0, c1, c2⟩ := RWR.out.three hu rfl (Gr.refl wr)
            have SU := Lib.hid (eraW_succ (e := ⟨eo, ru, sv, fm, un⟩) (F := F) (T := T) (s := s) hu)
            simp only at SU
            have UI : Hid (ul.size ≤ maxLen ∧ 0 ≤ us ∧ us ≤ 10800) := ⟨(LI.out _ (get_mem hu)).1, (LI.out _ (get_mem hu)).2.2.1, (LI.out _ (get_mem hu)).2.2.2⟩
            have EB := eraW_len ⟨eo, ru, sv, fm, un⟩ L F T s kk
            have EBH := Lib.hid EB
            clear hu RWR EB
            obtain ⟨vtk, vck, hm⟩ := hmk.out
            have HMK := Lib.hid hm
            clear hm hmk
            have NB := Lib.hid (box_one wr (.cells #[.int .i64 ua, .int .i64 us, .string ul] 75))
            have HMB := Lib.hid (HMK.out.grow NB.out.1)
            have HEB := Lib.hid (bheap_gr NB.out.1 (hkp.out.heap XE2.out HE7.out))
            have HSB := Lib.hid (bheap_gr NB.out.1 (hkp.out.heap XS2.out HS7.out))
            have KPB := Lib.hid (hkp.out.gr NB.out.1 HMK.out.xl)
            subst hAA
            have y0 : (wr.alloc (.cells #[.int .i64 ua, .int .i64 us, .string ul] 75)).cell? ⟨q + 1, 0, none⟩ = some (.int .i64 F) := bcell_row HSB.out rfl
            have y1 : (wr.alloc (.cells #[.int .i64 ua, .int .i64 us, .string ul] 75)).cell? ⟨q + 1, 1, none⟩ = some (.int .i64 T) := bcell_row HSB.out rfl
            have v0 : (wr.alloc (.cells #[.int .i64 ua, .int .i64 us, .string ul] 75)).cell? ⟨wr.heap.size, 0, none⟩ = some (.int .i64 ua) := bcell_row NB.out.2 rfl
            have v1 : (wr.alloc (.cells #[.int .i64 ua, .int .i64 us, .string ul] 75)).cell? ⟨wr.heap.size, 1, none⟩ = some (.int .i64 us) := bcell_row NB.out.2 rfl
            have v2 : (wr.alloc (.cells #[.int .i64 ua, .int .i64 us, .string ul] 75)).cell? ⟨wr.heap.size, 2, none⟩ = some (.string ul) := bcell_row NB.out.2 rfl
            by_cases b1 : F < ua
            · have t1 : decide (F < ua) = true := ltT b1
              by_cases b2 : ua < T
              · have t2 : decide (ua < T) = true := ltT b2
                have SN : Hid (eraW ⟨eo, ru, sv, fm, un⟩ L F T s (kk + 1) = (eraW ⟨eo, ru, sv, fm, un⟩ L F T s kk).put ua (typP ⟨eo, ru, sv, fm, un⟩ (us, ul))) := by unfold Hid; rw [SU.out, if_pos ⟨b1, b2⟩]
                clear b1 b2 SU HMK
                go_wp2_with fail
                clear c0 c1 c2 y0 y1 v0 v1 v2 t1 t2
                generalize wr.alloc (.cells #[.int .i64 ua, .int .i64 us, .string ul] 75) = w8 at NB HMB HEB HSB KPB ⊢
                generalize wr.heap.size = qt at NB ⊢
                refine wp_region_noPanic ?_
                refine till_start 6 (fun wx => wx.heap[qt]? = some (.cells #[.int .i64 ua, .int .i64 us, .string ul] 75 (0, 0)) ∧ wx.heap[q]? = some (.cells #[.int .i64 eo, .string ru, .int .i64 sv, .string fm, .int .i64 un] 59 (0, 0))) (by kernel_rfl) ⟨NB.out.2, HEB.out⟩ (fun hHeld => ?_)
                (try dsimp only at hHeld)
                have GD := Lib.hid (Gr.drew w8)
                have HMD := Lib.hid (HMB.out.grow GD.out)
                have KPD := Lib.hid (KPB.out.gr GD.out HMB.out.xl)
                have GZ : Hid (Gr w6 w6) := Gr.refl _
                generalize w8.drew = wd at hHeld GD HMD KPD ⊢
                clear GD GZ HMB KPB NB HEB HSB
                refine till_take (i := 0) (oi := { dst := some 69, op := _, type := _, pos := _, after := _, guard := _ }) (v := ?v1) rfl (by kernel_rfl) (by kernel_rfl) (by kernel_rfl) (by kernel_rfl) (fun _ _ _ h => h) (Or.inl ⟨by rfl, ?hy1⟩) (by assumption) ?rest1
                case hy1 => (intro w hSw; go_simp <;> (with_reducible rfl))
                (try simp only [Act.put, List.setIfInBounds_toArray, List.set_cons_zero, List.set_cons_succ])
                refine till_pure (i := 1) (oi := { dst := some 70, op := _, type := _, pos := _, after := _, guard := _ }) (v := ?v2) rfl (by kernel_rfl) (by kernel_rfl) (by kernel_rfl) (by kernel_rfl) (fun _ _ _ h => h) (Or.inl ⟨by rfl, ?hy2⟩) (by assumption) ?rest2
                case hy2 => (intro w hSw; go_simp <;> (with_reducible rfl))
                (try simp only [Act.put, List.setIfInBounds_toArray, List.set_cons_zero, List.set_cons_succ])
                refine till_take (i := 2) (oi := { dst := some 71, op := _, type := _, pos := _, after := _, guard := _ }) (v := ?v3) rfl (by kernel_rfl) (by kernel_rfl) (by kernel_rfl) (by kernel_rfl) (fun _ _ _ h => h) (Or.inl ⟨by rfl, ?hy3⟩) (by assumption) ?rest3
                case hy3 => (intro w hSw; have d0 := bcell_row (i := 0) hSw.1 rfl; go_simp <;> (with_reducible rfl))
                (try simp only [Act.put, List.setIfInBounds_toArray, List.set_cons_zero, List.set_cons_succ])
                refine till_mid 5 (i := 3) (oi := { dst := some 72, op := _, type := _, pos := _, after := _, guard := _ }) (v := ?v4) rfl (by kernel_rfl) (by kernel_rfl) (by kernel_rfl) (by kernel_rfl) (fun _ _ _ h => h) (Or.inl ⟨by rfl, ?hy4⟩) (by assumption) ?rest4
                case hy4 => (intro w hSw; have d0 := bcell_row (i := 0) hSw.2 rfl; have d1 := bcell_row (i := 1) hSw.2 rfl; have d2 := bcell_row (i := 2) hSw.2 rfl; have d3 := bcell_row (i := 3) hSw.2 rfl; have d4 := bcell_row (i := 4) hSw.2 rfl; go_simp <;> (with_reducible rfl))
                (try simp only [Act.put, List.setIfInBounds_toArray, List.set_cons_zero, List.set_cons_succ])
                refine till_mid 5 (i := 4) (oi := { dst := some 73, op := _, type := _, pos := _, after := _, guard := _ }) (v := ?v5) rfl (by kernel_rfl) (by kernel_rfl) (by kernel_rfl) (by kernel_rfl) (fun _ _ _ h => h) (Or.inl ⟨by rfl, ?hy5⟩) (by assumption) ?rest5
                case hy5 => (intro w hSw; have d0 := bcell_row (i := 0) hSw.1 rfl; have d1 := bcell_row (i := 1) hSw.1 rfl; have d2 := bcell_row (i := 2) hSw.1 rfl; go_simp <;> (with_reducible rfl))
                (try simp only [Act.put, List.setIfInBounds_toArray, List.set_cons_zero, List.set_cons_succ])
                have HMX : Hid (HasMax wd) := max_kp ((KP6.out.trans (KP7.out.less XSUB.out)).trans (KPD.out.less XSUB.out)) XL.out MX.out
                refine till_one (i := 5) (by kernel_rfl) rfl (fun K hK => ?_)
                go_simp
                (with_reducible refine (KT.out us ua ul wd HMX.out UI.out.1 UI.out.2.1 UI.out.2.2).mono ?_)
                rintro e w9 ⟨rfl, g9⟩
                (go_wp2_with fail)
                refine hK.out _ _ (Or.inr ⟨bheap_gr g9 hHeld.1, bheap_gr g9 hHeld.2⟩) ?_
                clear hK K
                (try simp only [Act.put, List.setIfInBounds_toArray, List.set_cons_zero, List.set_cons_succ])
                have HM9 := Lib.hid (HMD.out.grow g9)
                have KP9 := Lib.hid (KPD.out.gr g9 HMD.out.xl)
                clear g9 HMD KPD hHeld HMX
                have L1 := SL.out.1
                have L2 := SL.out.2
                have L3 := EBH.out.1
                have L4 := EBH.out.2
                have L5 := LB.out
                have TPX : Hid (TypD.In ⟨eo + us, decide (0 < us), S (abbrR fm.toList us ul.toList).1⟩) := TP.out us ul UI.out.2.1 UI.out.2.2
                refine till_one (i := 6) (by kernel_rfl) rfl (fun K hK => ?_)
                go_simp
                (with_reducible refine (papply X2 pb mb (eraW ⟨eo, ru, sv, fm, un⟩ L F T s kk) ⟨eo + us, decide (0 < us), S (abbrR fm.toList us ul.toList).1⟩ ua w9 vtk vck HM9.out TPX.out (by omega) (by omega)).mono ?_)
                rintro e wf ⟨rfl, hmf, kpf⟩
                (go_wp2_with fail)
                refine hK.out _ _ (Or.inl (by kernel_rfl)) ?_
                clear hK K
                (try simp only [Act.put, List.setIfInBounds_toArray, List.set_cons_zero, List.set_cons_succ])
                have HMF := Lib.hid hmf
                have KPF := Lib.hid (KP9.out.trans kpf)
                clear hmf kpf HM9 KP9 L1 L2 L3 L4 L5
                refine till_done (by kernel_rfl) ?_ _
                refine NoPanic.normal ?_
                go_wp2_with fail
                go_roundw
                case rel => exact ⟨kk + 1, by omega, by go_num, by rw [SN.out]; exact HMF.out, KPF.out⟩
                case measure => simp [intOf]; omega
              · have t2 : decide (ua < T) = false := ltF b2
                have SN : Hid (eraW ⟨eo, ru, sv, fm, un⟩ L F T s (kk + 1) = (eraW ⟨eo, ru, sv, fm, un⟩ L F T s kk)) := by unfold Hid; rw [SU.out, if_neg (fun h => b2 h.2)]
                clear b1 b2
                clear SU HMK
                go_wp2_with fail
                go_roundw
                case rel => exact ⟨kk + 1, by omega, by go_num, by rw [SN.out]; exact ⟨_, _, HMB.out⟩, KPB.out⟩
                case measure => simp [intOf]; omega
            · have t1 : decide (F < ua) = false := ltF b1
              have SN : Hid (eraW ⟨eo, ru, sv, fm, un⟩ L F T s (kk + 1) = (eraW ⟨eo, ru, sv, fm, un⟩ L F T s kk)) := by unfold Hid; rw [SU.out, if_neg (fun h => b1 h.1)]
              clear b1
              clear SU HMK
              go_wp2_with fail
              go_roundw
              case rel => exact ⟨kk + 1, by omega, by go_num, by rw [SN.out]; exact ⟨_, _, HMB.out⟩, KPB.out⟩
              case measure => simp [intOf]; omega
          · obtain rfl : kk = n := by omega
            clear hk hlt
            go_wp2_with fail
            go_ret
            obtain ⟨vtk, vck, hm⟩ := hmk.out
            exact FI.out _ _ (fun _ => by rw [LN.out]) (fun h => absurd HT.out (by omega)) ⟨_, _, hm.less XSUB.out⟩ ((KP6.out.trans (KP7.out.less XSUB.out)).trans (hkp.out.less XSUB.out))
end Go.Proofs.YtkmgildnhnjepaaGreatDoor
