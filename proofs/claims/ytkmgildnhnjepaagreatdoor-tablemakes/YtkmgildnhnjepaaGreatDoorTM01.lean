/- Small things that every walk here uses: a world that only grew, results by two, three and four, texts by their bytes, the last step of a row. No program in it. What the reference's small functions on texts return: chr, Digits, fixed. Plain arithmetic of the calendar, no program in it: leap years, lengths of months, the number of a day, that each day number of the supported years has exactly one date. What the small functions of package civil return, for every input in their range: isLeap, monthLength, yearStart. -/
import Derived.WalkKit
import Derived.WalkSpells
import Derived.WalkLawsBesides
import Derived.Laws.IdiomStrings
import Derived.ChangeSame
import Derived.Deep.Draws
import Derived.Lib.Hide
import Derived.Test.YtkmgildnhnjepaaGreatDoorProg
namespace Go.Proofs.YtkmgildnhnjepaaGreatDoor
set_option linter.unusedVariables false
set_option linter.unusedSimpArgs false
open Go.RowKit Go.WideShapes Go.ChangeShapes
/-- Nothing that lay in the world has changed; new blocks may lie behind it. -/
def Gr (w w' : World) : Prop := Below w.heap.size w w'
theorem Gr.refl (w : World) : Gr w w := Below.refl _ _
theorem Gr.trans {a b c : World} (h : Gr a b) (k : Gr b c) : Gr a c := Below.trans h (Below.mono k (Below.size h))
theorem Gr.alloc (w : World) (o : Obj) : Gr w (w.alloc o) := (Below.refl _ _).alloc (Nat.le_refl _) _
theorem Gr.drew (w : World) : Gr w w.drew := (Below.refl _ _).drew
theorem Gr.alloc' {a w : World} (h : Gr a w) (o : Obj) : Gr a (w.alloc o) := h.trans (Gr.alloc w o)
theorem Gr.drew' {a w : World} (h : Gr a w) : Gr a w.drew := h.trans (Gr.drew w)
theorem below_drewN {B : Nat} {a w : World} (h : Below B a w) (n : Nat) : Below B a (w.drewN n) := ⟨h.os, h.tape, h.output, h.size, h.block⟩
theorem Gr.drewN {a w : World} (h : Gr a w) (n : Nat) : Gr a (w.drewN n) := below_drewN h n
theorem Gr.size {w w' : World} (h : Gr w w') : w.heap.size ≤ w'.heap.size := Below.size h
theorem Gr.cell {w w' : World} (h : Gr w w') {b o : Nat} (hb : b < w.heap.size) : w'.cell? ⟨b, o, none⟩ = w.cell? ⟨b, o, none⟩ := Below.cell (p := ⟨b, o, none⟩) h hb
theorem Gr.holds {w w' : World} (h : Gr w w') {b o : Nat} {v : Value} (hc : w.cell? ⟨b, o, none⟩ = some v) : w'.cell? ⟨b, o, none⟩ = some v :=
  (h.cell (World.block_lt_of_cell? w ⟨b, o, none⟩ hc)).trans hc

theorem ret_int {k : IntKind} {a b : Int} (h : a = b) : Ending.returned (.int k a) = .returned (.int k b) := by rw [h]
theorem ret_bool {a b : Bool} (h : a = b) : Ending.returned (.bool a) = .returned (.bool b) := by rw [h]
theorem ret_str {a b : ByteArray} (h : a = b) : Ending.returned (.string a) = .returned (.string b) := by rw [h]
theorem results_tmp4 {fn : Func} {t u v x : Tmp} (h : fn.results = #[.tmp t, .tmp u, .tmp v, .tmp x]) (tmps : Array Value) (P : Program) (w : World) :
    (results fn tmps).run P w = .ok (.tuple #[tmps.getD t undef, tmps.getD u undef, tmps.getD v undef, tmps.getD x undef]) w := by
  simp [results, h]
/-- two results -/
abbrev two (a b : Int) : Ending := .returned (.tuple #[.int .i64 a, .int .i64 b])
/-- three results -/
abbrev three (a b c : Int) : Ending := .returned (.tuple #[.int .i64 a, .int .i64 b, .int .i64 c])
/-- four results -/
abbrev four (a b c d : Int) : Ending := .returned (.tuple #[.int .i64 a, .int .i64 b, .int .i64 c, .int .i64 d])
theorem two_eq {a b a' b' : Int} (h : a = a') (k : b = b') : two a b = two a' b' := by rw [h, k]
theorem four_eq {a b c d a' b' c' d' : Int} (h1 : a = a') (h2 : b = b') (h3 : c = c') (h4 : d = d') : four a b c d = four a' b' c' d' := by rw [h1, h2, h3, h4]

theorem beqT {a b : Int} (h : a = b) : (a == b) = true := by simp [h]
theorem beqF {a b : Int} (h : a ≠ b) : (a == b) = false := by simp [h]
theorem bneT {a b : Int} (h : a ≠ b) : (a != b) = true := by simp [h]
theorem bneF {a b : Int} (h : a = b) : (a != b) = false := by simp [h]
theorem ltT {a b : Int} (h : a < b) : decide (a < b) = true := by simp [h]
theorem ltF {a b : Int} (h : ¬ a < b) : decide (a < b) = false := by simp at h ⊢; exact h
/-- a text, by its bytes -/
def S (l : List UInt8) : ByteArray := ⟨l.toArray⟩
@[go_sem] theorem S_size (l : List UInt8) : (S l).size = l.length := by simp [S, ByteArray.size]
@[go_sem] theorem S_append (a b : List UInt8) : S a ++ S b = S (a ++ b) := by simp [S, ByteArray.mk_append_mk]
theorem lit_S (b : Array UInt8) : ByteArray.mk b = S b.toList := by simp [S]
@[go_sem] theorem S_append_lit (a : List UInt8) (b : Array UInt8) : S a ++ ByteArray.mk b = S (a ++ b.toList) := by rw [lit_S, S_append]
@[go_sem] theorem S_lit_append (a : List UInt8) (b : Array UInt8) : ByteArray.mk b ++ S a = S (b.toList ++ a) := by rw [lit_S, S_append]
@[go_sem] theorem S_toList (l : List UInt8) : (S l).toList = l := by simp [S]
theorem S_inj {a b : List UInt8} (h : S a = S b) : a = b := by have := congrArg ByteArray.toList h; simpa [S_toList] using this
theorem S_of (s : ByteArray) : s = S s.toList := by rw [ByteArray.toList_eq]; simp [S]
/-- a text and a number -/
abbrev strInt (s : ByteArray) (b : Int) : Ending := .returned (.tuple #[.string s, .int .i64 b])
theorem strInt_eq {a a' : ByteArray} {b b' : Int} (h : a = a') (k : b = b') : strInt a b = strInt a' b' := by rw [h, k]
/-- the byte of a number -/
def u (n : Int) : UInt8 := UInt8.ofNat n.toNat
theorem u_toNat {n : Int} (h1 : 0 ≤ n) (h2 : n ≤ 255) : ((u n).toNat : Int) = n := by
  unfold u; simp; omega

section
variable {H : Type} {enc : TypeId × Value → H} {P : Program}
/-- The row's last step where the call left a world that only grew. -/
theorem post_of_below {f : Func} {s : ChangeSpec} {apart fresh handsOn again : Bool} {W W' : World} {args : Array Value} {v : Value} {ds gs : List (DataW H)} {before pa pv : List MemPlace}
    (hW : DataW.Whole enc P f.params.toList s.vars apart W args.toList ds gs before)
    (hres : ∀ (b : Nat) (sp : Nat → Bool) (hd : Bool), DataW.TrodAll enc P W' b sp hd f.resultTypes.toList (v.resultList f.resultTypes.size) (s.fn H (ds ++ gs)).results [])
    (hargs : ∀ sp : Nat → Bool, (∀ p ∈ before, sp p.block = true) → DataW.TrodAll enc P W' 0 sp true f.params.toList args.toList (s.fn H (ds ++ gs)).args pa)
    (hvars : ∀ sp : Nat → Bool, (∀ p ∈ before, sp p.block = true) → DataW.TrodVars enc P W' sp s.vars (s.fn H (ds ++ gs)).vars pv)
    (hps : before = pa ++ pv) (hb : Below W.heap.size W W')
    (hok : ∀ (j : Nat) (t : TypeId) (r : Value), f.resultTypes[j]? = some t → (v.resultList f.resultTypes.size)[j]? = some r → Value.okWide P W' .any 0 t r) :
    s.post enc P f apart fresh handsOn again W args v W' := by
  have hlt : ∀ p ∈ before, p.block < W.heap.size := fun p hp => hW.lt p hp
  have hold : ∀ p ∈ before, (fun b => decide (b < W.heap.size)) p.block = true := fun p hp => by simpa using hlt p hp
  refine ⟨ds, gs, before, [], pa, pv, hW, hres _ _ _, hargs _ hold, hvars _ hold, World.keptBut_mono (fun p hp => ⟨hp, ?_⟩) (hb.frame (· ∈ before)), fun _ => ?_⟩
  · rw [hps, List.mem_append] at hp
    exact Or.inr hp
  · obtain ⟨_, _, _, _, _, hz, hn⟩ := hW
    refine ⟨hok, _, _, ([] ++ pa) ++ pv, ⟨[] ++ pa, pv, trodAll_append (hargs _ (fun _ _ => rfl)) (hres _ _ _), hvars _ (fun _ _ => rfl), rfl, ?_, ?_⟩, ?_⟩
    · intro b off hp
      have hin : MemPlace.cell b off ∈ before := by rw [hps]; simpa using hp
      rw [hb.frozen (hlt _ hin)]
      exact hz b off hin
    · intro ha
      have := hn ha
      rw [hps] at this
      simpa using this
    · intro p hp _
      rw [hps]
      simpa using hp
end
end Go.Proofs.YtkmgildnhnjepaaGreatDoor
namespace Go.Proofs.YtkmgildnhnjepaaGreatDoor
set_option linter.unusedVariables false
set_option linter.unusedSimpArgs false
open Go.RowKit
/-- the decimal digits of a number -/
def dg (n : Nat) : List UInt8 := if n < 10 then [u (n + 48)] else dg (n / 10) ++ [u ((n % 10 : Nat) + 48)]
/-- the same of an integer that is not below 0 -/
def dz (n : Int) : List UInt8 := dg n.toNat
theorem dz_small {n : Int} (h0 : 0 ≤ n) (h : n < 10) : dz n = [u (48 + n)] := by
  unfold dz; rw [dg, if_pos (by omega)]; congr 2; omega
theorem dz_big {n : Int} (h0 : 0 ≤ n) (h : ¬ n < 10) : dz n = dz (n / 10) ++ [u (48 + n % 10)] := by
  unfold dz; rw [dg, if_neg (by omega)]
  have e1 : n.toNat / 10 = (n / 10).toNat := by omega
  have e2 : ((n.toNat % 10 : Nat) : Int) + 48 = 48 + n % 10 := by omega
  rw [e1, e2]
/-- two digits -/
def d2 (n : Int) : List UInt8 := [u (48 + n / 10), u (48 + n % 10)]
/-- four digits -/
def d4 (n : Int) : List UInt8 := [u (48 + n / 1000), u (48 + n / 100 % 10), u (48 + n / 10 % 10), u (48 + n % 10)]
@[go_sem] theorem d2_length (n : Int) : (d2 n).length = 2 := rfl
@[go_sem] theorem d4_length (n : Int) : (d4 n).length = 4 := rfl
theorem dz_d4 {n : Int} (h1 : 1000 ≤ n) (h2 : n < 10000) : dz n = d4 n := by
  rw [dz_big (by omega) (by omega), dz_big (by omega) (by omega), dz_big (by omega) (by omega), dz_small (by omega) (by omega)]
  have e1 : n / 10 / 10 / 10 = n / 1000 := by omega
  have e2 : n / 10 / 10 % 10 = n / 100 % 10 := by omega
  rw [e1, e2]; rfl
/-- a time as text -/
def stampL (y m d r : Int) : List UInt8 := d4 y ++ 45 :: (d2 m ++ 45 :: (d2 d ++ 84 :: (d2 (r / 3600) ++ 58 :: (d2 (r / 60 % 60) ++ 58 :: d2 (r % 60)))))
end Go.Proofs.YtkmgildnhnjepaaGreatDoor
namespace Go.Proofs.YtkmgildnhnjepaaGreatDoor.Cal
set_option linter.unusedVariables false
set_option linter.unusedSimpArgs false
def leap (y : Int) : Bool := y % 4 == 0 && (y % 100 != 0 || y % 400 == 0)
def lp (y : Int) : Int := if leap y then 1 else 0
def tab : List Int := [31, 28, 31, 30, 31, 30, 31, 31, 30, 31, 30, 31]
def ml (y m : Int) : Int := if m = 2 then 28 + lp y else tab.getD (m - 1).toNat 0
def ys (y : Int) : Int := 365 * (y - 1) + (y - 1) / 4 - (y - 1) / 100 + (y - 1) / 400 - 719162
def acc : List Int := [0, 31, 59, 90, 120, 151, 181, 212, 243, 273, 304, 334, 365]
def cum (y m : Int) : Int := acc.getD (m - 1).toNat 0 + (if m ≤ 2 then 0 else lp y)
def days (y m d : Int) : Int := ys y + cum y m + d - 1
def Valid (y m d : Int) : Prop := 1600 ≤ y ∧ y ≤ 2399 ∧ 1 ≤ m ∧ m ≤ 12 ∧ 1 ≤ d ∧ d ≤ ml y m

theorem leap_iff (y : Int) : leap y = true ↔ y % 4 = 0 ∧ (y % 100 ≠ 0 ∨ y % 400 = 0) := by
  unfold leap; simp
theorem lp_cases (y : Int) : (lp y = 1 ∧ y % 4 = 0 ∧ (y % 100 ≠ 0 ∨ y % 400 = 0)) ∨ (lp y = 0 ∧ ¬ (y % 4 = 0 ∧ (y % 100 ≠ 0 ∨ y % 400 = 0))) := by
  unfold lp
  cases h : leap y
  · right; refine ⟨by simp, fun hh => ?_⟩; rw [(leap_iff y).2 hh] at h; cases h
  · left; exact ⟨by simp, (leap_iff y).1 h⟩
theorem lp_true {y : Int} (h : leap y = true) : lp y = 1 := by unfold lp; simp [h]
theorem lp_false {y : Int} (h : leap y = false) : lp y = 0 := by unfold lp; simp [h]
theorem lp_bd (y : Int) : 0 ≤ lp y ∧ lp y ≤ 1 := by rcases lp_cases y with h | h <;> omega
theorem ys_succ (y : Int) : ys (y + 1) = ys y + 365 + lp y := by
  unfold ys; rcases lp_cases y with h | h <;> omega
theorem ys_mono {a b : Int} (h : a ≤ b) : ys a ≤ ys b := by unfold ys; omega
theorem ys_bd {y : Int} (h1 : 1600 ≤ y) (h2 : y ≤ 2400) : -135140 ≤ ys y ∧ ys y ≤ 157054 := by unfold ys; omega
theorem ys_1600 : ys 1600 = -135140 := by decide
theorem ys_2400 : ys 2400 = 157054 := by decide
theorem twelve {m : Int} (h1 : 1 ≤ m) (h2 : m ≤ 12) : m = 1 ∨ m = 2 ∨ m = 3 ∨ m = 4 ∨ m = 5 ∨ m = 6 ∨ m = 7 ∨ m = 8 ∨ m = 9 ∨ m = 10 ∨ m = 11 ∨ m = 12 := by omega
theorem ml_bd (y : Int) {m : Int} (h1 : 1 ≤ m) (h2 : m ≤ 12) : 28 ≤ ml y m ∧ ml y m ≤ 31 := by
  have := lp_bd y
  rcases twelve h1 h2 with h | h | h | h | h | h | h | h | h | h | h | h <;> subst h <;> simp [ml, tab] <;> omega
theorem cum_one (y : Int) : cum y 1 = 0 := by simp [cum, acc]
theorem cum_13 (y : Int) : cum y 13 = 365 + lp y := by simp [cum, acc]
theorem cum_succ (y : Int) {m : Int} (h1 : 1 ≤ m) (h2 : m ≤ 12) : cum y (m + 1) = cum y m + ml y m := by
  have := lp_bd y
  rcases twelve h1 h2 with h | h | h | h | h | h | h | h | h | h | h | h <;> subst h <;> simp [cum, ml, tab, acc] <;> omega
theorem cum_bd (y : Int) {m : Int} (h1 : 1 ≤ m) (h2 : m ≤ 13) : 0 ≤ cum y m ∧ cum y m ≤ 366 := by
  have := lp_bd y
  by_cases h : m = 13
  · subst h; rw [cum_13]; omega
  · rcases twelve h1 (by omega) with h | h | h | h | h | h | h | h | h | h | h | h <;> subst h <;> simp [cum, acc] <;> omega
theorem cum_mono (y : Int) {a b : Int} (h1 : 1 ≤ a) (h : a < b) (h2 : b ≤ 13) : cum y a + ml y a ≤ cum y b := by
  have key : ∀ k : Nat, a + 1 + k ≤ 13 → cum y a + ml y a ≤ cum y (a + 1 + k) := by
    intro k
    induction k with
    | zero => intro _; have := cum_succ y h1 (by omega); simp; omega
    | succ k ih =>
      intro hk
      have h3 := ih (by omega)
      have h4 := cum_succ y (m := a + 1 + k) (by omega) (by omega)
      have h5 := ml_bd y (m := a + 1 + k) (by omega) (by omega)
      have e : a + 1 + ((k + 1 : Nat) : Int) = a + 1 + k + 1 := by omega
      rw [e]; omega
  have e : a + 1 + ((b - a - 1).toNat : Int) = b := by omega
  have := key (b - a - 1).toNat (by omega)
  rw [e] at this; exact this

/-- The days of a valid date lie in its year. -/
theorem days_in {y m d : Int} (h : Valid y m d) : ys y + cum y m ≤ days y m d ∧ days y m d < ys y + cum y m + ml y m ∧ ys y ≤ days y m d ∧ days y m d < ys (y + 1) := by
  obtain ⟨a, b, c, e, f, g⟩ := h
  have h1 := cum_bd y c (by omega : m ≤ 13)
  have h2 := cum_mono y (a := m) (b := 13) c (by omega) (by omega)
  have h3 := cum_13 y
  have h4 := ys_succ y
  unfold days; omega
theorem days_bd {y m d : Int} (h : Valid y m d) : -135140 ≤ days y m d ∧ days y m d ≤ 157053 := by
  obtain ⟨_, _, h1, h2⟩ := days_in h
  have h3 := ys_bd h.1 (by have := h.2.1; omega : y ≤ 2400)
  have h4 : ys (y + 1) ≤ ys 2400 := ys_mono (by have := h.2.1; omega)
  have h5 := ys_2400
  omega
/-- The date behind a valid date, where there is one. -/
theorem next_day {y m d : Int} (h : Valid y m d) : (d < ml y m ∧ Valid y m (d + 1) ∧ days y m (d + 1) = days y m d + 1) ∨
    (d = ml y m ∧ m < 12 ∧ Valid y (m + 1) 1 ∧ days y (m + 1) 1 = days y m d + 1) ∨
    (d = ml y m ∧ m = 12 ∧ y < 2399 ∧ Valid (y + 1) 1 1 ∧ days (y + 1) 1 1 = days y m d + 1) ∨
    (d = ml y m ∧ m = 12 ∧ y = 2399 ∧ days y m d = 157053) := by
  obtain ⟨a, b, c, e, f, g⟩ := h
  by_cases h1 : d < ml y m
  · left; exact ⟨h1, ⟨a, b, c, e, by omega, by omega⟩, by unfold days; omega⟩
  · have hd : d = ml y m := by omega
    right
    by_cases h2 : m < 12
    · left
      have h3 := ml_bd y (m := m + 1) (by omega) (by omega)
      have h4 := cum_succ y c e
      exact ⟨hd, h2, ⟨a, b, by omega, by omega, by omega, by omega⟩, by unfold days; omega⟩
    · right
      have hm : m = 12 := by omega
      subst hm
      have h4 := cum_succ y (m := 12) (by omega) (by omega)
      have h5 := cum_13 y
      have h6 := ys_succ y
      have h7 := cum_one (y + 1)
      have h8 := ml_bd (y + 1) (m := 1) (by omega) (by omega)
      have e13 : cum y (12 + 1) = cum y 13 := rfl
      by_cases h3 : y < 2399
      · left
        exact ⟨hd, rfl, h3, ⟨by omega, by omega, by omega, by omega, by omega, by omega⟩, by unfold days; omega⟩
      · right
        have hy : y = 2399 := by omega
        subst hy
        have h9 := ys_2400
        have e24 : ys (2399 + 1) = ys 2400 := rfl
        exact ⟨hd, rfl, rfl, by unfold days; omega⟩

/-- Every day number of the supported years has a date. -/
theorem has_date {n : Int} (h1 : -135140 ≤ n) (h2 : n ≤ 157053) : ∃ y m d, Valid y m d ∧ days y m d = n := by
  have key : ∀ k : Nat, (k : Int) ≤ 292193 → ∃ y m d, Valid y m d ∧ days y m d = -135140 + k := by
    intro k
    induction k with
    | zero => intro _; exact ⟨1600, 1, 1, ⟨by decide, by decide, by decide, by decide, by decide, by decide⟩, by decide⟩
    | succ k ih =>
      intro hk
      obtain ⟨y, m, d, hv, hd⟩ := ih (by omega)
      rcases next_day hv with ⟨_, h, e⟩ | ⟨_, _, h, e⟩ | ⟨_, _, _, h, e⟩ | ⟨_, _, _, e⟩
      · exact ⟨_, _, _, h, by omega⟩
      · exact ⟨_, _, _, h, by omega⟩
      · exact ⟨_, _, _, h, by omega⟩
      · omega
  obtain ⟨y, m, d, hv, hd⟩ := key (n + 135140).toNat (by omega)
  exact ⟨y, m, d, hv, by omega⟩

end Go.Proofs.YtkmgildnhnjepaaGreatDoor.Cal
namespace Go.Proofs.YtkmgildnhnjepaaGreatDoor
set_option linter.unusedVariables false
set_option linter.unusedSimpArgs false
open Go.RowKit
/-- The table of the months' lengths lies in the world as its initialiser lays it. -/
def HasLen (w : World) : Prop := 0 < w.heap.size ∧ ∀ i : Nat, i < 12 → w.cell? ⟨0, i, none⟩ = some (.int .i64 (Cal.tab.getD i 0))
theorem Gr.len {w w' : World} (h : Gr w w') (hl : HasLen w) : HasLen w' :=
  ⟨Nat.lt_of_lt_of_le hl.1 h.size, fun i hi => (h.cell hl.1).trans (hl.2 i hi)⟩

set_option maxHeartbeats 400000 in
theorem isLeap_any (y : Int) (w : World) (h1 : 0 ≤ y) (h2 : y ≤ 10000) :
    Calls Tryz.prog 121 #[.int .i64 y] w fun e w' => e = .returned (.bool (Cal.leap y)) ∧ w = w' := by
  by_cases a : y % 4 = 0
  · by_cases b : y % 100 = 0
    · by_cases c : y % 400 = 0
      · have e : Cal.leap y = true := by simp [Cal.leap, a, c]
        rw [e]
        go_enter Tryz.func121, Tryz.ntmps121
        go_wp2
        all_goals go_ret
        all_goals exact ⟨rfl, rfl⟩
      · have e : Cal.leap y = false := by simp [Cal.leap, a, b, c]
        have c' : (y % 400 == 0) = false := by simp [c]
        rw [e]
        go_enter Tryz.func121, Tryz.ntmps121
        go_wp2
        all_goals go_ret
        all_goals exact ⟨rfl, rfl⟩
    · have e : Cal.leap y = true := by simp [Cal.leap, a, b]
      rw [e]
      go_enter Tryz.func121, Tryz.ntmps121
      go_wp2
      all_goals go_ret
      all_goals exact ⟨rfl, rfl⟩
  · have e : Cal.leap y = false := by simp [Cal.leap, a]
    rw [e]
    go_enter Tryz.func121, Tryz.ntmps121
    go_wp2
    all_goals go_ret
    all_goals exact ⟨rfl, rfl⟩

set_option maxHeartbeats 400000 in
theorem yearStart_any (y : Int) (w : World) (h1 : 1 ≤ y) (h2 : y ≤ 10000) :
    Calls Tryz.prog 94 #[.int .i64 y] w fun e w' => e = .returned (.int .i64 (Cal.ys y)) ∧ w = w' := by
  go_enter Tryz.func94, Tryz.ntmps94
  go_wp2
  go_ret
  exact ⟨rfl, rfl⟩

set_option maxHeartbeats 400000 in
theorem monthLength_any (y m : Int) (w : World) (hl : HasLen w) (h1 : 0 ≤ y) (h2 : y ≤ 10000) (h3 : 1 ≤ m) (h4 : m ≤ 12) :
    Calls Tryz.prog 95 #[.int .i64 y, .int .i64 m] w fun e w' => e = .returned (.int .i64 (Cal.ml y m)) ∧ w = w' := by
  have hc : w.cell? ⟨0, (m - 1).toNat, none⟩ = some (.int .i64 (Cal.tab.getD (m - 1).toNat 0)) := hl.2 _ (by omega)
  by_cases a : m = 2
  · subst a
    cases hlp : Cal.leap y
    · have e : Cal.ml y 2 = 28 := by simp [Cal.ml, Cal.lp, hlp]
      have hc2 : w.cell? ⟨0, 1, none⟩ = some (.int .i64 28) := hl.2 1 (by omega)
      clear hc
      rw [e]
      clear e hl
      go_enter Tryz.func95, Tryz.ntmps95
      go_wp2_with (go_at_call 121; refine (isLeap_any _ _ (by omega) (by omega)).mono ?_; rintro e w' ⟨rfl, rfl⟩)
      go_ret
      exact ⟨rfl, rfl⟩
    · have e : Cal.ml y 2 = 29 := by simp [Cal.ml, Cal.lp, hlp]
      rw [e]
      clear e hc hl
      go_enter Tryz.func95, Tryz.ntmps95
      go_wp2_with (go_at_call 121; refine (isLeap_any _ _ (by omega) (by omega)).mono ?_; rintro e w' ⟨rfl, rfl⟩)
      go_ret
      exact ⟨rfl, rfl⟩
  · have e : Cal.ml y m = Cal.tab.getD (m - 1).toNat 0 := by simp [Cal.ml, a]
    rw [e]
    clear e hl
    generalize Cal.tab.getD (m - 1).toNat 0 = t at hc
    rw [show (m - 1).toNat = m.toNat - 1 by omega] at hc
    go_enter Tryz.func95, Tryz.ntmps95
    go_wp2
    go_ret
    exact ⟨rfl, rfl⟩
end Go.Proofs.YtkmgildnhnjepaaGreatDoor
