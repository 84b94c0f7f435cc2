/- Small things that every walk here uses: a world that only grew, results by two, three and four, texts by their bytes, the last step of a row. No program in it. What the reference's small functions on texts return: chr, Digits, fixed. Plain arithmetic of the calendar, no program in it: leap years, lengths of months, the number of a day, that each day number of the supported years has exactly one date. -/
import Derived.WalkKit
import Derived.WalkSpells
import Derived.WalkLawsBesides
import Derived.Laws.IdiomStrings
import Derived.ChangeSame
import Derived.Deep.Draws
import Derived.Lib.Hide
import Derived.Test.YtkkilmmpmiichaaGreatDoorProg
namespace Go.Proofs.YtkkilmmpmiichaaGreatDoor
set_option linter.unusedVariables false
set_option linter.unusedSimpArgs false
open Go.RowKit Go.WideShapes Go.ChangeShapes
/-- Nothing that lay in the world has changed; new blocks may lie behind it. -/
def Gr (w w' : World) : Prop := Below w.heap.size w w'
theorem Gr.refl (w : World) : Gr w w := Below.refl _ _
theorem Gr.trans {a b c : World} (h : Gr a b) (k : Gr b c) : Gr a c := Below.trans h (Below.mono k (Below.size h))
theorem Gr.alloc (w : World) (o : Obj) : Gr w (w.alloc o) := (Below.refl _ _).alloc (Nat.le_refl _) _
theorem Gr.drew (w : World) : Gr w w.drew := (Below.refl _ _).drew
theorem Gr.alloc' {a w : World} (h : Gr a w) (o : Obj) : Gr a (w.alloc o) := h.trans (Gr.alloc w o)
theorem Gr.drew' {a w : World} (h : Gr a w) : Gr a w.drew := h.trans (Gr.drew w)
theorem below_drewN {B : Nat} {a w : World} (h : Below B a w) (n : Nat) : Below B a (w.drewN n) := ⟨h.os, h.tape, h.output, h.size, h.block⟩
theorem Gr.drewN {a w : World} (h : Gr a w) (n : Nat) : Gr a (w.drewN n) := below_drewN h n
theorem Gr.size {w w' : World} (h : Gr w w') : w.heap.size ≤ w'.heap.size := Below.size h
theorem Gr.cell {w w' : World} (h : Gr w w') {b o : Nat} (hb : b < w.heap.size) : w'.cell? ⟨b, o, none⟩ = w.cell? ⟨b, o, none⟩ := Below.cell (p := ⟨b, o, none⟩) h hb
theorem Gr.holds {w w' : World} (h : Gr w w') {b o : Nat} {v : Value} (hc : w.cell? ⟨b, o, none⟩ = some v) : w'.cell? ⟨b, o, none⟩ = some v :=
  (h.cell (World.block_lt_of_cell? w ⟨b, o, none⟩ hc)).trans hc

theorem ret_int {k : IntKind} {a b : Int} (h : a = b) : Ending.returned (.int k a) = .returned (.int k b) := by rw [h]
theorem ret_bool {a b : Bool} (h : a = b) : Ending.returned (.bool a) = .returned (.bool b) := by rw [h]
theorem ret_str {a b : ByteArray} (h : a = b) : Ending.returned (.string a) = .returned (.string b) := by rw [h]
theorem results_tmp4 {fn : Func} {t u v x : Tmp} (h : fn.results = #[.tmp t, .tmp u, .tmp v, .tmp x]) (tmps : Array Value) (P : Program) (w : World) :
    (results fn tmps).run P w = .ok (.tuple #[tmps.getD t undef, tmps.getD u undef, tmps.getD v undef, tmps.getD x undef]) w := by
  simp [results, h]
/-- two results -/
abbrev two (a b : Int) : Ending := .returned (.tuple #[.int .i64 a, .int .i64 b])
/-- three results -/
abbrev three (a b c : Int) : Ending := .returned (.tuple #[.int .i64 a, .int .i64 b, .int .i64 c])
/-- four results -/
abbrev four (a b c d : Int) : Ending := .returned (.tuple #[.int .i64 a, .int .i64 b, .int .i64 c, .int .i64 d])
theorem two_eq {a b a' b' : Int} (h : a = a') (k : b = b') : two a b = two a' b' := by rw [h, k]
theorem four_eq {a b c d a' b' c' d' : Int} (h1 : a = a') (h2 : b = b') (h3 : c = c') (h4 : d = d') : four a b c d = four a' b' c' d' := by rw [h1, h2, h3, h4]

theorem beqT {a b : Int} (h : a = b) : (a == b) = true := by simp [h]
theorem beqF {a b : Int} (h : a ≠ b) : (a == b) = false := by simp [h]
theorem bneT {a b : Int} (h : a ≠ b) : (a != b) = true := by simp [h]
theorem bneF {a b : Int} (h : a = b) : (a != b) = false := by simp [h]
theorem ltT {a b : Int} (h : a < b) : decide (a < b) = true := by simp [h]
theorem ltF {a b : Int} (h : ¬ a < b) : decide (a < b) = false := by simp at h ⊢; exact h
/-- a text, by its bytes -/
def S (l : List UInt8) : ByteArray := ⟨l.toArray⟩
@[go_sem] theorem S_size (l : List UInt8) : (S l).size = l.length := by simp [S, ByteArray.size]
@[go_sem] theorem S_append (a b : List UInt8) : S a ++ S b = S (a ++ b) := by simp [S, ByteArray.mk_append_mk]
theorem lit_S (b : Array UInt8) : ByteArray.mk b = S b.toList := by simp [S]
@[go_sem] theorem S_append_lit (a : List UInt8) (b : Array UInt8) : S a ++ ByteArray.mk b = S (a ++ b.toList) := by rw [lit_S, S_append]
@[go_sem] theorem S_lit_append (a : List UInt8) (b : Array UInt8) : ByteArray.mk b ++ S a = S (b.toList ++ a) := by rw [lit_S, S_append]
@[go_sem] theorem S_toList (l : List UInt8) : (S l).toList = l := by simp [S]
theorem S_inj {a b : List UInt8} (h : S a = S b) : a = b := by have := congrArg ByteArray.toList h; simpa [S_toList] using this
theorem S_of (s : ByteArray) : s = S s.toList := by rw [ByteArray.toList_eq]; simp [S]
/-- a text and a number -/
abbrev strInt (s : ByteArray) (b : Int) : Ending := .returned (.tuple #[.string s, .int .i64 b])
theorem strInt_eq {a a' : ByteArray} {b b' : Int} (h : a = a') (k : b = b') : strInt a b = strInt a' b' := by rw [h, k]
/-- the byte of a number -/
def u (n : Int) : UInt8 := UInt8.ofNat n.toNat
theorem u_toNat {n : Int} (h1 : 0 ≤ n) (h2 : n ≤ 255) : ((u n).toNat : Int) = n := by
  unfold u; simp; omega

section
variable {H : Type} {enc : TypeId × Value → H} {P : Program}
/-- The row's last step where the call left a world that only grew. -/
theorem post_of_below {f : Func} {s : ChangeSpec} {apart fresh handsOn again : Bool} {W W' : World} {args : Array Value} {v : Value} {ds gs : List (DataW H)} {before pa pv : List MemPlace}
    (hW : DataW.Whole enc P f.params.toList s.vars apart W args.toList ds gs before)
    (hres : ∀ (b : Nat) (sp : Nat → Bool) (hd : Bool), DataW.TrodAll enc P W' b sp hd f.resultTypes.toList (v.resultList f.resultTypes.size) (s.fn H (ds ++ gs)).results [])
    (hargs : ∀ sp : Nat → Bool, (∀ p ∈ before, sp p.block = true) → DataW.TrodAll enc P W' 0 sp true f.params.toList args.toList (s.fn H (ds ++ gs)).args pa)
    (hvars : ∀ sp : Nat → Bool, (∀ p ∈ before, sp p.block = true) → DataW.TrodVars enc P W' sp s.vars (s.fn H (ds ++ gs)).vars pv)
    (hps : before = pa ++ pv) (hb : Below W.heap.size W W')
    (hok : ∀ (j : Nat) (t : TypeId) (r : Value), f.resultTypes[j]? = some t → (v.resultList f.resultTypes.size)[j]? = some r → Value.okWide P W' .any 0 t r) :
    s.post enc P f apart fresh handsOn again W args v W' := by
  have hlt : ∀ p ∈ before, p.block < W.heap.size := fun p hp => hW.lt p hp
  have hold : ∀ p ∈ before, (fun b => decide (b < W.heap.size)) p.block = true := fun p hp => by simpa using hlt p hp
  refine ⟨ds, gs, before, [], pa, pv, hW, hres _ _ _, hargs _ hold, hvars _ hold, World.keptBut_mono (fun p hp => ⟨hp, ?_⟩) (hb.frame (· ∈ before)), fun _ => ?_⟩
  · rw [hps, List.mem_append] at hp
    exact Or.inr hp
  · obtain ⟨_, _, _, _, _, hz, hn⟩ := hW
    refine ⟨hok, _, _, ([] ++ pa) ++ pv, ⟨[] ++ pa, pv, trodAll_append (hargs _ (fun _ _ => rfl)) (hres _ _ _), hvars _ (fun _ _ => rfl), rfl, ?_, ?_⟩, ?_⟩
    · intro b off hp
      have hin : MemPlace.cell b off ∈ before := by rw [hps]; simpa using hp
      rw [hb.frozen (hlt _ hin)]
      exact hz b off hin
    · intro ha
      have := hn ha
      rw [hps] at this
      simpa using this
    · intro p hp _
      rw [hps]
      simpa using hp
end
end Go.Proofs.YtkkilmmpmiichaaGreatDoor
namespace Go.Proofs.YtkkilmmpmiichaaGreatDoor
set_option linter.unusedVariables false
set_option linter.unusedSimpArgs false
open Go.RowKit
theorem conv_one (n : Int) (w : World) (h1 : 0 ≤ n) (h2 : n ≤ 255) :
    (convert 76 9 (.slice (some ⟨w.heap.size, 0, none⟩) 1 1)).run Tryz.prog (w.alloc (.cells #[.int .u8 n] 5)) = .ok (.string (S [u n])) (w.alloc (.cells #[.int .u8 n] 5)) := by
  refine run_convert_bytes_back (P := Tryz.prog) (w.alloc (.cells #[.int .u8 n] 5)) 76 9 5 ⟨w.heap.size, 0, none⟩ 1 [u n] Tryz.underlying76 Tryz.underlying5 Tryz.underlying9 ?_
  intro j hj
  obtain rfl : j = 0 := by simpa using hj
  have : (Addr.add ⟨w.heap.size, 0, none⟩ 0) = ⟨w.heap.size, 0, none⟩ := rfl
  rw [this, World.cell?_alloc_new]
  simp [u_toNat h1 h2]

set_option maxHeartbeats 400000 in
theorem chr_any (n : Int) (w : World) (h1 : 0 ≤ n) (h2 : n ≤ 255) :
    Calls Tryz.prog 101 #[.int .i64 n] w fun e w' => e = .returned (.string (S [u n])) ∧ Gr w w' := by
  have hc := conv_one n w h1 h2
  go_enter Tryz.func101, Tryz.ntmps101
  go_wp2
  go_ret
  exact ⟨rfl, Gr.alloc _ _⟩

/-- the decimal digits of a number -/
def dg (n : Nat) : List UInt8 := if n < 10 then [u (n + 48)] else dg (n / 10) ++ [u ((n % 10 : Nat) + 48)]
/-- the same of an integer that is not below 0 -/
def dz (n : Int) : List UInt8 := dg n.toNat
theorem dz_small {n : Int} (h0 : 0 ≤ n) (h : n < 10) : dz n = [u (48 + n)] := by
  unfold dz; rw [dg, if_pos (by omega)]; congr 2; omega
theorem dz_big {n : Int} (h0 : 0 ≤ n) (h : ¬ n < 10) : dz n = dz (n / 10) ++ [u (48 + n % 10)] := by
  unfold dz; rw [dg, if_neg (by omega)]
  have e1 : n.toNat / 10 = (n / 10).toNat := by omega
  have e2 : ((n.toNat % 10 : Nat) : Int) + 48 = 48 + n % 10 := by omega
  rw [e1, e2]
theorem dz_len : ∀ (k : Nat) (n : Int), 0 ≤ n → n < 10 ^ (k + 1) → 1 ≤ (dz n).length ∧ (dz n).length ≤ k + 1 := by
  intro k
  induction k with
  | zero => intro n h0 h; rw [dz_small h0 (by simpa using h)]; simp
  | succ k ih =>
    intro n h0 h
    by_cases c : n < 10
    · rw [dz_small h0 c]; simp
    · rw [dz_big h0 c]
      have := ih (n / 10) (by omega) (by rw [Int.pow_succ] at h; omega)
      simp; omega

theorem pow_bd {k : Nat} (h : k ≤ 17) : (10 : Int) ^ (k + 1) ≤ 1000000000000000000 := by
  have : (10 : Nat) ^ (k + 1) ≤ 10 ^ 18 := Nat.pow_le_pow_right (by omega) (by omega)
  have e : ((10 : Nat) ^ (k + 1) : Nat) = ((10 : Int) ^ (k + 1)) := by simp
  omega

set_option maxHeartbeats 400000 in
theorem digits_any (k : Nat) : ∀ (n : Int) (w : World), 0 ≤ n → n < 10 ^ (k + 1) → k ≤ 17 →
    Calls Tryz.prog 69 #[.int .i64 n] w fun e w' => e = .returned (.string (S (dz n))) ∧ Gr w w' := by
  induction k with
  | zero =>
    intro n w h0 h _
    have h10 : n < 10 := by simpa using h
    rw [dz_small h0 h10]
    clear h
    go_enter Tryz.func69, Tryz.ntmps69
    go_wp2_with fail
    refine (chr_any (48 + n) w (by omega) (by omega)).mono ?_
    rintro e w1 ⟨rfl, hg⟩
    go_wp2_with fail
    go_ret
    exact ⟨rfl, hg⟩
  | succ k ih =>
    intro n w h0 h hk
    by_cases h10 : n < 10
    · rw [dz_small h0 h10]
      clear h ih
      go_enter Tryz.func69, Tryz.ntmps69
      go_wp2_with fail
      refine (chr_any (48 + n) w (by omega) (by omega)).mono ?_
      rintro e w1 ⟨rfl, hg⟩
      go_wp2_with fail
      go_ret
      exact ⟨rfl, hg⟩
    · rw [dz_big h0 h10]
      have hlt : n / 10 < 10 ^ (k + 1) := by rw [Int.pow_succ] at h; omega
      have hlen := (dz_len k (n / 10) (by omega) hlt).2
      have hN : n ≤ 1000000000000000000 := by have := pow_bd hk; omega
      have c := ih (n / 10) w (by omega) hlt (by omega)
      clear h ih hlt
      go_enter Tryz.func69, Tryz.ntmps69
      go_wp2_with fail
      refine c.mono ?_
      rintro e w1 ⟨rfl, hg⟩
      clear c
      go_wp2_with fail
      refine (chr_any (48 + n % 10) w1 (by omega) (by omega)).mono ?_
      rintro e w2 ⟨rfl, hg2⟩
      go_wp2_with fail
      go_ret
      exact ⟨rfl, hg.trans hg2⟩

/-- two digits -/
def d2 (n : Int) : List UInt8 := [u (48 + n / 10), u (48 + n % 10)]
/-- four digits -/
def d4 (n : Int) : List UInt8 := [u (48 + n / 1000), u (48 + n / 100 % 10), u (48 + n / 10 % 10), u (48 + n % 10)]
@[go_sem] theorem d2_length (n : Int) : (d2 n).length = 2 := rfl
@[go_sem] theorem d4_length (n : Int) : (d4 n).length = 4 := rfl
theorem dz_d2 {n : Int} (h1 : 10 ≤ n) (h2 : n < 100) : dz n = d2 n := by
  rw [dz_big (by omega) (by omega), dz_small (by omega) (by omega)]; rfl
theorem dz_d4 {n : Int} (h1 : 1000 ≤ n) (h2 : n < 10000) : dz n = d4 n := by
  rw [dz_big (by omega) (by omega), dz_big (by omega) (by omega), dz_big (by omega) (by omega), dz_small (by omega) (by omega)]
  have e1 : n / 10 / 10 / 10 = n / 1000 := by omega
  have e2 : n / 10 / 10 % 10 = n / 100 % 10 := by omega
  rw [e1, e2]; rfl
theorem d2_small {n : Int} (h1 : 0 ≤ n) (h2 : n < 10) : d2 n = 48 :: dz n := by
  rw [dz_small h1 h2]
  have e1 : n / 10 = 0 := by omega
  have e2 : n % 10 = n := by omega
  simp only [d2, e1, e2]; rfl

set_option maxHeartbeats 400000 in
theorem fixed_two (n : Int) (w : World) (h1 : 0 ≤ n) (h2 : n < 100) :
    Calls Tryz.prog 75 #[.int .i64 n, .int .i64 2] w fun e w' => e = .returned (.string (S (d2 n))) ∧ Gr w w' := by
  by_cases h : n < 10
  · rw [d2_small h1 h]
    have hl : (dz n).length = 1 := by rw [dz_small h1 h]; rfl
    have l1 : (dz n).length < 2 := by omega
    have l2 : ¬ (dz n).length + 1 < 2 := by omega
    clear hl
    go_enter Tryz.func75, Tryz.ntmps75
    go_wp2_with fail
    refine (digits_any 8 n w h1 (by omega) (by omega)).mono ?_
    rintro e w1 ⟨rfl, hg⟩
    go_wp2_with fail
    refine wp_loop_rounds 2 ?_
    rw [rounds_succ]
    go_wp2
    rw [rounds_succ]
    go_wp2
    go_ret
    exact ⟨rfl, hg⟩
  · rw [← dz_d2 (by omega) h2]
    have hl : (dz n).length = 2 := by rw [dz_d2 (by omega) h2]; rfl
    have l2 : ¬ (dz n).length < 2 := by omega
    clear hl
    go_enter Tryz.func75, Tryz.ntmps75
    go_wp2_with fail
    refine (digits_any 8 n w h1 (by omega) (by omega)).mono ?_
    rintro e w1 ⟨rfl, hg⟩
    go_wp2_with fail
    refine wp_loop_rounds 1 ?_
    rw [rounds_succ]
    go_wp2
    go_ret
    exact ⟨rfl, hg⟩

/-- a duration that is not below 0 as text -/
def spanL0 (n : Int) : List UInt8 := dz (n / 3600) ++ 58 :: (d2 (n / 60 % 60) ++ (if n % 60 = 0 then [] else 58 :: d2 (n % 60)))
/-- a duration as text -/
def spanL (n : Int) : List UInt8 := if n < 0 then 45 :: spanL0 (-n) else spanL0 n

theorem spanL0_len (n : Int) (h1 : 0 ≤ n) (h2 : n ≤ 604800) : (spanL0 n).length ≤ 20 := by
  have hl := (dz_len 8 (n / 3600) (by omega) (by omega)).2
  unfold spanL0; split <;> simp [d2] <;> omega

set_option maxHeartbeats 1000000 in
theorem rspan_pos (n : Int) (w : World) (h1 : 0 ≤ n) (h2 : n ≤ 604800) :
    Calls Tryz.prog 39 #[.int .i64 n] w fun e w' => e = strInt (S (spanL0 n)) 0 ∧ Gr w w' := by
  have hl := (dz_len 8 (n / 3600) (by omega) (by omega)).2
  by_cases h : n % 60 = 0
  · have t : ¬ 0 < n % 60 := by omega
    have E : Hid (spanL0 n = dz (n / 3600) ++ 58 :: d2 (n / 60 % 60)) := by simp [Hid, spanL0, h]
    clear h
    go_enter Tryz.func39, Tryz.ntmps39
    go_wp2_with (go_at_call 12; go_in)
    refine (digits_any 8 (n / 3600) w (by omega) (by omega) (by omega)).mono ?_
    rintro e w1 ⟨rfl, hg⟩
    go_wp2_with fail
    refine (fixed_two (n / 60 % 60) w1 (by omega) (by omega)).mono ?_
    rintro e w2 ⟨rfl, hg2⟩
    go_wp2_with fail
    go_ret2
    exact ⟨strInt_eq (by rw [E.out]) rfl, hg.trans hg2⟩
  · have t : 0 < n % 60 := by omega
    have E : Hid (spanL0 n = dz (n / 3600) ++ 58 :: (d2 (n / 60 % 60) ++ 58 :: d2 (n % 60))) := by simp [Hid, spanL0, h]
    clear h
    go_enter Tryz.func39, Tryz.ntmps39
    go_wp2_with (go_at_call 12; go_in)
    refine (digits_any 8 (n / 3600) w (by omega) (by omega) (by omega)).mono ?_
    rintro e w1 ⟨rfl, hg⟩
    go_wp2_with fail
    refine (fixed_two (n / 60 % 60) w1 (by omega) (by omega)).mono ?_
    rintro e w2 ⟨rfl, hg2⟩
    go_wp2_with fail
    refine (fixed_two (n % 60) w2 (by omega) (by omega)).mono ?_
    rintro e w3 ⟨rfl, hg3⟩
    go_wp2_with fail
    go_ret2
    exact ⟨strInt_eq (by rw [E.out]) rfl, (hg.trans hg2).trans hg3⟩

set_option maxHeartbeats 1000000 in
theorem rspan_yes (n : Int) (w : World) (h1 : -604800 ≤ n) (h2 : n ≤ 604800) :
    Calls Tryz.prog 39 #[.int .i64 n] w fun e w' => e = strInt (S (spanL n)) 0 ∧ Gr w w' := by
  by_cases h : n < 0
  · have E : Hid (spanL n = 45 :: spanL0 (-n)) := by simp [Hid, spanL, h]
    have hl := spanL0_len (-n) (by omega) (by omega)
    have c := rspan_pos (-n) w (by omega) (by omega)
    go_enter Tryz.func39, Tryz.ntmps39
    go_wp2_with (go_at_call 12; go_in)
    refine c.mono ?_
    rintro e w1 ⟨rfl, hg⟩
    clear c
    go_wp2_with fail
    go_ret2
    exact ⟨strInt_eq (by rw [E.out]) rfl, hg⟩
  · have e : spanL n = spanL0 n := by simp [spanL, h]
    rw [e]
    exact rspan_pos n w (by omega) h2

set_option maxHeartbeats 400000 in
theorem rspan_no (n : Int) (w : World) (h : ¬ (-604800 ≤ n ∧ n ≤ 604800)) :
    Calls Tryz.prog 39 #[.int .i64 n] w fun e w' => e = strInt (S []) 1 ∧ w = w' := by
  by_cases h1 : n < -604800
  · clear h
    go_enter Tryz.func39, Tryz.ntmps39
    go_wp2_with (go_at_call 12; go_in)
    go_ret2
    exact ⟨rfl, rfl⟩
  · have h2 : decide (604800 < n) = true := by simp; omega
    clear h
    go_enter Tryz.func39, Tryz.ntmps39
    go_wp2_with (go_at_call 12; go_in)
    go_ret2
    exact ⟨rfl, rfl⟩

/-- a time as text -/
def stampL (y m d r : Int) : List UInt8 := d4 y ++ 45 :: (d2 m ++ 45 :: (d2 d ++ 84 :: (d2 (r / 3600) ++ 58 :: (d2 (r / 60 % 60) ++ 58 :: d2 (r % 60)))))
end Go.Proofs.YtkkilmmpmiichaaGreatDoor
namespace Go.Proofs.YtkkilmmpmiichaaGreatDoor.Cal
set_option linter.unusedVariables false
set_option linter.unusedSimpArgs false
def leap (y : Int) : Bool := y % 4 == 0 && (y % 100 != 0 || y % 400 == 0)
def lp (y : Int) : Int := if leap y then 1 else 0
def tab : List Int := [31, 28, 31, 30, 31, 30, 31, 31, 30, 31, 30, 31]
def ml (y m : Int) : Int := if m = 2 then 28 + lp y else tab.getD (m - 1).toNat 0
def ys (y : Int) : Int := 365 * (y - 1) + (y - 1) / 4 - (y - 1) / 100 + (y - 1) / 400 - 719162
def acc : List Int := [0, 31, 59, 90, 120, 151, 181, 212, 243, 273, 304, 334, 365]
def cum (y m : Int) : Int := acc.getD (m - 1).toNat 0 + (if m ≤ 2 then 0 else lp y)
def days (y m d : Int) : Int := ys y + cum y m + d - 1
def Valid (y m d : Int) : Prop := 1600 ≤ y ∧ y ≤ 2399 ∧ 1 ≤ m ∧ m ≤ 12 ∧ 1 ≤ d ∧ d ≤ ml y m

theorem leap_iff (y : Int) : leap y = true ↔ y % 4 = 0 ∧ (y % 100 ≠ 0 ∨ y % 400 = 0) := by
  unfold leap; simp
theorem lp_cases (y : Int) : (lp y = 1 ∧ y % 4 = 0 ∧ (y % 100 ≠ 0 ∨ y % 400 = 0)) ∨ (lp y = 0 ∧ ¬ (y % 4 = 0 ∧ (y % 100 ≠ 0 ∨ y % 400 = 0))) := by
  unfold lp
  cases h : leap y
  · right; refine ⟨by simp, fun hh => ?_⟩; rw [(leap_iff y).2 hh] at h; cases h
  · left; exact ⟨by simp, (leap_iff y).1 h⟩
theorem lp_true {y : Int} (h : leap y = true) : lp y = 1 := by unfold lp; simp [h]
theorem lp_false {y : Int} (h : leap y = false) : lp y = 0 := by unfold lp; simp [h]
theorem lp_bd (y : Int) : 0 ≤ lp y ∧ lp y ≤ 1 := by rcases lp_cases y with h | h <;> omega
theorem ys_succ (y : Int) : ys (y + 1) = ys y + 365 + lp y := by
  unfold ys; rcases lp_cases y with h | h <;> omega
theorem ys_mono {a b : Int} (h : a ≤ b) : ys a ≤ ys b := by unfold ys; omega
theorem ys_bd {y : Int} (h1 : 1600 ≤ y) (h2 : y ≤ 2400) : -135140 ≤ ys y ∧ ys y ≤ 157054 := by unfold ys; omega
theorem ys_1600 : ys 1600 = -135140 := by decide
theorem ys_2400 : ys 2400 = 157054 := by decide
theorem twelve {m : Int} (h1 : 1 ≤ m) (h2 : m ≤ 12) : m = 1 ∨ m = 2 ∨ m = 3 ∨ m = 4 ∨ m = 5 ∨ m = 6 ∨ m = 7 ∨ m = 8 ∨ m = 9 ∨ m = 10 ∨ m = 11 ∨ m = 12 := by omega
theorem ml_bd (y : Int) {m : Int} (h1 : 1 ≤ m) (h2 : m ≤ 12) : 28 ≤ ml y m ∧ ml y m ≤ 31 := by
  have := lp_bd y
  rcases twelve h1 h2 with h | h | h | h | h | h | h | h | h | h | h | h <;> subst h <;> simp [ml, tab] <;> omega
theorem cum_one (y : Int) : cum y 1 = 0 := by simp [cum, acc]
theorem cum_13 (y : Int) : cum y 13 = 365 + lp y := by simp [cum, acc]
theorem cum_succ (y : Int) {m : Int} (h1 : 1 ≤ m) (h2 : m ≤ 12) : cum y (m + 1) = cum y m + ml y m := by
  have := lp_bd y
  rcases twelve h1 h2 with h | h | h | h | h | h | h | h | h | h | h | h <;> subst h <;> simp [cum, ml, tab, acc] <;> omega
theorem cum_bd (y : Int) {m : Int} (h1 : 1 ≤ m) (h2 : m ≤ 13) : 0 ≤ cum y m ∧ cum y m ≤ 366 := by
  have := lp_bd y
  by_cases h : m = 13
  · subst h; rw [cum_13]; omega
  · rcases twelve h1 (by omega) with h | h | h | h | h | h | h | h | h | h | h | h <;> subst h <;> simp [cum, acc] <;> omega
theorem cum_mono (y : Int) {a b : Int} (h1 : 1 ≤ a) (h : a < b) (h2 : b ≤ 13) : cum y a + ml y a ≤ cum y b := by
  have key : ∀ k : Nat, a + 1 + k ≤ 13 → cum y a + ml y a ≤ cum y (a + 1 + k) := by
    intro k
    induction k with
    | zero => intro _; have := cum_succ y h1 (by omega); simp; omega
    | succ k ih =>
      intro hk
      have h3 := ih (by omega)
      have h4 := cum_succ y (m := a + 1 + k) (by omega) (by omega)
      have h5 := ml_bd y (m := a + 1 + k) (by omega) (by omega)
      have e : a + 1 + ((k + 1 : Nat) : Int) = a + 1 + k + 1 := by omega
      rw [e]; omega
  have e : a + 1 + ((b - a - 1).toNat : Int) = b := by omega
  have := key (b - a - 1).toNat (by omega)
  rw [e] at this; exact this

/-- The days of a valid date lie in its year. -/
theorem days_in {y m d : Int} (h : Valid y m d) : ys y + cum y m ≤ days y m d ∧ days y m d < ys y + cum y m + ml y m ∧ ys y ≤ days y m d ∧ days y m d < ys (y + 1) := by
  obtain ⟨a, b, c, e, f, g⟩ := h
  have h1 := cum_bd y c (by omega : m ≤ 13)
  have h2 := cum_mono y (a := m) (b := 13) c (by omega) (by omega)
  have h3 := cum_13 y
  have h4 := ys_succ y
  unfold days; omega
theorem days_bd {y m d : Int} (h : Valid y m d) : -135140 ≤ days y m d ∧ days y m d ≤ 157053 := by
  obtain ⟨_, _, h1, h2⟩ := days_in h
  have h3 := ys_bd h.1 (by have := h.2.1; omega : y ≤ 2400)
  have h4 : ys (y + 1) ≤ ys 2400 := ys_mono (by have := h.2.1; omega)
  have h5 := ys_2400
  omega
/-- The date behind a valid date, where there is one. -/
theorem next_day {y m d : Int} (h : Valid y m d) : (d < ml y m ∧ Valid y m (d + 1) ∧ days y m (d + 1) = days y m d + 1) ∨
    (d = ml y m ∧ m < 12 ∧ Valid y (m + 1) 1 ∧ days y (m + 1) 1 = days y m d + 1) ∨
    (d = ml y m ∧ m = 12 ∧ y < 2399 ∧ Valid (y + 1) 1 1 ∧ days (y + 1) 1 1 = days y m d + 1) ∨
    (d = ml y m ∧ m = 12 ∧ y = 2399 ∧ days y m d = 157053) := by
  obtain ⟨a, b, c, e, f, g⟩ := h
  by_cases h1 : d < ml y m
  · left; exact ⟨h1, ⟨a, b, c, e, by omega, by omega⟩, by unfold days; omega⟩
  · have hd : d = ml y m := by omega
    right
    by_cases h2 : m < 12
    · left
      have h3 := ml_bd y (m := m + 1) (by omega) (by omega)
      have h4 := cum_succ y c e
      exact ⟨hd, h2, ⟨a, b, by omega, by omega, by omega, by omega⟩, by unfold days; omega⟩
    · right
      have hm : m = 12 := by omega
      subst hm
      have h4 := cum_succ y (m := 12) (by omega) (by omega)
      have h5 := cum_13 y
      have h6 := ys_succ y
      have h7 := cum_one (y + 1)
      have h8 := ml_bd (y + 1) (m := 1) (by omega) (by omega)
      have e13 : cum y (12 + 1) = cum y 13 := rfl
      by_cases h3 : y < 2399
      · left
        exact ⟨hd, rfl, h3, ⟨by omega, by omega, by omega, by omega, by omega, by omega⟩, by unfold days; omega⟩
      · right
        have hy : y = 2399 := by omega
        subst hy
        have h9 := ys_2400
        have e24 : ys (2399 + 1) = ys 2400 := rfl
        exact ⟨hd, rfl, rfl, by unfold days; omega⟩

/-- Every day number of the supported years has a date. -/
theorem has_date {n : Int} (h1 : -135140 ≤ n) (h2 : n ≤ 157053) : ∃ y m d, Valid y m d ∧ days y m d = n := by
  have key : ∀ k : Nat, (k : Int) ≤ 292193 → ∃ y m d, Valid y m d ∧ days y m d = -135140 + k := by
    intro k
    induction k with
    | zero => intro _; exact ⟨1600, 1, 1, ⟨by decide, by decide, by decide, by decide, by decide, by decide⟩, by decide⟩
    | succ k ih =>
      intro hk
      obtain ⟨y, m, d, hv, hd⟩ := ih (by omega)
      rcases next_day hv with ⟨_, h, e⟩ | ⟨_, _, h, e⟩ | ⟨_, _, _, h, e⟩ | ⟨_, _, _, e⟩
      · exact ⟨_, _, _, h, by omega⟩
      · exact ⟨_, _, _, h, by omega⟩
      · exact ⟨_, _, _, h, by omega⟩
      · omega
  obtain ⟨y, m, d, hv, hd⟩ := key (n + 135140).toNat (by omega)
  exact ⟨y, m, d, hv, by omega⟩

end Go.Proofs.YtkkilmmpmiichaaGreatDoor.Cal
