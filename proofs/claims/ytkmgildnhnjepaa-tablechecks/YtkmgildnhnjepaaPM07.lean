/- Contracts of functions of the Go library, laid at this program by the kit: proved once over any program. What the project's isSave, isFormat, expand and Abbr of package book return. What the project's settle of package turns returns. Tables as data: the times at which a function of times turns, and the table that lists them. No function of the program in it. Tables as data and in memory: what Check and At of package table answer. No function of the program in it. The project's savingAt of package state: the letter before the first transition, the search, the saving and the letter that apply. The project's withTurns and localType of package state. The times at which the project's Make looks, and the table that it builds out of them. No function of the program in it. The project's isSpan, isLarge, isIndex, typeAfter, bookOf of package table. -/
import Derived.Shelf.LaysM
import Derived.Shelf.Strconv.Clone
import Derived.Test.YtkmgildnhnjepaaProg
import Derived.Lib.CutLaws
import Derived.Lib.IndexBytes
import Derived.Deep.QuietTactic
import Derived.BigQuiet
import Derived.Lib.Strings
import Derived.Test.YtkmgildnhnjepaaPM03
import Derived.Test.YtkmgildnhnjepaaPM04
import Derived.Test.YtkmgildnhnjepaaPM01
import Derived.Shelf.SlGeneric
import Derived.Shelf.SlLaysF0
import Derived.Deep.Cut
import Derived.Shelf.SlSortCmp.KitK
import Derived.Deep.LoopGhost
import Derived.Deep.AppendLies
import Derived.OwnWalk
import Derived.Laws.OwnMore
import Derived.Lib.LaidTab
import Derived.Laws.AppendOwn
import Derived.Test.YtkmgildnhnjepaaPM05
import Derived.Deep.RegionHeld3
import Derived.Deep.DrawnRows
import Derived.Deep.Upon
import Derived.Shelf.SlSorted.Search
namespace Go.Proofs
open Go.Shelf
def Try.laysM316_ren : Go.Shelf.Ren := ⟨fun | 316 => 21 | n => n, fun | 9 => 9 | 3 => 3 | 4 => 4 | 37 => 46 | 0 => 0 | 127 => 47 | 5 => 5 | n => n, fun | n => n⟩
theorem Try.laysM316 : Go.Proofs.LaysM.n316 Try.prog Try.laysM316_ren := {
  mixed := by kernel_rfl
  f316 := Try.func21.trans (congrArg some (by kernel_rfl))
  t0 := Try.underlying0
  a0 := Try.isAgg0
  z0 := Try.sizeOf0
  v0 := Try.zeroValue0
  t3 := Try.underlying3
  a3 := Try.isAgg3
  z3 := Try.sizeOf3
  v3 := Try.zeroValue3
  t4 := Try.underlying4
  a4 := Try.isAgg4
  z4 := Try.sizeOf4
  v4 := Try.zeroValue4
  t9 := Try.underlying9
  a9 := Try.isAgg9
  z9 := Try.sizeOf9
  v9 := Try.zeroValue9
  t37 := Try.underlying46
  a37 := Try.isAgg46
  z37 := Try.sizeOf46
  v37 := Try.zeroValue46
  t127 := Try.underlying47
  a127 := Try.isAgg47
  z127 := Try.sizeOf47
  v127 := Try.zeroValue47
  t5 := Try.underlying5
  a5 := Try.isAgg5
  z5 := Try.sizeOf5
  v5 := Try.zeroValue5
  i0 := by kernel_rfl
  i3 := by kernel_rfl
  i4 := by kernel_rfl
  i5 := by kernel_rfl
  i9 := by kernel_rfl
  i37 := by kernel_rfl
  i127 := by kernel_rfl }
open Go.RowKit in
theorem Try.stringslite_Clone (s : ByteArray) (w : World) (hlim : s.size ≤ 281474976710656) :
    Calls Try.prog 21 #[.string s] w fun e w' => e = .returned (.string s) ∧ Below w.heap.size w w' := Any.stringslite_Clone Try.laysM316 s w hlim
end Go.Proofs
namespace Go.Proofs.Ytkmgildnhnjepaa
set_option linter.unusedVariables false
set_option linter.unusedSimpArgs false
open Go.RowKit
theorem bclone (s : ByteArray) (w : World) (hs : s.size ≤ 1048576) :
    Calls Try.prog 17 #[.string s] w fun e w' => e = .returned (.string s) ∧ Gr w w' := by
  have K := Try.stringslite_Clone s w (by omega)
  clear hs
  go_enter Try.func17, Try.ntmps17
  go_wp2_with fail
  refine K.mono ?_
  rintro e w1 ⟨rfl, hg⟩
  go_wp2_with fail
  go_ret
  exact ⟨rfl, hg⟩

end Go.Proofs.Ytkmgildnhnjepaa
namespace Go.Proofs.Ytkmgildnhnjepaa
set_option linter.unusedVariables false
set_option linter.unusedSimpArgs false
open Go.RowKit
theorem Row.three {α : Type} {w W : World} {e : α → List Value} {A : Option Addr} {l : List α} {i : Nat} {x : α} {v0 v1 v2 : Value} (h : Row w 3 e A l) (hx : l[i]? = some x) (he : e x = [v0, v1, v2]) (g : Gr w W) :
    ∃ b off, A = some ⟨b, off, none⟩ ∧ W.cell? ⟨b, off + i * 3, none⟩ = some v0 ∧ W.cell? ⟨b, off + i * 3 + 1, none⟩ = some v1 ∧ W.cell? ⟨b, off + i * 3 + 2, none⟩ = some v2 := by
  obtain ⟨b, off, rfl, hb, hc⟩ := h i x hx
  rw [he] at hc
  exact ⟨b, off, rfl, g.holds (hc 0 v0 rfl), g.holds (hc 1 v1 rfl), g.holds (hc 2 v2 rfl)⟩
end Go.Proofs.Ytkmgildnhnjepaa
namespace Go.Proofs.Ytkmgildnhnjepaa
set_option linter.unusedVariables false
set_option linter.unusedSimpArgs false
instance : DecidableEq TypD := fun a b => decidable_of_iff (a.off = b.off ∧ a.sv = b.sv ∧ a.nm = b.nm) ⟨fun h => by cases a; cases b; obtain ⟨rfl, rfl, rfl⟩ := h; rfl, fun h => by subst h; exact ⟨rfl, rfl, rfl⟩⟩

section
variable {β : Type}
/-- where it does not turn it is one thing -/
theorem still {f : Int → β} {a : Int} : ∀ {n : Nat}, (∀ t, a < t → t ≤ a + n → f t = f (t - 1)) → f (a + n) = f a
  | 0, _ => by simp
  | n + 1, h => by
    have h1 := still (n := n) fun t h1 h2 => h t h1 (by omega)
    have h2 := h (a + (n + 1 : Nat)) (by omega) (by omega)
    rw [h2, show a + ((n + 1 : Nat) : Int) - 1 = a + n by omega]
    exact h1
theorem still_to {f : Int → β} {a b : Int} (hab : a ≤ b) (h : ∀ t, a < t → t ≤ b → f t = f (t - 1)) : f b = f a := by
  have := still (f := f) (a := a) (n := (b - a).toNat) fun t h1 h2 => h t h1 (by omega)
  rwa [show a + (((b - a).toNat : Nat) : Int) = b by omega] at this
end
section
variable {β : Type} [DecidableEq β]
/-- the times behind F and ahead of T -/
def inner (F T : Int) : List Int := (List.range (T - F - 1).toNat).map fun (i : Nat) => F + 1 + i
/-- the times at which f turns, behind F and ahead of T -/
def tls (f : Int → β) (F T : Int) : List Int := (inner F T).filter fun t => decide (f t ≠ f (t - 1))
/-- types, changes, the last type -/
structure BlS (β : Type) where
  ty : List β
  ch : List (Int × Nat)
  la : β
def bstep (f : Int → β) (s : BlS β) (t : Int) : BlS β :=
  if f t = s.la then s else ⟨if f t ∈ s.ty then s.ty else s.ty ++ [f t], s.ch ++ [(t, s.ty.idxOf (f t))], f t⟩
def bld (f : Int → β) (s : BlS β) (l : List Int) : BlS β := l.foldl (bstep f) s
/-- the table of a function of times within a span -/
def tab (f : Int → β) (F T : Int) : BlS β := bld f ⟨[f F], [], f F⟩ (tls f F T)
end
section
variable {β : Type}
/-- the number of the type that applies at a time -/
def numAt (k0 : Nat) (ch : List (Int × Nat)) (t : Int) : Nat := ch.foldl (fun k c => if c.1 ≤ t then c.2 else k) k0
theorem numAt_app (k0 : Nat) (a b : List (Int × Nat)) (t : Int) : numAt k0 (a ++ b) t = numAt (numAt k0 a t) b t := List.foldl_append
theorem numAt_late {k0 : Nat} {ch : List (Int × Nat)} {t : Int} (h : ∀ c ∈ ch, t < c.1) : numAt k0 ch t = k0 := by
  induction ch with
  | nil => rfl
  | cons c l ih =>
    unfold numAt at *
    rw [List.foldl_cons, if_neg (by have := h c (by simp); omega)]
    exact ih fun d hd => h d (by simp [hd])
/-- what is known of a table under way: all types are there, each once, and each change leads tto its own -/
structure BOk (f : Int → β) (F : Int) (p : Int) (s : BlS β) : Prop where
  la : s.la = f p
  nd : s.ty.Nodup
  fst : s.ty[0]? = some (f F)
  num : ∀ t, F ≤ t → t ≤ p → s.ty[numAt 0 s.ch t]? = some (f t)
  tim : ∀ c ∈ s.ch, F < c.1 ∧ c.1 ≤ p
  has : f p ∈ s.ty
/-- going on tto a later time with no turn between -/
theorem BOk.wait {f : Int → β} {F p q : Int} {s : BlS β} (h : BOk f F p s) (hF : F ≤ p) (hq : p ≤ q) (hs : ∀ t, p < t → t ≤ q → f t = f (t - 1)) : BOk f F q s := by
  have e : ∀ t, p ≤ t → t ≤ q → f t = f p := fun t h1 h2 => still_to h1 fun u h3 h4 => hs u h3 (by omega)
  refine ⟨h.la.trans (e q hq (Int.le_refl _)).symm, h.nd, h.fst, fun t h1 h2 => ?_, fun c hc => ⟨(h.tim c hc).1, by have := (h.tim c hc).2; omega⟩, by rw [e q hq (Int.le_refl _)]; exact h.has⟩
  by_cases c : t ≤ p
  · exact h.num t h1 c
  · have e2 : numAt 0 s.ch t = numAt 0 s.ch p := by
      have : ∀ (l : List (Int × Nat)) (k : Nat), (∀ c ∈ l, c.1 ≤ p) → numAt k l t = numAt k l p := fun l => by
        induction l with
        | nil => intro k _; rfl
        | cons a l ih =>
          intro k hl
          unfold numAt at *
          have ha := hl a (by simp)
          rw [List.foldl_cons, List.foldl_cons, if_pos (by omega), if_pos ha]
          exact ih _ fun c hc => hl c (by simp [hc])
      exact this s.ch 0 fun c hc => (h.tim c hc).2
    rw [e2, e t (by omega) h2]
    exact h.num p hF (Int.le_refl _)
end
section
variable {β : Type} [DecidableEq β]
/-- a turn -/
theorem BOk.turn {f : Int → β} {F p : Int} {s : BlS β} (h : BOk f F p s) (hF : F ≤ p) : BOk f F (p + 1) (bstep f s (p + 1)) := by
  by_cases e : f (p + 1) = s.la
  · have : bstep f s (p + 1) = s := by unfold bstep; rw [if_pos e]
    rw [this]
    exact h.wait hF (by omega) fun t h1 h2 => by
      have : t = p + 1 := by omega
      subst this
      rw [show p + 1 - 1 = p by omega, e, h.la]
  · unfold bstep
    rw [if_neg e]
    by_cases m : f (p + 1) ∈ s.ty
    · rw [if_pos m]
      refine ⟨rfl, h.nd, h.fst, fun t h1 h2 => ?_, fun c hc => ?_, m⟩
      · rw [numAt_app]
        by_cases c : t ≤ p
        · rw [numAt_late (ch := [(p + 1, _)]) (by intro c hc; simp at hc; subst hc; show t < p + 1; omega)]
          exact h.num t h1 c
        · have : t = p + 1 := by omega
          subst this
          show s.ty[if p + 1 ≤ p + 1 then _ else _]? = _
          rw [if_pos (Int.le_refl _)]
          rw [List.getElem?_eq_getElem (List.idxOf_lt_length_of_mem m), List.getElem_idxOf]
      · rcases List.mem_append.1 hc with q | q
        · exact ⟨(h.tim c q).1, by have := (h.tim c q).2; omega⟩
        · simp at q; subst q; exact ⟨by show F < p + 1; omega, Int.le_refl _⟩
    · rw [if_neg m]
      have ei : s.ty.idxOf (f (p + 1)) = s.ty.length := List.idxOf_eq_length m
      have h0 : 0 < s.ty.length := by have := (List.getElem?_eq_some_iff.1 h.fst).1; exact this
      refine ⟨rfl, ?_, ?_, fun t h1 h2 => ?_, fun c hc => ?_, by simp⟩
      · rw [List.nodup_append]
        exact ⟨h.nd, by simp, fun a ha b hb => by simp at hb; subst hb; intro q; subst q; exact m ha⟩
      · show (s.ty ++ [f (p + 1)])[0]? = _
        rw [List.getElem?_append_left h0]; exact h.fst
      · show (s.ty ++ [f (p + 1)])[numAt 0 (s.ch ++ [(p + 1, s.ty.idxOf (f (p + 1)))]) t]? = _
        rw [numAt_app]
        by_cases c : t ≤ p
        · rw [numAt_late (ch := [(p + 1, _)]) (by intro c hc; simp at hc; subst hc; show t < p + 1; omega)]
          have := h.num t h1 c
          rw [List.getElem?_append_left (List.getElem?_eq_some_iff.1 this).1]; exact this
        · have : t = p + 1 := by omega
          subst this
          show (s.ty ++ [f (p + 1)])[if p + 1 ≤ p + 1 then _ else _]? = _
          rw [if_pos (Int.le_refl _), ei, List.getElem?_append_right (Nat.le_refl _)]
          simp
      · rcases List.mem_append.1 hc with q | q
        · exact ⟨(h.tim c q).1, by have := (h.tim c q).2; omega⟩
        · simp at q; subst q; exact ⟨by show F < p + 1; omega, Int.le_refl _⟩
end
end Go.Proofs.Ytkmgildnhnjepaa
namespace Go.Proofs.Ytkmgildnhnjepaa
set_option linter.unusedVariables false
set_option linter.unusedSimpArgs false
open Go.RowKit
/-- a change -/
structure ChaD where
  at' : Int
  ty : Int
instance : Inhabited TypD := ⟨⟨0, false, .empty⟩⟩
instance : Inhabited ChaD := ⟨⟨0, 0⟩⟩
def TypD.cells (x : TypD) : List Value := [.int .i64 x.off, .bool x.sv, .string x.nm]
def ChaD.cells (x : ChaD) : List Value := [.int .i64 x.at', .int .i64 x.ty]
def I64 (n : Int) : Prop := -9223372036854775808 ≤ n ∧ n ≤ 9223372036854775807
def TypD.In (x : TypD) : Prop := x.nm.size ≤ maxLen ∧ I64 x.off
def ChaD.In (x : ChaD) : Prop := I64 x.at' ∧ I64 x.ty
/-- a table and where its parts lie -/
structure TabD where
  At : Option Addr
  ct : Nat
  ty : List TypD
  fst : Int
  Ac : Option Addr
  cc : Nat
  ch : List ChaD
/-- a table as a value -/
abbrev tabV (x : TabD) : Value := .agg #[.slice x.At x.ty.length x.ct, .int .i64 x.fst, .slice x.Ac x.ch.length x.cc]
def TysAt (w : World) (A : Option Addr) (c : Nat) (l : List TypD) : Prop := SlOk l.length c ∧ Row w 3 TypD.cells A l ∧ ∀ x ∈ l, x.In
def ChsAt (w : World) (A : Option Addr) (c : Nat) (l : List ChaD) : Prop := SlOk l.length c ∧ Row w 2 ChaD.cells A l ∧ ∀ x ∈ l, x.In
theorem TysAt.gr {w w' : World} {A : Option Addr} {c : Nat} {l : List TypD} (h : TysAt w A c l) (g : Gr w w') : TysAt w' A c l := ⟨h.1, h.2.1.gr g, h.2.2⟩
theorem ChsAt.gr {w w' : World} {A : Option Addr} {c : Nat} {l : List ChaD} (h : ChsAt w A c l) (g : Gr w w') : ChsAt w' A c l := ⟨h.1, h.2.1.gr g, h.2.2⟩
def TabD.Lies (w : World) (x : TabD) : Prop := TysAt w x.At x.ct x.ty ∧ I64 x.fst ∧ ChsAt w x.Ac x.cc x.ch
theorem TabD.Lies.gr {w w' : World} {x : TabD} (h : x.Lies w) (g : Gr w w') : x.Lies w' := ⟨h.1.gr g, h.2.1, h.2.2.gr g⟩

/-- the error of a type, of a change -/
def tyE (x : TypD) : Int := if x.off < -75600 ∨ 75600 < x.off then 1 else if isAbbrB x.nm.toList = false then 3 else 0
def tyC (l : List TypD) (i : Nat) : Int := match l[i]? with
  | some x => tyE x
  | none => 0
theorem tyC_at {l : List TypD} {i : Nat} {x : TypD} (h : l[i]? = some x) : tyC l i = tyE x := by unfold tyC; rw [h]
/-- is the change before it not earlier? -/
def preB (l : List ChaD) (i : Nat) (t : Int) : Bool := match i with
  | 0 => false
  | j + 1 => match l[j]? with
    | some p => decide (t ≤ p.at')
    | none => false
def chC (n : Nat) (l : List ChaD) (i : Nat) : Int := match l[i]? with
  | some c => if (c.at' < -1099511627776 ∨ 1099511627776 < c.at') ∨ (c.ty < 0 ∨ (n : Int) - 1 < c.ty) then 1 else if preB l i c.at' = true then 5 else 0
  | none => 0
theorem chC_at {n : Nat} {l : List ChaD} {i : Nat} {c : ChaD} (h : l[i]? = some c) : chC n l i = if (c.at' < -1099511627776 ∨ 1099511627776 < c.at') ∨ (c.ty < 0 ∨ (n : Int) - 1 < c.ty) then 1 else if preB l i c.at' = true then 5 else 0 := by unfold chC; rw [h]
def tabC (ty : List TypD) (fst : Int) (ch : List ChaD) : Int :=
  if 250 < ty.length ∨ 1000 < ch.length then 2
  else if ty.length = 0 then 5
  else if fe (tyC ty) ty.length ≠ 0 then fe (tyC ty) ty.length
  else if fst < 0 ∨ (ty.length : Int) - 1 < fst then 1
  else fe (chC ty.length ch) ch.length
theorem tabC_ok {ty : List TypD} {fst : Int} {ch : List ChaD} : tabC ty fst ch = 0 ↔ (ty.length ≤ 250 ∧ ch.length ≤ 1000) ∧ 0 < ty.length ∧ fe (tyC ty) ty.length = 0 ∧ (0 ≤ fst ∧ fst < ty.length) ∧ fe (chC ty.length ch) ch.length = 0 := by
  unfold tabC
  by_cases a : 250 < ty.length ∨ 1000 < ch.length
  · rw [if_pos a]
    constructor
    · intro h; omega
    · rintro ⟨h, _⟩; omega
  · rw [if_neg a]
    by_cases b : ty.length = 0
    · rw [if_pos b]
      constructor
      · intro h; omega
      · rintro ⟨_, h, _⟩; omega
    · rw [if_neg b]
      by_cases c : fe (tyC ty) ty.length = 0
      · rw [if_neg (by simp [c])]
        by_cases d : fst < 0 ∨ (ty.length : Int) - 1 < fst
        · rw [if_pos d]
          constructor
          · intro h; omega
          · rintro ⟨_, _, _, h, _⟩; omega
        · rw [if_neg d]
          constructor
          · intro h; exact ⟨by omega, by omega, c, by omega, h⟩
          · rintro ⟨_, _, _, _, h⟩; exact h
      · rw [if_pos c]
        constructor
        · intro h; exact absurd h c
        · rintro ⟨_, _, h, _⟩; exact absurd h c
/-- the number of the type that applies -/
def numZ (fst : Int) (ch : List ChaD) (t : Int) : Int := ch.foldl (fun k c => if c.at' ≤ t then c.ty else k) fst
theorem numZ_take {fst : Int} {ch : List ChaD} {t : Int} {k : Nat} {c : ChaD} (h : ch[k]? = some c) : numZ fst (ch.take (k + 1)) t = if c.at' ≤ t then c.ty else numZ fst (ch.take k) t := by
  have hk : k < ch.length := (List.getElem?_eq_some_iff.1 h).1
  have e : ch[k] = c := (List.getElem?_eq_some_iff.1 h).2
  unfold numZ
  rw [List.take_succ_eq_append_getElem hk, List.foldl_append, e]; rfl
theorem chs_ok {n : Nat} {ch : List ChaD} (h : fe (chC n ch) ch.length = 0) {k : Nat} {c : ChaD} (hc : ch[k]? = some c) : (-1099511627776 ≤ c.at' ∧ c.at' ≤ 1099511627776) ∧ (0 ≤ c.ty ∧ c.ty < n) ∧ preB ch k c.at' = false := by
  have h0 := (fe_zero _).1 h k (List.getElem?_eq_some_iff.1 hc).1
  rw [chC_at hc] at h0
  split at h0
  · cases h0
  · rename_i q
    split at h0
    · cases h0
    · rename_i q2
      exact ⟨by omega, by omega, by simpa using q2⟩
theorem numZ_in {n : Nat} {fst : Int} {ch : List ChaD} (h0 : 0 ≤ fst ∧ fst < n) (h : ∀ (k : Nat) (c : ChaD), ch[k]? = some c → 0 ≤ c.ty ∧ c.ty < n) (t : Int) : ∀ m, m ≤ ch.length → 0 ≤ numZ fst (ch.take m) t ∧ numZ fst (ch.take m) t < n
  | 0, _ => by simpa [numZ] using h0
  | m + 1, hm => by
    obtain ⟨c, hc⟩ := get_lt (show m < ch.length by omega)
    rw [numZ_take hc]
    split
    · exact h m c hc
    · exact numZ_in h0 h t m (by omega)
/-- the type that applies at a time -/
def tabO (ty : List TypD) (fst : Int) (ch : List ChaD) (t : Int) : TypD := ty.getD (numZ fst ch t).toNat default
theorem tabO_get {ty : List TypD} {fst : Int} {ch : List ChaD} (h : tabC ty fst ch = 0) (t : Int) : (0 ≤ numZ fst ch t ∧ numZ fst ch t < ty.length) ∧ ty[(numZ fst ch t).toNat]? = some (tabO ty fst ch t) := by
  obtain ⟨_, _, _, h4, h5⟩ := tabC_ok.1 h
  have b := numZ_in h4 (fun k c hc => (chs_ok h5 hc).2.1) t ch.length (Nat.le_refl _)
  rw [List.take_length] at b
  refine ⟨b, ?_⟩
  obtain ⟨x, hx⟩ := get_lt (show (numZ fst ch t).toNat < ty.length by omega)
  unfold tabO
  rw [List.getD_eq_getElem?_getD, hx]; rfl
/-- a table out of times, as a table -/
def BlS.chs {β : Type} (s : BlS β) : List ChaD := s.ch.map fun c => ⟨c.1, c.2⟩
end Go.Proofs.Ytkmgildnhnjepaa
namespace Go.Proofs.Ytkmgildnhnjepaa
set_option linter.unusedVariables false
set_option linter.unusedSimpArgs false
open Go.Shelf Go.RowKit Go.Lib Go.Sort
def searchRen : Go.Shelf.Ren := ⟨fun | 16 => 15 | n => n, fun | 3 => 3 | 35 => 41 | 4 => 4 | 38 => 45 | n => n, fun | n => n⟩
theorem searchLay : Go.Proofs.SlLaysO.n16 Try.prog searchRen := {
  mixed := by kernel_rfl
  f16 := Try.func15.trans (congrArg some (by kernel_rfl))
  t3 := Try.underlying3
  a3 := Try.isAgg3
  z3 := Try.sizeOf3
  v3 := Try.zeroValue3
  t4 := Try.underlying4
  a4 := Try.isAgg4
  z4 := Try.sizeOf4
  v4 := Try.zeroValue4
  t35 := Try.underlying41
  a35 := Try.isAgg41
  z35 := Try.sizeOf41
  v35 := Try.zeroValue41
  t38 := Try.underlying45
  a38 := Try.isAgg45
  z38 := Try.sizeOf45
  v38 := Try.zeroValue45 }

end Go.Proofs.Ytkmgildnhnjepaa
namespace Go.Proofs.Ytkmgildnhnjepaa
set_option linter.unusedVariables false
set_option linter.unusedSimpArgs false
open Go.RowKit
theorem box_three (w : World) (o1 o2 o3 : Obj) : Gr w (((w.alloc o1).alloc o2).alloc o3) ∧ (((w.alloc o1).alloc o2).alloc o3).heap[w.heap.size]? = some o1 ∧ (((w.alloc o1).alloc o2).alloc o3).heap[w.heap.size + 1]? = some o2 ∧ (((w.alloc o1).alloc o2).alloc o3).heap[w.heap.size + 1 + 1]? = some o3 := by
  obtain ⟨a, b, c⟩ := box_two w o1 o2
  have g := Gr.alloc ((w.alloc o1).alloc o2) o3
  refine ⟨a.trans g, bheap_gr g b, bheap_gr g c, ?_⟩
  have := bheap_new ((w.alloc o1).alloc o2) o3
  have sz : ∀ (W : World) (o : Obj), (W.alloc o).heap.size = W.heap.size + 1 := fun W o => by unfold World.alloc; simp
  rwa [sz, sz] at this

end Go.Proofs.Ytkmgildnhnjepaa
namespace Go.Proofs.Ytkmgildnhnjepaa
set_option linter.unusedVariables false
set_option linter.unusedSimpArgs false
section
variable {rs : List RuD} {zs : List ZonD} {ls : List LinD} {es : List EraD} {F T : Int}
end
/-- types, changes, the number of the last type -/
structure PS where
  ty : List TypD
  ch : List (Int × Nat)
  la : Nat
/-- a type applies from a time on -/
def PS.put (s : PS) (t : Int) (x : TypD) : PS :=
  ⟨if x ∈ s.ty then s.ty else s.ty ++ [x], if s.ty.idxOf x = s.la then s.ch else s.ch ++ [(t, s.ty.idxOf x)], s.ty.idxOf x⟩
def PS.zero : PS := ⟨[], [], 0⟩
def PS.chs (s : PS) : List ChaD := s.ch.map fun c => ⟨c.1, c.2⟩
end Go.Proofs.Ytkmgildnhnjepaa
namespace Go.Proofs.Ytkmgildnhnjepaa
set_option linter.unusedVariables false
set_option linter.unusedSimpArgs false
open Go.RowKit
/-- is this more than there may be? -/
def lgB (n m : Nat) : Bool := decide (250 < n) || decide (1000 < m)
theorem lgB_no {n m : Nat} : lgB n m = false ↔ n ≤ 250 ∧ m ≤ 1000 := by unfold lgB; simp

set_option maxRecDepth 100000 in
set_option maxHeartbeats 4000000 in
theorem pisLarge (A B : Option Addr) (n m c d : Nat) (f : Int) (w : World) :
    Calls Try.prog 9 #[.agg #[.slice A n c, .int .i64 f, .slice B m d]] w fun e w' => e = .returned (.bool (lgB n m)) ∧ Gr w w' := by
  by_cases h1 : 250 < n
  · have t1 : decide ((250 : Int) < (n : Int)) = true := ltT (by omega)
    have E : Hid (lgB n m = true) := by unfold Hid lgB; rw [decide_eq_true h1]; rfl
    clear h1
    go_enter Try.func9, Try.ntmps9
    go_wp2_with fail
    go_ret
    exact ⟨ret_bool E.out.symm, Gr.alloc _ _⟩
  · have t1 : decide ((250 : Int) < (n : Int)) = false := ltF (by omega)
    have E : Hid (decide ((1000 : Int) < (m : Int)) = lgB n m) := by unfold Hid lgB; rw [decide_eq_false h1, Bool.false_or]; exact decide_eq_decide.2 (by omega)
    clear h1
    go_enter Try.func9, Try.ntmps9
    go_wp2_with fail
    go_ret
    exact ⟨ret_bool E.out, Gr.alloc _ _⟩

set_option maxRecDepth 100000 in
set_option maxHeartbeats 4000000 in
theorem pisIndex (k : Int) (A : Option Addr) (n c : Nat) (w : World) :
    Calls Try.prog 11 #[.int .i64 k, .slice A n c] w fun e w' => e = .returned (.bool (decide (0 ≤ k) && decide (k < (n : Int)))) ∧ w = w' := by
  cases c1 : decide (0 ≤ k) with
  | true =>
    have e1 : (0 : Int) ≤ k := of_decide_eq_true c1
    clear c1
    cases c2 : decide (k < (n : Int)) with
    | true =>
      go_enter Try.func11, Try.ntmps11
      go_wp2_with fail
      go_ret
      exact ⟨rfl, rfl⟩
    | false =>
      go_enter Try.func11, Try.ntmps11
      go_wp2_with fail
      go_ret
      exact ⟨rfl, rfl⟩
  | false =>
    have e1 : ¬ (0 : Int) ≤ k := of_decide_eq_false c1
    go_enter Try.func11, Try.ntmps11
    go_wp2_with fail
    go_ret
    exact ⟨rfl, rfl⟩

end Go.Proofs.Ytkmgildnhnjepaa
