/- Words between blanks: a rule's text and its words. No program in it. What the reference's RuleText returns, for every rule. What the reference's DayRead returns, for every text. What the reference's RuleParse returns: the state that its walk carries. -/
import Derived.Lib.SplitLaws
import Derived.Test.YtmemgpmijphkmaaGreatDoorVM06
import Derived.Test.YtmemgpmijphkmaaGreatDoorVM07
import Derived.Laws.Rows
import Derived.Test.YtmemgpmijphkmaaGreatDoorVM02
namespace Go.Proofs.YtmemgpmijphkmaaGreatDoor
set_option linter.unusedVariables false
set_option linter.unusedSimpArgs false
/-- the words of a rule's text -/
def ruleW (nm lt : List UInt8) (fr t0 mo k d n at' by' sv : Int) : List (List UInt8) :=
  [[114, 117, 108, 101], nm, dz fr, dz t0, dz mo, dayL k d n, spanL at' ++ suf by', spanL sv, lt]
theorem ruleL_jn (nm lt : List UInt8) (fr t0 mo k d n at' by' sv : Int) : ruleL nm lt fr t0 mo k d n at' by' sv = jn 32 (ruleW nm lt fr t0 mo k d n at' by' sv) := by
  unfold ruleL ruleW jn jn jn jn jn jn jn jn jn
  simp
theorem dz_blank {n : Int} (h1 : 0 ≤ n) (h2 : n < 1000000000) : 32 ∉ dz n := no_blank_of fun j hj e => by
  have := (tells_all 8 n h1 (by omega)).1 j hj
  omega
theorem d2_blank {n : Int} (h1 : 0 ≤ n) (h2 : n < 100) : 32 ∉ d2 n := no_blank_of fun j hj e => by
  have := (tells2 h1 h2).1 j hj
  omega
theorem wk_blank {d : Int} (h1 : 0 ≤ d) (h2 : d ≤ 6) : 32 ∉ wk d := by
  have x : d = 0 ∨ d = 1 ∨ d = 2 ∨ d = 3 ∨ d = 4 ∨ d = 5 ∨ d = 6 := by omega
  rcases x with rfl | rfl | rfl | rfl | rfl | rfl | rfl <;> decide
theorem dayL_blank {k d n : Int} (h : DayOk k d n) : 32 ∉ dayL k d n := by
  have b := dayOk_bd h
  have z := dz_blank (n := n) (by omega) (by omega)
  have y := wk_blank (d := d) (by omega) (by omega)
  unfold dayL
  split
  · exact z
  · split
    · simp [y]
    · split <;> simp [y, z]
theorem span0_blank {n : Int} (h1 : 0 ≤ n) (h2 : n ≤ 604800) : 32 ∉ spanL0 n := by
  have a := dz_blank (n := n / 3600) (by omega) (by omega)
  have b := d2_blank (n := n / 60 % 60) (by omega) (by omega)
  have c := d2_blank (n := n % 60) (by omega) (by omega)
  unfold spanL0
  split <;> simp [a, b, c]
theorem span_blank {n : Int} (h1 : -604800 ≤ n) (h2 : n ≤ 604800) : 32 ∉ spanL n := by
  unfold spanL
  split
  · simp [span0_blank (n := -n) (by omega) (by omega)]
  · exact span0_blank (by omega) h2
theorem suf_blank (by' : Int) : 32 ∉ suf by' := by unfold suf; split <;> (try split) <;> decide
/-- the text of a rule falls into its words -/
theorem rule_split {nm lt : List UInt8} {fr t0 mo k d n at' by' sv : Int} (hy : RuleSyn nm lt) (hm : RuleNum fr t0 mo) (hd : DayOk k d n) (hr : RuleRest mo n at' by' sv) :
    Lib.split (ruleL nm lt fr t0 mo k d n at' by' sv) [32] = ruleW nm lt fr t0 mo k d n at' by' sv := by
  rw [ruleL_jn]
  obtain ⟨⟨f1, f2⟩, ⟨t1, t2⟩, ft, o1, o2⟩ := hm
  obtain ⟨_, ⟨a1, a2⟩, ⟨b1, b2⟩, s1, s2⟩ := hr
  refine split_jn (by unfold ruleW; simp) ?_
  intro w hw
  unfold ruleW at hw
  simp only [List.mem_cons, List.not_mem_nil, or_false] at hw
  rcases hw with rfl | rfl | rfl | rfl | rfl | rfl | rfl | rfl | rfl
  · decide
  · exact name_blank hy.1
  · exact dz_blank (by omega) (by omega)
  · exact dz_blank (by omega) (by omega)
  · exact dz_blank (by omega) (by omega)
  · exact dayL_blank hd
  · simp [span_blank a1 a2, suf_blank]
  · exact span_blank (by omega) (by omega)
  · rcases hy.2 with h | h
    · rw [h]; decide
    · exact abbr_blank h
end Go.Proofs.YtmemgpmijphkmaaGreatDoor
namespace Go.Proofs.YtmemgpmijphkmaaGreatDoor
set_option linter.unusedVariables false
set_option linter.unusedSimpArgs false
open Go.RowKit
theorem ruleC_zero {nm lt : List UInt8} {fr tto mo k d n at' by' sv : Int} : ruleC nm lt fr tto mo k d n at' by' sv = 0 ↔ RuleSyn nm lt ∧ RuleNum fr tto mo ∧ DayOk k d n ∧ RuleRest mo n at' by' sv := by
  unfold ruleC
  constructor
  · intro h
    split at h
    · split at h
      · split at h
        · split at h
          · rename_i a b c d'; exact ⟨a, b, c, d'⟩
          · cases h
        · cases h
      · cases h
    · cases h
  · rintro ⟨a, b, c, d'⟩
    rw [if_pos a, if_pos b, if_pos c, if_pos d']
/-- what RuleText answers -/
def ruleTextA (nm lt : List UInt8) (fr tto mo k d n at' by' sv : Int) : Ending :=
  if ruleC nm lt fr tto mo k d n at' by' sv = 0 then strInt (S (ruleL nm lt fr tto mo k d n at' by' sv)) 0 else strInt (S []) (ruleC nm lt fr tto mo k d n at' by' sv)

end Go.Proofs.YtmemgpmijphkmaaGreatDoor
namespace Go.Proofs.YtmemgpmijphkmaaGreatDoor
set_option linter.unusedVariables false
set_option linter.unusedSimpArgs false
open Go.RowKit
theorem Gr.frozen {w w' : World} (h : Gr w w') {b o : Nat} (hb : b < w.heap.size) : w'.frozen? ⟨b, o, none⟩ = w.frozen? ⟨b, o, none⟩ := Below.frozen (p := ⟨b, o, none⟩) h hb
/-- no day that stands before this one in the order of the search has this text -/
def NM (l : List UInt8) (k d n : Int) : Prop := ∀ k' d' n', DayOk k' d' n' → dayL k' d' n' = l → ¬ (k' < k ∨ k' = k ∧ (d' < d ∨ d' = d ∧ n' < n))
theorem NM.start (l : List UInt8) : NM l 1 0 0 := fun k' d' n' h _ hh => by unfold DayOk at h; omega
theorem NM.step {l : List UInt8} {k d n : Int} (h : NM l k d n) (hn : ¬ (DayOk k d n ∧ dayL k d n = l)) : NM l k d (n + 1) := fun k' d' n' ho hl hh => by
  by_cases e : k' = k ∧ d' = d ∧ n' = n
  · obtain ⟨rfl, rfl, rfl⟩ := e
    exact hn ⟨ho, hl⟩
  · exact h k' d' n' ho hl (by omega)
theorem NM.none {l : List UInt8} (h : NM l 5 0 0) : ¬ ∃ k d n, DayOk k d n ∧ dayL k d n = l := fun ⟨k, d, n, ho, hl⟩ => h k d n ho hl (by have := ho.1; omega)

/-- a day and an error -/
abbrev dayInt (k d n e : Int) : Ending := .returned (.tuple #[dayV k d n, .int .i64 e])
/-- what DayRead answers: the first day of the search that has this text -/
def DayReadA (l : List UInt8) (e : Ending) : Prop := (∃ k d n, DayOk k d n ∧ dayL k d n = l ∧ e = dayInt k d n 0) ∨ ((¬ ∃ k d n, DayOk k d n ∧ dayL k d n = l) ∧ e = dayInt 0 0 0 3)
/-- the result's own block -/
def ResAt (w wr : World) (b : Nat) : Prop := Gr w wr ∧ w.heap.size ≤ b ∧ b < wr.heap.size ∧ (∀ i, i < 3 → wr.cell? ⟨b, i, none⟩ = some (.int .i64 0)) ∧ ∀ i, i < 3 → wr.frozen? ⟨b, i, none⟩ = false
theorem ResAt.grow {w wr w' : World} {b : Nat} (h : ResAt w wr b) (hg : Gr wr w') : ResAt w w' b :=
  ⟨h.1.trans hg, h.2.1, Nat.lt_of_lt_of_le h.2.2.1 hg.size, fun i hi => (hg.cell h.2.2.1).trans (h.2.2.2.1 i hi), fun i hi => (hg.frozen h.2.2.1).trans (h.2.2.2.2 i hi)⟩

theorem set_at0 {W : World} {b : Nat} {u x : Value} (h : W.cell? ⟨b, 0, none⟩ = some u) : (W.setCell ⟨b, 0, none⟩ x).cell? ⟨b, 0, none⟩ = some x := World.cell?_setCell_same W _ _ h
theorem set_at1 {W : World} {b : Nat} {u x y : Value} (h : W.cell? ⟨b, 1, none⟩ = some u) : ((W.setCell ⟨b, 0, none⟩ x).setCell ⟨b, 1, none⟩ y).cell? ⟨b, 1, none⟩ = some y :=
  World.cell?_setCell_same _ _ _ ((World.cell?_setCell_other W _ _ _ (by simp)).trans h)
theorem set_at2 {W : World} {b : Nat} {u x y z : Value} (h : W.cell? ⟨b, 2, none⟩ = some u) : (((W.setCell ⟨b, 0, none⟩ x).setCell ⟨b, 1, none⟩ y).setCell ⟨b, 2, none⟩ z).cell? ⟨b, 2, none⟩ = some z :=
  World.cell?_setCell_same _ _ _ ((World.cell?_setCell_other _ _ _ _ (by simp)).trans ((World.cell?_setCell_other W _ _ _ (by simp)).trans h))
theorem ResAt.set {w wr : World} {b : Nat} (h : ResAt w wr b) (x y z : Value) : Gr w (((wr.setCell ⟨b, 0, none⟩ x).setCell ⟨b, 1, none⟩ y).setCell ⟨b, 2, none⟩ z) :=
  Below.setCell (Below.setCell (Below.setCell h.1 h.2.1 _) h.2.1 _) h.2.1 _

end Go.Proofs.YtmemgpmijphkmaaGreatDoor
namespace Go.Proofs.YtmemgpmijphkmaaGreatDoor
set_option linter.unusedVariables false
set_option linter.unusedSimpArgs false
open Go.RowKit
/-- the words of a text -/
def bl (t : ByteArray) : List ByteArray := Lib.splitB ⟨#[32]⟩ 0 (Lib.countB t ⟨#[32]⟩) t
theorem bl_len (t : ByteArray) : (bl t).length = Lib.countB t ⟨#[32]⟩ + 1 := Lib.splitB_all ⟨#[32]⟩ (by decide) 0 _ t rfl
theorem bl_split (t : ByteArray) : (bl t).map (·.toList) = Lib.split t.toList [32] := by
  unfold bl
  have := Lib.splitB_data ⟨#[32]⟩ 0 (Lib.countB t ⟨#[32]⟩) t
  have e : (fun x : ByteArray => x.toList) = fun x => x.data.toList := by funext x; exact ByteArray.toList_eq x
  rw [e, this, ByteArray.toList_eq]
  rfl
/-- the k-th word -/
def wd (t : ByteArray) (k : Nat) : ByteArray := (bl t).getD k ByteArray.empty
theorem split_size (c : UInt8) : ∀ (n : Nat) (l : List UInt8), l.length ≤ n → ∀ w, w ∈ Lib.split l [c] → w.length ≤ l.length := by
  intro n
  induction n with
  | zero => intro l h w hw; have e : l = [] := List.length_eq_zero_iff.1 (by omega); subst e; rw [split_no (by simp)] at hw; simp at hw; simp [hw]
  | succ n ih =>
    intro l h w hw
    rcases sep_cases c l with h' | ⟨a, b, rfl, h'⟩
    · rw [split_no h'] at hw; simp at hw; simp [hw]
    · rw [split_at b h'] at hw
      simp at h
      rcases List.mem_cons.1 hw with rfl | hw
      · simp
      · have := ih b (by omega) w hw
        simp; omega
theorem wd_size {t : ByteArray} (k : Nat) : (wd t k).size ≤ t.size := by
  by_cases h : k < (bl t).length
  · have m : wd t k ∈ bl t := by unfold wd; simp [List.getD, List.getElem?_eq_getElem h]
    have m2 : (wd t k).toList ∈ Lib.split t.toList [32] := by rw [← bl_split]; exact List.mem_map_of_mem m
    have := split_size 32 _ t.toList (Nat.le_refl _) _ m2
    rw [toList_size, toList_size] at this
    exact this
  · unfold wd; rw [List.getD, List.getElem?_eq_none (by omega)]; simp

/-- the cells of an empty rule -/
abbrev zrow : Array Value := #[.string ⟨#[]⟩, .int .i64 0, .int .i64 0, .int .i64 0, .int .i64 0, .int .i64 0, .int .i64 0, .int .i64 0, .int .i64 0, .int .i64 0, .string ⟨#[]⟩]
/-- the state of the walk: the words, the rule that is built, the result that is still empty -/
def PS (w W : World) (g q : Nat) (t : ByteArray) (row : Array Value) : Prop :=
  (∀ i, i < (bl t).length → W.cell? ⟨g, i, none⟩ = some (.string (wd t i))) ∧ W.heap[q]? = some (.cells row 56 (0, 0)) ∧ W.heap[w.heap.size]? = some (.cells zrow 56 (0, 0)) ∧ Gr w W ∧ w.heap.size < g ∧ g < q
theorem heap_lt {W : World} {b : Nat} {o : Obj} (h : W.heap[b]? = some o) : b < W.heap.size := by
  by_cases c : b < W.heap.size
  · exact c
  · rw [Array.getElem?_eq_none (by omega)] at h; cases h
theorem PS.gr {w W W' : World} {g q : Nat} {t : ByteArray} {row : Array Value} (h : PS w W g q t row) (k : Gr W W') : PS w W' g q t row := by
  obtain ⟨a, b, c, d, e, f⟩ := h
  exact ⟨fun i hi => k.holds (a i hi), by rw [Below.block k q (heap_lt b)]; exact b, by rw [Below.block k _ (heap_lt c)]; exact c, d.trans k, e, f⟩
theorem PS.set {w W : World} {g q : Nat} {t : ByteArray} {row : Array Value} (h : PS w W g q t row) (i : Nat) (v : Value) : PS w (W.setCell ⟨q, i, none⟩ v) g q t (row.setIfInBounds i v) := by
  obtain ⟨a, b, c, d, e, f⟩ := h
  refine ⟨fun j hj => ?_, heap_setCell_same W q i row 56 v b, ?_, Below.setCell d (by show w.heap.size ≤ q; omega) _, e, f⟩
  · rw [World.cell?_setCell_other W _ _ _ (by intro x; have := congrArg Addr.block x; simp at this; omega)]; exact a j hj
  · rw [heap_setCell_other W ⟨q, i, none⟩ _ v (by show ¬ w.heap.size = q; omega)]; exact c
theorem PS.drewN {w W : World} {g q : Nat} {t : ByteArray} {row : Array Value} (h : PS w W g q t row) (n : Nat) : PS w (W.drewN n) g q t row := ⟨h.1, h.2.1, h.2.2.1, h.2.2.2.1.drewN n, h.2.2.2.2⟩
theorem PS.cell {w W : World} {g q : Nat} {t : ByteArray} {row : Array Value} (h : PS w W g q t row) {i : Nat} {v : Value} (hv : row[i]? = some v) : W.cell? ⟨q, i, none⟩ = some v := by
  have := h.2.1
  simp [World.cell?, this, hv]
theorem PS.frozen {w W : World} {g q : Nat} {t : ByteArray} {row : Array Value} (h : PS w W g q t row) (i : Nat) : W.frozen? ⟨q, i, none⟩ = false := by
  have := h.2.1
  simp [World.frozen?, this]
end Go.Proofs.YtmemgpmijphkmaaGreatDoor
