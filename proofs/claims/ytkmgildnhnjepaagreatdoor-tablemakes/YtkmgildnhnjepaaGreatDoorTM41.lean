/- The project's table under way in memory: its record, the rows of types and of changes, the map; what must lie as it did. No function of the program in it. Types compared. -/
import Derived.Test.YtkmgildnhnjepaaGreatDoorTM40
import Derived.Test.YtkmgildnhnjepaaGreatDoorTM39
import Derived.Test.YtkmgildnhnjepaaGreatDoorTM32
import Derived.Test.YtkmgildnhnjepaaGreatDoorTM18
namespace Go.Proofs.YtkmgildnhnjepaaGreatDoor
set_option linter.unusedVariables false
set_option linter.unusedSimpArgs false
open Go.RowKit
theorem set_lt2 {w : World} {q : Addr} {u : Value} {n : Nat} (h : n < w.heap.size) : n < (w.setCell q u).heap.size := by simpa [World.setCell] using h
theorem Gr.trans' {w0 a b : World} (g : Gr w0 a) (h1 : b.os = a.os) (h2 : b.tape = a.tape) (h3 : b.output = a.output) (h4 : a.heap.size ≤ b.heap.size) (h5 : ∀ j, j < w0.heap.size → b.heap[j]? = a.heap[j]?) : Gr w0 b :=
  Below.trans g ⟨h1, h2, h3, h4, h5⟩
/-- what X names lies as it did -/
structure Kp (X : Nat → Prop) (w w' : World) : Prop where
  os : w'.os = w.os
  tape : w'.tape = w.tape
  output : w'.output = w.output
  size : w.heap.size ≤ w'.heap.size
  keep : ∀ j, X j → w'.heap[j]? = w.heap[j]?
section
variable {X Y : Nat → Prop} {w a b c w' : World}
theorem Kp.refl (X : Nat → Prop) (w : World) : Kp X w w := ⟨rfl, rfl, rfl, Nat.le_refl _, fun _ _ => rfl⟩
theorem Kp.trans (h : Kp X a b) (k : Kp X b c) : Kp X a c := ⟨k.os.trans h.os, k.tape.trans h.tape, k.output.trans h.output, Nat.le_trans h.size k.size, fun j hj => (k.keep j hj).trans (h.keep j hj)⟩
theorem Kp.gr (h : Kp X a b) (g : Gr b c) (hX : ∀ j, X j → j < b.heap.size) : Kp X a c := h.trans ⟨g.os, g.tape, g.output, Below.size g, fun j hj => g.block j (hX j hj)⟩
theorem Kp.row {row : Option Nat} (h : Kp X a b) (g : b.grownBy c row) (hX : ∀ j, X j → j < b.heap.size) (hr : ∀ j, row = some j → ¬ X j) : Kp X a c :=
  h.trans ⟨g.os, g.tape, g.output, g.size, fun j hj => g.block j (hX j hj) (fun e => hr j e.symm hj)⟩
theorem Kp.set (h : Kp X a b) {p : Addr} (hp : ¬ X p.block) (u : Value) : Kp X a (b.setCell p u) :=
  h.trans ⟨rfl, rfl, rfl, by simp [World.setCell], fun j hj => Below.heap_setCell _ _ _ _ (fun e => hp (e ▸ hj))⟩
theorem Kp.less (h : Kp X a b) (hY : ∀ j, Y j → X j) : Kp Y a b := ⟨h.os, h.tape, h.output, h.size, fun j hj => h.keep j (hY j hj)⟩
/-- what lay there before the call began -/
theorem Kp.out {w0 : World} (h : Kp X a b) (g : Gr w0 a) (hX : ∀ j, j < w0.heap.size → X j) : Gr w0 b :=
  g.trans' h.os h.tape h.output h.size fun j hj => h.keep j (hX j hj)
theorem Kp.heap (h : Kp X a b) {j : Nat} {o : Obj} (hj : X j) (hh : a.heap[j]? = some o) : b.heap[j]? = some o := (h.keep j hj).trans hh
theorem Kp.holds (h : Kp X a b) {j o : Nat} {v : Value} (hj : X j) (hh : a.cell? ⟨j, o, none⟩ = some v) : b.cell? ⟨j, o, none⟩ = some v := (World.cell?_of_block (w := a) (a := ⟨j, o, none⟩) (h.keep j hj)).trans hh
end
/-- the builder -/
structure MAt (tT tC tB : TypeId) (X : Nat → Prop) (pb mb : Nat) (W : World) (tm : List TypD) (s : PS) (vt vc : Value) : Prop where
  xl : ∀ j, X j → j < W.heap.size
  xp : ¬ X pb
  xm : ¬ X mb
  xt : ∀ j, vt.ownBlock = some j → ¬ X j
  xc : ∀ j, vc.ownBlock = some j → ¬ X j
  blk : W.heap[pb]? = some (.cells #[vt, .int .i64 0, vc, .map (some mb), .int .i64 (s.la : Int)] tB (0, 0))
  ot : Own W 0 tT 3 TypD.cells vt s.ty
  oc : Own W 0 tC 2 ChaD.cells vc s.chs
  mp : MapT W mb tm
  ti : ∀ x ∈ s.ty, x.In

theorem MapT.obj {w : World} {mb : Nat} {ty : List TypD} (h : MapT w mb ty) : ∃ es clock, w.heap[mb]? = some (.map es clock) := by
  obtain ⟨n, D, hn, ⟨es, clock, hb, _⟩, h2⟩ := h
  exact ⟨es, clock, hb⟩

theorem own_map {α : Type} {w : World} {base k : Nat} {e : TypeId} {enc : α → List Value} {v : Value} {l : List α} {mb : Nat} {ty : List TypD} (h : Own w base e k enc v l) (hm : MapT w mb ty) : v.ownBlock ≠ some mb := by
  obtain ⟨es, clock, hb⟩ := hm.obj
  rcases h.2 with ⟨rfl, _⟩ | ⟨g, cap, cur, rfl, _, hg, _⟩
  · simp [Value.ownBlock]
  · intro e1
    have e2 : g = mb := by simpa [Value.ownBlock] using e1
    subst e2
    rw [hb] at hg
    injection hg with hg
    cases hg

theorem map_ne {w : World} {mb pb : Nat} {cs : Array Value} {T : TypeId} {m : Nat × Nat} {ty : List TypD} (hm : MapT w mb ty) (h : w.heap[pb]? = some (.cells cs T m)) : pb ≠ mb := fun e => by
  obtain ⟨es, clock, hb⟩ := hm.obj
  subst e
  rw [hb] at h
  injection h with h
  cases h

section
variable {tT tC tB : TypeId} {X : Nat → Prop} {pb mb : Nat} {W W1 W2 : World} {tm : List TypD} {s : PS} {vt vc : Value}
theorem MAt.grow (h : MAt tT tC tB X pb mb W tm s vt vc) (g : Gr W W1) : MAt tT tC tB X pb mb W1 tm s vt vc :=
  ⟨fun j hj => Nat.lt_of_lt_of_le (h.xl j hj) (Below.size g), h.xp, h.xm, h.xt, h.xc, bheap_gr g h.blk, h.ot.gr g, h.oc.gr g, h.mp.gr g, h.ti⟩
theorem MAt.less {Y : Nat → Prop} (h : MAt tT tC tB X pb mb W tm s vt vc) (hY : ∀ j, Y j → X j) : MAt tT tC tB Y pb mb W tm s vt vc :=
  ⟨fun j hj => h.xl j (hY j hj), fun q => h.xp (hY _ q), fun q => h.xm (hY _ q), fun j hj q => h.xt j hj (hY _ q), fun j hj q => h.xc j hj (hY _ q), h.blk, h.ot, h.oc, h.mp, h.ti⟩
/-- what has been laid since is tto be kept too -/
theorem MAt.more (h : MAt tT tC tB X pb mb W tm s vt vc) (g : Gr W W1) : MAt tT tC tB (fun j => X j ∨ (W.heap.size ≤ j ∧ j < W1.heap.size)) pb mb W1 tm s vt vc := by
  have lp := (Array.getElem?_eq_some_iff.1 h.blk).1
  have lm := h.mp.lt
  refine ⟨fun j hj => ?_, fun q => ?_, fun q => ?_, fun j hj q => ?_, fun j hj q => ?_, bheap_gr g h.blk, h.ot.gr g, h.oc.gr g, h.mp.gr g, h.ti⟩
  · rcases hj with q | q
    · exact Nat.lt_of_lt_of_le (h.xl j q) (Below.size g)
    · exact q.2
  · rcases q with q | q
    · exact h.xp q
    · omega
  · rcases q with q | q
    · exact h.xm q
    · omega
  · rcases q with q | q
    · exact h.xt j hj q
    · have := (World.ownsRow.lt h.ot j hj).2; omega
  · rcases q with q | q
    · exact h.xc j hj q
    · have := (World.ownsRow.lt h.oc j hj).2; omega
/-- the map turns -/
theorem MAt.map {tm' : List TypD} (h : MAt tT tC tB X pb mb W tm s vt vc) (hm : MapT W2 mb tm') (hg : W.grownBy W2 (some mb)) : MAt tT tC tB X pb mb W2 tm' s vt vc ∧ Kp X W W2 := by
  refine ⟨⟨fun j hj => Nat.lt_of_lt_of_le (h.xl j hj) hg.size, h.xp, h.xm, h.xt, h.xc, blk_far hg h.blk (fun e => map_ne h.mp h.blk (Option.some.inj e).symm), ?_, ?_, hm, h.ti⟩, (Kp.refl X W).row hg h.xl (fun j hj => by injection hj with hj; subst hj; exact h.xm)⟩
  · exact World.ownsRow.kept h.ot hg (Or.inr (own_map h.ot h.mp))
  · exact World.ownsRow.kept h.oc hg (Or.inr (own_map h.oc h.mp))
/-- a type more -/
theorem MAt.addT (h : MAt tT tC tB X pb mb W tm s vt vc) {x : TypD} {g n cap : Nat} (hown : Own W2 0 tT 3 TypD.cells (.slice (some ⟨g, 0, none⟩) n cap) (s.ty ++ [x])) (hg : W.grownBy W2 vt.ownBlock) (hat : vt.ownBlock = some g ∨ g = W.heap.size) (hx : x.In) (h1 : tT ≠ tC) (h2 : tB ≠ tT) (h3 : tB ≠ tC) :
    MAt tT tC tB X pb mb (W2.setCell ⟨pb, 0, none⟩ (.slice (some ⟨g, 0, none⟩) n cap)) tm ⟨s.ty ++ [x], s.ch, s.la⟩ (.slice (some ⟨g, 0, none⟩) n cap) vc ∧ Kp X W (W2.setCell ⟨pb, 0, none⟩ (.slice (some ⟨g, 0, none⟩) n cap)) := by
  have b2 := blk_far hg h.blk (row_apart h.ot h.blk h2)
  have oc2 : Own W2 0 tC 2 ChaD.cells vc s.chs := World.ownsRow.kept h.oc hg (rows_ne h.oc h.ot (fun e => h1 e.symm))
  have mp2 : MapT W2 mb tm := h.mp.kept hg (fun e => own_map h.ot h.mp e.symm)
  refine ⟨⟨fun j hj => set_lt2 (Nat.lt_of_lt_of_le (h.xl j hj) hg.size), h.xp, h.xm, fun j hj q => ?_, h.xc, ?_, row_far hown _ (row_apart hown b2 h2), row_far oc2 _ (row_apart oc2 b2 h3), mp2.set (fun e => map_ne mp2 b2 e.symm) _, fun y hy => ?_⟩, ((Kp.refl X W).row hg h.xl (fun j hj => h.xt j hj)).set h.xp _⟩
  · have e : g = j := by simpa [Value.ownBlock] using hj
    subst e
    rcases hat with r | r
    · exact h.xt _ r q
    · have := h.xl _ q; omega
  · exact heap_setCell_same W2 pb 0 #[vt, .int .i64 0, vc, .map (some mb), .int .i64 (s.la : Int)] tB _ b2
  · rcases List.mem_append.1 hy with q | q
    · exact h.ti y q
    · simp at q; subst q; exact hx
/-- a change more -/
theorem MAt.addC (h : MAt tT tC tB X pb mb W tm s vt vc) {t : Int} {k g n cap : Nat} (hown : Own W2 0 tC 2 ChaD.cells (.slice (some ⟨g, 0, none⟩) n cap) (s.chs ++ [⟨t, k⟩])) (hg : W.grownBy W2 vc.ownBlock) (hat : vc.ownBlock = some g ∨ g = W.heap.size) (h1 : tT ≠ tC) (h2 : tB ≠ tT) (h3 : tB ≠ tC) :
    MAt tT tC tB X pb mb (W2.setCell ⟨pb, 2, none⟩ (.slice (some ⟨g, 0, none⟩) n cap)) tm ⟨s.ty, s.ch ++ [(t, k)], s.la⟩ vt (.slice (some ⟨g, 0, none⟩) n cap) ∧ Kp X W (W2.setCell ⟨pb, 2, none⟩ (.slice (some ⟨g, 0, none⟩) n cap)) := by
  have b2 := blk_far hg h.blk (row_apart h.oc h.blk h3)
  have ot2 : Own W2 0 tT 3 TypD.cells vt s.ty := World.ownsRow.kept h.ot hg (rows_ne h.ot h.oc h1)
  have mp2 : MapT W2 mb tm := h.mp.kept hg (fun e => own_map h.oc h.mp e.symm)
  have e : PS.chs ⟨s.ty, s.ch ++ [(t, k)], s.la⟩ = s.chs ++ [⟨t, k⟩] := by unfold PS.chs; simp
  refine ⟨⟨fun j hj => set_lt2 (Nat.lt_of_lt_of_le (h.xl j hj) hg.size), h.xp, h.xm, h.xt, fun j hj q => ?_, ?_, row_far ot2 _ (row_apart ot2 b2 h2), ?_, mp2.set (fun e => map_ne mp2 b2 e.symm) _, h.ti⟩, ((Kp.refl X W).row hg h.xl (fun j hj => h.xc j hj)).set h.xp _⟩
  · have e : g = j := by simpa [Value.ownBlock] using hj
    subst e
    rcases hat with r | r
    · exact h.xc _ r q
    · have := h.xl _ q; omega
  · exact heap_setCell_same W2 pb 2 #[vt, .int .i64 0, vc, .map (some mb), .int .i64 (s.la : Int)] tB _ b2
  · rw [e]; exact row_far hown _ (row_apart hown b2 h3)
/-- the number of the last type -/
theorem MAt.last (h : MAt tT tC tB X pb mb W tm s vt vc) (k : Nat) (h2 : tB ≠ tT) (h3 : tB ≠ tC) :
    MAt tT tC tB X pb mb (W.setCell ⟨pb, 4, none⟩ (.int .i64 (k : Int))) tm ⟨s.ty, s.ch, k⟩ vt vc ∧ Kp X W (W.setCell ⟨pb, 4, none⟩ (.int .i64 (k : Int))) :=
  ⟨⟨fun j hj => set_lt2 (h.xl j hj), h.xp, h.xm, h.xt, h.xc, heap_setCell_same W pb 4 #[vt, .int .i64 0, vc, .map (some mb), .int .i64 (s.la : Int)] tB _ h.blk, row_far h.ot _ (row_apart h.ot h.blk h2), row_far h.oc _ (row_apart h.oc h.blk h3), h.mp.set (fun e => map_ne h.mp h.blk e.symm) _, h.ti⟩, (Kp.refl X W).set h.xp _⟩
end
end Go.Proofs.YtkmgildnhnjepaaGreatDoor
namespace Go.Proofs.YtkmgildnhnjepaaGreatDoor
set_option linter.unusedVariables false
set_option linter.unusedSimpArgs false
open Go.RowKit
set_option maxRecDepth 100000 in
theorem eqlType (o o' : Int) (s s' : Bool) (n n' : ByteArray) (w : World) : (binOp .eql 46 (.agg #[.int .i64 o, .bool s, .string n]) (.agg #[.int .i64 o', .bool s', .string n'])).run Tryz.prog w = .ok (.bool (decide (TypD.mk o s n = TypD.mk o' s' n'))) w := by
  have h : Tryz.prog.underlying 46 = some (.struct (Tryz.prog.fieldsOf 46)) := by kernel_rfl
  have hh : Tryz.prog.stoodInHeld 46 = false := by kernel_rfl
  have u3 := Tryz.underlying3
  have a3 := Tryz.isAgg3
  have z3 := Tryz.sizeOf3
  have u4 := Tryz.underlying4
  have a4 := Tryz.isAgg4
  have z4 := Tryz.sizeOf4
  have u9 := Tryz.underlying9
  have a9 := Tryz.isAgg9
  have z9 := Tryz.sizeOf9
  rw [run_eql_struct, show (10000 : Nat) = 9999 + 1 from rfl, run_equalIn_agg w 9999 46 _ _ h hh]
  simp only [Program.fieldsOf, Tryz.underlying46]
  go_simp
  have hn : n.toList = n'.toList ↔ n = n' := ⟨fun h => by rw [S_of n, S_of n', h], fun h => by rw [h]⟩
  by_cases q1 : o = o'
  · by_cases q2 : s = s'
    · by_cases q3 : n = n'
      · rw [if_pos q1, if_pos q2, if_pos (hn.2 q3)]; simp [q1, q2, q3]
      · rw [if_pos q1, if_pos q2, if_neg (fun h => q3 (hn.1 h))]; simp [q3]
    · rw [if_pos q1, if_neg q2]; simp [q2]
  · rw [if_neg q1]; simp [q1]

set_option maxRecDepth 100000 in
theorem neqlType (o o' : Int) (s s' : Bool) (n n' : ByteArray) (w : World) : (binOp .neq 46 (.agg #[.int .i64 o, .bool s, .string n]) (.agg #[.int .i64 o', .bool s', .string n'])).run Tryz.prog w = .ok (.bool (!decide (TypD.mk o s n = TypD.mk o' s' n'))) w := by
  have h : Tryz.prog.underlying 46 = some (.struct (Tryz.prog.fieldsOf 46)) := by kernel_rfl
  have hh : Tryz.prog.stoodInHeld 46 = false := by kernel_rfl
  have u3 := Tryz.underlying3
  have a3 := Tryz.isAgg3
  have z3 := Tryz.sizeOf3
  have u4 := Tryz.underlying4
  have a4 := Tryz.isAgg4
  have z4 := Tryz.sizeOf4
  have u9 := Tryz.underlying9
  have a9 := Tryz.isAgg9
  have z9 := Tryz.sizeOf9
  rw [run_neq_struct, show (10000 : Nat) = 9999 + 1 from rfl, run_equalIn_agg w 9999 46 _ _ h hh]
  simp only [Program.fieldsOf, Tryz.underlying46]
  go_simp
  have hn : n.toList = n'.toList ↔ n = n' := ⟨fun h => by rw [S_of n, S_of n', h], fun h => by rw [h]⟩
  by_cases q1 : o = o'
  · by_cases q2 : s = s'
    · by_cases q3 : n = n'
      · rw [if_pos q1, if_pos q2, if_pos (hn.2 q3)]; simp [q1, q2, q3]
      · rw [if_pos q1, if_pos q2, if_neg (fun h => q3 (hn.1 h))]; simp [q3]
    · rw [if_pos q1, if_neg q2]; simp [q2]
  · rw [if_neg q1]; simp [q1]
end Go.Proofs.YtkmgildnhnjepaaGreatDoor
