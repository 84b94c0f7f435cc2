/- The project's Resolve for every book; the empty book. The closed fact of the laws of names: a book of one zone and two links, written out; B leads tto A. named, the closed fact of the laws of names. -/
import Derived.Test.YtemdgipkcilpcaaDoorAM20
import Derived.Test.YtemdgipkcilpcaaDoorAM25
namespace Go.Proofs.YtemdgipkcilpcaaDoor
set_option linter.unusedVariables false
set_option linter.unusedSimpArgs false
open Go.RowKit
theorem presolve (b : BokD) (nm : ByteArray) (w : World) (hb : b.At w) (hn : nm.size ≤ maxLen) (ht : BkTab w) :
    Calls Tryd.prog 6 #[bookV b, .string nm] w (ResE b.rs b.zs b.ls nm w) := presolve0 b nm w hb hn (fun W g => pbookCheck b W (hb.gr g) (g.bk ht))

end Go.Proofs.YtemdgipkcilpcaaDoor
namespace Go.Proofs.YtemdgipkcilpcaaDoor
set_option linter.unusedVariables false
set_option linter.unusedSimpArgs false
open Go.RowKit
/-- an era that may be -/
def eX : EraD := ⟨0, S [], 0, S [88], 0⟩
/-- a zone with this era -/
def zX (nm : List UInt8) (A : Option Addr) (c : Nat) : ZonD := ⟨S nm, A, c, [eX]⟩
theorem fe_one (f : Nat → Int) : fe f 1 = f 0 := by simp [fe]
theorem eX_ok : fe (eraC [] [eX]) 1 = 0 := by
  have h : eraA [] eX = 0 := by
    unfold eraA
    rw [if_neg (by simp [eX, svB]), if_pos (by simp [eX, S_toList])]
    have e : dash = S [45] := rfl
    unfold abbrC
    rw [e, S_toList, show eX.fm.toList = [88] from S_toList _]
    decide
  rw [fe_one, eraC_at (e := eX) rfl, if_pos h, untC_at (e := eX) rfl]
  rfl
theorem zX_ok {nm : List UInt8} {A : Option Addr} {c : Nat} (h : isNameB nm = true) : fe (zonC [] [zX nm A c]) 1 = 0 := by
  rw [fe_one, zonC_at (z := zX nm A c) rfl, if_neg (by rw [show (zX nm A c).nm.toList = nm from S_toList _, h]; simp), if_neg (by simp [hasZ]), if_neg (by simp [zX]), if_neg (by simp [zX])]
  exact eX_ok
theorem bok_of {nm : List UInt8} {A : Option Addr} {c : Nat} {ls : List LinD} (h : isNameB nm = true) (hl : ls.length ≤ 20) (hf : fe (linC [zX nm A c] ls) ls.length = 0) : bokC [] [zX nm A c] ls = 0 :=
  bokC_ok.2 ⟨by simp; omega, rfl, zX_ok h, hf⟩
def lS (a b : List UInt8) : LinD := ⟨S a, S b⟩
theorem nms_S (nm : List UInt8) (A : Option Addr) (c : Nat) (l : List (List UInt8 × List UInt8)) : nms [zX nm A c] (l.map fun p => lS p.1 p.2) = nm :: l.map (·.1) := by
  unfold nms
  simp [zX, lS, S_toList, Function.comp_def]
theorem named_chk (A : Option Addr) (c : Nat) : bokC [] [zX [65] A c] [lS [66] [67], lS [67] [65]] = 0 := by
  refine bok_of (by decide) (by simp) ?_
  refine (fe_zero _).2 fun i hi => ?_
  have : i = 0 ∨ i = 1 := by simp at hi; omega
  rcases this with rfl | rfl
  · rw [linC_at (x := lS [66] [67]) rfl]
    simp only [lS, S_toList, hasZ, hasL, zX, List.any_cons, List.any_nil, List.take_zero]
    decide
  · rw [linC_at (x := lS [67] [65]) rfl]
    simp only [lS, S_toList, hasZ, hasL, zX, List.any_cons, List.any_nil, List.take_succ_cons, List.take_zero]
    decide
theorem named_end (A : Option Addr) (c : Nat) : endN [zX [65] A c] [lS [66] [67], lS [67] [65]] (S [66]).toList = 0 := by
  rw [S_toList]
  have e : nms [zX [65] A c] [lS [66] [67], lS [67] [65]] = [[65], [66], [67]] := nms_S [65] A c [([66], [67]), ([67], [65])]
  have i1 : ([[65], [66], [67]] : List (List UInt8)).idxOf [66] = 1 := by decide
  have h1 : nx [zX [65] A c] [lS [66] [67], lS [67] [65]] 1 = 2 := by
    have := nx_link (zs := [zX [65] A c]) (ls := [lS [66] [67], lS [67] [65]]) (i := 0) (x := lS [66] [67]) rfl
    rw [e, show (lS [66] [67]).to'.toList = [67] from S_toList _] at this
    exact this.trans (by decide)
  have h2 : nx [zX [65] A c] [lS [66] [67], lS [67] [65]] 2 = 0 := by
    have := nx_link (zs := [zX [65] A c]) (ls := [lS [66] [67], lS [67] [65]]) (i := 1) (x := lS [67] [65]) rfl
    rw [e, show (lS [67] [65]).to'.toList = [65] from S_toList _] at this
    exact this.trans (by decide)
  unfold endN
  rw [e, i1]
  show ends [zX [65] A c] [lS [66] [67], lS [67] [65]] 0 (nx [zX [65] A c] [lS [66] [67], lS [67] [65]] (nx [zX [65] A c] [lS [66] [67], lS [67] [65]] 1)) = 0
  rw [h1, h2]; rfl
theorem named_res (A : Option Addr) (c : Nat) : resC [] [zX [65] A c] [lS [66] [67], lS [67] [65]] (S [66]) = 0 := by
  refine resC_ok (named_chk A c) ?_ (by rw [named_end]; exact Nat.zero_lt_one)
  have e : nms [zX [65] A c] [lS [66] [67], lS [67] [65]] = [[65], [66], [67]] := nms_S [65] A c [([66], [67]), ([67], [65])]
  rw [e, S_toList]
  decide

theorem bsn_era (w : World) : (Instr.buildSlice 30 1 #[(0, Value.agg #[.int .i64 0, .string ⟨#[]⟩, .int .i64 0, .string ⟨#[88]⟩, .int .i64 0])]).run Tryd.prog w = .ok (.slice (some ⟨w.heap.size, 0, none⟩) 1 1) (w.alloc (.cells #[.int .i64 0, .string ⟨#[]⟩, .int .i64 0, .string ⟨#[88]⟩, .int .i64 0] 40)) := by kernel_rfl

theorem bsn_zone (w : World) (nm : ByteArray) (v : Value) : (Instr.buildSlice 23 1 #[(0, Value.agg #[.string nm, v])]).run Tryd.prog w = .ok (.slice (some ⟨w.heap.size, 0, none⟩) 1 1) (w.alloc (.cells #[.string nm, v] 32)) := by kernel_rfl

theorem bsn_links (w : World) (a b c d : ByteArray) : (Instr.buildSlice 24 2 #[(0, Value.agg #[.string a, .string b]), (1, Value.agg #[.string c, .string d])]).run Tryd.prog w = .ok (.slice (some ⟨w.heap.size, 0, none⟩) 2 2) (w.alloc (.cells #[.string a, .string b, .string c, .string d] 37)) := by kernel_rfl

theorem wpList_lay1 {P : Program} {w : World} {ops : Array Oper} {rest : List Oper} {Q : Exit → Act → World → Prop} {a : Act} {d : Option Nat} {t ty : TypeId} {ps : String} {af : Array Edge} {x : Operand} (v0 v : Value) (w' : World)
    (hx : a.eval x = v0) (hr : (Instr.buildSlice t 1 #[(0, v0)]).run P w = .ok v w') (h : wpList P ops Q rest (a.put d v) w') :
    wpList P ops Q ({ dst := d, op := .buildSlice t 1 #[(0, x)], type := ty, pos := ps, after := af, guard := none } :: rest) a w := by
  refine wpList_plain rfl fun _ hK => ?_
  unfold Oper.wp execOp
  simp only [List.map_toArray, List.map_cons, List.map_nil, hx, Sem.run_bind, hr, Result.andThen_ok, Sem.run_pure]
  exact hK _ _ h
theorem wpList_lay2 {P : Program} {w : World} {ops : Array Oper} {rest : List Oper} {Q : Exit → Act → World → Prop} {a : Act} {d : Option Nat} {t ty : TypeId} {ps : String} {af : Array Edge} {x y : Operand} (v0 v1 v : Value) (w' : World)
    (hx : a.eval x = v0) (hy : a.eval y = v1) (hr : (Instr.buildSlice t 2 #[(0, v0), (1, v1)]).run P w = .ok v w') (h : wpList P ops Q rest (a.put d v) w') :
    wpList P ops Q ({ dst := d, op := .buildSlice t 2 #[(0, x), (1, y)], type := ty, pos := ps, after := af, guard := none } :: rest) a w := by
  refine wpList_plain rfl fun _ hK => ?_
  unfold Oper.wp execOp
  simp only [List.map_toArray, List.map_cons, List.map_nil, hx, hy, Sem.run_bind, hr, Result.andThen_ok, Sem.run_pure]
  exact hK _ _ h
/-- one thing in a block of its own -/
theorem row_single {α : Type} {w : World} {b k : Nat} {T : TypeId} {enc : α → List Value} {x : α} {cs : Array Value} (hk : (enc x).length = k) (h : w.heap[b]? = some (.cells cs T (0, 0))) (hc : cs.toList = enc x) : Row w k enc (some ⟨b, 0, none⟩) [x] := fun i y hy => by
  have hi := (List.getElem?_eq_some_iff.1 hy).1
  have e : i = 0 := by simp at hi; exact hi
  subst e
  have ey : x = y := by simpa using hy
  subst ey
  refine ⟨b, 0, rfl, (Array.getElem?_eq_some_iff.1 h).1, fun j v hv => ?_⟩
  rw [Nat.zero_mul, Nat.add_zero, Nat.zero_add]
  refine bcell_row h ?_
  rw [← Array.getElem?_toList, hc]; exact hv
/-- two things in a block of their own -/
theorem row_pair {α : Type} {w : World} {b k : Nat} {T : TypeId} {enc : α → List Value} {x y : α} {cs : Array Value} (hk : ∀ x, (enc x).length = k) (h : w.heap[b]? = some (.cells cs T (0, 0))) (hc : cs.toList = enc x ++ enc y) : Row w k enc (some ⟨b, 0, none⟩) [x, y] := fun i z hz => by
  have hf := flat_get hk [x, y] i z hz
  refine ⟨b, 0, rfl, (Array.getElem?_eq_some_iff.1 h).1, fun j v hv => ?_⟩
  rw [Nat.zero_add]
  refine bcell_row h ?_
  rw [← Array.getElem?_toList, hc]
  have := hf j v hv
  simpa using this
/-- a zone written out -/
theorem zX_at {w : World} {b : Nat} {nm : List UInt8} (hn : nm.length ≤ 20) (h : w.heap[b]? = some (.cells #[.int .i64 0, .string ⟨#[]⟩, .int .i64 0, .string ⟨#[88]⟩, .int .i64 0] 40 (0, 0))) : (zX nm (some ⟨b, 0, none⟩) 1).At w :=
  ⟨by show (S nm).size ≤ maxLen; rw [S_size]; unfold maxLen; omega, ⟨Nat.le_refl _, by show (1 : Nat) ≤ maxLen; unfold maxLen; omega⟩, row_single (enc := EraD.cells) (x := eX) rfl h rfl, fun e he => by
    have : e = eX := by simpa [zX] using he
    subst this
    refine ⟨?_, ?_, by decide, by decide⟩ <;> (simp only [eX, S_size]; unfold maxLen; decide)⟩

end Go.Proofs.YtemdgipkcilpcaaDoor
namespace Go.Proofs.YtemdgipkcilpcaaDoor
set_option linter.unusedVariables false
set_option linter.unusedSimpArgs false
open Go.RowKit
theorem box_four (w : World) (o1 o2 o3 o4 : Obj) : Gr w ((((w.alloc o1).alloc o2).alloc o3).alloc o4) ∧ ((((w.alloc o1).alloc o2).alloc o3).alloc o4).heap[w.heap.size]? = some o1 ∧ ((((w.alloc o1).alloc o2).alloc o3).alloc o4).heap[w.heap.size + 1]? = some o2 ∧ ((((w.alloc o1).alloc o2).alloc o3).alloc o4).heap[w.heap.size + 1 + 1]? = some o3 ∧ ((((w.alloc o1).alloc o2).alloc o3).alloc o4).heap[w.heap.size + 1 + 1 + 1]? = some o4 := by
  obtain ⟨g1, h1, h2⟩ := box_two w o1 o2
  have h3 := bheap_new ((w.alloc o1).alloc o2) o3
  have e : ((w.alloc o1).alloc o2).heap.size = w.heap.size + 1 + 1 := by simp
  rw [e] at h3
  have h4 := bheap_new (((w.alloc o1).alloc o2).alloc o3) o4
  have e4 : (((w.alloc o1).alloc o2).alloc o3).heap.size = w.heap.size + 1 + 1 + 1 := by simp
  rw [e4] at h4
  have g3 := Gr.alloc ((w.alloc o1).alloc o2) o3
  have g4 := Gr.alloc (((w.alloc o1).alloc o2).alloc o3) o4
  exact ⟨(g1.trans g3).trans g4, bheap_gr g4 (bheap_gr g3 h1), bheap_gr g4 (bheap_gr g3 h2), bheap_gr g4 h3, h4⟩
/-- the book of the closed fact -/
def namB (q : Nat) : BokD := ⟨none, 0, [], some ⟨q + 1, 0, none⟩, 1, [zX [65] (some ⟨q, 0, none⟩) 1], some ⟨q + 1 + 1, 0, none⟩, 2, [lS [66] [67], lS [67] [65]]⟩
theorem namB_at {w : World} {q : Nat} (h1 : w.heap[q]? = some (.cells #[.int .i64 0, .string ⟨#[]⟩, .int .i64 0, .string ⟨#[88]⟩, .int .i64 0] 40 (0, 0)))
    (h2 : w.heap[q + 1]? = some (.cells #[.string ⟨#[65]⟩, .slice (some ⟨q, 0, none⟩) 1 1] 32 (0, 0)))
    (h3 : w.heap[q + 1 + 1]? = some (.cells #[.string ⟨#[66]⟩, .string ⟨#[67]⟩, .string ⟨#[67]⟩, .string ⟨#[65]⟩] 37 (0, 0))) : (namB q).At w := by
  have zx : (zX [65] (some ⟨q, 0, none⟩) 1).At w := zX_at (by simp) h1
  refine ⟨⟨⟨Nat.le_refl _, by unfold maxLen; exact Nat.zero_le _⟩, Row.nil _ _ _ _, fun r hr => by cases hr⟩, ⟨⟨Nat.le_refl _, by show (1 : Nat) ≤ maxLen; unfold maxLen; omega⟩, row_single (enc := ZonD.cells) (x := zX [65] (some ⟨q, 0, none⟩) 1) rfl h2 rfl, fun z hz => ?_⟩, ⟨⟨Nat.le_refl _, by show (2 : Nat) ≤ maxLen; unfold maxLen; omega⟩, row_pair (enc := LinD.cells) (x := lS [66] [67]) (y := lS [67] [65]) (fun _ => rfl) h3 rfl, fun x hx => ?_⟩⟩
  · have : z = zX [65] (some ⟨q, 0, none⟩) 1 := by simpa [namB] using hz
    subst this; exact zx
  · have : x = lS [66] [67] ∨ x = lS [67] [65] := by simpa [namB] using hx
    rcases this with rfl | rfl <;> (refine ⟨?_, ?_⟩ <;> (simp only [lS, S_size]; unfold maxLen; decide))

set_option maxRecDepth 100000 in
set_option maxHeartbeats 8000000 in
theorem pnamed (w : World) (ht : BkTab w) :
    Calls Tryd.prog 4 #[] w fun e w' => e = .returned (.bool true) ∧ Gr w w' := by
  have HT := Lib.hid ht
  clear ht
  go_enter Tryd.func4, Tryd.ntmps4
  go_wp2_with (first | (refine wpList_lay1 _ _ _ (by rfl) (bsn_era w) ?_) | (refine wpList_lay1 _ _ _ (by rfl) (bsn_zone _ ⟨#[65]⟩ _) ?_) | (refine wpList_lay2 _ _ _ _ (by rfl) (by rfl) (bsn_links _ ⟨#[66]⟩ ⟨#[67]⟩ ⟨#[67]⟩ ⟨#[65]⟩) ?_))
  have B := Lib.hid (box_four w (.cells #[.int .i64 0, .string ⟨#[]⟩, .int .i64 0, .string ⟨#[88]⟩, .int .i64 0] 40) (.cells #[.string ⟨#[65]⟩, .slice (some ⟨w.heap.size, 0, none⟩) 1 1] 32) (.cells #[.string ⟨#[66]⟩, .string ⟨#[67]⟩, .string ⟨#[67]⟩, .string ⟨#[65]⟩] 37) (.cells #[.slice none 0 0, .slice (some ⟨w.heap.size + 1, 0, none⟩) 1 1, .slice (some ⟨w.heap.size + 1 + 1, 0, none⟩) 2 2] 26))
  generalize (((w.alloc (.cells #[.int .i64 0, .string ⟨#[]⟩, .int .i64 0, .string ⟨#[88]⟩, .int .i64 0] 40)).alloc (.cells #[.string ⟨#[65]⟩, .slice (some ⟨w.heap.size, 0, none⟩) 1 1] 32)).alloc (.cells #[.string ⟨#[66]⟩, .string ⟨#[67]⟩, .string ⟨#[67]⟩, .string ⟨#[65]⟩] 37)).alloc (.cells #[.slice none 0 0, .slice (some ⟨w.heap.size + 1, 0, none⟩) 1 1, .slice (some ⟨w.heap.size + 1 + 1, 0, none⟩) 2 2] 26) = w5 at B ⊢
  generalize w.heap.size = q at B ⊢
  refine (presolve (namB q) (S [66]) w5 (namB_at B.out.2.1 B.out.2.2.1 B.out.2.2.2.1) (by rw [S_size]; unfold maxLen; decide) (B.out.1.bk HT.out)).mono ?_
  rintro e w6 ⟨⟨znm, zA, zc, ze⟩, rfl, za, g6, hok, _⟩
  have e0 : resC (namB q).rs (namB q).zs (namB q).ls (S [66]) = 0 := named_res _ _
  obtain ⟨y, hy, e1, _⟩ := hok e0
  have hy2 : (namB q).zs[0]? = some y := by
    have := named_end (some ⟨q, 0, none⟩) 1
    rw [show endN (namB q).zs (namB q).ls (S [66]).toList = 0 from this] at hy
    exact hy
  have ey : zX [65] (some ⟨q, 0, none⟩) 1 = y := by injection hy2
  subst ey
  have e2 : znm = S [65] := e1
  subst e2
  rw [e0]
  have GF := Lib.hid (B.out.1.trans g6)
  clear e0 hok hy hy2 e1 za g6 B
  go_wp2_with fail
  go_ret
  exact ⟨rfl, GF.out.alloc' _⟩
end Go.Proofs.YtemdgipkcilpcaaDoor
