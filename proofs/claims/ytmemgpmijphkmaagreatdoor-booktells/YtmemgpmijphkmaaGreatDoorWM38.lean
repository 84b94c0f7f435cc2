/- What the project's Parse of package book returns. The lines of a book as texts; what the project's joinWords and eraText of package book return. -/
import Derived.Test.YtmemgpmijphkmaaGreatDoorWM36
import Derived.Test.YtmemgpmijphkmaaGreatDoorWM37
namespace Go.Proofs.YtmemgpmijphkmaaGreatDoor
set_option linter.unusedVariables false
set_option linter.unusedSimpArgs false
open Go.RowKit
theorem PAt.at' {W : World} {base pb n cr cz cl : Nat} {Ar Az Al : Option Addr} {p : BkS} {zs : List ZonD} (h : PAt W base pb n p (.slice Ar p.rs.length cr) (.slice Az zs.length cz) (.slice Al p.ls.length cl) zs) :
    BokD.At W ⟨Ar, cr, p.rs, Az, cz, zs, Al, cl, p.ls⟩ ∧ BokD.Is ⟨Ar, cr, p.rs, Az, cz, zs, Al, cl, p.ls⟩ p := by
  have sl : ∀ {α : Type} {w : World} {bs k c : Nat} {e : TypeId} {enc : α → List Value} {A : Option Addr} {l : List α}, Own w bs e k enc (.slice A l.length c) l → SlOk l.length c := fun h => by
    obtain ⟨A', c', e', d1, d2, _⟩ := h.form
    injection e' with _ _ ec
    subst ec
    exact ⟨d1, d2⟩
  refine ⟨⟨⟨sl h.rs, h.rs.row ru_len, h.ri⟩, ⟨sl h.zr, h.zr.row zo_len, fun z hz => ?_⟩, ⟨sl h.lr, h.lr.row li_len, h.li⟩⟩, rfl, h.zm, rfl⟩
  have hz' := h.zz.base_le z hz
  exact ⟨hz'.2.1, sl hz'.1, hz'.1.row er_len, hz'.2.2⟩
theorem ParA.of {s : ByteArray} {w w' : World} {b : BokD} {p : BkS} (h : parB s = (p, 0, 0)) (ha : b.At w' ∧ b.Is p) (g : Gr w w') : ParA s w (.returned (.tuple #[.agg #[.slice b.Ar b.rs.length b.cr, .slice b.Az b.zs.length b.cz, .slice b.Al b.ls.length b.cl], .int .i64 0, .int .i64 0])) w' :=
  ⟨b, by rw [h], ha.1, by rw [h]; exact ha.2, g⟩
/-- a parser as it begins -/
theorem PAt.first {w : World} {base pb : Nat} (h : w.heap[pb]? = some (.cells #[.slice none 0 0, .slice none 0 0, .slice none 0 0, .int .i64 0] 67 (0, 0))) (hp : pb < base) (hb : base ≤ w.heap.size) : PSt w base pb 0 BkS.zero :=
  ⟨_, _, _, [], hp, hb, h, Own.nil_ _ _ _ _ _, Own.nil_ _ _ _ _ _, Own.nil_ _ _ _ _ _, (fun r hr => by cases hr), (fun r hr => by cases hr), ⟨base, Nat.le_refl _, hb, (fun z hz => by cases hz), (fun z hz => by cases hz)⟩, rfl, Nat.le_refl _, Nat.le_refl _, Nat.le_refl _, (fun z hz => by cases hz)⟩

end Go.Proofs.YtmemgpmijphkmaaGreatDoor
namespace Go.Proofs.YtmemgpmijphkmaaGreatDoor
set_option linter.unusedVariables false
set_option linter.unusedSimpArgs false
open Go.RowKit
theorem jn_inter (c : UInt8) : ∀ l : List (List UInt8), [c].intercalate l = jn c l
  | [] => rfl
  | [a] => by simp [jn, List.intercalate, List.intersperse]
  | a :: b :: l => by
    have ih := jn_inter c (b :: l)
    unfold jn
    rw [← ih]
    simp [List.intercalate, List.intersperse]
theorem jn_len (c : UInt8) : ∀ l : List (List UInt8), (jn c l).length ≤ (l.map List.length).sum + l.length
  | [] => by simp [jn]
  | [a] => by simp [jn]
  | a :: b :: l => by
    have ih := jn_len c (b :: l)
    unfold jn
    simp only [List.length_append, List.length_cons, List.map_cons, List.sum_cons] at ih ⊢
    omega
/-- strings as cells -/
def strC (s : ByteArray) : List Value := [.string s]
theorem st_len (s : ByteArray) : (strC s).length = 1 := rfl
theorem st_one (s : ByteArray) : ∀ u ∈ strC s, u.oneCell' = true := fun u hu => by simp [strC] at hu; rw [hu]; rfl

/-- Join of a row of texts -/
theorem join_row (c : UInt8) (A : Option Addr) (cap : Nat) (l : List ByteArray) (W : World) (hr : Row W 1 strC A l) (hc : l.length ≤ cap) (hl : l.length ≤ 100000) (hb : (jn c (l.map (·.toList))).length ≤ 100000000) :
    Calls Tryz.prog 26 #[.slice A l.length cap, .string ⟨#[c]⟩] W fun e w' => e = .returned (.string (S (jn c (l.map (·.toList))))) ∧ Gr W w' := by
  cases l with
  | nil =>
    refine (Tryz.strings_Join_none A cap ⟨#[c]⟩ W).mono ?_
    rintro e w' ⟨rfl, rfl⟩
    exact ⟨rfl, Gr.refl _⟩
  | cons x l =>
    obtain ⟨b, off, rfl, hb', _⟩ := hr 0 x rfl
    have e1 : ((x :: l).map fun y : ByteArray => y.data.toList) = (x :: l).map (·.toList) := List.map_congr_left fun y _ => data_toList y
    have hcell : ∀ (j : Nat) y, (x :: l)[j]? = some y → W.cell? ⟨b, off + j, none⟩ = some (.string y) := fun j y hy => by
      obtain ⟨b2, o2, e, _, hc2⟩ := hr j y hy
      injection e with e; injection e with e1 e2; subst e1; subst e2
      have := hc2 0 (.string y) rfl
      simpa using this
    have := Tryz.strings_Join b off cap (x :: l) ⟨#[c]⟩ W hcell hb' (by omega) hc (by
      show (Lib.join _ [c]).length ≤ _
      unfold Lib.join
      rw [jn_inter, e1]; omega)
    refine this.mono ?_
    rintro e w' ⟨rfl, g⟩
    refine ⟨?_, g⟩
    show Ending.returned (.string ⟨(Lib.join _ [c]).toArray⟩) = _
    unfold Lib.join
    rw [jn_inter, e1]
    rfl

set_option maxHeartbeats 4000000 in
theorem pjoinWords (A : Option Addr) (cap : Nat) (l : List ByteArray) (W : World) (hr : Row W 1 strC A l) (hc : l.length ≤ cap) (hl : l.length ≤ 100000) (hb : (jn 32 (l.map (·.toList))).length ≤ 100000000) :
    Calls Tryz.prog 23 #[.slice A l.length cap] W fun e w' => e = .returned (.string (S (jn 32 (l.map (·.toList))))) ∧ Gr W w' := by
  have K := Lib.hid (join_row 32 A cap l W hr hc hl hb)
  generalize l.length = n at K ⊢
  generalize S (jn 32 (l.map (·.toList))) = R at K ⊢
  clear hr hc hl hb
  go_enter Tryz.func23, Tryz.ntmps23
  go_wp2_with fail
  refine K.out.mono ?_
  rintro e w1 ⟨rfl, g1⟩
  go_wp2_with fail
  go_ret
  exact ⟨rfl, g1⟩
/-- the text of an era without its Until -/
def eraL (e : EraD) : List UInt8 := jn 32 [wEra, spanL e.off, if e.ru.toList = [] then 45 :: spanL e.sv else e.ru.toList, e.fm.toList]
noncomputable def eraLn (e : EraD) : List UInt8 := jn 32 [eraL e, stampT e.un]
noncomputable def eraLs (l : List EraD) : List (List UInt8) := l.dropLast.map eraLn ++ (match l.getLast? with
  | some e => [eraL e]
  | none => [])
noncomputable def zonL (z : ZonD) : List (List UInt8) := jn 32 [wZone, z.nm.toList] :: eraLs z.eras
def linL (x : LinD) : List UInt8 := jn 32 [wLink, x.nm.toList, x.to'.toList]
/-- the lines of a book -/
noncomputable def bokL (rs : List RuD) (zs : List ZonD) (ls : List LinD) : List (List UInt8) := rs.map RuD.text ++ zs.flatMap zonL ++ ls.map linL

/-- texts in a block of their own -/
theorem str_row {W : World} {b : Nat} {l : List ByteArray} (h : W.heap[b]? = some (.cells (l.map Value.string).toArray 9 (0, 0))) : Row W 1 strC (some ⟨b, 0, none⟩) l := fun i x hx => by
  refine ⟨b, 0, rfl, (Array.getElem?_eq_some_iff.1 h).1, fun j v hv => ?_⟩
  have hj : j = 0 ∧ v = .string x := by
    have := (List.getElem?_eq_some_iff.1 hv).1
    have e0 : j = 0 := by simpa [strC] using this
    subst e0
    exact ⟨rfl, by simpa [strC] using hv.symm⟩
  obtain ⟨rfl, rfl⟩ := hj
  have : W.cell? ⟨b, i, none⟩ = some (.string x) := bcell_row h (by simp [hx])
  simpa using this

set_option maxRecDepth 100000 in
set_option maxHeartbeats 4000000 in
theorem peraText (e : EraD) (w : World) (hp : HasPow w) (h1 : -64800 ≤ e.off) (h2 : e.off ≤ 64800) (h3 : 0 ≤ e.sv) (h4 : e.sv ≤ 10800) (hr : e.ru.size ≤ 1000) (hf : e.fm.size ≤ 1000) :
    Calls Tryz.prog 25 #[eraV e] w fun en w' => en = .returned (.string (S (eraL e))) ∧ Gr w w' := by
  obtain ⟨off, ru, sv, fm, un⟩ := e
  simp only at h1 h2 h3 h4 hr hf
  have K1 := Lib.hid (fun w hp => span_yes off w hp (by omega) (by omega))
  have K2 := Lib.hid (fun w hp => span_yes sv w hp (by omega) (by omega))
  have L1 := spanL_len (n := off) (by omega) (by omega)
  have L2 := spanL_len (n := sv) (by omega) (by omega)
  have HP := Lib.hid hp
  have B0 := Lib.hid (box_one w (.cells #[.int .i64 off, .string ru, .int .i64 sv, .string fm, .int .i64 un] 44))
  have KJ : Hid (∀ (x : ByteArray) (W : World) (b : Nat), x.size ≤ 1000 → W.heap[b]? = some (.cells #[.string ⟨#[101, 114, 97]⟩, .string (S (spanL off)), .string x, .string fm] 9 (0, 0)) →
      Calls Tryz.prog 23 #[.slice (some ⟨b, 0, none⟩) 4 4] W fun e w' => e = .returned (.string (S (jn 32 [wEra, spanL off, x.toList, fm.toList]))) ∧ Gr W w') := fun x W b hx h => by
    have e1 : ([⟨#[101, 114, 97]⟩, S (spanL off), x, fm] : List ByteArray).map (·.toList) = [wEra, spanL off, x.toList, fm.toList] := by
      simp only [List.map_cons, List.map_nil, S_toList]
      rw [show (ByteArray.mk #[101, 114, 97]).toList = wEra from ByteArray.toList_mk [101, 114, 97]]
    have := pjoinWords (some ⟨b, 0, none⟩) 4 [⟨#[101, 114, 97]⟩, S (spanL off), x, fm] W (str_row h) (by simp) (by simp) (by
      rw [e1]
      have := jn_len 32 [wEra, spanL off, x.toList, fm.toList]
      have lx : x.toList.length = x.size := (size_toList x).symm
      have lf : fm.toList.length = fm.size := (size_toList fm).symm
      have le : wEra.length = 3 := rfl
      simp only [List.map_cons, List.map_nil, List.sum_cons, List.sum_nil, List.length_cons, List.length_nil] at this
      omega)
    rw [e1] at this
    exact this
  have SZ : Hid ((S (45 :: spanL sv)).size ≤ 1000) := by unfold Hid; rw [S_size, List.length_cons]; omega
  have sl1 : ¬ 9223372036854775807 < 1 + (spanL sv).length := by omega
  have sl2 : ¬ 9223372036854775807 < (spanL sv).length + 1 := by omega
  clear hp h1 h2 h3 h4 hf L1
  by_cases hn : ru.toList = []
  · have E : Hid (S (jn 32 [wEra, spanL off, (S (45 :: spanL sv)).toList, fm.toList]) = S (eraL ⟨off, ru, sv, fm, un⟩)) := by unfold Hid eraL; rw [if_pos hn, S_toList]
    obtain rfl : ru = ⟨#[]⟩ := str_nil2 hn
    have KJ1 := Lib.hid (fun W b h => KJ.out (S (45 :: spanL sv)) W b SZ.out h)
    rw [E.out] at KJ1
    generalize S (eraL ⟨off, ⟨#[]⟩, sv, fm, un⟩) = R at KJ1 ⊢
    clear E hn KJ
    go_enter Tryz.func25, Tryz.ntmps25
    go_wp2_with fail
    generalize w.alloc (.cells #[.int .i64 off, .string ⟨#[]⟩, .int .i64 sv, .string fm, .int .i64 un] 44) = w0 at B0 ⊢
    generalize w.heap.size = q at B0 ⊢
    refine (K1.out w0 (B0.out.1.pow HP.out)).mono ?_
    rintro e w1 ⟨rfl, g1⟩
    have G1 := Lib.hid (B0.out.1.trans g1)
    have H1 := Lib.hid (bheap_gr g1 B0.out.2)
    clear g1 B0 K1
    have y1 : w1.cell? ⟨q, 1, none⟩ = some (.string ⟨#[]⟩) := bcell_row H1.out rfl
    have y2 : w1.cell? ⟨q, 2, none⟩ = some (.int .i64 sv) := bcell_row H1.out rfl
    go_wp2_with fail
    clear y1 y2
    refine (K2.out w1 (G1.out.pow HP.out)).mono ?_
    rintro e w2 ⟨rfl, g2⟩
    have G2 := Lib.hid (G1.out.trans g2)
    have H2 := Lib.hid (bheap_gr g2 H1.out)
    clear g2 H1 G1 K2
    have y3 : w2.cell? ⟨q, 3, none⟩ = some (.string fm) := bcell_row H2.out rfl
    have NB := Lib.hid (box_one w2 (.cells #[.string ⟨#[101, 114, 97]⟩, .string (S (spanL off)), .string (S (45 :: spanL sv)), .string fm] 9))
    go_wp2_with fail
    generalize w2.alloc (.cells #[.string ⟨#[101, 114, 97]⟩, .string (S (spanL off)), .string (S (45 :: spanL sv)), .string fm] 9) = w3 at NB ⊢
    clear y3
    refine (KJ1.out w3 _ NB.out.2).mono ?_
    rintro e w4 ⟨rfl, g4⟩
    go_wp2_with fail
    go_ret
    exact ⟨rfl, (G2.out.trans NB.out.1).trans g4⟩
  · have E : Hid (S (jn 32 [wEra, spanL off, ru.toList, fm.toList]) = S (eraL ⟨off, ru, sv, fm, un⟩)) := by unfold Hid eraL; rw [if_neg hn]
    have KJ1 := Lib.hid (fun W b h => KJ.out ru W b hr h)
    rw [E.out] at KJ1
    generalize S (eraL ⟨off, ru, sv, fm, un⟩) = R at KJ1 ⊢
    have n1 : ¬ ru = ⟨#[]⟩ := fun e => hn (by rw [e]; exact lit0)
    have n2 : (ru.toList == []) = false := by simpa using hn
    clear E hn KJ K2 SZ
    go_enter Tryz.func25, Tryz.ntmps25
    go_wp2_with fail
    generalize w.alloc (.cells #[.int .i64 off, .string ru, .int .i64 sv, .string fm, .int .i64 un] 44) = w0 at B0 ⊢
    generalize w.heap.size = q at B0 ⊢
    refine (K1.out w0 (B0.out.1.pow HP.out)).mono ?_
    rintro e w1 ⟨rfl, g1⟩
    have G1 := Lib.hid (B0.out.1.trans g1)
    have H1 := Lib.hid (bheap_gr g1 B0.out.2)
    clear g1 B0 K1
    have y1 : w1.cell? ⟨q, 1, none⟩ = some (.string ru) := bcell_row H1.out rfl
    have y3 : w1.cell? ⟨q, 3, none⟩ = some (.string fm) := bcell_row H1.out rfl
    have NB := Lib.hid (box_one w1 (.cells #[.string ⟨#[101, 114, 97]⟩, .string (S (spanL off)), .string ru, .string fm] 9))
    go_wp2_with fail
    generalize w1.alloc (.cells #[.string ⟨#[101, 114, 97]⟩, .string (S (spanL off)), .string ru, .string fm] 9) = w3 at NB ⊢
    clear y1 y3 n1 n2
    refine (KJ1.out w3 _ NB.out.2).mono ?_
    rintro e w4 ⟨rfl, g4⟩
    go_wp2_with fail
    go_ret
    exact ⟨rfl, (G1.out.trans NB.out.1).trans g4⟩
end Go.Proofs.YtmemgpmijphkmaaGreatDoor
