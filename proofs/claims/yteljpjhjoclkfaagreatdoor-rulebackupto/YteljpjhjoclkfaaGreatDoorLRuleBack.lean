/- The law RuleBack of package timeballkeep returns true for every input and where the arguments hold together at most 1048576 values and letters and leaves its arguments as they were: A rule is parsed as it was told; what is parsed is told so. Condition: the listed variables (math/bits.deBruijn32tab, math/bits.deBruijn64tab, internal/strconv.uint64pow10, timeball/civil.lengths, unicode/utf8.acceptRanges, strconv.ErrRange, strconv.ErrSyntax, timeball/day.weekdays, timeball/rule.clockLetters, unicode/utf8.first) lie as their initialisers lay them; the card ties that to the program's text. -/
import Derived.Test.YteljpjhjoclkfaaGreatDoorCards
import Derived.Test.YteljpjhjoclkfaaGreatDoorTie
import Derived.Test.YteljpjhjoclkfaaGreatDoorR0
import Derived.Test.YteljpjhjoclkfaaGreatDoorP7
import Derived.Test.YteljpjhjoclkfaaGreatDoorSA
import Derived.Test.YteljpjhjoclkfaaGreatDoorRA
namespace Go.Proofs.YteljpjhjoclkfaaGreatDoor.ruleBack
open Go.ChangeShapes Go.WideShapes Go.ChangeAt Go.RowKit
open Go.ChangeMaps (open_string shut_string)
set_option linter.unusedVariables false
set_option linter.unusedSimpArgs false

theorem cell_row {W : World} {b i : Nat} {cs : Array Value} {T : TypeId} {v : Value} (h : W.heap[b]? = some (.cells cs T (0, 0))) (hv : cs[i]? = some v) : W.cell? ⟨b, i, none⟩ = some v := by simp [World.cell?, h, hv]
theorem ruleL_len {nm lt : List UInt8} {fr tt mo k d n at' by' sv : Int} (h : ruleC nm lt fr tt mo k d n at' by' sv = 0) : (ruleL nm lt fr tt mo k d n at' by' sv).length ≤ 1000 := by
  obtain ⟨a, ⟨⟨f1, f2⟩, ⟨t1, t2⟩, ft, o1, o2⟩, c, ⟨_, ⟨a1, a2⟩, ⟨b1, b2⟩, s1, s2⟩⟩ := ruleC_zero.1 h
  have x1 := name_len (ruleSyn_iff.1 a).1
  have x2 := abbr_len (ruleSyn_iff.1 a).2
  have x3 := dz_len 8 fr (by omega) (by omega)
  have x4 := dz_len 8 tt (by omega) (by omega)
  have x5 := dz_len 8 mo (by omega) (by omega)
  have x6 := dayL_len c
  have x7 := spanL_len a1 a2
  have x8 := spanL_len (n := sv) (by omega) (by omega)
  have x9 := suf_len by'
  unfold ruleL
  simp only [List.length_append, List.length_cons, List.length_nil]
  omega

set_option maxRecDepth 100000 in
set_option maxHeartbeats 8000000 in
theorem walk (nm : ByteArray) (fr1 tt1 mo1 k1 d1 n1 at1 by1 sv1 : Int) (lt : ByteArray) (ri : RuleIn nm fr1 tt1 mo1 k1 d1 n1 at1 by1 sv1 lt) (s : ByteArray) (hs0 : s.size ≤ maxLen) (w : World) (ht : RpTab w) (hs : s.size ≤ 1048576) :
    Calls Tryz.prog 4 #[ruleV nm fr1 tt1 mo1 k1 d1 n1 at1 by1 sv1 lt, .string s] w fun e w' => e = .returned (.bool true) ∧ Gr w w' := by
  have KR := Lib.hid (fun w h => ruled_any w h)
  have KP := Lib.hid (fun s w hs h => pparse s w hs h)
  have KT := Lib.hid (fun w h => pruleText nm fr1 tt1 mo1 k1 d1 n1 at1 by1 sv1 lt w h ri.1 ri.2.1)
  have KC := Lib.hid (fun w hl => pruleCheck nm fr1 tt1 mo1 k1 d1 n1 at1 by1 sv1 lt w hl ri.1 ri.2.1)
  have KZ0 := fun w h => pruleText ⟨#[]⟩ 0 0 0 0 0 0 0 0 0 ⟨#[]⟩ w h (by decide) (by decide)
  rw [lit0, show ruleTextA [] [] 0 0 0 0 0 0 0 0 0 = strInt (S []) 3 by unfold ruleTextA; rw [if_neg (by decide), show ruleC [] [] 0 0 0 0 0 0 0 0 0 = 3 by decide]] at KZ0
  have KZ := Lib.hid KZ0
  have RO := Lib.hid (read_one s.toList)
  have HT := Lib.hid ht
  have HS := Lib.hid hs
  have hB := Lib.hid (heap_new w (.cells #[.string nm, .int .i64 fr1, .int .i64 tt1, .int .i64 mo1, .int .i64 k1, .int .i64 d1, .int .i64 n1, .int .i64 at1, .int .i64 by1, .int .i64 sv1, .string lt] 25))
  have G0 := Lib.hid (Gr.alloc w (.cells #[.string nm, .int .i64 fr1, .int .i64 tt1, .int .i64 mo1, .int .i64 k1, .int .i64 d1, .int .i64 n1, .int .i64 at1, .int .i64 by1, .int .i64 sv1, .string lt] 25))
  clear ht ri hs0 hs KZ0
  go_enter Tryz.func4, Tryz.ntmps4
  go_wp2_with fail
  generalize w.alloc (.cells #[.string nm, .int .i64 fr1, .int .i64 tt1, .int .i64 mo1, .int .i64 k1, .int .i64 d1, .int .i64 n1, .int .i64 at1, .int .i64 by1, .int .i64 sv1, .string lt] 25) = w0 at hB G0 ⊢
  generalize w.heap.size = b at hB ⊢
  refine (KR.out w0 (G0.out.rpT HT.out)).mono ?_
  rintro e w1 ⟨rfl, g1⟩
  have G1 := Lib.hid (G0.out.trans g1)
  have hB1 := Lib.hid (heap_gr g1 hB.out)
  clear G0 hB g1 KR
  have z0 : w1.cell? ⟨b, 0, none⟩ = some (.string nm) := by simp [World.cell?, hB1.out]
  have z1 : w1.cell? ⟨b, 1, none⟩ = some (.int .i64 fr1) := by simp [World.cell?, hB1.out]
  have z2 : w1.cell? ⟨b, 2, none⟩ = some (.int .i64 tt1) := by simp [World.cell?, hB1.out]
  have z3 : w1.cell? ⟨b, 3, none⟩ = some (.int .i64 mo1) := by simp [World.cell?, hB1.out]
  have z4 : w1.cell? ⟨b, 4, none⟩ = some (.int .i64 k1) := by simp [World.cell?, hB1.out]
  have z5 : w1.cell? ⟨b, 5, none⟩ = some (.int .i64 d1) := by simp [World.cell?, hB1.out]
  have z6 : w1.cell? ⟨b, 6, none⟩ = some (.int .i64 n1) := by simp [World.cell?, hB1.out]
  have z7 : w1.cell? ⟨b, 7, none⟩ = some (.int .i64 at1) := by simp [World.cell?, hB1.out]
  have z8 : w1.cell? ⟨b, 8, none⟩ = some (.int .i64 by1) := by simp [World.cell?, hB1.out]
  have z9 : w1.cell? ⟨b, 9, none⟩ = some (.int .i64 sv1) := by simp [World.cell?, hB1.out]
  have z10 : w1.cell? ⟨b, 10, none⟩ = some (.string lt) := by simp [World.cell?, hB1.out]
  go_wp2_with fail
  clear z0 z1 z2 z3 z4 z5 z6 z7 z8 z9 z10
  have KT' := KT.out w1 (Gr.rtT G1.out HT.out.2)
  by_cases ok : ruleC nm.toList lt.toList fr1 tt1 mo1 k1 d1 n1 at1 by1 sv1 = 0
  case neg =>
    rw [show ruleTextA nm.toList lt.toList fr1 tt1 mo1 k1 d1 n1 at1 by1 sv1 = strInt (S []) (ruleC nm.toList lt.toList fr1 tt1 mo1 k1 d1 n1 at1 by1 sv1) by unfold ruleTextA; rw [if_neg ok]] at KT'
    have tc := bneT ok
    have te := beqF ok
    generalize ruleC nm.toList lt.toList fr1 tt1 mo1 k1 d1 n1 at1 by1 sv1 = cc at KT' KC tc te
    clear ok KT
    refine KT'.mono ?_
    rintro e w2 ⟨rfl, g2⟩
    have G2 := Lib.hid (G1.out.trans g2)
    have hB2 := Lib.hid (heap_gr g2 hB1.out)
    clear G1 hB1 g2 KT'
    have z0 : w2.cell? ⟨b, 0, none⟩ = some (.string nm) := by simp [World.cell?, hB2.out]
    have z1 : w2.cell? ⟨b, 1, none⟩ = some (.int .i64 fr1) := by simp [World.cell?, hB2.out]
    have z2 : w2.cell? ⟨b, 2, none⟩ = some (.int .i64 tt1) := by simp [World.cell?, hB2.out]
    have z3 : w2.cell? ⟨b, 3, none⟩ = some (.int .i64 mo1) := by simp [World.cell?, hB2.out]
    have z4 : w2.cell? ⟨b, 4, none⟩ = some (.int .i64 k1) := by simp [World.cell?, hB2.out]
    have z5 : w2.cell? ⟨b, 5, none⟩ = some (.int .i64 d1) := by simp [World.cell?, hB2.out]
    have z6 : w2.cell? ⟨b, 6, none⟩ = some (.int .i64 n1) := by simp [World.cell?, hB2.out]
    have z7 : w2.cell? ⟨b, 7, none⟩ = some (.int .i64 at1) := by simp [World.cell?, hB2.out]
    have z8 : w2.cell? ⟨b, 8, none⟩ = some (.int .i64 by1) := by simp [World.cell?, hB2.out]
    have z9 : w2.cell? ⟨b, 9, none⟩ = some (.int .i64 sv1) := by simp [World.cell?, hB2.out]
    have z10 : w2.cell? ⟨b, 10, none⟩ = some (.string lt) := by simp [World.cell?, hB2.out]
    go_wp2_with fail
    clear z0 z1 z2 z3 z4 z5 z6 z7 z8 z9 z10
    refine (KC.out w2 (G2.out.len HT.out.2.1)).mono ?_
    rintro e w3 ⟨rfl, g3⟩
    have G3 := Lib.hid (G2.out.trans g3)
    clear G2 hB2 g3 KC
    go_wp2_with fail
    clear tc te
    refine (KP.out s w3 HS.out (Gr.rpT G3.out HT.out)).mono ?_
    rintro e wp ⟨hans, gp⟩
    have GP := Lib.hid (G3.out.trans gp)
    clear gp
    rcases RO.out with ⟨nm2, lt2, fr2, tt2, mo2, k2, d2, n2, at2, by2, sv2, hc2, hl2, hone⟩ | hone
    · obtain rfl := hone e hans
      have KX0 := fun w h => pruleText (S nm2) fr2 tt2 mo2 k2 d2 n2 at2 by2 sv2 (S lt2) w h (by rw [S_size]; have := name_len (ruleSyn_iff.1 (ruleC_zero.1 hc2).1).1; unfold maxLen; omega) (by rw [S_size]; have := abbr_len (ruleSyn_iff.1 (ruleC_zero.1 hc2).1).2; unfold maxLen; omega)
      rw [S_toList, S_toList] at KX0
      rw [show ruleTextA nm2 lt2 fr2 tt2 mo2 k2 d2 n2 at2 by2 sv2 = strInt s 0 by unfold ruleTextA; rw [if_pos hc2, hl2, ← S_of]] at KX0
      have KX := Lib.hid KX0
      clear KX0 hone hans hc2 hl2
      generalize S nm2 = nmB at KX ⊢
      generalize S lt2 = ltB at KX ⊢
      have hB := Lib.hid (heap_new wp (.cells #[.string nmB, .int .i64 fr2, .int .i64 tt2, .int .i64 mo2, .int .i64 k2, .int .i64 d2, .int .i64 n2, .int .i64 at2, .int .i64 by2, .int .i64 sv2, .string ltB] 25))
      have GB := Lib.hid (GP.out.alloc' (.cells #[.string nmB, .int .i64 fr2, .int .i64 tt2, .int .i64 mo2, .int .i64 k2, .int .i64 d2, .int .i64 n2, .int .i64 at2, .int .i64 by2, .int .i64 sv2, .string ltB] 25))
      clear GP
      go_wp2_with fail
      generalize wp.alloc (.cells #[.string nmB, .int .i64 fr2, .int .i64 tt2, .int .i64 mo2, .int .i64 k2, .int .i64 d2, .int .i64 n2, .int .i64 at2, .int .i64 by2, .int .i64 sv2, .string ltB] 25) = wq at hB GB ⊢
      generalize wp.heap.size = bq at hB ⊢
      refine (KX.out wq (Gr.rtT GB.out HT.out.2)).mono ?_
      rintro e wr ⟨rfl, gr⟩
      have hBr := Lib.hid (heap_gr gr hB.out)
      have u0 : wr.cell? ⟨bq, 0, none⟩ = some (.string nmB) := by simp [World.cell?, hBr.out]
      have u1 : wr.cell? ⟨bq, 1, none⟩ = some (.int .i64 fr2) := by simp [World.cell?, hBr.out]
      have u2 : wr.cell? ⟨bq, 2, none⟩ = some (.int .i64 tt2) := by simp [World.cell?, hBr.out]
      have u3 : wr.cell? ⟨bq, 3, none⟩ = some (.int .i64 mo2) := by simp [World.cell?, hBr.out]
      have u4 : wr.cell? ⟨bq, 4, none⟩ = some (.int .i64 k2) := by simp [World.cell?, hBr.out]
      have u5 : wr.cell? ⟨bq, 5, none⟩ = some (.int .i64 d2) := by simp [World.cell?, hBr.out]
      have u6 : wr.cell? ⟨bq, 6, none⟩ = some (.int .i64 n2) := by simp [World.cell?, hBr.out]
      have u7 : wr.cell? ⟨bq, 7, none⟩ = some (.int .i64 at2) := by simp [World.cell?, hBr.out]
      have u8 : wr.cell? ⟨bq, 8, none⟩ = some (.int .i64 by2) := by simp [World.cell?, hBr.out]
      have u9 : wr.cell? ⟨bq, 9, none⟩ = some (.int .i64 sv2) := by simp [World.cell?, hBr.out]
      have u10 : wr.cell? ⟨bq, 10, none⟩ = some (.string ltB) := by simp [World.cell?, hBr.out]
      have es : (s.toList == s.toList) = true := by simp
      go_wp2_with fail
      go_ret
      exact ⟨rfl, GB.out.trans gr⟩
    · obtain rfl := hone e hans
      clear hone hans
      have hB := Lib.hid (heap_new wp (.cells zrow 25))
      have GB := Lib.hid (GP.out.alloc' (.cells zrow 25))
      clear GP
      go_wp2_with fail
      generalize wp.alloc (.cells zrow 25) = wq at hB GB ⊢
      generalize wp.heap.size = bq at hB ⊢
      refine (KZ.out wq (Gr.rtT GB.out HT.out.2)).mono ?_
      rintro e wr ⟨rfl, gr⟩
      have hBr := Lib.hid (heap_gr gr hB.out)
      have u0 : wr.cell? ⟨bq, 0, none⟩ = some (.string ⟨#[]⟩) := by simp [World.cell?, hBr.out]
      have u1 : wr.cell? ⟨bq, 1, none⟩ = some (.int .i64 0) := by simp [World.cell?, hBr.out]
      have u2 : wr.cell? ⟨bq, 2, none⟩ = some (.int .i64 0) := by simp [World.cell?, hBr.out]
      have u3 : wr.cell? ⟨bq, 3, none⟩ = some (.int .i64 0) := by simp [World.cell?, hBr.out]
      have u4 : wr.cell? ⟨bq, 4, none⟩ = some (.int .i64 0) := by simp [World.cell?, hBr.out]
      have u5 : wr.cell? ⟨bq, 5, none⟩ = some (.int .i64 0) := by simp [World.cell?, hBr.out]
      have u6 : wr.cell? ⟨bq, 6, none⟩ = some (.int .i64 0) := by simp [World.cell?, hBr.out]
      have u7 : wr.cell? ⟨bq, 7, none⟩ = some (.int .i64 0) := by simp [World.cell?, hBr.out]
      have u8 : wr.cell? ⟨bq, 8, none⟩ = some (.int .i64 0) := by simp [World.cell?, hBr.out]
      have u9 : wr.cell? ⟨bq, 9, none⟩ = some (.int .i64 0) := by simp [World.cell?, hBr.out]
      have u10 : wr.cell? ⟨bq, 10, none⟩ = some (.string ⟨#[]⟩) := by simp [World.cell?, hBr.out]
      go_wp2_with fail
      go_ret
      exact ⟨rfl, GB.out.trans gr⟩
  rw [show ruleTextA nm.toList lt.toList fr1 tt1 mo1 k1 d1 n1 at1 by1 sv1 = strInt (S (ruleL nm.toList lt.toList fr1 tt1 mo1 k1 d1 n1 at1 by1 sv1)) 0 by unfold ruleTextA; rw [if_pos ok]] at KT'
  have KC0 := KC.out
  rw [ok] at KC0
  have KC1 := Lib.hid KC0
  have LL := Lib.hid (ruleL_len ok)
  have RD : Hid (∀ e, RuleReadA (ruleL nm.toList lt.toList fr1 tt1 mo1 k1 d1 n1 at1 by1 sv1) e → e = ruleInt nm fr1 tt1 mo1 k1 d1 n1 at1 by1 sv1 lt 0) := fun e h => by
    have := read_of ok rfl h
    rw [← S_of, ← S_of] at this
    exact this
  clear KC KC0 KT ok
  generalize ruleL nm.toList lt.toList fr1 tt1 mo1 k1 d1 n1 at1 by1 sv1 = T at KT' LL RD
  refine KT'.mono ?_
  rintro e w2 ⟨rfl, g2⟩
  have G2 := Lib.hid (G1.out.trans g2)
  have hB2 := Lib.hid (heap_gr g2 hB1.out)
  clear G1 hB1 g2 KT'
  have z0 : w2.cell? ⟨b, 0, none⟩ = some (.string nm) := by simp [World.cell?, hB2.out]
  have z1 : w2.cell? ⟨b, 1, none⟩ = some (.int .i64 fr1) := by simp [World.cell?, hB2.out]
  have z2 : w2.cell? ⟨b, 2, none⟩ = some (.int .i64 tt1) := by simp [World.cell?, hB2.out]
  have z3 : w2.cell? ⟨b, 3, none⟩ = some (.int .i64 mo1) := by simp [World.cell?, hB2.out]
  have z4 : w2.cell? ⟨b, 4, none⟩ = some (.int .i64 k1) := by simp [World.cell?, hB2.out]
  have z5 : w2.cell? ⟨b, 5, none⟩ = some (.int .i64 d1) := by simp [World.cell?, hB2.out]
  have z6 : w2.cell? ⟨b, 6, none⟩ = some (.int .i64 n1) := by simp [World.cell?, hB2.out]
  have z7 : w2.cell? ⟨b, 7, none⟩ = some (.int .i64 at1) := by simp [World.cell?, hB2.out]
  have z8 : w2.cell? ⟨b, 8, none⟩ = some (.int .i64 by1) := by simp [World.cell?, hB2.out]
  have z9 : w2.cell? ⟨b, 9, none⟩ = some (.int .i64 sv1) := by simp [World.cell?, hB2.out]
  have z10 : w2.cell? ⟨b, 10, none⟩ = some (.string lt) := by simp [World.cell?, hB2.out]
  go_wp2_with fail
  clear z0 z1 z2 z3 z4 z5 z6 z7 z8 z9 z10
  refine (KC1.out w2 (G2.out.len HT.out.2.1)).mono ?_
  rintro e w3 ⟨rfl, g3⟩
  have G3 := Lib.hid (G2.out.trans g3)
  have hB3 := Lib.hid (heap_gr g3 hB2.out)
  clear G2 hB2 g3 KC1
  go_wp2_with fail
  refine (KP.out (S T) w3 (by rw [S_size]; have := LL.out; omega) (Gr.rpT G3.out HT.out)).mono ?_
  rintro e w4 ⟨hans, g4⟩
  rw [S_toList] at hans
  obtain rfl := RD.out e hans
  have G4 := Lib.hid (G3.out.trans (g4.alloc' (.cells #[.string nm, .int .i64 fr1, .int .i64 tt1, .int .i64 mo1, .int .i64 k1, .int .i64 d1, .int .i64 n1, .int .i64 at1, .int .i64 by1, .int .i64 sv1, .string lt] 25)))
  have hB4 := Lib.hid (heap_gr (g4.alloc' (.cells #[.string nm, .int .i64 fr1, .int .i64 tt1, .int .i64 mo1, .int .i64 k1, .int .i64 d1, .int .i64 n1, .int .i64 at1, .int .i64 by1, .int .i64 sv1, .string lt] 25)) hB3.out)
  have hQ := Lib.hid (heap_new w4 (.cells #[.string nm, .int .i64 fr1, .int .i64 tt1, .int .i64 mo1, .int .i64 k1, .int .i64 d1, .int .i64 n1, .int .i64 at1, .int .i64 by1, .int .i64 sv1, .string lt] 25))
  clear G3 hB3 g4 hans RD
  have z0 : (w4.alloc (.cells #[.string nm, .int .i64 fr1, .int .i64 tt1, .int .i64 mo1, .int .i64 k1, .int .i64 d1, .int .i64 n1, .int .i64 at1, .int .i64 by1, .int .i64 sv1, .string lt] 25)).cell? ⟨b, 0, none⟩ = some (.string nm) := cell_row hB4.out rfl
  have z1 : (w4.alloc (.cells #[.string nm, .int .i64 fr1, .int .i64 tt1, .int .i64 mo1, .int .i64 k1, .int .i64 d1, .int .i64 n1, .int .i64 at1, .int .i64 by1, .int .i64 sv1, .string lt] 25)).cell? ⟨b, 1, none⟩ = some (.int .i64 fr1) := cell_row hB4.out rfl
  have z2 : (w4.alloc (.cells #[.string nm, .int .i64 fr1, .int .i64 tt1, .int .i64 mo1, .int .i64 k1, .int .i64 d1, .int .i64 n1, .int .i64 at1, .int .i64 by1, .int .i64 sv1, .string lt] 25)).cell? ⟨b, 2, none⟩ = some (.int .i64 tt1) := cell_row hB4.out rfl
  have z3 : (w4.alloc (.cells #[.string nm, .int .i64 fr1, .int .i64 tt1, .int .i64 mo1, .int .i64 k1, .int .i64 d1, .int .i64 n1, .int .i64 at1, .int .i64 by1, .int .i64 sv1, .string lt] 25)).cell? ⟨b, 3, none⟩ = some (.int .i64 mo1) := cell_row hB4.out rfl
  have z4 : (w4.alloc (.cells #[.string nm, .int .i64 fr1, .int .i64 tt1, .int .i64 mo1, .int .i64 k1, .int .i64 d1, .int .i64 n1, .int .i64 at1, .int .i64 by1, .int .i64 sv1, .string lt] 25)).cell? ⟨b, 4, none⟩ = some (.int .i64 k1) := cell_row hB4.out rfl
  have z5 : (w4.alloc (.cells #[.string nm, .int .i64 fr1, .int .i64 tt1, .int .i64 mo1, .int .i64 k1, .int .i64 d1, .int .i64 n1, .int .i64 at1, .int .i64 by1, .int .i64 sv1, .string lt] 25)).cell? ⟨b, 5, none⟩ = some (.int .i64 d1) := cell_row hB4.out rfl
  have z6 : (w4.alloc (.cells #[.string nm, .int .i64 fr1, .int .i64 tt1, .int .i64 mo1, .int .i64 k1, .int .i64 d1, .int .i64 n1, .int .i64 at1, .int .i64 by1, .int .i64 sv1, .string lt] 25)).cell? ⟨b, 6, none⟩ = some (.int .i64 n1) := cell_row hB4.out rfl
  have z7 : (w4.alloc (.cells #[.string nm, .int .i64 fr1, .int .i64 tt1, .int .i64 mo1, .int .i64 k1, .int .i64 d1, .int .i64 n1, .int .i64 at1, .int .i64 by1, .int .i64 sv1, .string lt] 25)).cell? ⟨b, 7, none⟩ = some (.int .i64 at1) := cell_row hB4.out rfl
  have z8 : (w4.alloc (.cells #[.string nm, .int .i64 fr1, .int .i64 tt1, .int .i64 mo1, .int .i64 k1, .int .i64 d1, .int .i64 n1, .int .i64 at1, .int .i64 by1, .int .i64 sv1, .string lt] 25)).cell? ⟨b, 8, none⟩ = some (.int .i64 by1) := cell_row hB4.out rfl
  have z9 : (w4.alloc (.cells #[.string nm, .int .i64 fr1, .int .i64 tt1, .int .i64 mo1, .int .i64 k1, .int .i64 d1, .int .i64 n1, .int .i64 at1, .int .i64 by1, .int .i64 sv1, .string lt] 25)).cell? ⟨b, 9, none⟩ = some (.int .i64 sv1) := cell_row hB4.out rfl
  have z10 : (w4.alloc (.cells #[.string nm, .int .i64 fr1, .int .i64 tt1, .int .i64 mo1, .int .i64 k1, .int .i64 d1, .int .i64 n1, .int .i64 at1, .int .i64 by1, .int .i64 sv1, .string lt] 25)).cell? ⟨b, 10, none⟩ = some (.string lt) := cell_row hB4.out rfl
  have q0 : (w4.alloc (.cells #[.string nm, .int .i64 fr1, .int .i64 tt1, .int .i64 mo1, .int .i64 k1, .int .i64 d1, .int .i64 n1, .int .i64 at1, .int .i64 by1, .int .i64 sv1, .string lt] 25)).cell? ⟨w4.heap.size, 0, none⟩ = some (.string nm) := cell_row hQ.out rfl
  have q1 : (w4.alloc (.cells #[.string nm, .int .i64 fr1, .int .i64 tt1, .int .i64 mo1, .int .i64 k1, .int .i64 d1, .int .i64 n1, .int .i64 at1, .int .i64 by1, .int .i64 sv1, .string lt] 25)).cell? ⟨w4.heap.size, 1, none⟩ = some (.int .i64 fr1) := cell_row hQ.out rfl
  have q2 : (w4.alloc (.cells #[.string nm, .int .i64 fr1, .int .i64 tt1, .int .i64 mo1, .int .i64 k1, .int .i64 d1, .int .i64 n1, .int .i64 at1, .int .i64 by1, .int .i64 sv1, .string lt] 25)).cell? ⟨w4.heap.size, 2, none⟩ = some (.int .i64 tt1) := cell_row hQ.out rfl
  have q3 : (w4.alloc (.cells #[.string nm, .int .i64 fr1, .int .i64 tt1, .int .i64 mo1, .int .i64 k1, .int .i64 d1, .int .i64 n1, .int .i64 at1, .int .i64 by1, .int .i64 sv1, .string lt] 25)).cell? ⟨w4.heap.size, 3, none⟩ = some (.int .i64 mo1) := cell_row hQ.out rfl
  have q4 : (w4.alloc (.cells #[.string nm, .int .i64 fr1, .int .i64 tt1, .int .i64 mo1, .int .i64 k1, .int .i64 d1, .int .i64 n1, .int .i64 at1, .int .i64 by1, .int .i64 sv1, .string lt] 25)).cell? ⟨w4.heap.size, 4, none⟩ = some (.int .i64 k1) := cell_row hQ.out rfl
  have q5 : (w4.alloc (.cells #[.string nm, .int .i64 fr1, .int .i64 tt1, .int .i64 mo1, .int .i64 k1, .int .i64 d1, .int .i64 n1, .int .i64 at1, .int .i64 by1, .int .i64 sv1, .string lt] 25)).cell? ⟨w4.heap.size, 5, none⟩ = some (.int .i64 d1) := cell_row hQ.out rfl
  have q6 : (w4.alloc (.cells #[.string nm, .int .i64 fr1, .int .i64 tt1, .int .i64 mo1, .int .i64 k1, .int .i64 d1, .int .i64 n1, .int .i64 at1, .int .i64 by1, .int .i64 sv1, .string lt] 25)).cell? ⟨w4.heap.size, 6, none⟩ = some (.int .i64 n1) := cell_row hQ.out rfl
  have q7 : (w4.alloc (.cells #[.string nm, .int .i64 fr1, .int .i64 tt1, .int .i64 mo1, .int .i64 k1, .int .i64 d1, .int .i64 n1, .int .i64 at1, .int .i64 by1, .int .i64 sv1, .string lt] 25)).cell? ⟨w4.heap.size, 7, none⟩ = some (.int .i64 at1) := cell_row hQ.out rfl
  have q8 : (w4.alloc (.cells #[.string nm, .int .i64 fr1, .int .i64 tt1, .int .i64 mo1, .int .i64 k1, .int .i64 d1, .int .i64 n1, .int .i64 at1, .int .i64 by1, .int .i64 sv1, .string lt] 25)).cell? ⟨w4.heap.size, 8, none⟩ = some (.int .i64 by1) := cell_row hQ.out rfl
  have q9 : (w4.alloc (.cells #[.string nm, .int .i64 fr1, .int .i64 tt1, .int .i64 mo1, .int .i64 k1, .int .i64 d1, .int .i64 n1, .int .i64 at1, .int .i64 by1, .int .i64 sv1, .string lt] 25)).cell? ⟨w4.heap.size, 9, none⟩ = some (.int .i64 sv1) := cell_row hQ.out rfl
  have q10 : (w4.alloc (.cells #[.string nm, .int .i64 fr1, .int .i64 tt1, .int .i64 mo1, .int .i64 k1, .int .i64 d1, .int .i64 n1, .int .i64 at1, .int .i64 by1, .int .i64 sv1, .string lt] 25)).cell? ⟨w4.heap.size, 10, none⟩ = some (.string lt) := cell_row hQ.out rfl
  go_wp2_with fail
  clear z0 z1 z2 z3 z4 z5 z6 z7 z8 z9 z10 q0 q1 q2 q3 q4 q5 q6 q7 q8 q9 q10 hQ hB4
  generalize w4.alloc (.cells #[.string nm, .int .i64 fr1, .int .i64 tt1, .int .i64 mo1, .int .i64 k1, .int .i64 d1, .int .i64 n1, .int .i64 at1, .int .i64 by1, .int .i64 sv1, .string lt] 25) = w5 at G4 ⊢
  generalize w4.heap.size = b4
  refine (KP.out s w5 HS.out (Gr.rpT G4.out HT.out)).mono ?_
  rintro e wp ⟨hans, gp⟩
  have GP := Lib.hid (G4.out.trans gp)
  clear gp
  rcases RO.out with ⟨nm2, lt2, fr2, tt2, mo2, k2, d2, n2, at2, by2, sv2, hc2, hl2, hone⟩ | hone
  · obtain rfl := hone e hans
    have KX0 := fun w h => pruleText (S nm2) fr2 tt2 mo2 k2 d2 n2 at2 by2 sv2 (S lt2) w h (by rw [S_size]; have := name_len (ruleSyn_iff.1 (ruleC_zero.1 hc2).1).1; unfold maxLen; omega) (by rw [S_size]; have := abbr_len (ruleSyn_iff.1 (ruleC_zero.1 hc2).1).2; unfold maxLen; omega)
    rw [S_toList, S_toList] at KX0
    rw [show ruleTextA nm2 lt2 fr2 tt2 mo2 k2 d2 n2 at2 by2 sv2 = strInt s 0 by unfold ruleTextA; rw [if_pos hc2, hl2, ← S_of]] at KX0
    have KX := Lib.hid KX0
    clear KX0 hone hans hc2 hl2
    generalize S nm2 = nmB at KX ⊢
    generalize S lt2 = ltB at KX ⊢
    have hB := Lib.hid (heap_new wp (.cells #[.string nmB, .int .i64 fr2, .int .i64 tt2, .int .i64 mo2, .int .i64 k2, .int .i64 d2, .int .i64 n2, .int .i64 at2, .int .i64 by2, .int .i64 sv2, .string ltB] 25))
    have GB := Lib.hid (GP.out.alloc' (.cells #[.string nmB, .int .i64 fr2, .int .i64 tt2, .int .i64 mo2, .int .i64 k2, .int .i64 d2, .int .i64 n2, .int .i64 at2, .int .i64 by2, .int .i64 sv2, .string ltB] 25))
    clear GP
    go_wp2_with fail
    generalize wp.alloc (.cells #[.string nmB, .int .i64 fr2, .int .i64 tt2, .int .i64 mo2, .int .i64 k2, .int .i64 d2, .int .i64 n2, .int .i64 at2, .int .i64 by2, .int .i64 sv2, .string ltB] 25) = wq at hB GB ⊢
    generalize wp.heap.size = bq at hB ⊢
    refine (KX.out wq (Gr.rtT GB.out HT.out.2)).mono ?_
    rintro e wr ⟨rfl, gr⟩
    have hBr := Lib.hid (heap_gr gr hB.out)
    have u0 : wr.cell? ⟨bq, 0, none⟩ = some (.string nmB) := by simp [World.cell?, hBr.out]
    have u1 : wr.cell? ⟨bq, 1, none⟩ = some (.int .i64 fr2) := by simp [World.cell?, hBr.out]
    have u2 : wr.cell? ⟨bq, 2, none⟩ = some (.int .i64 tt2) := by simp [World.cell?, hBr.out]
    have u3 : wr.cell? ⟨bq, 3, none⟩ = some (.int .i64 mo2) := by simp [World.cell?, hBr.out]
    have u4 : wr.cell? ⟨bq, 4, none⟩ = some (.int .i64 k2) := by simp [World.cell?, hBr.out]
    have u5 : wr.cell? ⟨bq, 5, none⟩ = some (.int .i64 d2) := by simp [World.cell?, hBr.out]
    have u6 : wr.cell? ⟨bq, 6, none⟩ = some (.int .i64 n2) := by simp [World.cell?, hBr.out]
    have u7 : wr.cell? ⟨bq, 7, none⟩ = some (.int .i64 at2) := by simp [World.cell?, hBr.out]
    have u8 : wr.cell? ⟨bq, 8, none⟩ = some (.int .i64 by2) := by simp [World.cell?, hBr.out]
    have u9 : wr.cell? ⟨bq, 9, none⟩ = some (.int .i64 sv2) := by simp [World.cell?, hBr.out]
    have u10 : wr.cell? ⟨bq, 10, none⟩ = some (.string ltB) := by simp [World.cell?, hBr.out]
    have es : (s.toList == s.toList) = true := by simp
    go_wp2_with fail
    go_ret
    exact ⟨rfl, GB.out.trans gr⟩
  · obtain rfl := hone e hans
    clear hone hans
    have hB := Lib.hid (heap_new wp (.cells zrow 25))
    have GB := Lib.hid (GP.out.alloc' (.cells zrow 25))
    clear GP
    go_wp2_with fail
    generalize wp.alloc (.cells zrow 25) = wq at hB GB ⊢
    generalize wp.heap.size = bq at hB ⊢
    refine (KZ.out wq (Gr.rtT GB.out HT.out.2)).mono ?_
    rintro e wr ⟨rfl, gr⟩
    have hBr := Lib.hid (heap_gr gr hB.out)
    have u0 : wr.cell? ⟨bq, 0, none⟩ = some (.string ⟨#[]⟩) := by simp [World.cell?, hBr.out]
    have u1 : wr.cell? ⟨bq, 1, none⟩ = some (.int .i64 0) := by simp [World.cell?, hBr.out]
    have u2 : wr.cell? ⟨bq, 2, none⟩ = some (.int .i64 0) := by simp [World.cell?, hBr.out]
    have u3 : wr.cell? ⟨bq, 3, none⟩ = some (.int .i64 0) := by simp [World.cell?, hBr.out]
    have u4 : wr.cell? ⟨bq, 4, none⟩ = some (.int .i64 0) := by simp [World.cell?, hBr.out]
    have u5 : wr.cell? ⟨bq, 5, none⟩ = some (.int .i64 0) := by simp [World.cell?, hBr.out]
    have u6 : wr.cell? ⟨bq, 6, none⟩ = some (.int .i64 0) := by simp [World.cell?, hBr.out]
    have u7 : wr.cell? ⟨bq, 7, none⟩ = some (.int .i64 0) := by simp [World.cell?, hBr.out]
    have u8 : wr.cell? ⟨bq, 8, none⟩ = some (.int .i64 0) := by simp [World.cell?, hBr.out]
    have u9 : wr.cell? ⟨bq, 9, none⟩ = some (.int .i64 0) := by simp [World.cell?, hBr.out]
    have u10 : wr.cell? ⟨bq, 10, none⟩ = some (.string ⟨#[]⟩) := by simp [World.cell?, hBr.out]
    go_wp2_with fail
    go_ret
    exact ⟨rfl, GB.out.trans gr⟩

theorem short1 {H : Type} {a0 lt0 : ByteArray} {fr0 tt0 mo0 k0 d0 n0 at0 by0 sv0 : Int} {a1 : ByteArray} (hk : Rows.uptoSmall H [ruleD a0.data.toList fr0 tt0 mo0 k0 d0 n0 at0 by0 sv0 lt0.data.toList, .lit (.string a1.data.toList)] = true) : a1.size ≤ 1048576 := by
  have h : Rows.uptoBulkAll (H := H) [ruleD a0.data.toList fr0 tt0 mo0 k0 d0 n0 at0 by0 sv0 lt0.data.toList, .lit (.string a1.data.toList)] ≤ 1048576 := of_decide_eq_true hk
  simp only [ruleD, dayD, Rows.uptoBulkAll, Rows.uptoBulk] at h
  have e : a1.data.toList.length = a1.size := by rw [Array.length_toList]; rfl
  omega

set_option maxRecDepth 100000 in
theorem contract (H : Type) (enc : TypeId × Value → H) (W : World) (base : Nat) (args : Array Value) (ds gs : List (DataW H)) (before : List MemPlace)
    (hval : ∀ (j : Nat) t v, Tryz.f4.params[j]? = some t → args[j]? = some v → Value.okWide Tryz.prog W .any base t v)
    (hW : DataW.Whole enc Tryz.prog Tryz.f4.params.toList Rows.ruleBackSpec.vars false W args.toList ds gs before) (hL : laidMet Tryz.prog Rows.ruleBackUptoRow.laid W) (hsh : W.ShapedOpen Tryz.prog) (hk : Rows.uptoSmall H (ds ++ gs) = true) :
    Calls Tryz.prog 4 args W fun e W' => ∃ v, e = .returned v ∧ Rows.ruleBackSpec.post enc Tryz.prog Tryz.f4 false true false false W args v W' := by
  have hW' := hW
  obtain ⟨p, q, hA0, hV, rfl, hfz, hnd⟩ := hW
  have hA : DataW.TrodAll enc Tryz.prog W 0 (fun _ => true) true Tryz.f4.params.toList args.toList ds p := hA0
  rw [Tryz.params4] at hA hval
  obtain ⟨v0, vs0, d0, ds0, p0, q0, hargs, rfl, rfl, h0, r0⟩ := trodAll_cons hA
  obtain ⟨v1, vs1, d1, ds1, p1, q1, rfl, rfl, rfl, h1, r1⟩ := trodAll_cons r0
  obtain ⟨rfl, rfl, rfl⟩ := trodAll_nil r1
  obtain rfl : args = #[v0, v1] := by cases args; simp_all
  obtain ⟨rfl, rfl⟩ := trodVars_none hV
  obtain ⟨a0, fr0, tt0, mo0, k0, d0, n0, at0, by0, sv0, lt0, rfl, rfl, rfl, ri0⟩ := open_rule (hval 0 25 v0 rfl rfl) h0
  obtain ⟨a1, rfl, rfl, rfl, w1⟩ := open_string Tryz.underlying9 (hval 1 9 v1 rfl rfl) h1
  clear hA0
  simp only [List.append_nil] at hW' hk
  refine (walk a0 fr0 tt0 mo0 k0 d0 n0 at0 by0 sv0 lt0 ri0 a1 w1 W ⟨⟨⟨pow_of hL (List.mem_of_getElem? (i := 2) rfl), wk_of hL (List.mem_of_getElem? (i := 7) rfl)⟩, syn_of hL (List.mem_of_getElem? (i := 6) rfl), rng_of hL (List.mem_of_getElem? (i := 5) rfl), max_of hsh⟩, ⟨lens_of hL (List.mem_of_getElem? (i := 3) rfl), ⟨pow_of hL (List.mem_of_getElem? (i := 2) rfl), wk_of hL (List.mem_of_getElem? (i := 7) rfl)⟩, cl_of hL (List.mem_of_getElem? (i := 8) rfl)⟩⟩ (short1 hk)).mono fun e W' ⟨he, hg⟩ => ?_
  subst he
  exact ⟨_, rfl, post_of_below (pa := []) (pv := []) hW' (fun _ _ _ => trodAll_cons_mk (shut_bool Tryz.underlying4 _) trodAll_mk0) (fun _ _ => (trodAll_cons_mk (shut_rule ri0) (trodAll_cons_mk (shut_string Tryz.underlying9 w1) trodAll_mk0))) (fun _ _ => rfl) rfl
    hg (ok_one (by kernel_rfl) rfl (okWide_bool_mk Tryz.underlying4 _))⟩

/-- A world for the witness: the settled one, the listed variables holding what their initialisers lay. -/
noncomputable def laidWorld (os : Os) : World := put (put (put (putErr (putErr (put (put (put (put (put (bare os) 9 (flat1 Rows.laid_math_bits_deBruijn32tab)) 10 (flat1 Rows.laid_math_bits_deBruijn64tab)) 4 (flat1 Rows.laid_internal_strconv_uint64pow10)) 2 (flat1 Rows.laid_timeball_civil_lengths)) 6 (flat2 Rows.laid_unicode_utf8_acceptRanges)) 8 (textOf Rows.laid_strconv_ErrRange)) 7 (textOf Rows.laid_strconv_ErrSyntax)) 1 (flat1 Rows.laid_timeball_day_weekdays)) 0 (flat1 Rows.laid_timeball_rule_clockLetters)) 5 (flat1 Rows.laid_unicode_utf8_first)
set_option maxRecDepth 100000 in
theorem laid_met (os : Os) : laidMet Tryz.prog Rows.ruleBackUptoRow.laid ((laidWorld os).forCall (fun _ _ => 0) ⟨#[], #[.agg #[.string .empty, .int .i64 0, .int .i64 0, .int .i64 0, .int .i64 0, .int .i64 0, .int .i64 0, .int .i64 0, .int .i64 0, .int .i64 0, .string .empty], .string .empty], []⟩).memory :=
  laidMet_of_run3 8 (by kernel_rfl) (by kernel_rfl) (by kernel_rfl)
theorem reads (os : Os) {H : Type} (enc : TypeId × Value → H) : ∃ places, DataW.whole enc Tryz.prog ((laidWorld os).forCall (fun _ _ => 0) ⟨#[], #[.agg #[.string .empty, .int .i64 0, .int .i64 0, .int .i64 0, .int .i64 0, .int .i64 0, .int .i64 0, .int .i64 0, .int .i64 0, .int .i64 0, .string .empty], .string .empty], []⟩).memory Tryz.f4.params.toList Rows.ruleBackSpec.vars false #[Value.agg #[.string .empty, .int .i64 0, .int .i64 0, .int .i64 0, .int .i64 0, .int .i64 0, .int .i64 0, .int .i64 0, .int .i64 0, .int .i64 0, .string .empty], Value.string .empty].toList 8 = some ([.agg [.lit (.string []), .lit (.int .i64 0), .lit (.int .i64 0), .lit (.int .i64 0), .agg [.lit (.int .i64 0), .lit (.int .i64 0), .lit (.int .i64 0)], .lit (.int .i64 0), .lit (.int .i64 0), .lit (.int .i64 0), .lit (.string [])], .lit (.string [])], [], places) :=
  ⟨[], by kernel_rfl⟩

set_option maxRecDepth 100000 in
theorem lifted (os : Os) (started : os.Started) (H : Type) (enc : TypeId × Value → H) (F : Stop.Interp) :
    ReturnsInHanded {} Tryz.checked os 4 .any ((Rows.OpenSpec.upto Rows.ruleBackSpec).preRow enc Tryz.prog Tryz.f4 Rows.ruleBackUptoRow.domain false Rows.ruleBackUptoRow.laid) (((Rows.OpenSpec.upto Rows.ruleBackSpec).at F).post enc Tryz.prog Tryz.f4 false true false false) := by
  obtain ⟨places, hx⟩ := reads os enc
  refine returnsInHanded_of_row (C := Tryz.checked) (s := Rows.OpenSpec.upto Rows.ruleBackSpec) own started (by kernel_rfl) Tryz.func4
    (witness_row_at (enc := enc) (C := Tryz.checked) false (laidWorld os) #[.agg #[.string .empty, .int .i64 0, .int .i64 0, .int .i64 0, .int .i64 0, .int .i64 0, .int .i64 0, .int .i64 0, .int .i64 0, .int .i64 0, .string .empty], .string .empty] rfl (by kernel_rfl) (by kernel_rfl) (by kernel_rfl)
      (OpenSpec.preRow_of_cond 8 hx (by kernel_rfl) (fun k hk => by cases hk; kernel_rfl) (by kernel_rfl) (laid_met os))) ?_
  intro W base args ds gs before hval hW _ hcond _ hL hsh _
  exact contract H enc W base args ds gs before hval hW hL hsh (hcond _ rfl)

theorem said : Rows.RuleBackUptoSaid :=
  OpenClaim.holds_of_cond 4 Tryz.f4 rfl rfl rfl rfl rfl rfl rfl ⟨rfl, rfl, rfl, rfl, rfl⟩ rfl rfl rfl rfl rfl (by kernel_rfl) Tryz.func4 (by kernel_rfl)
    (of_decide_eq_true (by kernel_rfl)) (by unfold Func.isWrapper; first | (rw [if_pos (by decide +kernel)]; kernel_rfl) | (rw [if_neg (by decide +kernel)]; exact ⟨rfl, rfl⟩))
    (fun os started H enc _ F => by rw [OpenClaim.pre_eq_preRow]; exact lifted os started H enc F)

set_option maxRecDepth 100000 in
/-- No parameter wants a stand-in; whether the program has looks of its own. -/
theorem plain (f : FuncId) (fn : Func) (hf : Tryz.pinned.checked.prog.funcNamed "timeball/timeballkeep.RuleBack" = some f) (hfn : Tryz.pinned.checked.prog.funcs[f]? = some fn) :
    true = Tryz.pinned.checked.prog.looks [] ∧ ∀ (j : Nat) t, fn.params[j]? = some t → Tryz.pinned.checked.prog.wantsStandIn t = false := by
  obtain rfl : f = 4 := Option.some.inj ((show Tryz.prog.funcNamed "timeball/timeballkeep.RuleBack" = some 4 by kernel_rfl).symm.trans hf) |>.symm
  obtain rfl : fn = Tryz.f4 := (Option.some.inj (Tryz.func4.symm.trans hfn)).symm
  refine ⟨by kernel_rfl, fun j t ht => ?_⟩
  rw [Tryz.params4] at ht
  have hm : t = 9 ∨ t = 25 := by have := Array.mem_of_getElem? ht; simp at this; first | exact this | exact this.symm | (rcases this with h | h | h <;> simp [h]) | omega
  rcases hm with rfl | rfl
  · exact (show Tryz.prog.wantsStandIn 9 = false by kernel_rfl)
  · exact (show Tryz.prog.wantsStandIn 25 = false by kernel_rfl)

end Go.Proofs.YteljpjhjoclkfaaGreatDoor.ruleBack
namespace Go.Proofs.YteljpjhjoclkfaaGreatDoor
/-- The card. -/
theorem ruleBackUpto_holds : Rows.RuleBackUptoCardSaid :=
  Claim7.holds_tied_plain_at .later [] _ _ _ _ ruleBack.said (fun _ h => by cases h) (by kernel_rfl) (fun _ h => by cases h) ruleBackUpto_row_tie rfl ⟨rfl, rfl⟩ (by kernel_rfl) rfl ruleBack.plain (by kernel_rfl)
end Go.Proofs.YteljpjhjoclkfaaGreatDoor
