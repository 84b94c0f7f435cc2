/- The law BookBack of package timeballkeep returns true for every input and leaves its arguments as they were: Parse and Text are inverse tto each other. Condition: the listed variables (math/bits.deBruijn32tab, math/bits.deBruijn64tab, internal/strconv.uint64pow10, timeball/civil.lengths, unicode/utf8.acceptRanges, strconv.ErrRange, strconv.ErrSyntax, timeball/day.weekdays, timeball/rule.clockLetters, unicode/utf8.first) lie as their initialisers lay them; the card ties that tto the program's text. -/
import Derived.Test.YtmemgpmijphkmaaGreatDoorCards
import Derived.Test.YtmemgpmijphkmaaGreatDoorTie
import Derived.Test.YtmemgpmijphkmaaGreatDoorXM04
import Derived.Test.YtmemgpmijphkmaaGreatDoorXM45
import Derived.Test.YtmemgpmijphkmaaGreatDoorXM46
import Derived.Test.YtmemgpmijphkmaaGreatDoorXM48
import Derived.Test.YtmemgpmijphkmaaGreatDoorXM43
import Derived.Test.YtmemgpmijphkmaaGreatDoorXM49
namespace Go.Proofs.YtmemgpmijphkmaaGreatDoor.bookBack
open Go.ChangeShapes Go.WideShapes Go.ChangeAt Go.RowKit
open Go.ChangeMaps (open_string shut_string)
set_option linter.unusedVariables false
set_option linter.unusedSimpArgs false
theorem same_is {b b2 : BokD} {p : BkS} (h : b.Is p) (h2 : b2.Is p) : SameB b b2 := ⟨h2.1.trans h.1.symm, h2.2.1.trans h.2.1.symm, h2.2.2.trans h.2.2.symm⟩
theorem few_ok {b : BokD} (h : bokC b.rs b.zs b.ls = 0) : FewB b := by
  obtain ⟨a, c, d⟩ := bokC_le h
  refine ⟨by omega, by omega, by omega, fun z hz => ?_⟩
  obtain ⟨_, _, e, _⟩ := ok_zone h z hz
  omega
theorem few_nil {b : BokD} (h : b.Is BkS.zero) : FewB b := by
  have h1 : b.rs = [] := h.1
  have h2 : b.zs.map (fun z => (z.nm, z.eras)) = [] := h.2.1
  have h3 : b.ls = [] := h.2.2
  have h2' : b.zs = [] := by simpa using h2
  exact ⟨by rw [h1]; simp, by rw [h2']; simp, by rw [h3]; simp, fun z hz => by rw [h2'] at hz; cases hz⟩
theorem map_zonP {zs : List ZonD} : (zs.map (fun z => (z.nm, z.eras))).map zonP = zs.map bareZ := by rw [List.map_map]; rfl
theorem Is_text {b : BokD} {p : BkS} (h : b.Is p) : bokT b.rs b.zs b.ls = bokT p.rs (p.zs.map zonP) p.ls := by
  unfold bokT
  rw [← h.1, ← h.2.1, ← h.2.2, map_zonP, bokL_bare]
def nilB : BokD := ⟨none, 0, [], none, 0, [], none, 0, []⟩
theorem nil_at (W : World) : nilB.At W := ⟨⟨⟨Nat.le_refl _, Nat.zero_le _⟩, Row.nil _ _ _ _, (fun r hr => by cases hr)⟩, ⟨⟨Nat.le_refl _, Nat.zero_le _⟩, Row.nil _ _ _ _, (fun r hr => by cases hr)⟩, ⟨⟨Nat.le_refl _, Nat.zero_le _⟩, Row.nil _ _ _ _, (fun r hr => by cases hr)⟩⟩
theorem nil_is : nilB.Is BkS.zero := ⟨rfl, rfl, rfl⟩
/-- the law's second half: what is parsed is told so -/
structure Half (s : ByteArray) (b : BokD) : Prop where
  is : b.Is (parB s).1
theorem half_ok {s : ByteArray} {b : BokD} (h : b.Is (parB s).1) (h0 : (parB s).2.2 = 0) : (parB s).2.1 = 0 ∧ bokTA b.rs b.zs b.ls = strInt s 0 := by
  obtain ⟨a, c, d⟩ := parB_back h0
  refine ⟨a, ?_⟩
  have hc : bokC b.rs b.zs b.ls = 0 := by rw [Is_chk h]; exact c
  unfold bokTA
  rw [if_pos hc, Is_text h, d, ← S_of]
theorem half_no {s : ByteArray} {b : BokD} (h : b.Is (parB s).1) (h0 : ¬ (parB s).2.2 = 0) : b.Is BkS.zero ∧ 0 ≤ (parB s).2.1 := by
  obtain ⟨a, c⟩ := parB_err h0
  rw [a] at h
  exact ⟨h, c⟩
/-- the first half: what is told is parsed -/
theorem half_told {b : BokD} (h : bokC b.rs b.zs b.ls = 0) (hs : (bokT b.rs b.zs b.ls).length ≤ 60000) : (parB (S (bokT b.rs b.zs b.ls))).2 = (0, 0) ∧ b.Is (parB (S (bokT b.rs b.zs b.ls))).1 := by
  obtain ⟨p, e, h1, h2, h3⟩ := parB_text h hs
  rw [e]
  exact ⟨rfl, h1.symm, h2.symm, h3.symm⟩

set_option maxRecDepth 100000 in
set_option maxHeartbeats 20000000 in
theorem walk (b : BokD) (s : ByteArray) (hs : s.size ≤ maxLen) (w : World) (hb : b.At w) (ht : RpTab w) (hk : BkTab w) :
    Calls Tryz.prog 5 #[bookV b, .string s] w fun e w' => e = .returned (.bool true) ∧ Gr w w' := by
  have KB := Lib.hid (fun W (g : Gr w W) => booked_any W (g.rpT ht) (g.bk hk))
  have KC0 := fun W (g : Gr w W) => pbookCheck b W (hb.gr g) (g.bk hk)
  have KT0 := fun W (g : Gr w W) => pbookText b W (hb.gr g) (g.rpT ht).2 (g.bk hk)
  have KTX := Lib.hid (fun (x : BokD) W (g : Gr w W) (h : x.At W) => pbookText x W h (g.rpT ht).2 (g.bk hk))
  have KP := Lib.hid (fun W (g : Gr w W) => pbookParse s W hs (g.rpT ht) (g.bk hk))
  have KPT := Lib.hid (fun (t : ByteArray) W (h : t.size ≤ maxLen) (g : Gr w W) => pbookParse t W h (g.rpT ht) (g.bk hk))
  have KE := Lib.hid (fun (x y : BokD) W (h : x.At W) (h2 : y.At W) (hs : SameB x y) (hf : FewB x) => rbookEq x y W h h2 hs hf)
  have HB := Lib.hid hb
  have FO := Lib.hid (few_ok (b := b))
  have HT := Lib.hid (half_told (b := b))
  have HO := Lib.hid (fun (x : BokD) h h0 => half_ok (s := s) (b := x) h h0)
  have HN := Lib.hid (fun (x : BokD) h h0 => half_no (s := s) (b := x) h h0)
  obtain ⟨Ar, cr, rs, Az, cz, zs, Al, cl, ls⟩ := b
  have B0 := Lib.hid (box_one w (.cells #[.slice Ar rs.length cr, .slice Az zs.length cz, .slice Al ls.length cl] 26))
  simp only at KC0 KT0 FO HT
  clear hs hb ht hk
  by_cases hC : bokC rs zs ls = 0
  case neg =>
    rw [bokTA_no hC] at KT0
    have tC : (bokC rs zs ls == 0) = false := beqF hC
    generalize bokC rs zs ls = C at KT0 KC0 tC hC
    have KC := Lib.hid KC0
    have KT := Lib.hid KT0
    clear KC0 KT0 FO HT hC HB
    go_enter Tryz.func5, Tryz.ntmps5
    go_wp2_with fail
    generalize w.alloc (.cells #[.slice Ar rs.length cr, .slice Az zs.length cz, .slice Al ls.length cl] 26) = w0 at B0 ⊢
    generalize w.heap.size = q at B0 ⊢
    refine (KB.out w0 B0.out.1).mono ?_
    rintro e w1 ⟨rfl, g1⟩
    have G1 := Lib.hid (B0.out.1.trans g1)
    have D1 := Lib.hid (bheap_gr g1 B0.out.2)
    clear g1 B0 KB
    have y0 : w1.cell? ⟨q, 0, none⟩ = some (.slice Ar rs.length cr) := bcell_row D1.out rfl
    have y1 : w1.cell? ⟨q, 1, none⟩ = some (.slice Az zs.length cz) := bcell_row D1.out rfl
    have y2 : w1.cell? ⟨q, 2, none⟩ = some (.slice Al ls.length cl) := bcell_row D1.out rfl
    go_wp2_with fail
    clear y0 y1 y2
    refine (KT.out w1 G1.out).mono ?_
    rintro e w2 ⟨rfl, g2⟩
    have G2 := Lib.hid (G1.out.trans g2)
    have D2 := Lib.hid (bheap_gr g2 D1.out)
    clear g2 G1 D1 KT
    have y0 : w2.cell? ⟨q, 0, none⟩ = some (.slice Ar rs.length cr) := bcell_row D2.out rfl
    have y1 : w2.cell? ⟨q, 1, none⟩ = some (.slice Az zs.length cz) := bcell_row D2.out rfl
    have y2 : w2.cell? ⟨q, 2, none⟩ = some (.slice Al ls.length cl) := bcell_row D2.out rfl
    go_wp2_with fail
    clear y0 y1 y2
    refine (KC.out w2 G2.out).mono ?_
    rintro e w3 ⟨rfl, g3⟩
    have G3 := Lib.hid (G2.out.trans g3)
    have D3 := Lib.hid (bheap_gr g3 D2.out)
    clear g3 G2 D2 KC
    go_wp2_with fail
    refine (KP.out w3 G3.out).mono ?_
    rintro e wA ⟨x, he, hat, his, gA⟩
    have GA := Lib.hid (G3.out.trans gA)
    have HAT := Lib.hid hat
    clear gA hat KP
    by_cases h0 : (parB s).2.2 = 0
    · obtain ⟨n0, tx⟩ := HO.out x his h0
      rw [n0, h0] at he
      obtain rfl := he
      obtain ⟨Arx, crx, rsx, Azx, czx, zsx, Alx, clx, lsx⟩ := x
      have KT1 := KTX.out ⟨Arx, crx, rsx, Azx, czx, zsx, Alx, clx, lsx⟩
      simp only at KT1 tx
      rw [tx] at KT1
      have KT := Lib.hid KT1
      have BB := Lib.hid (box_one wA (.cells #[.slice Arx rsx.length crx, .slice Azx zsx.length czx, .slice Alx lsx.length clx] 26))
      have ss : (s.toList == s.toList) = true := by simp
      clear KT1 tx n0 h0 his HO HN KTX
      go_wp2_with fail
      generalize wA.alloc (.cells #[.slice Arx rsx.length crx, .slice Azx zsx.length czx, .slice Alx lsx.length clx] 26) = wB at BB ⊢
      refine (KT.out wB (GA.out.trans BB.out.1) (HAT.out.gr BB.out.1)).mono ?_
      rintro e wC ⟨rfl, gC⟩
      go_wp2_with fail
      go_ret
      exact ⟨rfl, (GA.out.trans BB.out.1).trans gC⟩
    · obtain ⟨z0, nn⟩ := HN.out x his h0
      have SB := Lib.hid (same_is z0 nil_is)
      have FB := Lib.hid (few_nil z0)
      obtain rfl := he
      generalize (parB s).2.2 = f at h0 ⊢
      generalize (parB s).2.1 = n at nn ⊢
      have t0 := bneT h0
      have t1 : decide ((0 : Int) ≤ n) = true := decide_eq_true nn
      have KE1 := Lib.hid (fun W (h : x.At W) => KE.out x nilB W h (nil_at W) SB.out FB.out)
      obtain ⟨Arx, crx, rsx, Azx, czx, zsx, Alx, clx, lsx⟩ := x
      obtain ⟨ta, tc, te⟩ := bokTA_two rsx zsx lsx
      have KT1 := KTX.out ⟨Arx, crx, rsx, Azx, czx, zsx, Alx, clx, lsx⟩
      simp only at KT1
      rw [te] at KT1
      have KT := Lib.hid KT1
      have BB := Lib.hid (box_one wA (.cells #[.slice Arx rsx.length crx, .slice Azx zsx.length czx, .slice Alx lsx.length clx] 26))
      clear KT1 te h0 his HO HN KTX z0 SB FB KE
      go_wp2_with fail
      generalize wA.alloc (.cells #[.slice Arx rsx.length crx, .slice Azx zsx.length czx, .slice Alx lsx.length clx] 26) = wB at BB ⊢
      generalize wA.heap.size = qx at BB ⊢
      refine (KT.out wB (GA.out.trans BB.out.1) (HAT.out.gr BB.out.1)).mono ?_
      rintro e wC ⟨rfl, gC⟩
      have DC := Lib.hid (bheap_gr gC BB.out.2)
      have GC := Lib.hid ((GA.out.trans BB.out.1).trans gC)
      have HC2 := Lib.hid (HAT.out.gr (BB.out.1.trans gC))
      clear gC KT BB HAT
      have y0 : wC.cell? ⟨qx, 0, none⟩ = some (.slice Arx rsx.length crx) := bcell_row DC.out rfl
      have y1 : wC.cell? ⟨qx, 1, none⟩ = some (.slice Azx zsx.length czx) := bcell_row DC.out rfl
      have y2 : wC.cell? ⟨qx, 2, none⟩ = some (.slice Alx lsx.length clx) := bcell_row DC.out rfl
      go_wp2_with fail
      clear y0 y1 y2
      refine (KE1.out wC HC2.out).mono ?_
      rintro e wD ⟨rfl, gD⟩
      go_wp2_with fail
      go_ret
      exact ⟨rfl, GC.out.trans gD⟩

  have FO2 := Lib.hid (FO.out hC)
  have HT2 := Lib.hid (HT.out hC)
  have TL : Hid ((bokT rs zs ls).length ≤ 30000000) := (bokL_ok hC).jlen 10 (Nat.le_trans (bokL_len hC) (by decide))
  rw [bokTA_yes hC] at KT0
  rw [hC] at KC0
  have KC := Lib.hid KC0
  have KT1 : ∀ W, Gr w W → Calls Tryz.prog 10 #[bookV ⟨Ar, cr, rs, Az, cz, zs, Al, cl, ls⟩] W fun e w' => e = strInt (S (bokT rs zs ls)) 0 ∧ Gr W w' := KT0
  clear KC0 KT0 FO HT hC
  generalize bokT rs zs ls = T at KT1 HT2 TL
  have KT := Lib.hid KT1
  clear KT1
  by_cases hl : T.length ≤ 60000
  case neg =>
    have t6 : decide ((T.length : Int) ≤ 60000) = false := decide_eq_false (by omega)
    clear HT2 FO2 HB hl
    go_enter Tryz.func5, Tryz.ntmps5
    go_wp2_with fail
    generalize w.alloc (.cells #[.slice Ar rs.length cr, .slice Az zs.length cz, .slice Al ls.length cl] 26) = w0 at B0 ⊢
    generalize w.heap.size = q at B0 ⊢
    refine (KB.out w0 B0.out.1).mono ?_
    rintro e w1 ⟨rfl, g1⟩
    have G1 := Lib.hid (B0.out.1.trans g1)
    have D1 := Lib.hid (bheap_gr g1 B0.out.2)
    clear g1 B0 KB
    have y0 : w1.cell? ⟨q, 0, none⟩ = some (.slice Ar rs.length cr) := bcell_row D1.out rfl
    have y1 : w1.cell? ⟨q, 1, none⟩ = some (.slice Az zs.length cz) := bcell_row D1.out rfl
    have y2 : w1.cell? ⟨q, 2, none⟩ = some (.slice Al ls.length cl) := bcell_row D1.out rfl
    go_wp2_with fail
    clear y0 y1 y2
    refine (KT.out w1 G1.out).mono ?_
    rintro e w2 ⟨rfl, g2⟩
    have G2 := Lib.hid (G1.out.trans g2)
    have D2 := Lib.hid (bheap_gr g2 D1.out)
    clear g2 G1 D1 KT
    have y0 : w2.cell? ⟨q, 0, none⟩ = some (.slice Ar rs.length cr) := bcell_row D2.out rfl
    have y1 : w2.cell? ⟨q, 1, none⟩ = some (.slice Az zs.length cz) := bcell_row D2.out rfl
    have y2 : w2.cell? ⟨q, 2, none⟩ = some (.slice Al ls.length cl) := bcell_row D2.out rfl
    go_wp2_with fail
    clear y0 y1 y2
    refine (KC.out w2 G2.out).mono ?_
    rintro e w3 ⟨rfl, g3⟩
    have G3 := Lib.hid (G2.out.trans g3)
    have D3 := Lib.hid (bheap_gr g3 D2.out)
    clear g3 G2 D2 KC
    go_wp2_with fail
    refine (KP.out w3 G3.out).mono ?_
    rintro e wA ⟨x, he, hat, his, gA⟩
    have GA := Lib.hid (G3.out.trans gA)
    have HAT := Lib.hid hat
    clear gA hat KP
    by_cases h0 : (parB s).2.2 = 0
    · obtain ⟨n0, tx⟩ := HO.out x his h0
      rw [n0, h0] at he
      obtain rfl := he
      obtain ⟨Arx, crx, rsx, Azx, czx, zsx, Alx, clx, lsx⟩ := x
      have KT1 := KTX.out ⟨Arx, crx, rsx, Azx, czx, zsx, Alx, clx, lsx⟩
      simp only at KT1 tx
      rw [tx] at KT1
      have KT := Lib.hid KT1
      have BB := Lib.hid (box_one wA (.cells #[.slice Arx rsx.length crx, .slice Azx zsx.length czx, .slice Alx lsx.length clx] 26))
      have ss : (s.toList == s.toList) = true := by simp
      clear KT1 tx n0 h0 his HO HN KTX
      go_wp2_with fail
      generalize wA.alloc (.cells #[.slice Arx rsx.length crx, .slice Azx zsx.length czx, .slice Alx lsx.length clx] 26) = wB at BB ⊢
      refine (KT.out wB (GA.out.trans BB.out.1) (HAT.out.gr BB.out.1)).mono ?_
      rintro e wC ⟨rfl, gC⟩
      go_wp2_with fail
      go_ret
      exact ⟨rfl, (GA.out.trans BB.out.1).trans gC⟩
    · obtain ⟨z0, nn⟩ := HN.out x his h0
      have SB := Lib.hid (same_is z0 nil_is)
      have FB := Lib.hid (few_nil z0)
      obtain rfl := he
      generalize (parB s).2.2 = f at h0 ⊢
      generalize (parB s).2.1 = n at nn ⊢
      have t0 := bneT h0
      have t1 : decide ((0 : Int) ≤ n) = true := decide_eq_true nn
      have KE1 := Lib.hid (fun W (h : x.At W) => KE.out x nilB W h (nil_at W) SB.out FB.out)
      obtain ⟨Arx, crx, rsx, Azx, czx, zsx, Alx, clx, lsx⟩ := x
      obtain ⟨ta, tc, te⟩ := bokTA_two rsx zsx lsx
      have KT1 := KTX.out ⟨Arx, crx, rsx, Azx, czx, zsx, Alx, clx, lsx⟩
      simp only at KT1
      rw [te] at KT1
      have KT := Lib.hid KT1
      have BB := Lib.hid (box_one wA (.cells #[.slice Arx rsx.length crx, .slice Azx zsx.length czx, .slice Alx lsx.length clx] 26))
      clear KT1 te h0 his HO HN KTX z0 SB FB KE
      go_wp2_with fail
      generalize wA.alloc (.cells #[.slice Arx rsx.length crx, .slice Azx zsx.length czx, .slice Alx lsx.length clx] 26) = wB at BB ⊢
      generalize wA.heap.size = qx at BB ⊢
      refine (KT.out wB (GA.out.trans BB.out.1) (HAT.out.gr BB.out.1)).mono ?_
      rintro e wC ⟨rfl, gC⟩
      have DC := Lib.hid (bheap_gr gC BB.out.2)
      have GC := Lib.hid ((GA.out.trans BB.out.1).trans gC)
      have HC2 := Lib.hid (HAT.out.gr (BB.out.1.trans gC))
      clear gC KT BB HAT
      have y0 : wC.cell? ⟨qx, 0, none⟩ = some (.slice Arx rsx.length crx) := bcell_row DC.out rfl
      have y1 : wC.cell? ⟨qx, 1, none⟩ = some (.slice Azx zsx.length czx) := bcell_row DC.out rfl
      have y2 : wC.cell? ⟨qx, 2, none⟩ = some (.slice Alx lsx.length clx) := bcell_row DC.out rfl
      go_wp2_with fail
      clear y0 y1 y2
      refine (KE1.out wC HC2.out).mono ?_
      rintro e wD ⟨rfl, gD⟩
      go_wp2_with fail
      go_ret
      exact ⟨rfl, GC.out.trans gD⟩

  have t6 : decide ((T.length : Int) ≤ 60000) = true := decide_eq_true (by omega)
  have HP := Lib.hid (HT2.out hl)
  have hsz : (S T).size ≤ maxLen := by rw [S_size]; unfold maxLen; omega
  have KX := Lib.hid (fun W (g : Gr w W) => KPT.out (S T) W hsz g)
  clear HT2 KPT hl hsz
  go_enter Tryz.func5, Tryz.ntmps5
  go_wp2_with fail
  generalize w.alloc (.cells #[.slice Ar rs.length cr, .slice Az zs.length cz, .slice Al ls.length cl] 26) = w0 at B0 ⊢
  generalize w.heap.size = q at B0 ⊢
  refine (KB.out w0 B0.out.1).mono ?_
  rintro e w1 ⟨rfl, g1⟩
  have G1 := Lib.hid (B0.out.1.trans g1)
  have D1 := Lib.hid (bheap_gr g1 B0.out.2)
  clear g1 B0 KB
  have y0 : w1.cell? ⟨q, 0, none⟩ = some (.slice Ar rs.length cr) := bcell_row D1.out rfl
  have y1 : w1.cell? ⟨q, 1, none⟩ = some (.slice Az zs.length cz) := bcell_row D1.out rfl
  have y2 : w1.cell? ⟨q, 2, none⟩ = some (.slice Al ls.length cl) := bcell_row D1.out rfl
  go_wp2_with fail
  clear y0 y1 y2
  refine (KT.out w1 G1.out).mono ?_
  rintro e w2 ⟨rfl, g2⟩
  have G2 := Lib.hid (G1.out.trans g2)
  have D2 := Lib.hid (bheap_gr g2 D1.out)
  clear g2 G1 D1 KT
  have y0 : w2.cell? ⟨q, 0, none⟩ = some (.slice Ar rs.length cr) := bcell_row D2.out rfl
  have y1 : w2.cell? ⟨q, 1, none⟩ = some (.slice Az zs.length cz) := bcell_row D2.out rfl
  have y2 : w2.cell? ⟨q, 2, none⟩ = some (.slice Al ls.length cl) := bcell_row D2.out rfl
  go_wp2_with fail
  clear y0 y1 y2
  refine (KC.out w2 G2.out).mono ?_
  rintro e w3 ⟨rfl, g3⟩
  have G3 := Lib.hid (G2.out.trans g3)
  have D3 := Lib.hid (bheap_gr g3 D2.out)
  clear g3 G2 D2 KC
  go_wp2_with fail
  refine (KX.out w3 G3.out).mono ?_
  rintro e w4 ⟨y, he, hat, his, g4⟩
  obtain ⟨hp1, hp2⟩ := HP.out
  rw [hp1] at he
  obtain rfl := he
  have G4 := Lib.hid (G3.out.trans g4)
  have D4 := Lib.hid (bheap_gr g4 D3.out)
  have HY := Lib.hid hat
  have KE1 := Lib.hid (fun W (g : Gr w W) (h : y.At W) => KE.out ⟨Ar, cr, rs, Az, cz, zs, Al, cl, ls⟩ y W (HB.out.gr g) h (same_is hp2 his) FO2.out)
  clear hp1 hp2 HP hat his g4 KX G3 D3 FO2 HB
  obtain ⟨Ary, cry, rsy, Azy, czy, zsy, Aly, cly, lsy⟩ := y
  have BY := Lib.hid (box_one w4 (.cells #[.slice Ary rsy.length cry, .slice Azy zsy.length czy, .slice Aly lsy.length cly] 26))
  have y0 : (w4.alloc (.cells #[.slice Ary rsy.length cry, .slice Azy zsy.length czy, .slice Aly lsy.length cly] 26)).cell? ⟨q, 0, none⟩ = some (.slice Ar rs.length cr) := bcell_row (bheap_gr BY.out.1 D4.out) rfl
  have y1 : (w4.alloc (.cells #[.slice Ary rsy.length cry, .slice Azy zsy.length czy, .slice Aly lsy.length cly] 26)).cell? ⟨q, 1, none⟩ = some (.slice Az zs.length cz) := bcell_row (bheap_gr BY.out.1 D4.out) rfl
  have y2 : (w4.alloc (.cells #[.slice Ary rsy.length cry, .slice Azy zsy.length czy, .slice Aly lsy.length cly] 26)).cell? ⟨q, 2, none⟩ = some (.slice Al ls.length cl) := bcell_row (bheap_gr BY.out.1 D4.out) rfl
  go_wp2_with fail
  clear y0 y1 y2
  generalize w4.alloc (.cells #[.slice Ary rsy.length cry, .slice Azy zsy.length czy, .slice Aly lsy.length cly] 26) = w5 at BY ⊢
  refine (KE1.out w5 (G4.out.trans BY.out.1) (HY.out.gr BY.out.1)).mono ?_
  rintro e w6 ⟨rfl, g6⟩
  have G6 := Lib.hid ((G4.out.trans BY.out.1).trans g6)
  clear KE1 BY D4 G4 g6 HY t6
  go_wp2_with fail
  refine (KP.out w6 G6.out).mono ?_
  rintro e wA ⟨x, he, hat, his, gA⟩
  have GA := Lib.hid (G6.out.trans gA)
  have HAT := Lib.hid hat
  clear gA hat KP
  by_cases h0 : (parB s).2.2 = 0
  · obtain ⟨n0, tx⟩ := HO.out x his h0
    rw [n0, h0] at he
    obtain rfl := he
    obtain ⟨Arx, crx, rsx, Azx, czx, zsx, Alx, clx, lsx⟩ := x
    have KT1 := KTX.out ⟨Arx, crx, rsx, Azx, czx, zsx, Alx, clx, lsx⟩
    simp only at KT1 tx
    rw [tx] at KT1
    have KT := Lib.hid KT1
    have BB := Lib.hid (box_one wA (.cells #[.slice Arx rsx.length crx, .slice Azx zsx.length czx, .slice Alx lsx.length clx] 26))
    have ss : (s.toList == s.toList) = true := by simp
    clear KT1 tx n0 h0 his HO HN KTX
    go_wp2_with fail
    generalize wA.alloc (.cells #[.slice Arx rsx.length crx, .slice Azx zsx.length czx, .slice Alx lsx.length clx] 26) = wB at BB ⊢
    refine (KT.out wB (GA.out.trans BB.out.1) (HAT.out.gr BB.out.1)).mono ?_
    rintro e wC ⟨rfl, gC⟩
    go_wp2_with fail
    go_ret
    exact ⟨rfl, (GA.out.trans BB.out.1).trans gC⟩
  · obtain ⟨z0, nn⟩ := HN.out x his h0
    have SB := Lib.hid (same_is z0 nil_is)
    have FB := Lib.hid (few_nil z0)
    obtain rfl := he
    generalize (parB s).2.2 = f at h0 ⊢
    generalize (parB s).2.1 = n at nn ⊢
    have t0 := bneT h0
    have t1 : decide ((0 : Int) ≤ n) = true := decide_eq_true nn
    have KE1 := Lib.hid (fun W (h : x.At W) => KE.out x nilB W h (nil_at W) SB.out FB.out)
    obtain ⟨Arx, crx, rsx, Azx, czx, zsx, Alx, clx, lsx⟩ := x
    obtain ⟨ta, tc, te⟩ := bokTA_two rsx zsx lsx
    have KT1 := KTX.out ⟨Arx, crx, rsx, Azx, czx, zsx, Alx, clx, lsx⟩
    simp only at KT1
    rw [te] at KT1
    have KT := Lib.hid KT1
    have BB := Lib.hid (box_one wA (.cells #[.slice Arx rsx.length crx, .slice Azx zsx.length czx, .slice Alx lsx.length clx] 26))
    clear KT1 te h0 his HO HN KTX z0 SB FB KE
    go_wp2_with fail
    generalize wA.alloc (.cells #[.slice Arx rsx.length crx, .slice Azx zsx.length czx, .slice Alx lsx.length clx] 26) = wB at BB ⊢
    generalize wA.heap.size = qx at BB ⊢
    refine (KT.out wB (GA.out.trans BB.out.1) (HAT.out.gr BB.out.1)).mono ?_
    rintro e wC ⟨rfl, gC⟩
    have DC := Lib.hid (bheap_gr gC BB.out.2)
    have GC := Lib.hid ((GA.out.trans BB.out.1).trans gC)
    have HC2 := Lib.hid (HAT.out.gr (BB.out.1.trans gC))
    clear gC KT BB HAT
    have y0 : wC.cell? ⟨qx, 0, none⟩ = some (.slice Arx rsx.length crx) := bcell_row DC.out rfl
    have y1 : wC.cell? ⟨qx, 1, none⟩ = some (.slice Azx zsx.length czx) := bcell_row DC.out rfl
    have y2 : wC.cell? ⟨qx, 2, none⟩ = some (.slice Alx lsx.length clx) := bcell_row DC.out rfl
    go_wp2_with fail
    clear y0 y1 y2
    refine (KE1.out wC HC2.out).mono ?_
    rintro e wD ⟨rfl, gD⟩
    go_wp2_with fail
    go_ret
    exact ⟨rfl, GC.out.trans gD⟩

set_option maxRecDepth 100000 in
theorem contract (H : Type) (enc : TypeId × Value → H) (W : World) (base : Nat) (args : Array Value) (ds gs : List (DataW H)) (before : List MemPlace)
    (hval : ∀ (j : Nat) t v, Tryz.f5.params[j]? = some t → args[j]? = some v → Value.okWide Tryz.prog W .any base t v)
    (hW : DataW.Whole enc Tryz.prog Tryz.f5.params.toList Rows.bookBackSpec.vars false W args.toList ds gs before) (hL : laidMet Tryz.prog Rows.bookBackRow.laid W) (hsh : W.ShapedOpen Tryz.prog) :
    Calls Tryz.prog 5 args W fun e W' => ∃ v, e = .returned v ∧ Rows.bookBackSpec.post enc Tryz.prog Tryz.f5 false true false false W args v W' := by
  have hW' := hW
  obtain ⟨p, q, hA0, hV, rfl, hfz, hnd⟩ := hW
  have hA : DataW.TrodAll enc Tryz.prog W 0 (fun _ => true) true Tryz.f5.params.toList args.toList ds p := hA0
  rw [Tryz.params5] at hA hval
  obtain ⟨v0, vs0, d0, ds0, p0, q0, hargs, rfl, rfl, h0, r0⟩ := trodAll_cons hA
  obtain ⟨v1, vs1, d1, ds1, p1, q1, rfl, rfl, rfl, h1, r1⟩ := trodAll_cons r0
  obtain ⟨rfl, rfl, rfl⟩ := trodAll_nil r1
  obtain rfl : args = #[v0, v1] := by cases args; simp_all
  obtain ⟨rfl, rfl⟩ := trodVars_none hV
  obtain ⟨bk0, rfl, bi0⟩ := open_book (hval 0 26 v0 rfl rfl) h0
  obtain ⟨a1, rfl, rfl, rfl, w1⟩ := open_string Tryz.underlying9 (hval 1 9 v1 rfl rfl) h1
  clear hA0
  simp only [List.append_nil] at hW'
  refine (walk bk0 a1 w1 W bi0 ⟨⟨⟨pow_of hL (List.mem_of_getElem? (i := 2) rfl), wk_of hL (List.mem_of_getElem? (i := 7) rfl)⟩, syn_of hL (List.mem_of_getElem? (i := 6) rfl), rng_of hL (List.mem_of_getElem? (i := 5) rfl), max_of hsh⟩, ⟨lens_of hL (List.mem_of_getElem? (i := 3) rfl), ⟨pow_of hL (List.mem_of_getElem? (i := 2) rfl), wk_of hL (List.mem_of_getElem? (i := 7) rfl)⟩, cl_of hL (List.mem_of_getElem? (i := 8) rfl)⟩⟩ ⟨lens_of hL (List.mem_of_getElem? (i := 3) rfl), pow_of hL (List.mem_of_getElem? (i := 2) rfl), max_of hsh⟩).mono fun e W' ⟨he, hg⟩ => ?_
  subst he
  exact ⟨_, rfl, post_of_below (pa := (p0 ++ ([] ++ []))) (pv := []) hW' (fun _ _ _ => trodAll_cons_mk (shut_bool Tryz.underlying4 _) trodAll_mk0) (fun _ hsp => (trodAll_cons_mk (stays book_reads h0 hg (fun p hp => by simp [hp]) (fun p hp => hW'.lt p hp) hsp) (trodAll_cons_mk (shut_string Tryz.underlying9 w1) trodAll_mk0))) (fun _ _ => rfl) (by simp)
    hg (ok_one (by kernel_rfl) rfl (okWide_bool_mk Tryz.underlying4 _))⟩

/-- A world for the witness: the settled one, the listed variables holding what their initialisers lay. -/
noncomputable def laidWorld (os : Os) : World := put (put (put (putErr (putErr (put (put (put (put (put (bare os) 7 (flat1 Rows.laid_math_bits_deBruijn32tab)) 8 (flat1 Rows.laid_math_bits_deBruijn64tab)) 6 (flat1 Rows.laid_internal_strconv_uint64pow10)) 3 (flat1 Rows.laid_timeball_civil_lengths)) 5 (flat2 Rows.laid_unicode_utf8_acceptRanges)) 10 (textOf Rows.laid_strconv_ErrRange)) 9 (textOf Rows.laid_strconv_ErrSyntax)) 2 (flat1 Rows.laid_timeball_day_weekdays)) 0 (flat1 Rows.laid_timeball_rule_clockLetters)) 4 (flat1 Rows.laid_unicode_utf8_first)
set_option maxRecDepth 100000 in
theorem laid_met (os : Os) : laidMet Tryz.prog Rows.bookBackRow.laid ((laidWorld os).forCall (fun _ _ => 0) ⟨#[], #[.agg #[.slice none 0 0, .slice none 0 0, .slice none 0 0], .string .empty], []⟩).memory :=
  laidMet_of_run3 8 (by kernel_rfl) (by kernel_rfl) (by kernel_rfl)
theorem reads (os : Os) {H : Type} (enc : TypeId × Value → H) : ∃ places, DataW.whole enc Tryz.prog ((laidWorld os).forCall (fun _ _ => 0) ⟨#[], #[.agg #[.slice none 0 0, .slice none 0 0, .slice none 0 0], .string .empty], []⟩).memory Tryz.f5.params.toList Rows.bookBackSpec.vars false #[Value.agg #[.slice none 0 0, .slice none 0 0, .slice none 0 0], Value.string .empty].toList 8 = some ([.agg [.nil, .nil, .nil], .lit (.string [])], [], places) :=
  ⟨[], by kernel_rfl⟩

set_option maxRecDepth 100000 in
theorem lifted (os : Os) (started : os.Started) (H : Type) (enc : TypeId × Value → H) (F : Stop.Interp) :
    ReturnsInHanded {} Tryz.checked os 5 .any ((OpenSpec.ofChange Rows.bookBackSpec).preRow enc Tryz.prog Tryz.f5 Rows.bookBackRow.domain false Rows.bookBackRow.laid) (((OpenSpec.ofChange Rows.bookBackSpec).at F).post enc Tryz.prog Tryz.f5 false true false false) := by
  obtain ⟨places, hx⟩ := reads os enc
  refine returnsInHanded_of_row (C := Tryz.checked) (s := OpenSpec.ofChange Rows.bookBackSpec) own started (by kernel_rfl) Tryz.func5
    (witness_row_at (enc := enc) (C := Tryz.checked) false (laidWorld os) #[.agg #[.slice none 0 0, .slice none 0 0, .slice none 0 0], .string .empty] rfl (by kernel_rfl) (by kernel_rfl) (by kernel_rfl)
      (OpenSpec.preRow_of_cond 8 hx (by kernel_rfl) (fun k hk => by cases hk) (by kernel_rfl) (laid_met os))) ?_
  intro W base args ds gs before hval hW _ _ _ hL hsh _
  exact contract H enc W base args ds gs before hval hW hL hsh

theorem said : Rows.BookBackSaid :=
  OpenClaim.holds_of_cond 5 Tryz.f5 rfl rfl rfl rfl rfl rfl rfl ⟨rfl, rfl, rfl, rfl, rfl⟩ rfl rfl rfl rfl rfl (by kernel_rfl) Tryz.func5 (by kernel_rfl)
    (of_decide_eq_true (by kernel_rfl)) (by unfold Func.isWrapper; first | (rw [if_pos (by decide +kernel)]; kernel_rfl) | (rw [if_neg (by decide +kernel)]; exact ⟨rfl, rfl⟩))
    (fun os started H enc _ F => by rw [OpenClaim.pre_eq_preRow]; exact lifted os started H enc F)

set_option maxRecDepth 100000 in
/-- No parameter wants a stand-in; whether the program has looks of its own. -/
theorem plain (f : FuncId) (fn : Func) (hf : Tryz.pinned.checked.prog.funcNamed "timeball/timeballkeep.BookBack" = some f) (hfn : Tryz.pinned.checked.prog.funcs[f]? = some fn) :
    true = Tryz.pinned.checked.prog.looks [] ∧ ∀ (j : Nat) t, fn.params[j]? = some t → Tryz.pinned.checked.prog.wantsStandIn t = false := by
  obtain rfl : f = 5 := Option.some.inj ((show Tryz.prog.funcNamed "timeball/timeballkeep.BookBack" = some 5 by kernel_rfl).symm.trans hf) |>.symm
  obtain rfl : fn = Tryz.f5 := (Option.some.inj (Tryz.func5.symm.trans hfn)).symm
  refine ⟨by kernel_rfl, fun j t ht => ?_⟩
  rw [Tryz.params5] at ht
  have hm : t = 9 ∨ t = 26 := by have := Array.mem_of_getElem? ht; simp at this; first | exact this | exact this.symm | (rcases this with h | h | h <;> simp [h]) | omega
  rcases hm with rfl | rfl
  · exact (show Tryz.prog.wantsStandIn 9 = false by kernel_rfl)
  · exact (show Tryz.prog.wantsStandIn 26 = false by kernel_rfl)

end Go.Proofs.YtmemgpmijphkmaaGreatDoor.bookBack
namespace Go.Proofs.YtmemgpmijphkmaaGreatDoor
/-- The card. -/
theorem bookBack_holds : Rows.BookBackCardSaid :=
  Claim7.holds_tied_plain_at .later [] _ _ _ _ bookBack.said (fun _ h => by cases h) (by kernel_rfl) (fun _ h => by cases h) bookBack_row_tie rfl ⟨rfl, rfl⟩ (by kernel_rfl) rfl bookBack.plain (by kernel_rfl)
end Go.Proofs.YtmemgpmijphkmaaGreatDoor
