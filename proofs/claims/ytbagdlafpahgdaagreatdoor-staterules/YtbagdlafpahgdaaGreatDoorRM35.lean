/- What the project's checkRules and checkEra of package book return. Rows of a call's own that are appended tto; the reference's rulesOf. -/
import Derived.Test.YtbagdlafpahgdaaGreatDoorRM34
import Derived.Deep.AppendLies
import Derived.OwnWalk
import Derived.Laws.OwnMore
import Derived.Test.YtbagdlafpahgdaaGreatDoorRM33
import Derived.Test.YtbagdlafpahgdaaGreatDoorRM18
namespace Go.Proofs.YtbagdlafpahgdaaGreatDoor
set_option linter.unusedVariables false
set_option linter.unusedSimpArgs false
open Go.RowKit
/-- an era as a value -/
abbrev eraV (e : EraD) : Value := .agg #[.int .i64 e.off, .string e.ru, .int .i64 e.sv, .string e.fm, .int .i64 e.un]
theorem abbrAt (f : ByteArray) (sv : Int) (lt : ByteArray) (w : World) (hm : HasMax w) (hlt : lt.size ≤ maxLen) :
    Calls Tryz.prog 43 #[.string f, .int .i64 sv, .string lt] w fun e w' => e = strInt (S (abbrR f.toList sv lt.toList).1) (abbrC f sv lt) ∧ Gr w w' := pabbrFmt f sv lt w hm hlt
theorem abbrDash (f : ByteArray) (sv : Int) (w : World) (hm : HasMax w) :
    Calls Tryz.prog 43 #[.string f, .int .i64 sv, .string ⟨#[45]⟩] w fun e w' => e = strInt (S (abbrR f.toList sv dash.toList).1) (abbrC f sv dash) ∧ Gr w w' := pabbrFmt f sv dash w hm (by decide)

set_option maxHeartbeats 8000000 in
theorem pcheckRules (b : BokD) (e : EraD) (w : World) (hb : RusAt w b.Ar b.cr b.rs) (ht : BkTab w) :
    Calls Tryz.prog 112 #[bookV b, eraV e] w fun e' w' => e' = .returned (.int .i64 (rulC b.rs e)) ∧ Gr w w' := by
  obtain ⟨Ar, cr, rs, Az, cz, zs, Al, cl, ls⟩ := b
  obtain ⟨eo, ru, sv, fm, un⟩ := e
  have HR : Hid (Row w 11 RuD.cells Ar rs) := hb.2.1
  have HI : Hid (∀ r ∈ rs, r.In) := hb.2.2
  have hl : rs.length ≤ maxLen := Nat.le_trans hb.1.1 hb.1.2
  have KA := Lib.hid (fun sv lt w hm hlt => abbrAt fm sv lt w hm hlt)
  have KD := Lib.hid (fun w hm => abbrDash fm 0 w hm)
  have KC := Lib.hid (fun B w h hc => con_r1 Ar rs.length cr rs ru B w rfl hl h hc)
  have HT := Lib.hid ht
  have S6 : Hid (hasR rs ru = false → rulC rs ⟨eo, ru, sv, fm, un⟩ = 6) := fun h => by unfold rulC; rw [if_pos h]
  have SH : Hid (hasR rs ru = true → ∀ k, k < rs.length → fe (ruA rs ⟨eo, ru, sv, fm, un⟩) k = 0 → ruA rs ⟨eo, ru, sv, fm, un⟩ k ≠ 0 → rulC rs ⟨eo, ru, sv, fm, un⟩ = ruA rs ⟨eo, ru, sv, fm, un⟩ k) := fun h k hk h0 h1 => by
    have := fe_hit h0 h1 rs.length hk
    unfold rulC; rw [if_neg (by rw [h]; simp), this, if_neg h1]
  have SE : Hid (hasR rs ru = true → fe (ruA rs ⟨eo, ru, sv, fm, un⟩) rs.length = 0 → rulC rs ⟨eo, ru, sv, fm, un⟩ = abbrC fm 0 dash) := fun h h0 => by unfold rulC; rw [if_neg (by rw [h]; simp), if_pos h0]
  have RA : Hid (∀ k r, rs[k]? = some r → ruA rs ⟨eo, ru, sv, fm, un⟩ k = if (r.nm.toList == ru.toList) = true then abbrC fm r.sv r.lt else 0) := fun k r h => ruA_at h
  have F0 : Hid (fe (ruA rs ⟨eo, ru, sv, fm, un⟩) 0 = 0) := rfl
  have FS : Hid (∀ k, fe (ruA rs ⟨eo, ru, sv, fm, un⟩) k = 0 → ruA rs ⟨eo, ru, sv, fm, un⟩ k = 0 → fe (ruA rs ⟨eo, ru, sv, fm, un⟩) (k + 1) = 0) := fun k a b => fe_step a b
  show Calls _ _ _ _ fun e' w' => e' = .returned (.int .i64 (rulC rs ⟨eo, ru, sv, fm, un⟩)) ∧ Gr w w'
  generalize rulC rs ⟨eo, ru, sv, fm, un⟩ = C at S6 SH SE ⊢
  generalize ruA rs ⟨eo, ru, sv, fm, un⟩ = fa at SH SE RA F0 FS
  unfold maxLen at hl
  clear hb ht
  have B0 := Lib.hid (box_two w (.cells #[.slice Ar rs.length cr, .slice Az zs.length cz, .slice Al ls.length cl] 102) (.cells #[.int .i64 eo, .string ru, .int .i64 sv, .string fm, .int .i64 un] 40))
  go_enter Tryz.func112, Tryz.ntmps112
  go_wp2_with fail
  generalize (w.alloc (.cells #[.slice Ar rs.length cr, .slice Az zs.length cz, .slice Al ls.length cl] 102)).alloc (.cells #[.int .i64 eo, .string ru, .int .i64 sv, .string fm, .int .i64 un] 40) = w0 at B0 ⊢
  generalize w.heap.size = q at B0 ⊢
  have z0 := Lib.hid B0.out.1
  have HB1 := Lib.hid B0.out.2.1
  have HB2 := Lib.hid B0.out.2.2
  clear B0
  refine (KC.out (q + 1) w0 (HR.out.gr z0.out) (bcell_row HB2.out rfl)).mono ?_
  rintro e w1 ⟨rfl, g1⟩
  have G1 := Lib.hid (z0.out.trans g1)
  have HC1 := Lib.hid (bheap_gr g1 HB1.out)
  have HC2 := Lib.hid (bheap_gr g1 HB2.out)
  clear z0 HB1 HB2 g1 KC
  generalize hasR rs ru = h6 at S6 SH SE
  cases h6 with
  | false =>
    have E := Lib.hid (S6.out rfl)
    clear S6 SH SE
    go_wp2_with fail
    go_ret
    exact ⟨ret_int E.out.symm, G1.out⟩
  | true =>
  have SH2 := Lib.hid (SH.out rfl)
  have SE2 := Lib.hid (SE.out rfl)
  clear S6 SH SE
  have y0 : w1.cell? ⟨q, 0, none⟩ = some (.slice Ar rs.length cr) := bcell_row HC1.out rfl
  go_wp2_with fail
  clear y0
  go_loopw [23] (fun i W => ∃ k : Nat, k ≤ rs.length ∧ i = .int .i64 k ∧ Hid (fe fa k = 0) ∧ Hid (Gr w1 W)) (fun i W => rs.length - (intOf i).toNat)
  case atStart => exact ⟨0, Nat.zero_le _, rfl, F0, Gr.refl _⟩
  case round =>
    obtain ⟨k, hk, rfl, hf, hg⟩ := hrel
    by_cases hlt : k < rs.length
    · obtain ⟨⟨znm, fr, tt, mo, zk, d, n, at', by', zsv, lt⟩, hz⟩ := get_lt hlt
      have RK := Lib.hid (RA.out k _ hz)
      have FK := Lib.hid (FS.out k hf.out)
      have HK := Lib.hid (SH2.out k hlt hf.out)
      have hin := HI.out _ (get_mem hz)
      have KK := Lib.hid (fun W h => clo_r1 ⟨znm, fr, tt, mo, zk, d, n, at', by', zsv, lt⟩ ru (q + 1) W h)
      have KF := Lib.hid (fun w hm => KA.out zsv lt w hm hin.2)
      have d1 : wr.cell? ⟨q + 1, 1, none⟩ = some (.string ru) := hg.out.holds (bcell_row HC2.out rfl)
      have D1 := Lib.hid d1
      have D3 : Hid (wr.cell? ⟨q + 1, 3, none⟩ = some (.string fm)) := hg.out.holds (bcell_row HC2.out rfl)
      obtain ⟨b, off, rfl, c0, c1, c2, c3, c4, c5, c6, c7, c8, c9, c10⟩ := HR.out.eleven hz rfl (G1.out.trans hg.out)
      have HNB := Lib.hid (box_one wr (.cells #[.string znm, .int .i64 fr, .int .i64 tt, .int .i64 mo, .int .i64 zk, .int .i64 d, .int .i64 n, .int .i64 at', .int .i64 by', .int .i64 zsv, .string lt] 44))
      clear hz hin RA FS SH2 d1 KA HR HI
      simp only at RK KK
      obtain ⟨p, ep⟩ : ∃ p, (znm.toList == ru.toList) = p := ⟨_, rfl⟩
      rw [ep] at RK KK
      clear ep
      go_wp2_with fail
      generalize wr.alloc (.cells #[.string znm, .int .i64 fr, .int .i64 tt, .int .i64 mo, .int .i64 zk, .int .i64 d, .int .i64 n, .int .i64 at', .int .i64 by', .int .i64 zsv, .string lt] 44) = w2 at HNB ⊢
      generalize wr.heap.size = q2 at HNB ⊢
      refine (KK.out w2 (HNB.out.1.holds D1.out)).mono ?_
      rintro e w3 ⟨rfl, g3⟩
      have G3 := Lib.hid (HNB.out.1.trans g3)
      have HN3 := Lib.hid (bheap_gr g3 HNB.out.2)
      clear KK g3 HNB c0 c1 c2 c3 c4 c5 c6 c7 c8 c9 c10
      cases p with
      | false =>
        have Z : Hid (fa k = 0) := by unfold Hid; rw [RK.out]; rfl
        clear RK HK
        go_wp2_with fail
        go_roundw
        case rel => exact ⟨k + 1, by omega, by go_num, FK.out Z.out, hg.out.trans G3.out⟩
        case measure => simp [intOf]; omega
      | true =>
        have Z : Hid (fa k = abbrC fm zsv lt) := by unfold Hid; rw [RK.out]; rfl
        clear RK
        have y3 : w3.cell? ⟨q + 1, 3, none⟩ = some (.string fm) := G3.out.holds D3.out
        have y9 : w3.cell? ⟨q2, 9, none⟩ = some (.int .i64 zsv) := bcell_row HN3.out rfl
        have y10 : w3.cell? ⟨q2, 10, none⟩ = some (.string lt) := bcell_row HN3.out rfl
        go_wp2_with fail
        clear y3 y9 y10
        refine (KF.out w3 (((G1.out.trans hg.out).trans G3.out).max HT.out.2.2)).mono ?_
        rintro e w4 ⟨rfl, g4⟩
        clear KF
        generalize abbrC fm zsv lt = cc at Z ⊢
        by_cases hc : cc = 0
        · have t0 := bneF hc
          have Z2 : Hid (fa k = 0) := by unfold Hid; rw [Z.out]; exact hc
          clear Z HK hc
          go_wp2_with fail
          go_roundw
          case rel => exact ⟨k + 1, by omega, by go_num, FK.out Z2.out, (hg.out.trans G3.out).trans g4⟩
          case measure => simp [intOf]; omega
        · have t0 := bneT hc
          have E : Hid (C = cc) := by unfold Hid; rw [HK.out (by rw [Z.out]; exact hc), Z.out]
          clear Z HK hc
          go_wp2_with fail
          go_ret
          exact ⟨ret_int E.out.symm, ((G1.out.trans hg.out).trans G3.out).trans g4⟩
    · have e : k = rs.length := by omega
      have E : Hid (C = abbrC fm 0 dash) := SE2.out (by have := hf.out; rw [e] at this; exact this)
      clear e hf
      have d3 : wr.cell? ⟨q + 1, 3, none⟩ = some (.string fm) := hg.out.holds (bcell_row HC2.out rfl)
      go_wp2_with fail
      refine (KD.out wr ((G1.out.trans hg.out).max HT.out.2.2)).mono ?_
      rintro e w4 ⟨rfl, g4⟩
      go_wp2_with fail
      go_ret
      exact ⟨ret_int E.out.symm, (G1.out.trans hg.out).trans g4⟩
end Go.Proofs.YtbagdlafpahgdaaGreatDoor
namespace Go.Proofs.YtbagdlafpahgdaaGreatDoor
set_option linter.unusedVariables false
set_option linter.unusedSimpArgs false
open Go.RowKit
theorem infoRule : (Tryz.prog.info? 44).map (fun i => (i.zero, i.size, i.bytes)) = some (some (.agg #[.string .empty, .int .i64 0, .int .i64 0, .int .i64 0, .int .i64 0, .int .i64 0, .int .i64 0, .int .i64 0, .int .i64 0, .int .i64 0, .string .empty]), 11, 104) := by kernel_rfl

end Go.Proofs.YtbagdlafpahgdaaGreatDoor
