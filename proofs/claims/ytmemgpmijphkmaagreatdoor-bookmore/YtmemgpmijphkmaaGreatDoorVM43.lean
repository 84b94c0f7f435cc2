/- What the project's ReadStamp returns, for every input: the walk. -/
import Derived.Test.YtmemgpmijphkmaaGreatDoorVM42
import Derived.Test.YtmemgpmijphkmaaGreatDoorVM05
namespace Go.Proofs.YtmemgpmijphkmaaGreatDoor
set_option linter.unusedVariables false
set_option linter.unusedSimpArgs false
open Go.RowKit
set_option maxRecDepth 100000 in
set_option maxHeartbeats 4000000 in
theorem readStamp_formed (s : ByteArray) (w : World) (hl : HasLen w) (hf : formed s.toList) :
    Calls Tryz.prog 142 #[.string s] w fun e w' => e = stampAns s.toList ∧ Gr w w' := by
  have hs : s.size = 19 := by rw [← toList_len]; exact hf.1
  have HL : Hid (s.toList.length = 19) := hf.1
  have FA := Lib.hid hf.2
  have HF := Lib.hid (form_yes hf)
  have s1 : s.size ≤ 1000 := by omega
  have e1 : 0 + 4 ≤ s.size := by omega
  have e2 : 5 + 2 ≤ s.size := by omega
  have e3 : 8 + 2 ≤ s.size := by omega
  have e4 : 11 + 2 ≤ s.size := by omega
  have e5 : 14 + 2 ≤ s.size := by omega
  have e6 : 17 + 2 ≤ s.size := by omega
  have N0 := numv_bd s.toList 0 4 (digits_in FA.out 0 4 (by omega) form0) 4 (by omega)
  have N5 := numv_bd s.toList 5 2 (digits_in FA.out 5 2 (by omega) form5) 2 (by omega)
  have N8 := numv_bd s.toList 8 2 (digits_in FA.out 8 2 (by omega) form8) 2 (by omega)
  have N11 := numv_bd s.toList 11 2 (digits_in FA.out 11 2 (by omega) form11) 2 (by omega)
  have N14 := numv_bd s.toList 14 2 (digits_in FA.out 14 2 (by omega) form14) 2 (by omega)
  have N17 := numv_bd s.toList 17 2 (digits_in FA.out 17 2 (by omega) form17) 2 (by omega)
  have A0 := Lib.hid (fun b w hc => part_any s b 0 4 0 4 rfl rfl w s1 hc e1 (by omega) (by omega) (digits_in FA.out 0 4 (by omega) form0))
  have A5 := Lib.hid (fun b w hc => part_any s b 5 2 5 7 rfl rfl w s1 hc e2 (by omega) (by omega) (digits_in FA.out 5 2 (by omega) form5))
  have A8 := Lib.hid (fun b w hc => part_any s b 8 2 8 10 rfl rfl w s1 hc e3 (by omega) (by omega) (digits_in FA.out 8 2 (by omega) form8))
  have A11 := Lib.hid (fun b w hc => part_any s b 11 2 11 13 rfl rfl w s1 hc e4 (by omega) (by omega) (digits_in FA.out 11 2 (by omega) form11))
  have A14 := Lib.hid (fun b w hc => part_any s b 14 2 14 16 rfl rfl w s1 hc e5 (by omega) (by omega) (digits_in FA.out 14 2 (by omega) form14))
  have A17 := Lib.hid (fun b w hc => part_any s b 17 2 17 19 rfl rfl w s1 hc e6 (by omega) (by omega) (digits_in FA.out 17 2 (by omega) form17))
  have SY : Hid (∀ (_ : Cal.Valid (numv s.toList 0 4) (numv s.toList 5 2) (numv s.toList 8 2)) (_ : numv s.toList 11 2 ≤ 23) (_ : numv s.toList 14 2 ≤ 59) (_ : numv s.toList 17 2 ≤ 59), two (stampV s.toList) 0 = stampAns s.toList) :=
    fun a b c d => stampAns_yes ⟨HL.out, FA.out, a, b, c, d⟩
  have SN : Hid (¬ (Cal.Valid (numv s.toList 0 4) (numv s.toList 5 2) (numv s.toList 8 2) ∧ numv s.toList 11 2 ≤ 23 ∧ numv s.toList 14 2 ≤ 59 ∧ numv s.toList 17 2 ≤ 59) → two 0 3 = stampAns s.toList) :=
    fun hn => stampAns_no fun hh => hn hh.2.2
  have SV : Hid (stampV s.toList = 86400 * Cal.days (numv s.toList 0 4) (numv s.toList 5 2) (numv s.toList 8 2) + 3600 * numv s.toList 11 2 + 60 * numv s.toList 14 2 + numv s.toList 17 2) := by simp [Hid, stampV]
  have HB := Lib.hid (fun w => hasForm_19 s w hs)
  generalize numv s.toList 0 4 = yy at N0 A0 SY SN SV
  generalize numv s.toList 5 2 = mm at N5 A5 SY SN SV
  generalize numv s.toList 8 2 = dd at N8 A8 SY SN SV
  generalize numv s.toList 11 2 = ho at N11 A11 SY SN SV
  generalize numv s.toList 14 2 = mi at N14 A14 SY SN SV
  generalize numv s.toList 17 2 = se at N17 A17 SY SN SV
  have n01 := N0.1
  have n02 : yy < 10000 := by have := N0.2; omega
  clear N0
  have n51 := N5.1
  have n52 : mm < 100 := by have := N5.2; omega
  clear N5
  have n81 := N8.1
  have n82 : dd < 100 := by have := N8.2; omega
  clear N8
  have n111 := N11.1
  have n112 : ho < 100 := by have := N11.2; omega
  clear N11
  have n141 := N14.1
  have n142 : mi < 100 := by have := N14.2; omega
  clear N14
  have n171 := N17.1
  have n172 : se < 100 := by have := N17.2; omega
  clear N17
  clear hs e1 e2 e3 e4 e5 e6 hf s1 FA HL
  rw [← HF.out] at HB
  clear HF
  have hc0 : (w.alloc (.cells #[.string s] 9)).cell? ⟨w.heap.size, 0, none⟩ = some (.string s) := by rw [World.cell?_alloc_new]; rfl
  have hg0 := Gr.alloc w (.cells #[.string s] 9)
  have HLEN := Lib.hid hl
  clear hl
  go_enter Tryz.func142, Tryz.ntmps142
  go_wp2_with fail
  generalize w.alloc (.cells #[.string s] 9) = w1 at hc0 hg0 ⊢
  generalize w.heap.size = b at hc0 ⊢
  refine (HB.out w1).mono ?_
  rintro e w2 ⟨rfl, hg2⟩
  have hc2 := hg2.holds hc0
  have hg12 := hg0.trans hg2
  clear hc0 hg0 hg2 HB
  go_wp2_with fail
  refine (A0.out b w2 hc2).mono ?_
  rintro e w3 ⟨rfl, hg3⟩
  have hc3 := hg3.holds hc2
  have hg13 := hg12.trans hg3
  clear hg12 hg3 hc2
  go_wp2_with fail
  refine (A5.out b w3 hc3).mono ?_
  rintro e w4 ⟨rfl, hg4⟩
  have hc4 := hg4.holds hc3
  have hg14 := hg13.trans hg4
  clear hg13 hg4 hc3
  go_wp2_with fail
  refine (A8.out b w4 hc4).mono ?_
  rintro e w5 ⟨rfl, hg5⟩
  have hc5 := hg5.holds hc4
  have hg15 := hg14.trans hg5
  clear hg14 hg5 hc4
  go_wp2_with fail
  by_cases hv : Cal.Valid yy mm dd
  · have db := Cal.days_bd hv
    obtain ⟨db1, db2⟩ := db
    refine (days_yes yy mm dd w5 (hg15.len HLEN.out) hv).mono ?_
    rintro e w6 ⟨rfl, rfl⟩
    go_wp2_with fail
    refine (A11.out b w5 hc5).mono ?_
    rintro e w7 ⟨rfl, hg7⟩
    have hc7 := hg7.holds hc5
    have hg17 := hg15.trans hg7
    clear hg15 hg7 hc5
    go_wp2_with fail
    refine (A14.out b w7 hc7).mono ?_
    rintro e w8 ⟨rfl, hg8⟩
    have hc8 := hg8.holds hc7
    have hg18 := hg17.trans hg8
    clear hg17 hg8 hc7
    go_wp2_with fail
    refine (A17.out b w8 hc8).mono ?_
    rintro e w9 ⟨rfl, hg9⟩
    have hg19 := hg18.trans hg9
    clear hg18 hg9 hc8
    by_cases h23 : 23 < ho
    · go_wp2_with fail
      go_ret2
      exact ⟨SN.out (by omega), hg19⟩
    · have h23' := ltF h23
      by_cases h59 : 59 < mi
      · go_wp2_with fail
        go_ret2
        exact ⟨SN.out (by omega), hg19⟩
      · have h59' := ltF h59
        by_cases hse : 59 < se
        · go_wp2_with fail
          go_ret2
          exact ⟨SN.out (by omega), hg19⟩
        · have hse' := ltF hse
          have E := Lib.hid (SY.out hv (by omega) (by omega) (by omega))
          clear SY SN hv
          generalize Cal.days yy mm dd = q at db1 db2 SV ⊢
          have EV : Hid (q * 86400 + ho * 3600 + mi * 60 + se = stampV s.toList) := by rw [SV.out]; unfold Hid; omega
          clear SV
          go_wp2_with fail
          go_ret2
          exact ⟨(two_eq EV.out rfl).trans E.out, hg19⟩
  · refine (days_no yy mm dd w5 (hg15.len HLEN.out) hv).mono ?_
    rintro e w6 ⟨rfl, rfl⟩
    go_wp2_with fail
    refine (A11.out b w5 hc5).mono ?_
    rintro e w7 ⟨rfl, hg7⟩
    have hc7 := hg7.holds hc5
    have hg17 := hg15.trans hg7
    clear hg15 hg7 hc5
    go_wp2_with fail
    refine (A14.out b w7 hc7).mono ?_
    rintro e w8 ⟨rfl, hg8⟩
    have hc8 := hg8.holds hc7
    have hg18 := hg17.trans hg8
    clear hg17 hg8 hc7
    go_wp2_with fail
    refine (A17.out b w8 hc8).mono ?_
    rintro e w9 ⟨rfl, hg9⟩
    go_wp2_with fail
    go_ret2
    exact ⟨SN.out (fun hh => hv hh.1), hg18.trans hg9⟩

set_option maxHeartbeats 400000 in
theorem readStamp_none (s : ByteArray) (w : World) (hm : s.size ≤ maxLen) (hf : ¬ formed s.toList) :
    Calls Tryz.prog 142 #[.string s] w fun e w' => e = stampAns s.toList ∧ Gr w w' := by
  have HB := fun w => hasForm_any s w hm
  rw [← form_no hf] at HB
  have HB' := Lib.hid HB
  have N := Lib.hid (stampAns_no (l := s.toList) fun hh => hf ⟨hh.1, hh.2.1⟩)
  clear HB hf
  have hg0 := Gr.alloc w (.cells #[.string s] 9)
  have hc0 : (w.alloc (.cells #[.string s] 9)).cell? ⟨w.heap.size, 0, none⟩ = some (.string s) := by rw [World.cell?_alloc_new]; rfl
  go_enter Tryz.func142, Tryz.ntmps142
  go_wp2_with fail
  generalize w.alloc (.cells #[.string s] 9) = w1 at hg0 hc0 ⊢
  refine (HB'.out w1).mono ?_
  rintro e w2 ⟨rfl, hg2⟩
  go_wp2_with fail
  go_ret2
  exact ⟨N.out, hg0.trans hg2⟩
theorem readStamp_any (s : ByteArray) (w : World) (hl : HasLen w) (hm : s.size ≤ maxLen) :
    Calls Tryz.prog 142 #[.string s] w fun e w' => e = stampAns s.toList ∧ Gr w w' := by
  by_cases h : formed s.toList
  · exact readStamp_formed s w hl h
  · exact readStamp_none s w hm h
end Go.Proofs.YtmemgpmijphkmaaGreatDoor
