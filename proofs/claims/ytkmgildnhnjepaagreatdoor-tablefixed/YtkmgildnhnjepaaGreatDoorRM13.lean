/- The library's stable sort at pending transitions: symMerge where one thing lies on the right. -/
import Derived.Test.YtkmgildnhnjepaaGreatDoorRM12
namespace Go.Proofs.YtkmgildnhnjepaaGreatDoor
set_option linter.unusedVariables false
set_option linter.unusedSimpArgs false
open Go.Shelf Go.RowKit Go.Lib Go.Sort
set_option maxHeartbeats 4000000 in
set_option maxRecDepth 1000000 in
theorem symMerge_right {α : Type} [Inhabited α] {P : Program} {k : Nat} (L : SrtP P k) (enc : α → List Value) (nom : α → Int) (tag : α → Nat) (cf : α → α → Int) (hcf : ltOf cf = nomB nom) (g : Nat) (cb : Array Value) (eg : ∀ args w, (callFunc g args).run P w = .ok (.enter g args) w)
    (blk off cap : Nat) (d0 : Array α) (w0 : World) (R : RowK enc k w0 blk off d0) (hC : CmpLays P g cb enc k cf blk off d0.size w0)
    (a m : Nat) (d : Array α) (w : World) (hs : d0.size = d.size) (S : SWK enc k w0 blk off d w) (ham : a + 1 < m) (hb : m + 1 ≤ d.size) (hsz : d.size ≤ 100000) (hM : Mrg nom tag a m (m + 1) d) :
    Calls P 146 #[.slice (some ⟨blk, off, none⟩) d.size cap, .int .i64 a, .int .i64 m, .int .i64 ((m : Int) + 1), .func (.func g) #[] cb] w fun e w' => e = .returned (.tuple #[]) ∧ ∃ d', SWK enc k w0 blk off d' w' ∧ PermIn a (m + 1) d d' ∧ SortedIn (lexB nom tag) a (m + 1) d' := by
  have mixed := L.mixed; have t3 := L.t3; have a3 := L.a3; have z3 := L.z3; have v3 := L.v3; have t4 := L.t4; have a4 := L.a4; have z4 := L.z4; have v4 := L.v4; have tS := L.tS; have aS := L.aS; have zS := L.zS; have vS := L.vS; have tF := L.tF; have aF := L.aF; have zF := L.zF; have vF := L.vF; have aE := L.aE; have zE := L.zE; have tU := L.tU; have aU := L.aU; have zU := L.zU; have vU := L.vU
  have S0 : Aside (SWK enc k w0 blk off d w) := S
  have HC : Aside (CmpLays P g cb enc k cf blk off d0.size w0) := hC
  have HF : Aside (ltOf cf = nomB nom) := hcf
  have HM : Aside (Mrg nom tag a m (m + 1) d) := hM
  have hne : ((m : Int) - (a : Int) == 1) = false := by rw [beq_eq_false_iff_ne]; omega
  clear S hM hC hcf
  go_enter L.f3, Tryz.ntmps146
  go_wp2_with fail
  have hbt : ((m : Int) + 1 - (m : Int) == 1) = true := by rw [beq_iff_eq]; omega
  rw [hbt]
  clear hbt hne
  go_loopg [14, 15] (m - a) (fun kx s14 s15 wr => ∃ (i j : Nat), s14 = .int .i64 i ∧ s15 = .int .i64 j ∧ a ≤ i ∧ i ≤ j ∧ j ≤ m ∧ j - i ≤ kx ∧ Aside (SWK enc k w0 blk off d wr) ∧ Aside ((i = a ∨ nomB nom d[m]! d[i - 1]! = false) ∧ (j = m ∨ nomB nom d[m]! d[j]! = true)))
  case atStart => exact ⟨a, m, rfl, rfl, Nat.le_refl _, by omega, Nat.le_refl _, Nat.le_refl _, S0, Or.inl rfl, Or.inl rfl⟩
  case round =>
    clear S0
    obtain ⟨i, j, rfl, rfl, hi, hij, hj, hkx, S1, I1⟩ := hrel
    by_cases hlt : i < j
    · go_wp2_with fail
      obtain ⟨h, hh⟩ : ∃ h, (i + j) / 2 = h := ⟨_, rfl⟩
      have hz : ((i : Int) + (j : Int)) / 2 = (h : Int) := by omega
      rw [hz]
      clear hz
      have h1 : i ≤ h := by omega
      have h2 : h < j := by omega
      have HH : Aside _ := hh
      clear hh
      rcases Bool.eq_false_or_eq_true (nomB nom d[m]! d[h]!) with CC | CC
      · -- less
        obtain ⟨vx, hvx⟩ : ∃ v, v = d[m]! := ⟨_, rfl⟩
        obtain ⟨vy, hvy⟩ : ∃ v, v = d[h]! := ⟨_, rfl⟩
        have la := S1.out.ld R (by omega) P (m) (by omega)
        have lb := S1.out.ld R (by omega) P (h) (by omega)
        rw [← hvx] at la
        rw [← hvy] at lb
        have hcc := S1.out.cmp HC.out (by omega) vx vy
        have hv : cf vx vy < 0 := by rw [hvx, hvy]; exact cf_yes HF.out CC
        have hd : decide (cf vx vy < 0) = true := decide_eq_true hv
        have CD : Aside _ := CC
        have xa : (((m : Nat) : Int)).toNat = m := by omega
        have xb : (0 : Int) ≤ ((m : Nat) : Int) := by omega
        have xc : ((m : Nat) : Int) < (d.size : Int) := by omega
        have xd : IntKind.i64.wrap ((m : Nat) : Int) = ((m : Nat) : Int) := by rw [IntKind.wrap_i64]; omega
        have ya : (((h : Nat) : Int)).toNat = h := by omega
        have yb : (0 : Int) ≤ ((h : Nat) : Int) := by omega
        have yc : ((h : Nat) : Int) < (d.size : Int) := by omega
        have yd : IntKind.i64.wrap ((h : Nat) : Int) = ((h : Nat) : Int) := by rw [IntKind.wrap_i64]; omega
        clear hvx hvy CC
        go_wp2_with fail
        go_quiet_grown (first | (go_at_fn g; refine Calls.grown_of (hcc _ _)))
        have S2 : Aside (SWK enc k w0 blk off d (grow (wr.drewN nq) osq)) := S1.out.grown nq osq
        clear la lb hcc S1
        generalize grow (wr.drewN nq) osq = w2 at S2 ⊢
        clear nq osq hv hd xa xb xc xd ya yb yc yd
        go_wp2
        go_roundg (h - i)
        case measure => omega
        case rel => exact ⟨i, h, rfl, rfl, hi, h1, by omega, Nat.le_refl _, S2, I1.out.1, Or.inr CD.out⟩
      · -- not less
        obtain ⟨vx, hvx⟩ : ∃ v, v = d[m]! := ⟨_, rfl⟩
        obtain ⟨vy, hvy⟩ : ∃ v, v = d[h]! := ⟨_, rfl⟩
        have la := S1.out.ld R (by omega) P (m) (by omega)
        have lb := S1.out.ld R (by omega) P (h) (by omega)
        rw [← hvx] at la
        rw [← hvy] at lb
        have hcc := S1.out.cmp HC.out (by omega) vx vy
        have hv : ¬ cf vx vy < 0 := by rw [hvx, hvy]; exact cf_no HF.out CC
        have hd : decide (cf vx vy < 0) = false := decide_eq_false hv
        have CD : Aside _ := CC
        have xa : (((m : Nat) : Int)).toNat = m := by omega
        have xb : (0 : Int) ≤ ((m : Nat) : Int) := by omega
        have xc : ((m : Nat) : Int) < (d.size : Int) := by omega
        have xd : IntKind.i64.wrap ((m : Nat) : Int) = ((m : Nat) : Int) := by rw [IntKind.wrap_i64]; omega
        have ya : (((h : Nat) : Int)).toNat = h := by omega
        have yb : (0 : Int) ≤ ((h : Nat) : Int) := by omega
        have yc : ((h : Nat) : Int) < (d.size : Int) := by omega
        have yd : IntKind.i64.wrap ((h : Nat) : Int) = ((h : Nat) : Int) := by rw [IntKind.wrap_i64]; omega
        clear hvx hvy CC
        go_wp2_with fail
        go_quiet_grown (first | (go_at_fn g; refine Calls.grown_of (hcc _ _)))
        have S2 : Aside (SWK enc k w0 blk off d (grow (wr.drewN nq) osq)) := S1.out.grown nq osq
        clear la lb hcc S1
        generalize grow (wr.drewN nq) osq = w2 at S2 ⊢
        clear nq osq hv hd xa xb xc xd ya yb yc yd
        go_wp2
        go_roundg (j - (h + 1))
        case measure => omega
        case rel => exact ⟨h + 1, j, by go_num, rfl, by omega, by omega, hj, Nat.le_refl _, S2, Or.inr CD.out, I1.out.2⟩
    · have eij : j = i := by omega
      subst eij
      clear hlt hij hkx
      go_wp2_with fail
      go_loopg [17] (m - j) (fun kx s17 wr => ∃ (q : Nat) (dk : Array α), s17 = .int .i64 q ∧ j ≤ q ∧ q ≤ m ∧ q - j ≤ kx ∧ dk.size = d.size ∧ Aside (SWK enc k w0 blk off dk wr) ∧ Aside (Idx (rotI q m (m + 1)) d dk) ∧ Aside (PermIn a (m + 1) d dk))
      case atStart => exact ⟨m, d, rfl, hj, Nat.le_refl _, Nat.le_refl _, rfl, S1, Idx.id_ d (fun t => rotI_none2), permIn_refl d _ _⟩
      case round =>
        clear S1
        obtain ⟨q0, dk, rfl, hq1, hq2, hkx, hds, S1, Q1, P1⟩ := hrel
        by_cases hlt : j < q0
        · obtain ⟨q, rfl⟩ : ∃ q, q0 = q + 1 := ⟨q0 - 1, by omega⟩
          go_wp2_with fail
          have qz : ((q : Int) + 1 - 1) = (q : Int) := by omega
          have qw : IntKind.i64.wrap ((q : Int) + 1 - 1) = (q : Int) := by rw [IntKind.wrap_i64]; omega
          have S2 : Aside (SWK enc k w0 blk off (swp dk (q + 1) (q)) ((wr.drew.setCells blk (off + (q + 1) * k) (enc dk[q]!)).setCells blk (off + (q) * k) (enc dk[q + 1]!))) := S1.out.swapped R (q + 1) (q) (by omega) (by omega)
          have la := S1.out.ld1 R (by omega) P (q + 1) (by omega)
          have lb := S1.out.ld1 R (by omega) P (q) (by omega)
          have sa := S1.out.st1 R (by omega) P (q + 1) (by omega) dk[q]!
          have sb := S1.out.st2 R (by omega) P (q + 1) (q) (by omega) (by omega) dk[q]! dk[q + 1]!
          have na : (enc dk[q + 1]!).length = k := R.hk _
          have nb : (enc dk[q]!).length = k := R.hk _
          generalize enc dk[q + 1]! = cI at S2 la sb na
          generalize enc dk[q]! = cJ at S2 lb sa sb nb
          clear S1
          go_wp2_with fail
          go_big_region_o
          clear la lb sa sb
          generalize (wr.drew.setCells blk (off + (q + 1) * k) cJ).setCells blk (off + (q) * k) cI = w2 at S2 ⊢
          clear qz qw
          go_wp2
          go_roundg (q - j)
          case measure => omega
          case rel => exact ⟨q, swp dk (q + 1) q, by first | rfl | go_num | (congr 1; omega), by omega, by omega, Nat.le_refl _, by rw [size_swp]; exact hds, S2, Q1.out.comp (Idx.swp (by omega) (by omega)) (fun t => rotI_down hq2), permIn_trans _ _ _ _ _ P1.out (swp_permIn dk a (m + 1) (q + 1) q (by omega) (by omega) (by omega) (by omega) (by omega))⟩
        · have e : q0 = j := by omega
          subst e
          go_wp2
          ((try simp only [Exit.inBlock, Exit.then]); refine bodyPost_ret (results_none rfl _ _ _) rfl ?_)
          exact ⟨rfl, dk, S1.out, P1.out, mrg_right HM.out hi hj I1.out.1 I1.out.2 Q1.out⟩
end Go.Proofs.YtkmgildnhnjepaaGreatDoor
