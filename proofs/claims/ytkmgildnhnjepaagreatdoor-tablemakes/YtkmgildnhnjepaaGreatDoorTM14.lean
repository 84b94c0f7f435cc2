/- The library's stable sort at pending transitions: rotate. The library's stable sort at pending transitions: symMerge where one thing lies on the left. The library's stable sort at pending transitions: symMerge where one thing lies on the right. -/
import Derived.Test.YtkmgildnhnjepaaGreatDoorTM13
namespace Go.Proofs.YtkmgildnhnjepaaGreatDoor
set_option linter.unusedVariables false
set_option linter.unusedSimpArgs false
open Go.Shelf Go.RowKit Go.Lib Go.Sort
set_option maxHeartbeats 4000000 in
set_option maxRecDepth 1000000 in
theorem rotate_any {α : Type} [Inhabited α] {P : Program} {k : Nat} (L : SrtP P k) (enc : α → List Value) (g : Nat) (cb : Array Value) (blk off cap a m b : Nat) (d0 d : Array α) (w0 w : World)
    (R : RowK enc k w0 blk off d0) (hs : d0.size = d.size) (S : SWK enc k w0 blk off d w) (ham : a < m) (hmb : m < b) (hb : b ≤ d.size) (hsz : d.size ≤ 100000) :
    Calls P 160 #[.slice (some ⟨blk, off, none⟩) d.size cap, .int .i64 a, .int .i64 m, .int .i64 b, .func (.func g) #[] cb] w fun e w' => e = .returned (.tuple #[]) ∧ ∃ d', SWK enc k w0 blk off d' w' ∧ Idx (rotI a m b) d d' ∧ PermIn a b d d' := by
  have mixed := L.mixed; have t3 := L.t3; have a3 := L.a3; have z3 := L.z3; have v3 := L.v3; have t4 := L.t4; have a4 := L.a4; have z4 := L.z4; have v4 := L.v4; have tS := L.tS; have aS := L.aS; have zS := L.zS; have vS := L.vS; have tF := L.tF; have aF := L.aF; have zF := L.zF; have vF := L.vF; have aE := L.aE; have zE := L.zE
  have e100 : ∀ args w, (callFunc 167 args).run P w = .ok (.enter 167 args) w := enters_of L.f1 (by kernel_rfl) rfl
  have S0 : Aside (SWK enc k w0 blk off d w) := S
  have KS : Aside (∀ (x y n : Nat) (dk : Array α) (W : World), dk.size = d.size → SWK enc k w0 blk off dk W → x + n ≤ y → y + n ≤ d.size → Calls P 167 #[.slice (some ⟨blk, off, none⟩) d.size cap, .int .i64 x, .int .i64 y, .int .i64 n, .func (.func g) #[] cb] W fun e w' => e = .returned (.tuple #[]) ∧ ∃ d', SWK enc k w0 blk off d' w' ∧ Idx (swI x y n) dk d' ∧ PermIn x (y + n) dk d') := fun x y n dk W h1 h2 h3 h4 => by
    have := swapRange_any L enc g cb blk off cap x y n d0 dk w0 W R (by omega) h2 h3 (by omega) (by omega)
    rwa [h1] at this
  clear S
  go_enter L.f2, Tryz.ntmps160
  go_wp2
  go_loopg [10, 11] (b - a) (fun kx s10 s11 wr => ∃ (i j : Nat) (dk : Array α), s10 = .int .i64 i ∧ s11 = .int .i64 j ∧ 0 < i ∧ 0 < j ∧ i ≤ m - a ∧ j ≤ b - m ∧ i + j ≤ kx ∧ dk.size = d.size ∧ Aside (SWK enc k w0 blk off dk wr) ∧ Aside (∀ d', Idx (rotI (m - i) m (m + j)) dk d' → Idx (rotI a m b) d d') ∧ Aside (PermIn a b d dk))
  case atStart => exact ⟨m - a, b - m, d, by go_num, by go_num, by omega, by omega, Nat.le_refl _, Nat.le_refl _, by omega, rfl, S0, fun d' h => by rwa [show m - (m - a) = a by omega, show m + (b - m) = b by omega] at h, permIn_refl d _ _⟩
  case round =>
    clear S0
    obtain ⟨i, j, dk, rfl, rfl, hi, hj, him, hjm, hkx, hds, S1, I1, P1⟩ := hrel
    have ei : ((m - i : Nat) : Int) = (m : Int) - i := by omega
    by_cases hne : i = j
    · have hnz : (i : Int) = (j : Int) := by omega
      have hc := KS.out (m - i) m i dk wr hds S1.out (by omega) (by omega)
      rw [ei] at hc
      subst hne
      clear KS hnz
      have I2 := I1
      clear I1 S1 hds
      go_wp2_with (go_at_fn 167; refine hc.mono ?_; rintro e w1 ⟨rfl, d', S', I', P'⟩)
      go_end0
      refine ⟨rfl, d', S', I2.out d' ⟨I'.1, fun t => by rw [I'.2, rotI_same (by omega)]⟩, permIn_trans _ _ _ _ _ P1.out (permIn_mono _ _ _ _ _ _ (by omega) (by omega) (by rw [P1.out.1]; exact hb) P')⟩
    · have hnz : ¬ (i : Int) = (j : Int) := by omega
      by_cases hgt : j < i
      · have hgz : (j : Int) < (i : Int) := by omega
        have hc := KS.out (m - i) m j dk wr hds S1.out (by omega) (by omega)
        rw [ei] at hc
        clear S1
        go_wp2_with (go_at_fn 167; refine hc.mono ?_; rintro e w1 ⟨rfl, d', S', I', P'⟩)
        go_roundg (i - j + j)
        case measure => omega
        case rel => exact ⟨i - j, j, d', by go_num, rfl, by omega, hj, by omega, hjm, Nat.le_refl _, I'.1.trans hds, S', fun d2 h2 => I1.out d2 (I'.comp h2 (fun t => rotI_left (by omega) hgt hj)), permIn_trans _ _ _ _ _ P1.out (permIn_mono _ _ _ _ _ _ (by omega) (by omega) (by rw [P1.out.1]; exact hb) P')⟩
      · have hgz : ¬ (j : Int) < (i : Int) := by omega
        have hc := KS.out (m - i) (m + j - i) i dk wr hds S1.out (by omega) (by omega)
        rw [ei, show ((m + j - i : Nat) : Int) = (m : Int) + j - i by omega] at hc
        clear S1
        go_wp2_with (go_at_fn 167; refine hc.mono ?_; rintro e w1 ⟨rfl, d', S', I', P'⟩)
        go_roundg (i + (j - i))
        case measure => omega
        case rel => exact ⟨i, j - i, d', rfl, by go_num, hi, by omega, him, by omega, Nat.le_refl _, I'.1.trans hds, S', fun d2 h2 => I1.out d2 (I'.comp h2 (fun t => rotI_right (by omega) (by omega) hi)), permIn_trans _ _ _ _ _ P1.out (permIn_mono _ _ _ _ _ _ (by omega) (by omega) (by rw [P1.out.1]; exact hb) P')⟩
end Go.Proofs.YtkmgildnhnjepaaGreatDoor
namespace Go.Proofs.YtkmgildnhnjepaaGreatDoor
set_option linter.unusedVariables false
set_option linter.unusedSimpArgs false
open Go.Shelf Go.RowKit Go.Lib Go.Sort
theorem cf_yes {α : Type} {nom : α → Int} {cf : α → α → Int} (h : ltOf cf = nomB nom) {x y : α} (c : nomB nom x y = true) : cf x y < 0 := by rw [← h] at c; exact of_decide_eq_true c
theorem cf_no {α : Type} {nom : α → Int} {cf : α → α → Int} (h : ltOf cf = nomB nom) {x y : α} (c : nomB nom x y = false) : ¬ cf x y < 0 := by rw [← h] at c; exact of_decide_eq_false c

set_option maxHeartbeats 4000000 in
set_option maxRecDepth 1000000 in
theorem symMerge_left {α : Type} [Inhabited α] {P : Program} {k : Nat} (L : SrtP P k) (enc : α → List Value) (nom : α → Int) (tag : α → Nat) (cf : α → α → Int) (hcf : ltOf cf = nomB nom) (g : Nat) (cb : Array Value) (eg : ∀ args w, (callFunc g args).run P w = .ok (.enter g args) w)
    (blk off cap : Nat) (d0 : Array α) (w0 : World) (R : RowK enc k w0 blk off d0) (hC : CmpLays P g cb enc k cf blk off d0.size w0)
    (a b : Nat) (d : Array α) (w : World) (hs : d0.size = d.size) (S : SWK enc k w0 blk off d w) (hmb : a + 1 < b) (hb : b ≤ d.size) (hsz : d.size ≤ 100000) (hM : Mrg nom tag a (a + 1) b d) :
    Calls P 146 #[.slice (some ⟨blk, off, none⟩) d.size cap, .int .i64 a, .int .i64 ((a : Int) + 1), .int .i64 b, .func (.func g) #[] cb] w fun e w' => e = .returned (.tuple #[]) ∧ ∃ d', SWK enc k w0 blk off d' w' ∧ PermIn a b d d' ∧ SortedIn (lexB nom tag) a b d' := by
  have mixed := L.mixed; have t3 := L.t3; have a3 := L.a3; have z3 := L.z3; have v3 := L.v3; have t4 := L.t4; have a4 := L.a4; have z4 := L.z4; have v4 := L.v4; have tS := L.tS; have aS := L.aS; have zS := L.zS; have vS := L.vS; have tF := L.tF; have aF := L.aF; have zF := L.zF; have vF := L.vF; have aE := L.aE; have zE := L.zE; have tU := L.tU; have aU := L.aU; have zU := L.zU; have vU := L.vU
  have S0 : Aside (SWK enc k w0 blk off d w) := S
  have HC : Aside (CmpLays P g cb enc k cf blk off d0.size w0) := hC
  have HF : Aside (ltOf cf = nomB nom) := hcf
  have HM : Aside (Mrg nom tag a (a + 1) b d) := hM
  clear S hM hC hcf
  go_enter L.f3, Tryz.ntmps146
  go_wp2_with fail
  have hbt : ((a : Int) + 1 - (a : Int) == 1) = true := by rw [beq_iff_eq]; omega
  rw [hbt]
  clear hbt
  go_loopg [10, 11] (b - (a + 1)) (fun kx s10 s11 wr => ∃ (i j : Nat), s10 = .int .i64 i ∧ s11 = .int .i64 j ∧ a + 1 ≤ i ∧ i ≤ j ∧ j ≤ b ∧ j - i ≤ kx ∧ Aside (SWK enc k w0 blk off d wr) ∧ Aside ((i = a + 1 ∨ nomB nom d[i - 1]! d[a]! = true) ∧ (j = b ∨ nomB nom d[j]! d[a]! = false)))
  case atStart => exact ⟨a + 1, b, by go_num, rfl, Nat.le_refl _, by omega, Nat.le_refl _, Nat.le_refl _, S0, Or.inl rfl, Or.inl rfl⟩
  case round =>
    clear S0
    obtain ⟨i, j, rfl, rfl, hi, hij, hj, hkx, S1, I1⟩ := hrel
    by_cases hlt : i < j
    · go_wp2_with fail
      obtain ⟨h, hh⟩ : ∃ h, (i + j) / 2 = h := ⟨_, rfl⟩
      have hz : ((i : Int) + (j : Int)) / 2 = (h : Int) := by omega
      rw [hz]
      clear hz
      have h1 : i ≤ h := by omega
      have h2 : h < j := by omega
      have HH : Aside _ := hh
      clear hh
      rcases Bool.eq_false_or_eq_true (nomB nom d[h]! d[a]!) with CC | CC
      · -- less
        obtain ⟨vx, hvx⟩ : ∃ v, v = d[h]! := ⟨_, rfl⟩
        obtain ⟨vy, hvy⟩ : ∃ v, v = d[a]! := ⟨_, rfl⟩
        have la := S1.out.ld R (by omega) P (h) (by omega)
        have lb := S1.out.ld R (by omega) P (a) (by omega)
        rw [← hvx] at la
        rw [← hvy] at lb
        have hcc := S1.out.cmp HC.out (by omega) vx vy
        have hv : cf vx vy < 0 := by rw [hvx, hvy]; exact cf_yes HF.out CC
        have hd : decide (cf vx vy < 0) = true := decide_eq_true hv
        have CD : Aside _ := CC
        have xa : (((h : Nat) : Int)).toNat = h := by omega
        have xb : (0 : Int) ≤ ((h : Nat) : Int) := by omega
        have xc : ((h : Nat) : Int) < (d.size : Int) := by omega
        have xd : IntKind.i64.wrap ((h : Nat) : Int) = ((h : Nat) : Int) := by rw [IntKind.wrap_i64]; omega
        have ya : (((a : Nat) : Int)).toNat = a := by omega
        have yb : (0 : Int) ≤ ((a : Nat) : Int) := by omega
        have yc : ((a : Nat) : Int) < (d.size : Int) := by omega
        have yd : IntKind.i64.wrap ((a : Nat) : Int) = ((a : Nat) : Int) := by rw [IntKind.wrap_i64]; omega
        clear hvx hvy CC
        go_wp2_with fail
        go_quiet_grown (first | (go_at_fn g; refine Calls.grown_of (hcc _ _)))
        have S2 : Aside (SWK enc k w0 blk off d (grow (wr.drewN nq) osq)) := S1.out.grown nq osq
        clear la lb hcc S1
        generalize grow (wr.drewN nq) osq = w2 at S2 ⊢
        clear nq osq hv hd xa xb xc xd ya yb yc yd
        go_wp2
        go_roundg (j - (h + 1))
        case measure => omega
        case rel => exact ⟨h + 1, j, by go_num, rfl, by omega, by omega, hj, Nat.le_refl _, S2, Or.inr CD.out, I1.out.2⟩
      · -- not less
        obtain ⟨vx, hvx⟩ : ∃ v, v = d[h]! := ⟨_, rfl⟩
        obtain ⟨vy, hvy⟩ : ∃ v, v = d[a]! := ⟨_, rfl⟩
        have la := S1.out.ld R (by omega) P (h) (by omega)
        have lb := S1.out.ld R (by omega) P (a) (by omega)
        rw [← hvx] at la
        rw [← hvy] at lb
        have hcc := S1.out.cmp HC.out (by omega) vx vy
        have hv : ¬ cf vx vy < 0 := by rw [hvx, hvy]; exact cf_no HF.out CC
        have hd : decide (cf vx vy < 0) = false := decide_eq_false hv
        have CD : Aside _ := CC
        have xa : (((h : Nat) : Int)).toNat = h := by omega
        have xb : (0 : Int) ≤ ((h : Nat) : Int) := by omega
        have xc : ((h : Nat) : Int) < (d.size : Int) := by omega
        have xd : IntKind.i64.wrap ((h : Nat) : Int) = ((h : Nat) : Int) := by rw [IntKind.wrap_i64]; omega
        have ya : (((a : Nat) : Int)).toNat = a := by omega
        have yb : (0 : Int) ≤ ((a : Nat) : Int) := by omega
        have yc : ((a : Nat) : Int) < (d.size : Int) := by omega
        have yd : IntKind.i64.wrap ((a : Nat) : Int) = ((a : Nat) : Int) := by rw [IntKind.wrap_i64]; omega
        clear hvx hvy CC
        go_wp2_with fail
        go_quiet_grown (first | (go_at_fn g; refine Calls.grown_of (hcc _ _)))
        have S2 : Aside (SWK enc k w0 blk off d (grow (wr.drewN nq) osq)) := S1.out.grown nq osq
        clear la lb hcc S1
        generalize grow (wr.drewN nq) osq = w2 at S2 ⊢
        clear nq osq hv hd xa xb xc xd ya yb yc yd
        go_wp2
        go_roundg (h - i)
        case measure => omega
        case rel => exact ⟨i, h, rfl, rfl, hi, h1, by omega, Nat.le_refl _, S2, I1.out.1, Or.inr CD.out⟩
    · have eij : j = i := by omega
      subst eij
      clear hlt hij hkx
      go_wp2_with fail
      go_loopg [13] (j - 1 - a) (fun kx s13 wr => ∃ (q : Nat) (dk : Array α), s13 = .int .i64 q ∧ a ≤ q ∧ q ≤ j - 1 ∧ j - 1 - q ≤ kx ∧ dk.size = d.size ∧ Aside (SWK enc k w0 blk off dk wr) ∧ Aside (Idx (rotI a (a + 1) (q + 1)) d dk) ∧ Aside (PermIn a b d dk))
      case atStart => exact ⟨a, d, rfl, Nat.le_refl _, by omega, Nat.le_refl _, rfl, S1, Idx.id_ d (fun t => rotI_none1), permIn_refl d _ _⟩
      case round =>
        clear S1
        obtain ⟨q, dk, rfl, hq1, hq2, hkx, hds, S1, Q1, P1⟩ := hrel
        by_cases hlt : q + 1 < j
        · go_wp2_with fail
          have S2 : Aside (SWK enc k w0 blk off (swp dk (q) (q + 1)) ((wr.drew.setCells blk (off + (q) * k) (enc dk[q + 1]!)).setCells blk (off + (q + 1) * k) (enc dk[q]!))) := S1.out.swapped R (q) (q + 1) (by omega) (by omega)
          have la := S1.out.ld1 R (by omega) P (q) (by omega)
          have lb := S1.out.ld1 R (by omega) P (q + 1) (by omega)
          have sa := S1.out.st1 R (by omega) P (q) (by omega) dk[q + 1]!
          have sb := S1.out.st2 R (by omega) P (q) (q + 1) (by omega) (by omega) dk[q + 1]! dk[q]!
          have na : (enc dk[q]!).length = k := R.hk _
          have nb : (enc dk[q + 1]!).length = k := R.hk _
          generalize enc dk[q]! = cI at S2 la sb na
          generalize enc dk[q + 1]! = cJ at S2 lb sa sb nb
          clear S1
          go_wp2_with fail
          go_big_region_o
          clear la lb sa sb
          generalize (wr.drew.setCells blk (off + (q) * k) cJ).setCells blk (off + (q + 1) * k) cI = w2 at S2 ⊢
          go_wp2
          go_roundg (j - 1 - (q + 1))
          case measure => omega
          case rel => exact ⟨q + 1, swp dk q (q + 1), by go_num, by omega, by omega, Nat.le_refl _, by rw [size_swp]; exact hds, S2, Q1.out.comp (Idx.swp (by omega) (by omega)) (fun t => rotI_up hq1), permIn_trans _ _ _ _ _ P1.out (swp_permIn dk a b q (q + 1) (by omega) (by omega) (by omega) (by omega) (by omega))⟩
        · have e : q = j - 1 := by omega
          subst e
          have Q2 : Aside (Idx (rotI a (a + 1) j) d dk) := by have := Q1.out; rwa [show j - 1 + 1 = j by omega] at this
          clear Q1
          go_wp2
          ((try simp only [Exit.inBlock, Exit.then]); refine bodyPost_ret (results_none rfl _ _ _) rfl ?_)
          exact ⟨rfl, dk, S1.out, P1.out, mrg_left HM.out hi hj I1.out.1 I1.out.2 Q2.out⟩
end Go.Proofs.YtkmgildnhnjepaaGreatDoor
namespace Go.Proofs.YtkmgildnhnjepaaGreatDoor
set_option linter.unusedVariables false
set_option linter.unusedSimpArgs false
open Go.Shelf Go.RowKit Go.Lib Go.Sort
set_option maxHeartbeats 4000000 in
set_option maxRecDepth 1000000 in
theorem symMerge_right {α : Type} [Inhabited α] {P : Program} {k : Nat} (L : SrtP P k) (enc : α → List Value) (nom : α → Int) (tag : α → Nat) (cf : α → α → Int) (hcf : ltOf cf = nomB nom) (g : Nat) (cb : Array Value) (eg : ∀ args w, (callFunc g args).run P w = .ok (.enter g args) w)
    (blk off cap : Nat) (d0 : Array α) (w0 : World) (R : RowK enc k w0 blk off d0) (hC : CmpLays P g cb enc k cf blk off d0.size w0)
    (a m : Nat) (d : Array α) (w : World) (hs : d0.size = d.size) (S : SWK enc k w0 blk off d w) (ham : a + 1 < m) (hb : m + 1 ≤ d.size) (hsz : d.size ≤ 100000) (hM : Mrg nom tag a m (m + 1) d) :
    Calls P 146 #[.slice (some ⟨blk, off, none⟩) d.size cap, .int .i64 a, .int .i64 m, .int .i64 ((m : Int) + 1), .func (.func g) #[] cb] w fun e w' => e = .returned (.tuple #[]) ∧ ∃ d', SWK enc k w0 blk off d' w' ∧ PermIn a (m + 1) d d' ∧ SortedIn (lexB nom tag) a (m + 1) d' := by
  have mixed := L.mixed; have t3 := L.t3; have a3 := L.a3; have z3 := L.z3; have v3 := L.v3; have t4 := L.t4; have a4 := L.a4; have z4 := L.z4; have v4 := L.v4; have tS := L.tS; have aS := L.aS; have zS := L.zS; have vS := L.vS; have tF := L.tF; have aF := L.aF; have zF := L.zF; have vF := L.vF; have aE := L.aE; have zE := L.zE; have tU := L.tU; have aU := L.aU; have zU := L.zU; have vU := L.vU
  have S0 : Aside (SWK enc k w0 blk off d w) := S
  have HC : Aside (CmpLays P g cb enc k cf blk off d0.size w0) := hC
  have HF : Aside (ltOf cf = nomB nom) := hcf
  have HM : Aside (Mrg nom tag a m (m + 1) d) := hM
  have hne : ((m : Int) - (a : Int) == 1) = false := by rw [beq_eq_false_iff_ne]; omega
  clear S hM hC hcf
  go_enter L.f3, Tryz.ntmps146
  go_wp2_with fail
  have hbt : ((m : Int) + 1 - (m : Int) == 1) = true := by rw [beq_iff_eq]; omega
  rw [hbt]
  clear hbt hne
  go_loopg [14, 15] (m - a) (fun kx s14 s15 wr => ∃ (i j : Nat), s14 = .int .i64 i ∧ s15 = .int .i64 j ∧ a ≤ i ∧ i ≤ j ∧ j ≤ m ∧ j - i ≤ kx ∧ Aside (SWK enc k w0 blk off d wr) ∧ Aside ((i = a ∨ nomB nom d[m]! d[i - 1]! = false) ∧ (j = m ∨ nomB nom d[m]! d[j]! = true)))
  case atStart => exact ⟨a, m, rfl, rfl, Nat.le_refl _, by omega, Nat.le_refl _, Nat.le_refl _, S0, Or.inl rfl, Or.inl rfl⟩
  case round =>
    clear S0
    obtain ⟨i, j, rfl, rfl, hi, hij, hj, hkx, S1, I1⟩ := hrel
    by_cases hlt : i < j
    · go_wp2_with fail
      obtain ⟨h, hh⟩ : ∃ h, (i + j) / 2 = h := ⟨_, rfl⟩
      have hz : ((i : Int) + (j : Int)) / 2 = (h : Int) := by omega
      rw [hz]
      clear hz
      have h1 : i ≤ h := by omega
      have h2 : h < j := by omega
      have HH : Aside _ := hh
      clear hh
      rcases Bool.eq_false_or_eq_true (nomB nom d[m]! d[h]!) with CC | CC
      · -- less
        obtain ⟨vx, hvx⟩ : ∃ v, v = d[m]! := ⟨_, rfl⟩
        obtain ⟨vy, hvy⟩ : ∃ v, v = d[h]! := ⟨_, rfl⟩
        have la := S1.out.ld R (by omega) P (m) (by omega)
        have lb := S1.out.ld R (by omega) P (h) (by omega)
        rw [← hvx] at la
        rw [← hvy] at lb
        have hcc := S1.out.cmp HC.out (by omega) vx vy
        have hv : cf vx vy < 0 := by rw [hvx, hvy]; exact cf_yes HF.out CC
        have hd : decide (cf vx vy < 0) = true := decide_eq_true hv
        have CD : Aside _ := CC
        have xa : (((m : Nat) : Int)).toNat = m := by omega
        have xb : (0 : Int) ≤ ((m : Nat) : Int) := by omega
        have xc : ((m : Nat) : Int) < (d.size : Int) := by omega
        have xd : IntKind.i64.wrap ((m : Nat) : Int) = ((m : Nat) : Int) := by rw [IntKind.wrap_i64]; omega
        have ya : (((h : Nat) : Int)).toNat = h := by omega
        have yb : (0 : Int) ≤ ((h : Nat) : Int) := by omega
        have yc : ((h : Nat) : Int) < (d.size : Int) := by omega
        have yd : IntKind.i64.wrap ((h : Nat) : Int) = ((h : Nat) : Int) := by rw [IntKind.wrap_i64]; omega
        clear hvx hvy CC
        go_wp2_with fail
        go_quiet_grown (first | (go_at_fn g; refine Calls.grown_of (hcc _ _)))
        have S2 : Aside (SWK enc k w0 blk off d (grow (wr.drewN nq) osq)) := S1.out.grown nq osq
        clear la lb hcc S1
        generalize grow (wr.drewN nq) osq = w2 at S2 ⊢
        clear nq osq hv hd xa xb xc xd ya yb yc yd
        go_wp2
        go_roundg (h - i)
        case measure => omega
        case rel => exact ⟨i, h, rfl, rfl, hi, h1, by omega, Nat.le_refl _, S2, I1.out.1, Or.inr CD.out⟩
      · -- not less
        obtain ⟨vx, hvx⟩ : ∃ v, v = d[m]! := ⟨_, rfl⟩
        obtain ⟨vy, hvy⟩ : ∃ v, v = d[h]! := ⟨_, rfl⟩
        have la := S1.out.ld R (by omega) P (m) (by omega)
        have lb := S1.out.ld R (by omega) P (h) (by omega)
        rw [← hvx] at la
        rw [← hvy] at lb
        have hcc := S1.out.cmp HC.out (by omega) vx vy
        have hv : ¬ cf vx vy < 0 := by rw [hvx, hvy]; exact cf_no HF.out CC
        have hd : decide (cf vx vy < 0) = false := decide_eq_false hv
        have CD : Aside _ := CC
        have xa : (((m : Nat) : Int)).toNat = m := by omega
        have xb : (0 : Int) ≤ ((m : Nat) : Int) := by omega
        have xc : ((m : Nat) : Int) < (d.size : Int) := by omega
        have xd : IntKind.i64.wrap ((m : Nat) : Int) = ((m : Nat) : Int) := by rw [IntKind.wrap_i64]; omega
        have ya : (((h : Nat) : Int)).toNat = h := by omega
        have yb : (0 : Int) ≤ ((h : Nat) : Int) := by omega
        have yc : ((h : Nat) : Int) < (d.size : Int) := by omega
        have yd : IntKind.i64.wrap ((h : Nat) : Int) = ((h : Nat) : Int) := by rw [IntKind.wrap_i64]; omega
        clear hvx hvy CC
        go_wp2_with fail
        go_quiet_grown (first | (go_at_fn g; refine Calls.grown_of (hcc _ _)))
        have S2 : Aside (SWK enc k w0 blk off d (grow (wr.drewN nq) osq)) := S1.out.grown nq osq
        clear la lb hcc S1
        generalize grow (wr.drewN nq) osq = w2 at S2 ⊢
        clear nq osq hv hd xa xb xc xd ya yb yc yd
        go_wp2
        go_roundg (j - (h + 1))
        case measure => omega
        case rel => exact ⟨h + 1, j, by go_num, rfl, by omega, by omega, hj, Nat.le_refl _, S2, Or.inr CD.out, I1.out.2⟩
    · have eij : j = i := by omega
      subst eij
      clear hlt hij hkx
      go_wp2_with fail
      go_loopg [17] (m - j) (fun kx s17 wr => ∃ (q : Nat) (dk : Array α), s17 = .int .i64 q ∧ j ≤ q ∧ q ≤ m ∧ q - j ≤ kx ∧ dk.size = d.size ∧ Aside (SWK enc k w0 blk off dk wr) ∧ Aside (Idx (rotI q m (m + 1)) d dk) ∧ Aside (PermIn a (m + 1) d dk))
      case atStart => exact ⟨m, d, rfl, hj, Nat.le_refl _, Nat.le_refl _, rfl, S1, Idx.id_ d (fun t => rotI_none2), permIn_refl d _ _⟩
      case round =>
        clear S1
        obtain ⟨q0, dk, rfl, hq1, hq2, hkx, hds, S1, Q1, P1⟩ := hrel
        by_cases hlt : j < q0
        · obtain ⟨q, rfl⟩ : ∃ q, q0 = q + 1 := ⟨q0 - 1, by omega⟩
          go_wp2_with fail
          have qz : ((q : Int) + 1 - 1) = (q : Int) := by omega
          have qw : IntKind.i64.wrap ((q : Int) + 1 - 1) = (q : Int) := by rw [IntKind.wrap_i64]; omega
          have S2 : Aside (SWK enc k w0 blk off (swp dk (q + 1) (q)) ((wr.drew.setCells blk (off + (q + 1) * k) (enc dk[q]!)).setCells blk (off + (q) * k) (enc dk[q + 1]!))) := S1.out.swapped R (q + 1) (q) (by omega) (by omega)
          have la := S1.out.ld1 R (by omega) P (q + 1) (by omega)
          have lb := S1.out.ld1 R (by omega) P (q) (by omega)
          have sa := S1.out.st1 R (by omega) P (q + 1) (by omega) dk[q]!
          have sb := S1.out.st2 R (by omega) P (q + 1) (q) (by omega) (by omega) dk[q]! dk[q + 1]!
          have na : (enc dk[q + 1]!).length = k := R.hk _
          have nb : (enc dk[q]!).length = k := R.hk _
          generalize enc dk[q + 1]! = cI at S2 la sb na
          generalize enc dk[q]! = cJ at S2 lb sa sb nb
          clear S1
          go_wp2_with fail
          go_big_region_o
          clear la lb sa sb
          generalize (wr.drew.setCells blk (off + (q + 1) * k) cJ).setCells blk (off + (q) * k) cI = w2 at S2 ⊢
          clear qz qw
          go_wp2
          go_roundg (q - j)
          case measure => omega
          case rel => exact ⟨q, swp dk (q + 1) q, by first | rfl | go_num | (congr 1; omega), by omega, by omega, Nat.le_refl _, by rw [size_swp]; exact hds, S2, Q1.out.comp (Idx.swp (by omega) (by omega)) (fun t => rotI_down hq2), permIn_trans _ _ _ _ _ P1.out (swp_permIn dk a (m + 1) (q + 1) q (by omega) (by omega) (by omega) (by omega) (by omega))⟩
        · have e : q0 = j := by omega
          subst e
          go_wp2
          ((try simp only [Exit.inBlock, Exit.then]); refine bodyPost_ret (results_none rfl _ _ _) rfl ?_)
          exact ⟨rfl, dk, S1.out, P1.out, mrg_right HM.out hi hj I1.out.1 I1.out.2 Q1.out⟩
end Go.Proofs.YtkmgildnhnjepaaGreatDoor
