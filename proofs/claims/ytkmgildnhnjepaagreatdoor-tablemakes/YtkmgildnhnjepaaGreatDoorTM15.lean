/- The library's stable sort at pending transitions: symMerge. -/
import Derived.Deep.Cut
import Derived.Test.YtkmgildnhnjepaaGreatDoorTM14
namespace Go.Proofs.YtkmgildnhnjepaaGreatDoor
set_option linter.unusedVariables false
set_option linter.unusedSimpArgs false
open Go.Shelf Go.RowKit Go.Lib Go.Sort
set_option maxHeartbeats 8000000 in
set_option maxRecDepth 1000000 in
theorem symMerge_step {α : Type} [Inhabited α] {P : Program} {k : Nat} (L : SrtP P k) (enc : α → List Value) (nom : α → Int) (tag : α → Nat) (cf : α → α → Int) (hcf : ltOf cf = nomB nom) (g : Nat) (cb : Array Value) (eg : ∀ args w, (callFunc g args).run P w = .ok (.enter g args) w)
    (blk off cap : Nat) (d0 : Array α) (w0 : World) (R : RowK enc k w0 blk off d0) (hC : CmpLays P g cb enc k cf blk off d0.size w0)
    (a m b : Nat) (d : Array α) (w : World) (hs : d0.size = d.size) (S : SWK enc k w0 blk off d w) (ham : a + 1 < m) (hmb : m + 1 < b) (hb : b ≤ d.size) (hsz : d.size ≤ 100000) (hM : Mrg nom tag a m b d)
    (hI : ∀ (x y z : Nat) (e : Array α) (W : World), z - x < b - a → d0.size = e.size → SWK enc k w0 blk off e W → x < y → y < z → z ≤ e.size → e.size ≤ 100000 → Mrg nom tag x y z e → Calls P 146 #[.slice (some ⟨blk, off, none⟩) e.size cap, .int .i64 x, .int .i64 y, .int .i64 z, .func (.func g) #[] cb] W fun e' w' => e' = .returned (.tuple #[]) ∧ ∃ d', SWK enc k w0 blk off d' w' ∧ PermIn x z e d' ∧ SortedIn (lexB nom tag) x z d') :
    Calls P 146 #[.slice (some ⟨blk, off, none⟩) d.size cap, .int .i64 a, .int .i64 m, .int .i64 b, .func (.func g) #[] cb] w fun e w' => e = .returned (.tuple #[]) ∧ ∃ d', SWK enc k w0 blk off d' w' ∧ PermIn a b d d' ∧ SortedIn (lexB nom tag) a b d' := by
  have mixed := L.mixed; have t3 := L.t3; have a3 := L.a3; have z3 := L.z3; have v3 := L.v3; have t4 := L.t4; have a4 := L.a4; have z4 := L.z4; have v4 := L.v4; have tS := L.tS; have aS := L.aS; have zS := L.zS; have vS := L.vS; have tF := L.tF; have aF := L.aF; have zF := L.zF; have vF := L.vF; have aE := L.aE; have zE := L.zE; have tU := L.tU; have aU := L.aU; have zU := L.zU; have vU := L.vU
  have S0 : Aside (SWK enc k w0 blk off d w) := S
  have HC : Aside (CmpLays P g cb enc k cf blk off d0.size w0) := hC
  have HF : Aside (ltOf cf = nomB nom) := hcf
  have HM : Aside (Mrg nom tag a m b d) := hM
  have KI : Aside (∀ (x y z : Nat) (e : Array α) (W : World), z - x < b - a → e.size = d.size → SWK enc k w0 blk off e W → x < y → y < z → z ≤ d.size → Mrg nom tag x y z e → Calls P 146 #[.slice (some ⟨blk, off, none⟩) d.size cap, .int .i64 x, .int .i64 y, .int .i64 z, .func (.func g) #[] cb] W fun e' w' => e' = .returned (.tuple #[]) ∧ ∃ d', SWK enc k w0 blk off d' w' ∧ PermIn x z e d' ∧ SortedIn (lexB nom tag) x z d') := fun x y z e W h1 h2 h3 h4 h5 h6 h7 => by
    have := hI x y z e W h1 (by omega) h3 h4 h5 (by omega) (by omega) h7
    rwa [h2] at this
  have KR : Aside (∀ (x y z : Nat) (W : World), SWK enc k w0 blk off d W → x < y → y < z → z ≤ d.size → Calls P 160 #[.slice (some ⟨blk, off, none⟩) d.size cap, .int .i64 x, .int .i64 y, .int .i64 z, .func (.func g) #[] cb] W fun e w' => e = .returned (.tuple #[]) ∧ ∃ d', SWK enc k w0 blk off d' w' ∧ Idx (rotI x y z) d d' ∧ PermIn x z d d') := fun x y z W h1 h2 h3 h4 => rotate_any L enc g cb blk off cap x y z d0 d w0 W R hs h1 h2 h3 h4 hsz
  have eR : ∀ args w, (callFunc 160 args).run P w = .ok (.enter 160 args) w := enters_of L.f2 (by kernel_rfl) rfl
  have eM : ∀ args w, (callFunc 146 args).run P w = .ok (.enter 146 args) w := enters_of L.f3 (by kernel_rfl) rfl
  have hne1 : ((m : Int) - (a : Int) == 1) = false := by rw [beq_eq_false_iff_ne]; omega
  have hne2 : ((b : Int) - (m : Int) == 1) = false := by rw [beq_eq_false_iff_ne]; omega
  obtain ⟨mid, hmid⟩ : ∃ mid, (a + b) / 2 = mid := ⟨_, rfl⟩
  have hz : ((a : Int) + (b : Int)) / 2 = (mid : Int) := by omega
  have q1 : a + 1 ≤ mid := by omega
  have q2 : mid + 1 ≤ b := by omega
  have q3 : mid + mid ≤ a + b := by omega
  have q4 : a + b ≤ mid + mid + 1 := by omega
  have HD : Aside _ := hmid
  clear S hM hC hcf hI hmid
  go_enter L.f3, Tryz.ntmps146
  go_upto_if 140 with fail
  clear hne1 hne2 hz
  go_cut [20, 21] from 25 (fun s20 s21 wx => ∃ s0 r0 : Nat, s20 = .int .i64 s0 ∧ s21 = .int .i64 r0 ∧ s0 ≤ r0 ∧ r0 ≤ m ∧ r0 ≤ mid ∧ a ≤ s0 ∧ mid + m ≤ b + s0 ∧ Aside ((m ≤ mid → s0 = a ∧ r0 = m) ∧ (mid < m → s0 = mid + m - b ∧ r0 = mid)) ∧ Aside (SWK enc k w0 blk off d wx))
  case first =>
    by_cases c : mid < m
    · have cz : (mid : Int) < (m : Int) := by omega
      go_wp2
      go_meet
      case rel => exact ⟨mid + m - b, mid, by first | rfl | go_num | (congr 1; omega), rfl, by omega, by omega, Nat.le_refl _, by omega, by omega, ⟨fun _ => absurd c (by omega), fun _ => ⟨rfl, rfl⟩⟩, S0⟩
    · have cz : ¬ (mid : Int) < (m : Int) := by omega
      go_wp2
      go_meet
      case rel => exact ⟨a, m, rfl, rfl, by omega, Nat.le_refl _, by omega, Nat.le_refl _, by omega, ⟨fun _ => ⟨rfl, rfl⟩, fun h => absurd h c⟩, S0⟩
  case rest =>
    obtain ⟨s0, r0, rfl, rfl, b1, b2, b3, b4, b5, F0, S1⟩ := hcut
    clear S0
    go_wp2_with fail
    go_loopg [20, 21] (r0 - s0) (fun kx s20 s21 wr => ∃ (s r : Nat), s20 = .int .i64 s ∧ s21 = .int .i64 r ∧ s0 ≤ s ∧ s ≤ r ∧ r ≤ r0 ∧ r - s ≤ kx ∧ Aside (SWK enc k w0 blk off d wr) ∧ Aside ((s = s0 ∨ nomB nom d[mid + m - s]! d[s - 1]! = false) ∧ (r = r0 ∨ nomB nom d[mid + m - 1 - r]! d[r]! = true)))
    case atStart => exact ⟨s0, r0, rfl, rfl, Nat.le_refl _, b1, Nat.le_refl _, Nat.le_refl _, S1, Or.inl rfl, Or.inl rfl⟩
    case round =>
      clear S1
      obtain ⟨s, r, rfl, rfl, hi, hij, hj, hkx, S1, I1⟩ := hrel
      by_cases hlt : s < r
      · go_wp2_with fail
        obtain ⟨c, hh⟩ : ∃ c, (s + r) / 2 = c := ⟨_, rfl⟩
        have hz : ((s : Int) + (r : Int)) / 2 = (c : Int) := by omega
        rw [hz]
        clear hz
        have h1 : s ≤ c := by omega
        have h2 : c < r := by omega
        obtain ⟨q, hq⟩ : ∃ q, mid + m - 1 - c = q := ⟨_, rfl⟩
        have qz : (mid : Int) + (m : Int) - 1 - (c : Int) = (q : Int) := by omega
        have q5 : q < b := by omega
        have HQ : Aside _ := hq
        have HH : Aside _ := hh
        clear hh hq
        rcases Bool.eq_false_or_eq_true (nomB nom d[q]! d[c]!) with CC | CC
        · -- less
          obtain ⟨vx, hvx⟩ : ∃ v, v = d[q]! := ⟨_, rfl⟩
          obtain ⟨vy, hvy⟩ : ∃ v, v = d[c]! := ⟨_, rfl⟩
          have la := S1.out.ld R (by omega) P (q) (by omega)
          have lb := S1.out.ld R (by omega) P (c) (by omega)
          rw [← hvx] at la
          rw [← hvy] at lb
          have hcc := S1.out.cmp HC.out (by omega) vx vy
          have hv : cf vx vy < 0 := by rw [hvx, hvy]; exact cf_yes HF.out CC
          have hd : decide (cf vx vy < 0) = true := decide_eq_true hv
          have CD : Aside _ := CC
          have xa : (((q : Nat) : Int)).toNat = q := by omega
          have xb : (0 : Int) ≤ ((q : Nat) : Int) := by omega
          have xc : ((q : Nat) : Int) < (d.size : Int) := by omega
          have xd : IntKind.i64.wrap ((q : Nat) : Int) = ((q : Nat) : Int) := by rw [IntKind.wrap_i64]; omega
          have ya : (((c : Nat) : Int)).toNat = c := by omega
          have yb : (0 : Int) ≤ ((c : Nat) : Int) := by omega
          have yc : ((c : Nat) : Int) < (d.size : Int) := by omega
          have yd : IntKind.i64.wrap ((c : Nat) : Int) = ((c : Nat) : Int) := by rw [IntKind.wrap_i64]; omega
          clear hvx hvy CC
          go_wp2_with fail
          go_quiet_grown (first | (go_at_fn g; refine Calls.grown_of (hcc _ _)))
          have S2 : Aside (SWK enc k w0 blk off d (grow (wr.drewN nq) osq)) := S1.out.grown nq osq
          clear la lb hcc S1
          generalize grow (wr.drewN nq) osq = w2 at S2 ⊢
          clear nq osq hv hd xa xb xc xd ya yb yc yd
          clear qz
          go_wp2
          go_roundg (c - s)
          case measure => omega
          case rel => exact ⟨s, c, rfl, rfl, hi, h1, by omega, Nat.le_refl _, S2, I1.out.1, Or.inr (by rw [HQ.out]; exact CD.out)⟩
        · -- not less
          obtain ⟨vx, hvx⟩ : ∃ v, v = d[q]! := ⟨_, rfl⟩
          obtain ⟨vy, hvy⟩ : ∃ v, v = d[c]! := ⟨_, rfl⟩
          have la := S1.out.ld R (by omega) P (q) (by omega)
          have lb := S1.out.ld R (by omega) P (c) (by omega)
          rw [← hvx] at la
          rw [← hvy] at lb
          have hcc := S1.out.cmp HC.out (by omega) vx vy
          have hv : ¬ cf vx vy < 0 := by rw [hvx, hvy]; exact cf_no HF.out CC
          have hd : decide (cf vx vy < 0) = false := decide_eq_false hv
          have CD : Aside _ := CC
          have xa : (((q : Nat) : Int)).toNat = q := by omega
          have xb : (0 : Int) ≤ ((q : Nat) : Int) := by omega
          have xc : ((q : Nat) : Int) < (d.size : Int) := by omega
          have xd : IntKind.i64.wrap ((q : Nat) : Int) = ((q : Nat) : Int) := by rw [IntKind.wrap_i64]; omega
          have ya : (((c : Nat) : Int)).toNat = c := by omega
          have yb : (0 : Int) ≤ ((c : Nat) : Int) := by omega
          have yc : ((c : Nat) : Int) < (d.size : Int) := by omega
          have yd : IntKind.i64.wrap ((c : Nat) : Int) = ((c : Nat) : Int) := by rw [IntKind.wrap_i64]; omega
          clear hvx hvy CC
          go_wp2_with fail
          go_quiet_grown (first | (go_at_fn g; refine Calls.grown_of (hcc _ _)))
          have S2 : Aside (SWK enc k w0 blk off d (grow (wr.drewN nq) osq)) := S1.out.grown nq osq
          clear la lb hcc S1
          generalize grow (wr.drewN nq) osq = w2 at S2 ⊢
          clear nq osq hv hd xa xb xc xd ya yb yc yd
          clear qz
          go_wp2
          go_roundg (r - (c + 1))
          case measure => omega
          case rel => exact ⟨c + 1, r, by go_num, rfl, by omega, by omega, hj, Nat.le_refl _, S2, Or.inr (by rw [show mid + m - (c + 1) = q from by have := HQ.out; omega]; exact CD.out), I1.out.2⟩
      · have eij : r = s := by omega
        subst eij
        have CUT : Aside (Cutt nom a m b mid r d) := ⟨by omega, by omega, HD.out.symm, fun h => by
          obtain ⟨e1, e2⟩ := F0.out.1 h
          rw [e1, e2] at I1
          exact ⟨by omega, by omega, I1.out⟩, fun h => by
          obtain ⟨e1, e2⟩ := F0.out.2 h
          rw [e1, e2] at I1
          exact ⟨by omega, by omega, I1.out⟩⟩
        clear hlt hij hkx I1 F0
        obtain ⟨e, he⟩ : ∃ e, mid + m - r = e := ⟨_, rfl⟩
        have ez : (mid : Int) + (m : Int) - (r : Int) = (e : Int) := by omega
        have HE : Aside (mid + m - r = e ∧ a ≤ r ∧ r ≤ m ∧ r ≤ mid ∧ m ≤ e ∧ e ≤ b ∧ mid ≤ e) := ⟨he, by omega, by omega, by omega, by omega, by omega, by omega⟩
        have hem : mid + m = e + r := by omega
        clear he
        by_cases cA : r < m
        · by_cases cB : r < mid
          · by_cases cC : a < r
            · by_cases cD : e < b
              · have z1 : (r : Int) < (m : Int) := by omega
                have z2 : (m : Int) < (e : Int) := by omega
                have z3 : (a : Int) < (r : Int) := by omega
                have z4 : (r : Int) < (mid : Int) := by omega
                have z5 : (mid : Int) < (e : Int) := by omega
                have z6 : (e : Int) < (b : Int) := by omega
                have hr := KR.out r m e wr S1.out (by omega) (by omega) (by omega)
                go_wp2_with (go_at_fn 160; refine hr.mono ?_; rintro e1 w1 ⟨rfl, d1, T1, I1, P1⟩)
                clear hr S1
                have I1 : Aside (Idx (rotI r m (mid + m - r)) d d1) := by rw [HE.out.1]; exact I1
                have P1 : Aside (PermIn a b d d1) := permIn_mono _ _ _ _ _ _ (by omega) (by omega) hb P1
                have T1 : Aside (SWK enc k w0 blk off d1 w1) := T1
                have RT : Aside (Rott nom tag a m b mid r e d1) := by have := mrg_rott HM.out CUT.out I1.out; rwa [HE.out.1] at this
                have n1 : d1.size = d.size := P1.out.1
                have N1 : Aside (d1.size = d.size) := n1
                clear n1 I1
                have hr := KI.out a r mid d1 w1 (by omega) N1.out T1.out (by omega) (by omega) (by omega) RT.out.one
                go_wp2_with (go_at_fn 146; refine hr.mono ?_; rintro e1 w2 ⟨rfl, d2, T2, P2, Q2⟩)
                clear hr T1
                have P2 : Aside (PermIn a mid d1 d2) := P2
                have Q2 : Aside (SortedIn (lexB nom tag) a mid d2) := Q2
                have T2 : Aside (SWK enc k w0 blk off d2 w2) := T2
                have RK : Aside (Mrg nom tag mid e b d2) := RT.out.two.kept (by omega) (by omega) P2.out (Or.inr (Nat.le_refl _))
                have n2 : Aside (d2.size = d.size) := P2.out.1.trans N1.out
                have hr := KI.out mid e b d2 w2 (by omega) n2.out T2.out (by omega) (by omega) (by omega) RK.out
                go_wp2_with (go_at_fn 146; refine hr.mono ?_; rintro e1 w3 ⟨rfl, d3, T3, P3, Q3⟩)
                clear hr T2
                have P3 : Aside (PermIn mid b d2 d3) := P3
                have Q3 : Aside (SortedIn (lexB nom tag) mid b d3) := Q3
                have T3 : Aside (SWK enc k w0 blk off d3 w3) := T3
                go_end0
                refine ⟨rfl, d3, T3.out, permIn_trans _ _ _ _ _ P1.out (permIn_trans _ _ _ _ _ (permIn_mono _ _ _ _ _ _ (Nat.le_refl _) (by omega) (by rw [N1.out]; exact hb) P2.out) (permIn_mono _ _ _ _ _ _ (by omega) (Nat.le_refl _) (by rw [n2.out]; exact hb) P3.out)), rott_done RT.out (by omega) (by omega) (by rw [N1.out]; exact hb) P2.out Q2.out P3.out Q3.out⟩
              · have z1 : (r : Int) < (m : Int) := by omega
                have z2 : (m : Int) < (e : Int) := by omega
                have z3 : (a : Int) < (r : Int) := by omega
                have z4 : (r : Int) < (mid : Int) := by omega
                have z5 : (mid : Int) < (e : Int) := by omega
                have z6 : ¬ (e : Int) < (b : Int) := by omega
                have hr := KR.out r m e wr S1.out (by omega) (by omega) (by omega)
                go_wp2_with (go_at_fn 160; refine hr.mono ?_; rintro e1 w1 ⟨rfl, d1, T1, I1, P1⟩)
                clear hr S1
                have I1 : Aside (Idx (rotI r m (mid + m - r)) d d1) := by rw [HE.out.1]; exact I1
                have P1 : Aside (PermIn a b d d1) := permIn_mono _ _ _ _ _ _ (by omega) (by omega) hb P1
                have T1 : Aside (SWK enc k w0 blk off d1 w1) := T1
                have RT : Aside (Rott nom tag a m b mid r e d1) := by have := mrg_rott HM.out CUT.out I1.out; rwa [HE.out.1] at this
                have n1 : d1.size = d.size := P1.out.1
                have N1 : Aside (d1.size = d.size) := n1
                clear n1 I1
                have hr := KI.out a r mid d1 w1 (by omega) N1.out T1.out (by omega) (by omega) (by omega) RT.out.one
                go_wp2_with (go_at_fn 146; refine hr.mono ?_; rintro e1 w2 ⟨rfl, d2, T2, P2, Q2⟩)
                clear hr T1
                have P2 : Aside (PermIn a mid d1 d2) := P2
                have Q2 : Aside (SortedIn (lexB nom tag) a mid d2) := Q2
                have T2 : Aside (SWK enc k w0 blk off d2 w2) := T2
                have RK : Aside (Mrg nom tag mid e b d2) := RT.out.two.kept (by omega) (by omega) P2.out (Or.inr (Nat.le_refl _))
                have n2 : Aside (d2.size = d.size) := P2.out.1.trans N1.out
                obtain ⟨d3, hd3⟩ : ∃ d3, d3 = d2 := ⟨_, rfl⟩
                have P3 : Aside (PermIn mid b d2 d3) := by rw [hd3]; exact permIn_refl d2 _ _
                have Q3 : Aside (SortedIn (lexB nom tag) mid b d3) := by rw [hd3]; exact RK.out.none (by omega)
                obtain ⟨w3, hw3⟩ : ∃ w3, w3 = w2 := ⟨_, rfl⟩
                have T3 : Aside (SWK enc k w0 blk off d3 w3) := by rw [hd3, hw3]; exact T2.out
                clear hd3 T2
                subst hw3
                try go_wp2
                go_end0
                refine ⟨rfl, d3, T3.out, permIn_trans _ _ _ _ _ P1.out (permIn_trans _ _ _ _ _ (permIn_mono _ _ _ _ _ _ (Nat.le_refl _) (by omega) (by rw [N1.out]; exact hb) P2.out) (permIn_mono _ _ _ _ _ _ (by omega) (Nat.le_refl _) (by rw [n2.out]; exact hb) P3.out)), rott_done RT.out (by omega) (by omega) (by rw [N1.out]; exact hb) P2.out Q2.out P3.out Q3.out⟩
            · by_cases cD : e < b
              · have z1 : (r : Int) < (m : Int) := by omega
                have z2 : (m : Int) < (e : Int) := by omega
                have z3 : ¬ (a : Int) < (r : Int) := by omega
                have z4 : (r : Int) < (mid : Int) := by omega
                have z5 : (mid : Int) < (e : Int) := by omega
                have z6 : (e : Int) < (b : Int) := by omega
                have hr := KR.out r m e wr S1.out (by omega) (by omega) (by omega)
                go_wp2_with (go_at_fn 160; refine hr.mono ?_; rintro e1 w1 ⟨rfl, d1, T1, I1, P1⟩)
                clear hr S1
                have I1 : Aside (Idx (rotI r m (mid + m - r)) d d1) := by rw [HE.out.1]; exact I1
                have P1 : Aside (PermIn a b d d1) := permIn_mono _ _ _ _ _ _ (by omega) (by omega) hb P1
                have T1 : Aside (SWK enc k w0 blk off d1 w1) := T1
                have RT : Aside (Rott nom tag a m b mid r e d1) := by have := mrg_rott HM.out CUT.out I1.out; rwa [HE.out.1] at this
                have n1 : d1.size = d.size := P1.out.1
                have N1 : Aside (d1.size = d.size) := n1
                clear n1 I1
                obtain ⟨d2, hd2⟩ : ∃ d2, d2 = d1 := ⟨_, rfl⟩
                have P2 : Aside (PermIn a mid d1 d2) := by rw [hd2]; exact permIn_refl d1 _ _
                have Q2 : Aside (SortedIn (lexB nom tag) a mid d2) := by rw [hd2]; exact RT.out.one.none (by omega)
                obtain ⟨w2, hw2⟩ : ∃ w2, w2 = w1 := ⟨_, rfl⟩
                have T2 : Aside (SWK enc k w0 blk off d2 w2) := by rw [hd2, hw2]; exact T1.out
                clear hd2 T1
                subst hw2
                have RK : Aside (Mrg nom tag mid e b d2) := RT.out.two.kept (by omega) (by omega) P2.out (Or.inr (Nat.le_refl _))
                have n2 : Aside (d2.size = d.size) := P2.out.1.trans N1.out
                have hr := KI.out mid e b d2 w2 (by omega) n2.out T2.out (by omega) (by omega) (by omega) RK.out
                go_wp2_with (go_at_fn 146; refine hr.mono ?_; rintro e1 w3 ⟨rfl, d3, T3, P3, Q3⟩)
                clear hr T2
                have P3 : Aside (PermIn mid b d2 d3) := P3
                have Q3 : Aside (SortedIn (lexB nom tag) mid b d3) := Q3
                have T3 : Aside (SWK enc k w0 blk off d3 w3) := T3
                go_end0
                refine ⟨rfl, d3, T3.out, permIn_trans _ _ _ _ _ P1.out (permIn_trans _ _ _ _ _ (permIn_mono _ _ _ _ _ _ (Nat.le_refl _) (by omega) (by rw [N1.out]; exact hb) P2.out) (permIn_mono _ _ _ _ _ _ (by omega) (Nat.le_refl _) (by rw [n2.out]; exact hb) P3.out)), rott_done RT.out (by omega) (by omega) (by rw [N1.out]; exact hb) P2.out Q2.out P3.out Q3.out⟩
              · have z1 : (r : Int) < (m : Int) := by omega
                have z2 : (m : Int) < (e : Int) := by omega
                have z3 : ¬ (a : Int) < (r : Int) := by omega
                have z4 : (r : Int) < (mid : Int) := by omega
                have z5 : (mid : Int) < (e : Int) := by omega
                have z6 : ¬ (e : Int) < (b : Int) := by omega
                have hr := KR.out r m e wr S1.out (by omega) (by omega) (by omega)
                go_wp2_with (go_at_fn 160; refine hr.mono ?_; rintro e1 w1 ⟨rfl, d1, T1, I1, P1⟩)
                clear hr S1
                have I1 : Aside (Idx (rotI r m (mid + m - r)) d d1) := by rw [HE.out.1]; exact I1
                have P1 : Aside (PermIn a b d d1) := permIn_mono _ _ _ _ _ _ (by omega) (by omega) hb P1
                have T1 : Aside (SWK enc k w0 blk off d1 w1) := T1
                have RT : Aside (Rott nom tag a m b mid r e d1) := by have := mrg_rott HM.out CUT.out I1.out; rwa [HE.out.1] at this
                have n1 : d1.size = d.size := P1.out.1
                have N1 : Aside (d1.size = d.size) := n1
                clear n1 I1
                obtain ⟨d2, hd2⟩ : ∃ d2, d2 = d1 := ⟨_, rfl⟩
                have P2 : Aside (PermIn a mid d1 d2) := by rw [hd2]; exact permIn_refl d1 _ _
                have Q2 : Aside (SortedIn (lexB nom tag) a mid d2) := by rw [hd2]; exact RT.out.one.none (by omega)
                obtain ⟨w2, hw2⟩ : ∃ w2, w2 = w1 := ⟨_, rfl⟩
                have T2 : Aside (SWK enc k w0 blk off d2 w2) := by rw [hd2, hw2]; exact T1.out
                clear hd2 T1
                subst hw2
                have RK : Aside (Mrg nom tag mid e b d2) := RT.out.two.kept (by omega) (by omega) P2.out (Or.inr (Nat.le_refl _))
                have n2 : Aside (d2.size = d.size) := P2.out.1.trans N1.out
                obtain ⟨d3, hd3⟩ : ∃ d3, d3 = d2 := ⟨_, rfl⟩
                have P3 : Aside (PermIn mid b d2 d3) := by rw [hd3]; exact permIn_refl d2 _ _
                have Q3 : Aside (SortedIn (lexB nom tag) mid b d3) := by rw [hd3]; exact RK.out.none (by omega)
                obtain ⟨w3, hw3⟩ : ∃ w3, w3 = w2 := ⟨_, rfl⟩
                have T3 : Aside (SWK enc k w0 blk off d3 w3) := by rw [hd3, hw3]; exact T2.out
                clear hd3 T2
                subst hw3
                try go_wp2
                go_end0
                refine ⟨rfl, d3, T3.out, permIn_trans _ _ _ _ _ P1.out (permIn_trans _ _ _ _ _ (permIn_mono _ _ _ _ _ _ (Nat.le_refl _) (by omega) (by rw [N1.out]; exact hb) P2.out) (permIn_mono _ _ _ _ _ _ (by omega) (Nat.le_refl _) (by rw [n2.out]; exact hb) P3.out)), rott_done RT.out (by omega) (by omega) (by rw [N1.out]; exact hb) P2.out Q2.out P3.out Q3.out⟩
          · by_cases cC : a < r
            · by_cases cD : e < b
              · have z1 : (r : Int) < (m : Int) := by omega
                have z2 : ¬ (m : Int) < (e : Int) := by omega
                have z3 : (a : Int) < (r : Int) := by omega
                have z4 : ¬ (r : Int) < (mid : Int) := by omega
                have z5 : (mid : Int) < (e : Int) := by omega
                have z6 : (e : Int) < (b : Int) := by omega
                obtain ⟨d1, hd1⟩ : ∃ d1, d1 = d := ⟨_, rfl⟩
                have I1 : Aside (Idx (rotI r m (mid + m - r)) d d1) := by rw [hd1]; exact Idx.id_ d (fun t => by rw [show mid + m - r = m by omega]; exact rotI_none1)
                have P1 : Aside (PermIn a b d d1) := by rw [hd1]; exact permIn_refl d _ _
                obtain ⟨w1, hw1⟩ : ∃ w1, w1 = wr := ⟨_, rfl⟩
                have T1 : Aside (SWK enc k w0 blk off d1 w1) := by rw [hd1, hw1]; exact S1.out
                clear hd1 S1
                subst hw1
                have RT : Aside (Rott nom tag a m b mid r e d1) := by have := mrg_rott HM.out CUT.out I1.out; rwa [HE.out.1] at this
                have n1 : d1.size = d.size := P1.out.1
                have N1 : Aside (d1.size = d.size) := n1
                clear n1 I1
                obtain ⟨d2, hd2⟩ : ∃ d2, d2 = d1 := ⟨_, rfl⟩
                have P2 : Aside (PermIn a mid d1 d2) := by rw [hd2]; exact permIn_refl d1 _ _
                have Q2 : Aside (SortedIn (lexB nom tag) a mid d2) := by rw [hd2]; exact RT.out.one.none (by omega)
                obtain ⟨w2, hw2⟩ : ∃ w2, w2 = w1 := ⟨_, rfl⟩
                have T2 : Aside (SWK enc k w0 blk off d2 w2) := by rw [hd2, hw2]; exact T1.out
                clear hd2 T1
                subst hw2
                have RK : Aside (Mrg nom tag mid e b d2) := RT.out.two.kept (by omega) (by omega) P2.out (Or.inr (Nat.le_refl _))
                have n2 : Aside (d2.size = d.size) := P2.out.1.trans N1.out
                have hr := KI.out mid e b d2 w2 (by omega) n2.out T2.out (by omega) (by omega) (by omega) RK.out
                go_wp2_with (go_at_fn 146; refine hr.mono ?_; rintro e1 w3 ⟨rfl, d3, T3, P3, Q3⟩)
                clear hr T2
                have P3 : Aside (PermIn mid b d2 d3) := P3
                have Q3 : Aside (SortedIn (lexB nom tag) mid b d3) := Q3
                have T3 : Aside (SWK enc k w0 blk off d3 w3) := T3
                go_end0
                refine ⟨rfl, d3, T3.out, permIn_trans _ _ _ _ _ P1.out (permIn_trans _ _ _ _ _ (permIn_mono _ _ _ _ _ _ (Nat.le_refl _) (by omega) (by rw [N1.out]; exact hb) P2.out) (permIn_mono _ _ _ _ _ _ (by omega) (Nat.le_refl _) (by rw [n2.out]; exact hb) P3.out)), rott_done RT.out (by omega) (by omega) (by rw [N1.out]; exact hb) P2.out Q2.out P3.out Q3.out⟩
              · have z1 : (r : Int) < (m : Int) := by omega
                have z2 : ¬ (m : Int) < (e : Int) := by omega
                have z3 : (a : Int) < (r : Int) := by omega
                have z4 : ¬ (r : Int) < (mid : Int) := by omega
                have z5 : (mid : Int) < (e : Int) := by omega
                have z6 : ¬ (e : Int) < (b : Int) := by omega
                obtain ⟨d1, hd1⟩ : ∃ d1, d1 = d := ⟨_, rfl⟩
                have I1 : Aside (Idx (rotI r m (mid + m - r)) d d1) := by rw [hd1]; exact Idx.id_ d (fun t => by rw [show mid + m - r = m by omega]; exact rotI_none1)
                have P1 : Aside (PermIn a b d d1) := by rw [hd1]; exact permIn_refl d _ _
                obtain ⟨w1, hw1⟩ : ∃ w1, w1 = wr := ⟨_, rfl⟩
                have T1 : Aside (SWK enc k w0 blk off d1 w1) := by rw [hd1, hw1]; exact S1.out
                clear hd1 S1
                subst hw1
                have RT : Aside (Rott nom tag a m b mid r e d1) := by have := mrg_rott HM.out CUT.out I1.out; rwa [HE.out.1] at this
                have n1 : d1.size = d.size := P1.out.1
                have N1 : Aside (d1.size = d.size) := n1
                clear n1 I1
                obtain ⟨d2, hd2⟩ : ∃ d2, d2 = d1 := ⟨_, rfl⟩
                have P2 : Aside (PermIn a mid d1 d2) := by rw [hd2]; exact permIn_refl d1 _ _
                have Q2 : Aside (SortedIn (lexB nom tag) a mid d2) := by rw [hd2]; exact RT.out.one.none (by omega)
                obtain ⟨w2, hw2⟩ : ∃ w2, w2 = w1 := ⟨_, rfl⟩
                have T2 : Aside (SWK enc k w0 blk off d2 w2) := by rw [hd2, hw2]; exact T1.out
                clear hd2 T1
                subst hw2
                have RK : Aside (Mrg nom tag mid e b d2) := RT.out.two.kept (by omega) (by omega) P2.out (Or.inr (Nat.le_refl _))
                have n2 : Aside (d2.size = d.size) := P2.out.1.trans N1.out
                obtain ⟨d3, hd3⟩ : ∃ d3, d3 = d2 := ⟨_, rfl⟩
                have P3 : Aside (PermIn mid b d2 d3) := by rw [hd3]; exact permIn_refl d2 _ _
                have Q3 : Aside (SortedIn (lexB nom tag) mid b d3) := by rw [hd3]; exact RK.out.none (by omega)
                obtain ⟨w3, hw3⟩ : ∃ w3, w3 = w2 := ⟨_, rfl⟩
                have T3 : Aside (SWK enc k w0 blk off d3 w3) := by rw [hd3, hw3]; exact T2.out
                clear hd3 T2
                subst hw3
                go_wp2
                go_end0
                refine ⟨rfl, d3, T3.out, permIn_trans _ _ _ _ _ P1.out (permIn_trans _ _ _ _ _ (permIn_mono _ _ _ _ _ _ (Nat.le_refl _) (by omega) (by rw [N1.out]; exact hb) P2.out) (permIn_mono _ _ _ _ _ _ (by omega) (Nat.le_refl _) (by rw [n2.out]; exact hb) P3.out)), rott_done RT.out (by omega) (by omega) (by rw [N1.out]; exact hb) P2.out Q2.out P3.out Q3.out⟩
            · by_cases cD : e < b
              · exfalso; omega
              · exfalso; omega
        · by_cases cB : r < mid
          · by_cases cC : a < r
            · by_cases cD : e < b
              · have z1 : ¬ (r : Int) < (m : Int) := by omega
                have z2 : (m : Int) < (e : Int) := by omega
                have z3 : (a : Int) < (r : Int) := by omega
                have z4 : (r : Int) < (mid : Int) := by omega
                have z5 : ¬ (mid : Int) < (e : Int) := by omega
                have z6 : (e : Int) < (b : Int) := by omega
                obtain ⟨d1, hd1⟩ : ∃ d1, d1 = d := ⟨_, rfl⟩
                have I1 : Aside (Idx (rotI r m (mid + m - r)) d d1) := by rw [hd1]; exact Idx.id_ d (fun t => by rw [show r = m by omega]; exact rotI_none2)
                have P1 : Aside (PermIn a b d d1) := by rw [hd1]; exact permIn_refl d _ _
                obtain ⟨w1, hw1⟩ : ∃ w1, w1 = wr := ⟨_, rfl⟩
                have T1 : Aside (SWK enc k w0 blk off d1 w1) := by rw [hd1, hw1]; exact S1.out
                clear hd1 S1
                subst hw1
                have RT : Aside (Rott nom tag a m b mid r e d1) := by have := mrg_rott HM.out CUT.out I1.out; rwa [HE.out.1] at this
                have n1 : d1.size = d.size := P1.out.1
                have N1 : Aside (d1.size = d.size) := n1
                clear n1 I1
                have hr := KI.out a r mid d1 w1 (by omega) N1.out T1.out (by omega) (by omega) (by omega) RT.out.one
                go_wp2_with (go_at_fn 146; refine hr.mono ?_; rintro e1 w2 ⟨rfl, d2, T2, P2, Q2⟩)
                clear hr T1
                have P2 : Aside (PermIn a mid d1 d2) := P2
                have Q2 : Aside (SortedIn (lexB nom tag) a mid d2) := Q2
                have T2 : Aside (SWK enc k w0 blk off d2 w2) := T2
                have RK : Aside (Mrg nom tag mid e b d2) := RT.out.two.kept (by omega) (by omega) P2.out (Or.inr (Nat.le_refl _))
                have n2 : Aside (d2.size = d.size) := P2.out.1.trans N1.out
                obtain ⟨d3, hd3⟩ : ∃ d3, d3 = d2 := ⟨_, rfl⟩
                have P3 : Aside (PermIn mid b d2 d3) := by rw [hd3]; exact permIn_refl d2 _ _
                have Q3 : Aside (SortedIn (lexB nom tag) mid b d3) := by rw [hd3]; exact RK.out.none (by omega)
                obtain ⟨w3, hw3⟩ : ∃ w3, w3 = w2 := ⟨_, rfl⟩
                have T3 : Aside (SWK enc k w0 blk off d3 w3) := by rw [hd3, hw3]; exact T2.out
                clear hd3 T2
                subst hw3
                try go_wp2
                go_end0
                refine ⟨rfl, d3, T3.out, permIn_trans _ _ _ _ _ P1.out (permIn_trans _ _ _ _ _ (permIn_mono _ _ _ _ _ _ (Nat.le_refl _) (by omega) (by rw [N1.out]; exact hb) P2.out) (permIn_mono _ _ _ _ _ _ (by omega) (Nat.le_refl _) (by rw [n2.out]; exact hb) P3.out)), rott_done RT.out (by omega) (by omega) (by rw [N1.out]; exact hb) P2.out Q2.out P3.out Q3.out⟩
              · exfalso; omega
            · by_cases cD : e < b
              · have z1 : ¬ (r : Int) < (m : Int) := by omega
                have z2 : (m : Int) < (e : Int) := by omega
                have z3 : ¬ (a : Int) < (r : Int) := by omega
                have z4 : (r : Int) < (mid : Int) := by omega
                have z5 : ¬ (mid : Int) < (e : Int) := by omega
                have z6 : (e : Int) < (b : Int) := by omega
                obtain ⟨d1, hd1⟩ : ∃ d1, d1 = d := ⟨_, rfl⟩
                have I1 : Aside (Idx (rotI r m (mid + m - r)) d d1) := by rw [hd1]; exact Idx.id_ d (fun t => by rw [show r = m by omega]; exact rotI_none2)
                have P1 : Aside (PermIn a b d d1) := by rw [hd1]; exact permIn_refl d _ _
                obtain ⟨w1, hw1⟩ : ∃ w1, w1 = wr := ⟨_, rfl⟩
                have T1 : Aside (SWK enc k w0 blk off d1 w1) := by rw [hd1, hw1]; exact S1.out
                clear hd1 S1
                subst hw1
                have RT : Aside (Rott nom tag a m b mid r e d1) := by have := mrg_rott HM.out CUT.out I1.out; rwa [HE.out.1] at this
                have n1 : d1.size = d.size := P1.out.1
                have N1 : Aside (d1.size = d.size) := n1
                clear n1 I1
                obtain ⟨d2, hd2⟩ : ∃ d2, d2 = d1 := ⟨_, rfl⟩
                have P2 : Aside (PermIn a mid d1 d2) := by rw [hd2]; exact permIn_refl d1 _ _
                have Q2 : Aside (SortedIn (lexB nom tag) a mid d2) := by rw [hd2]; exact RT.out.one.none (by omega)
                obtain ⟨w2, hw2⟩ : ∃ w2, w2 = w1 := ⟨_, rfl⟩
                have T2 : Aside (SWK enc k w0 blk off d2 w2) := by rw [hd2, hw2]; exact T1.out
                clear hd2 T1
                subst hw2
                have RK : Aside (Mrg nom tag mid e b d2) := RT.out.two.kept (by omega) (by omega) P2.out (Or.inr (Nat.le_refl _))
                have n2 : Aside (d2.size = d.size) := P2.out.1.trans N1.out
                obtain ⟨d3, hd3⟩ : ∃ d3, d3 = d2 := ⟨_, rfl⟩
                have P3 : Aside (PermIn mid b d2 d3) := by rw [hd3]; exact permIn_refl d2 _ _
                have Q3 : Aside (SortedIn (lexB nom tag) mid b d3) := by rw [hd3]; exact RK.out.none (by omega)
                obtain ⟨w3, hw3⟩ : ∃ w3, w3 = w2 := ⟨_, rfl⟩
                have T3 : Aside (SWK enc k w0 blk off d3 w3) := by rw [hd3, hw3]; exact T2.out
                clear hd3 T2
                subst hw3
                go_wp2
                go_end0
                refine ⟨rfl, d3, T3.out, permIn_trans _ _ _ _ _ P1.out (permIn_trans _ _ _ _ _ (permIn_mono _ _ _ _ _ _ (Nat.le_refl _) (by omega) (by rw [N1.out]; exact hb) P2.out) (permIn_mono _ _ _ _ _ _ (by omega) (Nat.le_refl _) (by rw [n2.out]; exact hb) P3.out)), rott_done RT.out (by omega) (by omega) (by rw [N1.out]; exact hb) P2.out Q2.out P3.out Q3.out⟩
              · exfalso; omega
          · by_cases cC : a < r
            · by_cases cD : e < b
              · have z1 : ¬ (r : Int) < (m : Int) := by omega
                have z2 : ¬ (m : Int) < (e : Int) := by omega
                have z3 : (a : Int) < (r : Int) := by omega
                have z4 : ¬ (r : Int) < (mid : Int) := by omega
                have z5 : ¬ (mid : Int) < (e : Int) := by omega
                have z6 : (e : Int) < (b : Int) := by omega
                obtain ⟨d1, hd1⟩ : ∃ d1, d1 = d := ⟨_, rfl⟩
                have I1 : Aside (Idx (rotI r m (mid + m - r)) d d1) := by rw [hd1]; exact Idx.id_ d (fun t => by rw [show r = m by omega]; exact rotI_none2)
                have P1 : Aside (PermIn a b d d1) := by rw [hd1]; exact permIn_refl d _ _
                obtain ⟨w1, hw1⟩ : ∃ w1, w1 = wr := ⟨_, rfl⟩
                have T1 : Aside (SWK enc k w0 blk off d1 w1) := by rw [hd1, hw1]; exact S1.out
                clear hd1 S1
                subst hw1
                have RT : Aside (Rott nom tag a m b mid r e d1) := by have := mrg_rott HM.out CUT.out I1.out; rwa [HE.out.1] at this
                have n1 : d1.size = d.size := P1.out.1
                have N1 : Aside (d1.size = d.size) := n1
                clear n1 I1
                obtain ⟨d2, hd2⟩ : ∃ d2, d2 = d1 := ⟨_, rfl⟩
                have P2 : Aside (PermIn a mid d1 d2) := by rw [hd2]; exact permIn_refl d1 _ _
                have Q2 : Aside (SortedIn (lexB nom tag) a mid d2) := by rw [hd2]; exact RT.out.one.none (by omega)
                obtain ⟨w2, hw2⟩ : ∃ w2, w2 = w1 := ⟨_, rfl⟩
                have T2 : Aside (SWK enc k w0 blk off d2 w2) := by rw [hd2, hw2]; exact T1.out
                clear hd2 T1
                subst hw2
                have RK : Aside (Mrg nom tag mid e b d2) := RT.out.two.kept (by omega) (by omega) P2.out (Or.inr (Nat.le_refl _))
                have n2 : Aside (d2.size = d.size) := P2.out.1.trans N1.out
                obtain ⟨d3, hd3⟩ : ∃ d3, d3 = d2 := ⟨_, rfl⟩
                have P3 : Aside (PermIn mid b d2 d3) := by rw [hd3]; exact permIn_refl d2 _ _
                have Q3 : Aside (SortedIn (lexB nom tag) mid b d3) := by rw [hd3]; exact RK.out.none (by omega)
                obtain ⟨w3, hw3⟩ : ∃ w3, w3 = w2 := ⟨_, rfl⟩
                have T3 : Aside (SWK enc k w0 blk off d3 w3) := by rw [hd3, hw3]; exact T2.out
                clear hd3 T2
                subst hw3
                go_wp2
                go_end0
                refine ⟨rfl, d3, T3.out, permIn_trans _ _ _ _ _ P1.out (permIn_trans _ _ _ _ _ (permIn_mono _ _ _ _ _ _ (Nat.le_refl _) (by omega) (by rw [N1.out]; exact hb) P2.out) (permIn_mono _ _ _ _ _ _ (by omega) (Nat.le_refl _) (by rw [n2.out]; exact hb) P3.out)), rott_done RT.out (by omega) (by omega) (by rw [N1.out]; exact hb) P2.out Q2.out P3.out Q3.out⟩
              · exfalso; omega
            · by_cases cD : e < b
              · exfalso; omega
              · exfalso; omega
end Go.Proofs.YtkmgildnhnjepaaGreatDoor
