/- The library's stable sort at pending transitions: whole. The library's stable sort at pending transitions, told as a list; the order's closure. Blocks of a call's own; rows of its own that are appended tto. No function of the program in it. -/
import Derived.Shelf.SlGeneric
import Derived.Shelf.SlLaysF0
import Derived.Test.YtkmgildnhnjepaaGreatDoorTM15
import Derived.Test.YtkmgildnhnjepaaGreatDoorTM11
import Derived.Test.YtkmgildnhnjepaaGreatDoorTM12
import Derived.Deep.AppendLies
import Derived.OwnWalk
import Derived.Laws.OwnMore
import Derived.Test.YtkmgildnhnjepaaGreatDoorTM10
namespace Go.Proofs.YtkmgildnhnjepaaGreatDoor
set_option linter.unusedVariables false
set_option linter.unusedSimpArgs false
open Go.Shelf Go.RowKit Go.Lib Go.Sort
def insRen : Go.Shelf.Ren := ⟨fun | 20 => 145 | n => n, fun | 24 => 163 | 22 => 142 | 3 => 3 | 25 => 165 | 4 => 4 | 0 => 0 | n => n, fun | n => n⟩
theorem insLay : Go.Proofs.SlLaysF0.n20 Tryz.prog insRen := {
  mixed := by kernel_rfl
  f20 := ⟨Tryz.f145.name, by decide, Tryz.func145.trans (congrArg some (by kernel_rfl))⟩
  t0 := Tryz.underlying0
  a0 := Tryz.isAgg0
  z0 := Tryz.sizeOf0
  v0 := Tryz.zeroValue0
  t3 := Tryz.underlying3
  a3 := Tryz.isAgg3
  z3 := Tryz.sizeOf3
  v3 := Tryz.zeroValue3
  t4 := Tryz.underlying4
  a4 := Tryz.isAgg4
  z4 := Tryz.sizeOf4
  v4 := Tryz.zeroValue4
  t22 := Tryz.underlying142
  a22 := Tryz.isAgg142
  z22 := Tryz.sizeOf142
  v22 := Tryz.zeroValue142
  t25 := Tryz.underlying165
  a25 := Tryz.isAgg165
  z25 := Tryz.sizeOf165
  v25 := Tryz.zeroValue165 }

theorem cmpLays_on {α : Type} [Inhabited α] {P : Program} {k : Nat} {enc : α → List Value} {cf : α → α → Int} {g : Nat} {cb : Array Value} {blk off size : Nat} {d : Array α} {w0 W : World} (S : SWK enc k w0 blk off d W) (hC : CmpLays P g cb enc k cf blk off size w0) (hblk : blk < w0.heap.size) (hs : d.size = size) : CmpLays P g cb enc k cf blk off size W := fun m os dk hdk x y => by
  obtain ⟨n, os', h⟩ := S.on hblk m dk os (by rw [hdk, hs])
  rw [h]; exact hC n os' dk hdk x y
/-- the insertion sort of a part -/
theorem insert_any {α : Type} [Inhabited α] (enc : α → List Value) (nom : α → Int) (tag : α → Nat) (cf : α → α → Int) (hcf : ltOf cf = nomB nom) (g : Nat) (cb : Array Value) (eg : ∀ args w, (callFunc g args).run Tryz.prog w = .ok (.enter g args) w)
    (blk off cap : Nat) (d0 : Array α) (w0 : World) (R : RowK enc 12 w0 blk off d0) (hC : CmpLays Tryz.prog g cb enc 12 cf blk off d0.size w0) (a b : Nat) (d : Array α) (w : World) (hs : d0.size = d.size) (S : SWK enc 12 w0 blk off d w) (hab : a ≤ b) (hb : b ≤ d.size) (hsz : d.size ≤ 100000) (ht : Tags tag a b a d) :
    Calls Tryz.prog 145 #[.slice (some ⟨blk, off, none⟩) d.size cap, .int .i64 a, .int .i64 b, .func (.func g) #[] cb] w fun e w' => e = .returned (.tuple #[]) ∧ ∃ d', SWK enc 12 w0 blk off d' w' ∧ PermIn a b d d' ∧ SortedIn (lexB nom tag) a b d' := by
  have h := AnyQ.insertionSortCmpFunc insLay 12 Tryz.isAgg163 Tryz.sizeOf163 enc R.hk R.h1 cf g cb blk off cap a b d w eg (by rw [← hs]; exact cmpLays_on S hC R.hblk hs.symm) (S.holds R.hblk R.hH hs.symm) (S.lt R.hblk) hab hb (by omega)
  change Calls Tryz.prog 145 _ _ _ at h
  refine h.mono ?_
  rintro e w' ⟨rfl, n, os, rfl⟩
  have t := insertion_tags (nom := nom) hab hb ht
  rw [hcf]
  exact ⟨rfl, _, S.on R.hblk n _ os t.1.1, t.1, t.2⟩
theorem symMerge_any {α : Type} [Inhabited α] {P : Program} {k : Nat} (L : SrtP P k) (enc : α → List Value) (nom : α → Int) (tag : α → Nat) (cf : α → α → Int) (hcf : ltOf cf = nomB nom) (g : Nat) (cb : Array Value) (eg : ∀ args w, (callFunc g args).run P w = .ok (.enter g args) w)
    (blk off cap : Nat) (d0 : Array α) (w0 : World) (R : RowK enc k w0 blk off d0) (hC : CmpLays P g cb enc k cf blk off d0.size w0) :
    ∀ (N a m b : Nat) (d : Array α) (w : World), b - a ≤ N → d0.size = d.size → SWK enc k w0 blk off d w → a < m → m < b → b ≤ d.size → d.size ≤ 100000 → Mrg nom tag a m b d →
    Calls P 146 #[.slice (some ⟨blk, off, none⟩) d.size cap, .int .i64 a, .int .i64 m, .int .i64 b, .func (.func g) #[] cb] w fun e w' => e = .returned (.tuple #[]) ∧ ∃ d', SWK enc k w0 blk off d' w' ∧ PermIn a b d d' ∧ SortedIn (lexB nom tag) a b d'
  | 0, a, m, b, d, w, hN, _, _, h1, h2, _, _, _ => by omega
  | N + 1, a, m, b, d, w, hN, hs, S, h1, h2, hb, hsz, hM => by
    by_cases c1 : m = a + 1
    · subst c1
      exact symMerge_left L enc nom tag cf hcf g cb eg blk off cap d0 w0 R hC a b d w hs S h2 hb hsz hM
    · by_cases c2 : b = m + 1
      · subst c2
        exact symMerge_right L enc nom tag cf hcf g cb eg blk off cap d0 w0 R hC a m d w hs S (by omega) hb hsz hM
      · exact symMerge_step L enc nom tag cf hcf g cb eg blk off cap d0 w0 R hC a m b d w hs S (by omega) (by omega) hb hsz hM (fun x y z e W k1 k2 k3 k4 k5 k6 k7 k8 => symMerge_any L enc nom tag cf hcf g cb eg blk off cap d0 w0 R hC N x y z e W (by omega) k2 k3 k4 k5 k6 k7 k8)

set_option maxHeartbeats 8000000 in
set_option maxRecDepth 1000000 in
theorem stable_any {α : Type} [Inhabited α] (enc : α → List Value) (nom : α → Int) (tag : α → Nat) (cf : α → α → Int) (hcf : ltOf cf = nomB nom) (g : Nat) (cb : Array Value) (eg : ∀ args w, (callFunc g args).run Tryz.prog w = .ok (.enter g args) w)
    (blk off cap : Nat) (d : Array α) (w : World) (R : RowK enc 12 w blk off d) (hC : CmpLays Tryz.prog g cb enc 12 cf blk off d.size w) (hsz : d.size ≤ 100000) (ht : ∀ p q, p < q → q < d.size → tag d[p]! < tag d[q]!) :
    Calls Tryz.prog 132 #[.slice (some ⟨blk, off, none⟩) d.size cap, .int .i64 d.size, .func (.func g) #[] cb] w fun e w' => e = .returned (.tuple #[]) ∧ ∃ d', SWK enc 12 w blk off d' w' ∧ PermIn 0 d.size d d' ∧ SortedIn (lexB nom tag) 0 d.size d' := by
  have S0 : Aside (SWK enc 12 w blk off d w) := SWK.start R.hH
  have R0 : Aside (Runs nom tag 1 d) := runs_one ht
  have KI : Aside (∀ (a b : Nat) (e : Array α) (W : World), d.size = e.size → SWK enc 12 w blk off e W → a ≤ b → b ≤ d.size → Tags tag a b a e → Calls Tryz.prog 145 #[.slice (some ⟨blk, off, none⟩) d.size cap, .int .i64 a, .int .i64 b, .func (.func g) #[] cb] W fun e' w' => e' = .returned (.tuple #[]) ∧ ∃ d', SWK enc 12 w blk off d' w' ∧ PermIn a b e d' ∧ SortedIn (lexB nom tag) a b d') := fun a b e W h1 h2 h3 h4 h5 => by
    have := insert_any enc nom tag cf hcf g cb eg blk off cap d w R hC a b e W h1 h2 h3 (by omega) (by omega) h5
    rwa [← h1] at this
  have KM : Aside (∀ (a m b : Nat) (e : Array α) (W : World), d.size = e.size → SWK enc 12 w blk off e W → a < m → m < b → b ≤ d.size → Mrg nom tag a m b e → Calls Tryz.prog 146 #[.slice (some ⟨blk, off, none⟩) d.size cap, .int .i64 a, .int .i64 m, .int .i64 b, .func (.func g) #[] cb] W fun e' w' => e' = .returned (.tuple #[]) ∧ ∃ d', SWK enc 12 w blk off d' w' ∧ PermIn a b e d' ∧ SortedIn (lexB nom tag) a b d') := fun a m b e W h1 h2 h3 h4 h5 h6 => by
    have := symMerge_any srtP enc nom tag cf hcf g cb eg blk off cap d w R hC (b - a) a m b e W (Nat.le_refl _) h1 h2 h3 h4 (by omega) (by omega) h6
    rwa [← h1] at this
  clear hC hcf ht R
  go_enter Tryz.func132, Tryz.ntmps132
  go_wp2_with fail
  obtain ⟨n, hn⟩ : ∃ n, d.size = n := ⟨_, rfl⟩
  rw [hn] at KI KM hsz
  have HN : Aside _ := hn
  rw [hn]
  clear hn
  go_loopg [7, 8] n (fun kx s7 s8 wr => ∃ (a : Nat) (dk : Array α), s7 = .int .i64 a ∧ s8 = .int .i64 ((a : Int) + 20) ∧ a ≤ n ∧ n - a ≤ kx ∧ Aside (dk.size = n) ∧ Aside (20 ∣ a) ∧ Aside (SWK enc 12 w blk off dk wr) ∧ Aside (Ph nom tag 1 20 a dk) ∧ Aside (PermIn 0 n d dk))
  case atStart => exact ⟨0, d, rfl, by go_num, Nat.zero_le _, Nat.le_refl _, HN.out, Nat.dvd_zero _, S0, R0.out.ph (Nat.one_dvd _) (by omega), permIn_refl d _ _⟩
  case round =>
    clear S0 R0
    obtain ⟨a, dk, rfl, rfl, ha, hkx, HD, HV, S1, H1, P1⟩ := hrel
    by_cases hlt : a + 20 ≤ n
    · have hlz : (a : Int) + 20 ≤ (n : Int) := by omega
      have hr := KI.out a (a + 20) dk wr HD.out.symm S1.out (by omega) hlt (H1.out.tags (by rw [HD.out]; exact hlt))
      rw [show ((a + 20 : Nat) : Int) = (a : Int) + 20 by omega] at hr
      go_wp2_with (go_at_call 145; refine hr.mono ?_; rintro e w1 ⟨rfl, d1, T1, Q1, O1⟩)
      go_roundg (n - (a + 20))
      case measure => omega
      case rel => exact ⟨a + 20, d1, by go_num, by go_num, hlt, Nat.le_refl _, Q1.1.trans HD.out, (Nat.dvd_add_right HV.out).2 (Nat.dvd_refl _), T1, H1.out.step HV.out (by rw [HD.out]; exact hlt) Q1 O1, permIn_trans _ _ _ _ _ P1.out (permIn_mono _ _ _ _ _ _ (Nat.zero_le _) hlt (by rw [HD.out]; exact Nat.le_refl _) Q1)⟩
    · have hlz : ¬ (a : Int) + 20 ≤ (n : Int) := by omega
      have hr := KI.out a n dk wr HD.out.symm S1.out ha (Nat.le_refl _) (H1.out.tags (by rw [HD.out]; exact Nat.le_refl _))
      go_wp2_with (go_at_call 145; refine hr.mono ?_; rintro e w1 ⟨rfl, d1, T1, Q1, O1⟩)
      have R1 : Aside (Runs nom tag 20 d1) := H1.out.done HV.out (by rw [HD.out]; exact ha) (by rw [HD.out]; omega) (by rw [HD.out]; exact Q1) (by rw [HD.out]; exact O1)
      have P2 : Aside (PermIn 0 n d d1) := permIn_trans _ _ _ _ _ P1.out (permIn_mono _ _ _ _ _ _ (Nat.zero_le _) (Nat.le_refl _) (by rw [HD.out]; exact Nat.le_refl _) Q1)
      have D1 : Aside (d1.size = n) := Q1.1.trans HD.out
      have T1 : Aside (SWK enc 12 w blk off d1 w1) := T1
      clear hr O1 Q1 S1 H1 P1 HV HD hlt hlz hkx
      go_loopg [6] n (fun kx s6 wr => ∃ (bs : Nat) (dk : Array α), s6 = .int .i64 bs ∧ 0 < bs ∧ bs ≤ 200000 ∧ n - bs ≤ kx ∧ Aside (dk.size = n) ∧ Aside (SWK enc 12 w blk off dk wr) ∧ Aside (Runs nom tag bs dk) ∧ Aside (PermIn 0 n d dk))
      case atStart => exact ⟨20, d1, rfl, by omega, by omega, by omega, D1, T1, R1, P2⟩
      case round =>
        clear D1 T1 R1 P2
        obtain ⟨bs, dk, rfl, hb0, hb1, hkx, HD, S1, R1, P1⟩ := hrel
        by_cases hlt : bs < n
        · have hlz : (bs : Int) < (n : Int) := by omega
          go_wp2_with fail
          go_loopg [7, 8] n (fun kz s7 s8 wz => ∃ (a : Nat) (dz : Array α), s7 = .int .i64 a ∧ s8 = .int .i64 ((a : Int) + 2 * (bs : Int)) ∧ a ≤ n ∧ n - a ≤ kz ∧ Aside (dz.size = n) ∧ Aside (2 * bs ∣ a) ∧ Aside (SWK enc 12 w blk off dz wz) ∧ Aside (Ph nom tag bs (2 * bs) a dz) ∧ Aside (PermIn 0 n d dz))
          case atStart => exact ⟨0, dk, by go_num, by go_num, Nat.zero_le _, Nat.le_refl _, HD, Nat.dvd_zero _, S1, R1.out.ph (Nat.dvd_mul_left bs 2) (by omega), P1⟩
          case round =>
            clear S1 R1 P1 HD
            obtain ⟨a, dz, rfl, rfl, ha, hkz, HD, HV, S1, H1, P1⟩ := hrel
            have HU : Aside (bs ∣ a) := Nat.dvd_trans (Nat.dvd_mul_left bs 2) HV.out
            by_cases hle : a + 2 * bs ≤ n
            · have hlez : (a : Int) + 2 * (bs : Int) ≤ (n : Int) := by omega
              have hr := KM.out a (a + bs) (a + 2 * bs) dz wr HD.out.symm S1.out (by omega) (by omega) hle (H1.out.mrg HU.out (by rw [HD.out]; omega) (by omega) (by rw [HD.out]; exact hle))
              rw [show ((a + bs : Nat) : Int) = (a : Int) + (bs : Int) by omega, show ((a + 2 * bs : Nat) : Int) = (a : Int) + 2 * (bs : Int) by omega] at hr
              go_wp2_with (go_at_call 146; refine hr.mono ?_; rintro e w1 ⟨rfl, d1, T1, Q1, O1⟩)
              go_roundg (n - (a + 2 * bs))
              case measure => omega
              case rel => exact ⟨a + 2 * bs, d1, by go_num, by go_num, hle, Nat.le_refl _, Q1.1.trans HD.out, (Nat.dvd_add_right HV.out).2 (Nat.dvd_refl _), T1, H1.out.step HV.out (by rw [HD.out]; exact hle) Q1 O1, permIn_trans _ _ _ _ _ P1.out (permIn_mono _ _ _ _ _ _ (Nat.zero_le _) hle (by rw [HD.out]; exact Nat.le_refl _) Q1)⟩
            · have hlez : ¬ (a : Int) + 2 * (bs : Int) ≤ (n : Int) := by omega
              by_cases hm : a + bs < n
              · have hmz : (a : Int) + (bs : Int) < (n : Int) := by omega
                have hr := KM.out a (a + bs) n dz wr HD.out.symm S1.out (by omega) (by omega) (Nat.le_refl _) (H1.out.mrg HU.out (by rw [HD.out]; omega) (by omega) (by rw [HD.out]; exact Nat.le_refl _))
                rw [show ((a + bs : Nat) : Int) = (a : Int) + (bs : Int) by omega] at hr
                go_wp2_with (go_at_call 146; refine hr.mono ?_; rintro e w1 ⟨rfl, d1, T1, Q1, O1⟩)
                go_roundg (n - 2 * bs)
                case measure => omega
                case rel => exact ⟨2 * bs, d1, by first | go_num | (congr 1; omega), by omega, by omega, Nat.le_refl _, Q1.1.trans HD.out, T1, H1.out.done HV.out (by rw [HD.out]; exact ha) (by rw [HD.out]; omega) (by rw [HD.out]; exact Q1) (by rw [HD.out]; exact O1), permIn_trans _ _ _ _ _ P1.out (permIn_mono _ _ _ _ _ _ (Nat.zero_le _) (Nat.le_refl _) (by rw [HD.out]; exact Nat.le_refl _) Q1)⟩
              · have hmz : ¬ (a : Int) + (bs : Int) < (n : Int) := by omega
                have O1 : Aside (SortedIn (lexB nom tag) a n dz) := by have := H1.out.rest HU.out (by rw [HD.out]; omega); rwa [HD.out] at this
                go_wp2
                go_roundg (n - 2 * bs)
                case measure => omega
                case rel => exact ⟨2 * bs, dz, by first | go_num | (congr 1; omega), by omega, by omega, Nat.le_refl _, HD, S1, H1.out.done HV.out (by rw [HD.out]; exact ha) (by rw [HD.out]; omega) (permIn_refl _ _ _) (by rw [HD.out]; exact O1.out), P1⟩
        · have hlz : ¬ (bs : Int) < (n : Int) := by omega
          go_wp2
          go_end0
          refine ⟨rfl, dk, S1.out, by rw [HN.out]; exact P1.out, ?_⟩
          have := R1.out.all (by rw [HD.out]; omega)
          rw [HN.out]
          rwa [HD.out] at this
end Go.Proofs.YtkmgildnhnjepaaGreatDoor
namespace Go.Proofs.YtkmgildnhnjepaaGreatDoor
set_option linter.unusedVariables false
set_option linter.unusedSimpArgs false
open Go.Shelf Go.RowKit Go.Lib Go.Sort
def encP (x : PenD × Nat) : List Value := x.1.cells
def cfP (x y : PenD × Nat) : Int := Lib.compareInt x.1.no y.1.no
theorem cfP_lt : ltOf cfP = nomB (keyT PenD.no) := by
  funext x y
  unfold ltOf nomB cfP Lib.compareInt keyT
  exact decide_eq_decide.2 (by (repeat' split) <;> omega)
theorem encP_len (x : PenD × Nat) : (encP x).length = 12 := rfl
theorem encP_one (x : PenD × Nat) : ∀ v ∈ encP x, v.oneCell' = true := fun u hu => by simp [encP, PenD.cells, RuD.cells] at hu; rcases hu with rfl | rfl | rfl | rfl | rfl | rfl | rfl | rfl | rfl | rfl | rfl | rfl <;> rfl

set_option maxHeartbeats 1000000 in
theorem isNaN_any (x : Int) (W : World) : Calls Tryz.prog 133 #[.int .i64 x] W fun e w' => e = .returned (.bool false) ∧ w' = W := by
  go_enter Tryz.func133, Tryz.ntmps133
  go_wp2
  go_ret
  simp

set_option maxHeartbeats 1000000 in
theorem compare_any (x y : Int) (W : World) : Calls Tryz.prog 115 #[.int .i64 x, .int .i64 y] W fun e w' => e = .returned (.int .i64 (Lib.compareInt x y)) ∧ w' = W := by
  have K := fun x W => isNaN_any x W
  unfold Lib.compareInt
  go_enter Tryz.func115, Tryz.ntmps115
  go_wp2_with (go_at_call 133; refine (K _ _).mono ?_; rintro e w1 ⟨rfl, rfl⟩)
  all_goals (go_ret; refine ⟨?_, rfl⟩; (repeat' split) <;> first | rfl | (exfalso; omega))

set_option maxHeartbeats 1000000 in
theorem order_any (x y : PenD × Nat) (W : World) : Calls Tryz.prog 114 #[.agg (encP x).toArray, .agg (encP y).toArray] W fun e w' => e = .returned (.int .i64 (cfP x y)) ∧ ∃ q os', w' = grow (W.drewN q) os' := by
  obtain ⟨⟨nx, ⟨znm, fr, tt, mo, zk, d, n, at', by', sv, lt⟩⟩, ix⟩ := x
  obtain ⟨⟨ny, ⟨znm2, fr2, tt2, mo2, zk2, d2, n2, at2, by2, sv2, lt2⟩⟩, iy⟩ := y
  have K := fun W => compare_any nx ny W
  unfold cfP
  simp only [encP, PenD.cells, RuD.cells, List.cons_append, List.nil_append]
  generalize Lib.compareInt nx ny = r at K ⊢
  go_enter Tryz.func114, Tryz.ntmps114
  go_wp2_with (go_at_call 115; refine (K _).mono ?_; rintro e w1 ⟨rfl, rfl⟩)
  go_ret
  exact ⟨rfl, 0, _, by rw [alloc_eq_grow, alloc_eq_grow, grow_grow]; rfl⟩
theorem order_lays (blk off size : Nat) (w : World) : CmpLays Tryz.prog 114 #[] encP 12 cfP blk off size w := fun _ _ _ _ x y => order_any x y _

theorem holds_of_row {w : World} {b : Nat} {cur : Array Value} {T : TypeId} {l : List PenD} (hb : w.heap[b]? = some (.cells cur T (0, 0))) (hr : Row w 12 PenD.cells (some ⟨b, 0, none⟩) l) : HoldsK encP 12 w b 0 l.zipIdx.toArray := fun t ht => by
  rw [size_flatK] at ht
  have hs : l.zipIdx.toArray.size = l.length := by simp
  rw [hs] at ht
  have hi : t / 12 < l.length := Nat.div_lt_of_lt_mul (by omega)
  obtain ⟨p, hp⟩ := get_lt hi
  have he : l.zipIdx.toArray[t / 12]! = (p, t / 12) := by
    rw [getElem!_pos _ (t / 12) (by rw [hs]; exact hi)]
    simp [(List.getElem?_eq_some_iff.1 hp).2]
  refine ⟨?_, unfrozen hb⟩
  rw [get_flatK _ _ _ _ (by rw [hs]; exact ht), he]
  obtain ⟨b', off', e, _, hc⟩ := hr _ _ hp
  injection e with e; injection e with e1 e2
  subst e1; subst e2
  have hj : t % 12 < (encP (p, t / 12)).length := by rw [encP_len]; omega
  have := hc (t % 12) ((encP (p, t / 12))[t % 12]!) (by rw [getElem!_pos (encP (p, t / 12)) (t % 12) hj]; exact List.getElem?_eq_getElem hj)
  rwa [show 0 + t / 12 * 12 + t % 12 = 0 + t by omega] at this
theorem row_of_holds {w : World} {b : Nat} {d : Array (PenD × Nat)} (hb : b < w.heap.size) (h : HoldsK encP 12 w b 0 d) : Row w 12 PenD.cells (some ⟨b, 0, none⟩) (d.toList.map (·.1)) := fun i x hx => by
  rw [List.getElem?_map] at hx
  obtain ⟨y, hy, rfl⟩ := Option.map_eq_some_iff.1 hx
  have hi : i < d.size := by simpa using (List.getElem?_eq_some_iff.1 hy).1
  have hd : d[i]! = y := by
    rw [getElem!_pos d i hi]
    simpa using (List.getElem?_eq_some_iff.1 hy).2
  refine ⟨b, 0, rfl, hb, fun j v hv => ?_⟩
  have hj : j < 12 := (List.getElem?_eq_some_iff.1 hv).1
  have := (h.cell hi hj).1
  rw [hd] at this
  rw [this]
  have e : (encP y)[j]? = some v := hv
  rw [List.getElem?_eq_some_iff] at e
  obtain ⟨q, e⟩ := e
  rw [getElem!_pos (encP y) j q, e]
theorem swk_below {α : Type} [Inhabited α] {enc : α → List Value} {k blk off B : Nat} {d : Array α} {w W : World} (S : SWK enc k w blk off d W) (h : B ≤ blk) (hB : B ≤ w.heap.size) : Go.RowKit.Below B w W := by
  obtain ⟨n, os, rfl⟩ := S
  refine ⟨rfl, rfl, rfl, ?_, fun j hj => ?_⟩
  · exact size_sortWorldK_c enc k w blk off n d os
  · show (w.heap.modify blk _ ++ os)[j]? = w.heap[j]?
    rw [Array.getElem?_append_left (by rw [Array.size_modify]; omega), Array.getElem?_modify, if_neg (by omega)]

set_option maxHeartbeats 1000000 in
set_option maxRecDepth 100000 in
/-- SortStableFunc by nominal times -/
theorem sort_any (l : List PenD) (b cap : Nat) (w : World) {cur : Array Value} {T : TypeId} (hb : w.heap[b]? = some (.cells cur T (0, 0))) (hr : Row w 12 PenD.cells (some ⟨b, 0, none⟩) l) (hl : l.length ≤ 100000) :
    Calls Tryz.prog 113 #[.slice (some ⟨b, 0, none⟩) l.length cap, .func (.func 114) #[] #[]] w fun e w' => e = .returned (.tuple #[]) ∧ Row w' 12 PenD.cells (some ⟨b, 0, none⟩) (stab PenD.no l) ∧ ∀ B, B ≤ b → Go.RowKit.Below B w w' := by
  have eg : ∀ args w, (callFunc 114 args).run Tryz.prog w = .ok (.enter 114 args) w := enters_of Tryz.func114 (by kernel_rfl) rfl
  have hs : l.zipIdx.toArray.size = l.length := by simp
  have hH := holds_of_row hb hr
  have hlt : b < w.heap.size := (Array.getElem?_eq_some_iff.1 hb).1
  have R : RowK encP 12 w b 0 l.zipIdx.toArray := ⟨encP_len, encP_one, hH, hlt⟩
  have K := stable_any encP (keyT PenD.no) tagT cfP cfP_lt 114 #[] eg b 0 cap l.zipIdx.toArray w R (order_lays _ _ _ _) (by rw [hs]; exact hl) zip_grow
  rw [hs] at K
  have HL : Aside (∀ (d' : Array (PenD × Nat)) (w' : World), SWK encP 12 w b 0 d' w' → PermIn 0 l.length l.zipIdx.toArray d' → SortedIn (lexB (keyT PenD.no) tagT) 0 l.length d' → Row w' 12 PenD.cells (some ⟨b, 0, none⟩) (stab PenD.no l) ∧ ∀ B, B ≤ b → Go.RowKit.Below B w w') := fun d' w' S P Q => by
    have e := sorted_list (key := PenD.no) (l := l) (d' := d') (by rw [hs]; exact P) (by rw [hs]; exact Q)
    rw [← e]
    exact ⟨row_of_holds (S.lt hlt) (S.holds hlt hH (P.1)), fun B hB => swk_below S hB (by omega)⟩
  clear hb hr hH R hs hlt eg
  go_enter Tryz.func113, Tryz.ntmps113
  go_wp2_with (go_at_call 132; refine K.mono ?_; rintro e w1 ⟨rfl, d', S, P, Q⟩)
  go_end0
  exact ⟨rfl, HL.out d' w1 S P Q⟩
end Go.Proofs.YtkmgildnhnjepaaGreatDoor
namespace Go.Proofs.YtkmgildnhnjepaaGreatDoor
set_option linter.unusedVariables false
set_option linter.unusedSimpArgs false
open Go.RowKit
theorem bheap_gr {W W' : World} {B : Nat} {o : Obj} (g : Gr W W') (h : W.heap[B]? = some o) : W'.heap[B]? = some o := by
  have hb : B < W.heap.size := by
    by_cases c : B < W.heap.size
    · exact c
    · rw [Array.getElem?_eq_none (by omega)] at h; cases h
  rw [Below.block g B hb]; exact h
theorem bheap_new (W : World) (o : Obj) : (W.alloc o).heap[W.heap.size]? = some o := by unfold World.alloc; simp
theorem box_one (w : World) (o : Obj) : Gr w (w.alloc o) ∧ (w.alloc o).heap[w.heap.size]? = some o := ⟨Gr.alloc w o, bheap_new w o⟩
theorem box_two (w : World) (o1 o2 : Obj) : Gr w ((w.alloc o1).alloc o2) ∧ ((w.alloc o1).alloc o2).heap[w.heap.size]? = some o1 ∧ ((w.alloc o1).alloc o2).heap[w.heap.size + 1]? = some o2 := by
  refine ⟨(Gr.alloc w o1).alloc' o2, bheap_gr (Gr.alloc _ o2) (bheap_new w o1), ?_⟩
  have := bheap_new (w.alloc o1) o2
  rwa [show (w.alloc o1).heap.size = w.heap.size + 1 by unfold World.alloc; simp] at this
theorem bcell_row {W : World} {b i : Nat} {cs : Array Value} {T : TypeId} {v : Value} (h : W.heap[b]? = some (.cells cs T (0, 0))) (hv : cs[i]? = some v) : W.cell? ⟨b, i, none⟩ = some v := by simp [World.cell?, h, hv]
theorem flat_get {α : Type} {enc : α → List Value} {k : Nat} (hk : ∀ x, (enc x).length = k) : ∀ (l : List α) (i : Nat) (x : α), l[i]? = some x → ∀ j v, (enc x)[j]? = some v → (l.flatMap enc)[i * k + j]? = some v
  | [], i, x, h => by simp at h
  | y :: l, 0, x, h => fun j v hv => by
    have e : y = x := by simpa using h
    subst e
    have hj : j < (enc y).length := (List.getElem?_eq_some_iff.1 hv).1
    rw [List.flatMap_cons, Nat.zero_mul, Nat.zero_add, List.getElem?_append_left hj]; exact hv
  | y :: l, i + 1, x, h => fun j v hv => by
    have h' : l[i]? = some x := by simpa using h
    have := flat_get hk l i x h' j v hv
    rw [List.flatMap_cons, List.getElem?_append_right (by rw [hk y, Nat.add_mul]; omega), hk y, show (i + 1) * k + j - k = i * k + j by rw [Nat.add_mul]; omega]
    exact this
theorem flat_len {α : Type} {enc : α → List Value} {k : Nat} (hk : ∀ x, (enc x).length = k) : ∀ (l : List α), (l.flatMap enc).length = l.length * k
  | [] => by simp
  | y :: l => by rw [List.flatMap_cons, List.length_append, flat_len hk l, hk y, List.length_cons, Nat.add_mul]; omega
/-- a row of the call's own: the things of l, each in k cells -/
def Own {α : Type} (w : World) (base : Nat) (e : TypeId) (k : Nat) (enc : α → List Value) (v : Value) (l : List α) : Prop := w.ownsRow base e k v l.length (l.flatMap enc)
section
variable {α : Type} {w w' : World} {base k : Nat} {e : TypeId} {enc : α → List Value} {v : Value} {l : List α}
theorem Own.nil_ (w : World) (base : Nat) (e : TypeId) (k : Nat) (enc : α → List Value) : Own w base e k enc (.slice none 0 0) ([] : List α) := ⟨by simp, Or.inl ⟨rfl, rfl⟩⟩
theorem Own.gr (h : Own w base e k enc v l) (g : Gr w w') : Own w' base e k enc v l :=
  World.ownsRow.kept (row := none) h ⟨g.os, g.tape, g.output, Below.size g, fun i hi _ => g.block i hi⟩ (by cases v.ownBlock <;> simp)
theorem Own.form (h : Own w base e k enc v l) : ∃ A c, v = .slice A l.length c ∧ l.length ≤ c ∧ c ≤ maxLen ∧ (∀ a, A = some a → a.off = 0 ∧ a.spot = none ∧ base ≤ a.block ∧ a.block < w.heap.size) := by
  rcases h.2 with ⟨rfl, h0⟩ | ⟨g, cap, cur, rfl, hb, hg, h1, h2, _⟩
  · exact ⟨none, 0, by rw [h0], by omega, Nat.zero_le _, fun a ha => by cases ha⟩
  · exact ⟨some ⟨g, 0, none⟩, cap, rfl, h1, h2, fun a ha => by injection ha with ha; subst ha; exact ⟨rfl, rfl, hb, (Array.getElem?_eq_some_iff.1 hg).1⟩⟩
theorem Own.row {A : Option Addr} {n c : Nat} (hk : ∀ x, (enc x).length = k) (h : Own w base e k enc (.slice A n c) l) : Row w k enc A l := fun i x hx => by
  rcases h.2 with ⟨hv, h0⟩ | ⟨g, cap, cur, hv, hb, hg, _⟩
  · have : i < l.length := (List.getElem?_eq_some_iff.1 hx).1
    omega
  · injection hv with hA
    subst hA
    refine ⟨g, 0, rfl, (Array.getElem?_eq_some_iff.1 hg).1, fun j u hu => ?_⟩
    have h2 := World.ownsRow.cells h (g := g) rfl (i * k + j) u (flat_get hk l i x hx j u hu)
    rwa [show (⟨g, 0, none⟩ : Addr).add (i * k + j) = ⟨g, 0 + i * k + j, none⟩ by unfold Addr.add; split <;> simp_all] at h2
end
/-- the row with one thing more -/
theorem own_more {α : Type} {w : World} {base k : Nat} {e : TypeId} {enc : α → List Value} {v : Value} {l l' : List α} {x : α} (hl : l' = l ++ [x]) (h : w.ownsRow base e k v (l.length + 1) (l.flatMap enc ++ enc x)) : Own w base e k enc v l' := by
  subst hl
  unfold Own
  rw [List.length_append, List.flatMap_append]
  simpa using h
theorem own_base {α : Type} {w : World} {base k : Nat} {e : TypeId} {enc : α → List Value} {v : Value} {l : List α} (h : Own w base e k enc v l) : ∀ j, v.ownBlock = some j → base ≤ j := fun j hj => (World.ownsRow.lt h j hj).1
/-- what lay below the base lies so still -/
theorem grown_gr {a w w' : World} {row : Option Nat} (h : Gr a w) (g : w.grownBy w' row) (hr : ∀ j, row = some j → a.heap.size ≤ j) : Gr a w' :=
  Below.grown h g (Below.size h) (fun j hj => hr j hj)
theorem ru_len (r : RuD) : r.cells.length = 11 := rfl
theorem er_len (r : EraD) : r.cells.length = 5 := rfl
theorem ru_one (r : RuD) : ∀ u ∈ r.cells, u.oneCell' = true := fun u hu => by simp [RuD.cells] at hu; rcases hu with rfl | rfl | rfl | rfl | rfl | rfl | rfl | rfl | rfl | rfl | rfl <;> rfl
theorem er_one (r : EraD) : ∀ u ∈ r.cells, u.oneCell' = true := fun u hu => by simp [EraD.cells] at hu; rcases hu with rfl | rfl | rfl | rfl | rfl <;> rfl
end Go.Proofs.YtkmgildnhnjepaaGreatDoor
