/- What the project's ReadSpan returns, by the parts of the text: the walk. -/
import Derived.Test.YtkkilmmpmiichaaGreatDoorYM24
namespace Go.Proofs.YtkkilmmpmiichaaGreatDoor
set_option linter.unusedVariables false
set_option linter.unusedSimpArgs false
open Go.RowKit
/-- the answer out of whether the parts are good and what they tell -/
def rdOut (g : Bool) (n : Int) : Ending := if g = true ∧ -604800 ≤ n ∧ n ≤ 604800 then two n 0 else two 0 3
theorem rdOut_no {g : Bool} {n : Int} (h : ¬ (g = true ∧ -604800 ≤ n ∧ n ≤ 604800)) : two 0 3 = rdOut g n := by unfold rdOut; rw [if_neg h]
theorem rdOut_yes {g : Bool} {n : Int} (h : g = true ∧ -604800 ≤ n ∧ n ≤ 604800) : two n 0 = rdOut g n := by unfold rdOut; rw [if_pos h]
theorem box_new (w : World) : Box (w.alloc (.cells #[.bool true] 4)) w.heap.size true := by
  unfold Box World.alloc; simp
/-- what a call on the text leaves -/
abbrev Gives (f : Nat) (args : Array Value) (v : Value) : Prop := ∀ w, Calls Tryz.prog f args w fun e w' => e = .returned v ∧ Gr w w'
/-- what a check of a part leaves -/
abbrev Checks (s : ByteArray) (dgt lo hi x : Int) (c : Bool) : Prop := ∀ (g : Bool) (b : Nat) (w : World), Box w b g →
  Calls Tryz.prog 118 #[.string s, .int .i64 dgt, .int .i64 lo, .int .i64 hi, .pointer (some ⟨b, 0, none⟩)] w (Checked b w x (g && c))

set_option maxRecDepth 100000 in
set_option maxHeartbeats 4000000 in
theorem readSpan_pos_min (s t h r m sec : ByteArray) (f ch cm cs : Bool) (wd xh xm xs : Int) (w : World)
    (KP : Hid (Gives 92 #[.string s, .string ⟨#[45]⟩] (.tuple #[.string t, .bool false])))
    (KC1 : Hid (Gives 47 #[.string t, .string ⟨#[58]⟩] (.tuple #[.string h, .string r, .bool f])))
    (KC2 : Hid (Gives 47 #[.string r, .string ⟨#[58]⟩] (.tuple #[.string m, .string sec, .bool false])))
    (KW : Hid (Gives 120 #[.string h] (.int .i64 wd)))
    (KH : Hid (Checks h wd 0 168 xh ch)) (KM : Hid (Checks m 2 0 59 xm cm)) (KS : Hid (Checks sec 2 1 59 xs cs))
    (h1 : 0 ≤ xh) (h2 : xh ≤ 9999) (m1 : 0 ≤ xm) (m2 : xm ≤ 9999) (s1 : 0 ≤ xs) (s2 : xs ≤ 9999) :
    Calls Tryz.prog 91 #[.string s] w fun e w' => e = rdOut (ch && cm) (xh * 3600 + xm * 60) ∧ Gr w w' := by
  have bx := Lib.hid (box_new w)
  have lo := Lib.hid (Gr.alloc w (.cells #[.bool true] 4))
  go_enter Tryz.func91, Tryz.ntmps91
  go_wp2_with fail
  unfold Gr at lo
  generalize w.alloc (.cells #[.bool true] 4) = w1 at bx lo ⊢
  generalize hbb : w.heap.size = b at bx lo ⊢
  have HBB := Lib.hid hbb
  clear hbb
  refine (KP.out w1).mono ?_
  rintro e w2 ⟨rfl, g2⟩
  have bx2 := Lib.hid (bx.out.gr g2)
  have lo2 := Lib.hid (lo.out.trans (Below.mono g2 (Nat.le_of_lt bx.out.lt)))
  clear g2 bx lo
  go_wp2_with fail
  refine (KC1.out w2).mono ?_
  rintro e w3 ⟨rfl, g3⟩
  have bx3 := Lib.hid (bx2.out.gr g3)
  have lo3 := Lib.hid (lo2.out.trans (Below.mono g3 (Nat.le_of_lt bx2.out.lt)))
  clear g3 bx2 lo2
  go_wp2_with fail
  refine (KC2.out w3).mono ?_
  rintro e w4 ⟨rfl, g4⟩
  have bx4 := Lib.hid (bx3.out.gr g4)
  have lo4 := Lib.hid (lo3.out.trans (Below.mono g4 (Nat.le_of_lt bx3.out.lt)))
  clear g4 bx3 lo3
  go_wp2_with fail
  refine (KW.out w4).mono ?_
  rintro e w5 ⟨rfl, g5⟩
  have bx5 := Lib.hid (bx4.out.gr g5)
  have lo5 := Lib.hid (lo4.out.trans (Below.mono g5 (Nat.le_of_lt bx4.out.lt)))
  clear g5 bx4 lo4
  go_wp2_with fail
  refine (KH.out true b w5 bx5.out).mono ?_
  rintro e w6 ⟨rfl, q6, l6⟩
  have bx6 := Lib.hid q6
  have lo6 := Lib.hid (lo5.out.trans l6)
  clear q6 l6 bx5 lo5
  go_wp2_with fail
  refine (KM.out (true && ch) b w6 bx6.out).mono ?_
  rintro e w7 ⟨rfl, q7, l7⟩
  rw [Bool.true_and] at q7
  have bx7 := Lib.hid q7
  have lo7 := Lib.hid (lo6.out.trans l7)
  clear q7 l7 bx6 lo6
  clear KP KC1 KC2 KW KH KM KS
  generalize hG : (ch && cm) = G at bx7 ⊢
  have HG := Lib.hid hG
  clear hG
  have hc := bx7.out.cell
  have hf := bx7.out.frozen
  have N1 : 0 ≤ xh * 3600 + xm * 60 := by omega
  have N2 : xh * 3600 + xm * 60 ≤ 100000000 := by omega
  cases G with
  | false =>
    have E := Lib.hid (rdOut_no (g := false) (n := xh * 3600 + xm * 60) (fun q => by cases q.1))
    clear N1 N2
    go_wp2
    go_ret2
    exact ⟨by rw [HG.out]; exact E.out, by unfold Gr; rw [HBB.out]; exact lo7.out⟩
  | true =>
    by_cases c : 604800 < xh * 3600 + xm * 60
    · have E := Lib.hid (rdOut_no (g := true) (n := xh * 3600 + xm * 60) (fun q => by omega))
      have t1 : ¬ xh * 3600 + xm * 60 < -604800 := by omega
      have t1' := ltF t1
      go_wp2
      go_ret2
      exact ⟨by rw [HG.out]; exact E.out, by unfold Gr; rw [HBB.out]; exact lo7.out⟩
    · have E := Lib.hid (rdOut_yes (g := true) (n := xh * 3600 + xm * 60) ⟨rfl, by omega, by omega⟩)
      have t1 : ¬ xh * 3600 + xm * 60 < -604800 := by omega
      have t1' := ltF t1
      have c' := ltF c
      go_wp2
      go_ret2
      exact ⟨by rw [HG.out]; exact E.out, by unfold Gr; rw [HBB.out]; exact lo7.out⟩

set_option maxRecDepth 100000 in
set_option maxHeartbeats 4000000 in
theorem readSpan_pos_sec (s t h r m sec : ByteArray) (f ch cm cs : Bool) (wd xh xm xs : Int) (w : World)
    (KP : Hid (Gives 92 #[.string s, .string ⟨#[45]⟩] (.tuple #[.string t, .bool false])))
    (KC1 : Hid (Gives 47 #[.string t, .string ⟨#[58]⟩] (.tuple #[.string h, .string r, .bool f])))
    (KC2 : Hid (Gives 47 #[.string r, .string ⟨#[58]⟩] (.tuple #[.string m, .string sec, .bool true])))
    (KW : Hid (Gives 120 #[.string h] (.int .i64 wd)))
    (KH : Hid (Checks h wd 0 168 xh ch)) (KM : Hid (Checks m 2 0 59 xm cm)) (KS : Hid (Checks sec 2 1 59 xs cs))
    (h1 : 0 ≤ xh) (h2 : xh ≤ 9999) (m1 : 0 ≤ xm) (m2 : xm ≤ 9999) (s1 : 0 ≤ xs) (s2 : xs ≤ 9999) :
    Calls Tryz.prog 91 #[.string s] w fun e w' => e = rdOut (ch && cm && cs) (xh * 3600 + xm * 60 + xs) ∧ Gr w w' := by
  have bx := Lib.hid (box_new w)
  have lo := Lib.hid (Gr.alloc w (.cells #[.bool true] 4))
  go_enter Tryz.func91, Tryz.ntmps91
  go_wp2_with fail
  unfold Gr at lo
  generalize w.alloc (.cells #[.bool true] 4) = w1 at bx lo ⊢
  generalize hbb : w.heap.size = b at bx lo ⊢
  have HBB := Lib.hid hbb
  clear hbb
  refine (KP.out w1).mono ?_
  rintro e w2 ⟨rfl, g2⟩
  have bx2 := Lib.hid (bx.out.gr g2)
  have lo2 := Lib.hid (lo.out.trans (Below.mono g2 (Nat.le_of_lt bx.out.lt)))
  clear g2 bx lo
  go_wp2_with fail
  refine (KC1.out w2).mono ?_
  rintro e w3 ⟨rfl, g3⟩
  have bx3 := Lib.hid (bx2.out.gr g3)
  have lo3 := Lib.hid (lo2.out.trans (Below.mono g3 (Nat.le_of_lt bx2.out.lt)))
  clear g3 bx2 lo2
  go_wp2_with fail
  refine (KC2.out w3).mono ?_
  rintro e w4 ⟨rfl, g4⟩
  have bx4 := Lib.hid (bx3.out.gr g4)
  have lo4 := Lib.hid (lo3.out.trans (Below.mono g4 (Nat.le_of_lt bx3.out.lt)))
  clear g4 bx3 lo3
  go_wp2_with fail
  refine (KW.out w4).mono ?_
  rintro e w5 ⟨rfl, g5⟩
  have bx5 := Lib.hid (bx4.out.gr g5)
  have lo5 := Lib.hid (lo4.out.trans (Below.mono g5 (Nat.le_of_lt bx4.out.lt)))
  clear g5 bx4 lo4
  go_wp2_with fail
  refine (KH.out true b w5 bx5.out).mono ?_
  rintro e w6 ⟨rfl, q6, l6⟩
  have bx6 := Lib.hid q6
  have lo6 := Lib.hid (lo5.out.trans l6)
  clear q6 l6 bx5 lo5
  go_wp2_with fail
  refine (KM.out (true && ch) b w6 bx6.out).mono ?_
  rintro e w7 ⟨rfl, q7, l7⟩
  rw [Bool.true_and] at q7
  have bx7 := Lib.hid q7
  have lo7 := Lib.hid (lo6.out.trans l7)
  clear q7 l7 bx6 lo6
  go_wp2_with fail
  refine (KS.out (ch && cm) b w7 bx7.out).mono ?_
  rintro e w8 ⟨rfl, q8, l8⟩
  have bx8 := Lib.hid q8
  have lo8 := Lib.hid (lo7.out.trans l8)
  clear q8 l8 bx7 lo7
  clear KP KC1 KC2 KW KH KM KS
  generalize hG : (ch && cm && cs) = G at bx8 ⊢
  have HG := Lib.hid hG
  clear hG
  have hc := bx8.out.cell
  have hf := bx8.out.frozen
  have N1 : 0 ≤ xh * 3600 + xm * 60 + xs := by omega
  have N2 : xh * 3600 + xm * 60 + xs ≤ 100000000 := by omega
  cases G with
  | false =>
    have E := Lib.hid (rdOut_no (g := false) (n := xh * 3600 + xm * 60 + xs) (fun q => by cases q.1))
    clear N1 N2
    go_wp2
    go_ret2
    exact ⟨by rw [HG.out]; exact E.out, by unfold Gr; rw [HBB.out]; exact lo8.out⟩
  | true =>
    by_cases c : 604800 < xh * 3600 + xm * 60 + xs
    · have E := Lib.hid (rdOut_no (g := true) (n := xh * 3600 + xm * 60 + xs) (fun q => by omega))
      have t1 : ¬ xh * 3600 + xm * 60 + xs < -604800 := by omega
      have t1' := ltF t1
      go_wp2
      go_ret2
      exact ⟨by rw [HG.out]; exact E.out, by unfold Gr; rw [HBB.out]; exact lo8.out⟩
    · have E := Lib.hid (rdOut_yes (g := true) (n := xh * 3600 + xm * 60 + xs) ⟨rfl, by omega, by omega⟩)
      have t1 : ¬ xh * 3600 + xm * 60 + xs < -604800 := by omega
      have t1' := ltF t1
      have c' := ltF c
      go_wp2
      go_ret2
      exact ⟨by rw [HG.out]; exact E.out, by unfold Gr; rw [HBB.out]; exact lo8.out⟩

set_option maxRecDepth 100000 in
set_option maxHeartbeats 4000000 in
theorem readSpan_neg_min (s t h r m sec : ByteArray) (f ch cm cs : Bool) (wd xh xm xs : Int) (w : World)
    (KP : Hid (Gives 92 #[.string s, .string ⟨#[45]⟩] (.tuple #[.string t, .bool true])))
    (KC1 : Hid (Gives 47 #[.string t, .string ⟨#[58]⟩] (.tuple #[.string h, .string r, .bool f])))
    (KC2 : Hid (Gives 47 #[.string r, .string ⟨#[58]⟩] (.tuple #[.string m, .string sec, .bool false])))
    (KW : Hid (Gives 120 #[.string h] (.int .i64 wd)))
    (KH : Hid (Checks h wd 0 168 xh ch)) (KM : Hid (Checks m 2 0 59 xm cm)) (KS : Hid (Checks sec 2 1 59 xs cs))
    (h1 : 0 ≤ xh) (h2 : xh ≤ 9999) (m1 : 0 ≤ xm) (m2 : xm ≤ 9999) (s1 : 0 ≤ xs) (s2 : xs ≤ 9999) :
    Calls Tryz.prog 91 #[.string s] w fun e w' => e = rdOut ((ch && cm) && decide (0 < xh * 3600 + xm * 60)) (-(xh * 3600 + xm * 60)) ∧ Gr w w' := by
  have bx := Lib.hid (box_new w)
  have lo := Lib.hid (Gr.alloc w (.cells #[.bool true] 4))
  go_enter Tryz.func91, Tryz.ntmps91
  go_wp2_with fail
  unfold Gr at lo
  generalize w.alloc (.cells #[.bool true] 4) = w1 at bx lo ⊢
  generalize hbb : w.heap.size = b at bx lo ⊢
  have HBB := Lib.hid hbb
  clear hbb
  refine (KP.out w1).mono ?_
  rintro e w2 ⟨rfl, g2⟩
  have bx2 := Lib.hid (bx.out.gr g2)
  have lo2 := Lib.hid (lo.out.trans (Below.mono g2 (Nat.le_of_lt bx.out.lt)))
  clear g2 bx lo
  go_wp2_with fail
  refine (KC1.out w2).mono ?_
  rintro e w3 ⟨rfl, g3⟩
  have bx3 := Lib.hid (bx2.out.gr g3)
  have lo3 := Lib.hid (lo2.out.trans (Below.mono g3 (Nat.le_of_lt bx2.out.lt)))
  clear g3 bx2 lo2
  go_wp2_with fail
  refine (KC2.out w3).mono ?_
  rintro e w4 ⟨rfl, g4⟩
  have bx4 := Lib.hid (bx3.out.gr g4)
  have lo4 := Lib.hid (lo3.out.trans (Below.mono g4 (Nat.le_of_lt bx3.out.lt)))
  clear g4 bx3 lo3
  go_wp2_with fail
  refine (KW.out w4).mono ?_
  rintro e w5 ⟨rfl, g5⟩
  have bx5 := Lib.hid (bx4.out.gr g5)
  have lo5 := Lib.hid (lo4.out.trans (Below.mono g5 (Nat.le_of_lt bx4.out.lt)))
  clear g5 bx4 lo4
  go_wp2_with fail
  refine (KH.out true b w5 bx5.out).mono ?_
  rintro e w6 ⟨rfl, q6, l6⟩
  have bx6 := Lib.hid q6
  have lo6 := Lib.hid (lo5.out.trans l6)
  clear q6 l6 bx5 lo5
  go_wp2_with fail
  refine (KM.out (true && ch) b w6 bx6.out).mono ?_
  rintro e w7 ⟨rfl, q7, l7⟩
  rw [Bool.true_and] at q7
  have bx7 := Lib.hid q7
  have lo7 := Lib.hid (lo6.out.trans l7)
  clear q7 l7 bx6 lo6
  clear KP KC1 KC2 KW KH KM KS
  generalize hG : (ch && cm) = G at bx7 ⊢
  have HG := Lib.hid hG
  clear hG
  have hc := bx7.out.cell
  have hf := bx7.out.frozen
  have N1 : 0 ≤ xh * 3600 + xm * 60 := by omega
  have N2 : xh * 3600 + xm * 60 ≤ 100000000 := by omega
  have ST : Hid (∀ u : Bool, Below b w (w7.setCell ⟨b, 0, none⟩ (.bool u))) := fun u => Below.setCell lo7.out (Nat.le_refl b) _
  have SC : ∀ u : Bool, (w7.setCell ⟨b, 0, none⟩ (.bool u)).cell? ⟨b, 0, none⟩ = some (.bool u) := fun u => (bx7.out.set u).cell
  cases G with
  | false =>
    have E := Lib.hid (rdOut_no (g := false && decide (0 < xh * 3600 + xm * 60)) (n := -(xh * 3600 + xm * 60)) (fun q => by simp at q))
    clear N1 N2
    go_wp2
    go_ret2
    exact ⟨by rw [HG.out]; exact E.out, by unfold Gr; rw [HBB.out]; exact ST.out false⟩
  | true =>
    by_cases z : 0 < xh * 3600 + xm * 60
    · have z' := ltT z
      by_cases c : 604800 < xh * 3600 + xm * 60
      · have E := Lib.hid (rdOut_no (g := true && decide (0 < xh * 3600 + xm * 60)) (n := -(xh * 3600 + xm * 60)) (fun q => by omega))
        have t1 : -(xh * 3600 + xm * 60) < -604800 := by omega
        go_wp2
        go_ret2
        exact ⟨by rw [HG.out]; exact E.out, by unfold Gr; rw [HBB.out]; exact ST.out true⟩
      · have E := Lib.hid (rdOut_yes (g := true && decide (0 < xh * 3600 + xm * 60)) (n := -(xh * 3600 + xm * 60)) ⟨by simp [z'], by omega, by omega⟩)
        have t1 : ¬ -(xh * 3600 + xm * 60) < -604800 := by omega
        have t1' := ltF t1
        have t2 : ¬ 604800 < -(xh * 3600 + xm * 60) := by omega
        have t2' := ltF t2
        go_wp2
        go_ret2
        exact ⟨by rw [HG.out]; exact E.out, by unfold Gr; rw [HBB.out]; exact ST.out true⟩
    · have z' := ltF z
      have E := Lib.hid (rdOut_no (g := true && decide (0 < xh * 3600 + xm * 60)) (n := -(xh * 3600 + xm * 60)) (fun q => by rw [z'] at q; cases q.1))
      go_wp2
      go_ret2
      exact ⟨by rw [HG.out]; exact E.out, by unfold Gr; rw [HBB.out]; exact ST.out false⟩

set_option maxRecDepth 100000 in
set_option maxHeartbeats 4000000 in
theorem readSpan_neg_sec (s t h r m sec : ByteArray) (f ch cm cs : Bool) (wd xh xm xs : Int) (w : World)
    (KP : Hid (Gives 92 #[.string s, .string ⟨#[45]⟩] (.tuple #[.string t, .bool true])))
    (KC1 : Hid (Gives 47 #[.string t, .string ⟨#[58]⟩] (.tuple #[.string h, .string r, .bool f])))
    (KC2 : Hid (Gives 47 #[.string r, .string ⟨#[58]⟩] (.tuple #[.string m, .string sec, .bool true])))
    (KW : Hid (Gives 120 #[.string h] (.int .i64 wd)))
    (KH : Hid (Checks h wd 0 168 xh ch)) (KM : Hid (Checks m 2 0 59 xm cm)) (KS : Hid (Checks sec 2 1 59 xs cs))
    (h1 : 0 ≤ xh) (h2 : xh ≤ 9999) (m1 : 0 ≤ xm) (m2 : xm ≤ 9999) (s1 : 0 ≤ xs) (s2 : xs ≤ 9999) :
    Calls Tryz.prog 91 #[.string s] w fun e w' => e = rdOut ((ch && cm && cs) && decide (0 < xh * 3600 + xm * 60 + xs)) (-(xh * 3600 + xm * 60 + xs)) ∧ Gr w w' := by
  have bx := Lib.hid (box_new w)
  have lo := Lib.hid (Gr.alloc w (.cells #[.bool true] 4))
  go_enter Tryz.func91, Tryz.ntmps91
  go_wp2_with fail
  unfold Gr at lo
  generalize w.alloc (.cells #[.bool true] 4) = w1 at bx lo ⊢
  generalize hbb : w.heap.size = b at bx lo ⊢
  have HBB := Lib.hid hbb
  clear hbb
  refine (KP.out w1).mono ?_
  rintro e w2 ⟨rfl, g2⟩
  have bx2 := Lib.hid (bx.out.gr g2)
  have lo2 := Lib.hid (lo.out.trans (Below.mono g2 (Nat.le_of_lt bx.out.lt)))
  clear g2 bx lo
  go_wp2_with fail
  refine (KC1.out w2).mono ?_
  rintro e w3 ⟨rfl, g3⟩
  have bx3 := Lib.hid (bx2.out.gr g3)
  have lo3 := Lib.hid (lo2.out.trans (Below.mono g3 (Nat.le_of_lt bx2.out.lt)))
  clear g3 bx2 lo2
  go_wp2_with fail
  refine (KC2.out w3).mono ?_
  rintro e w4 ⟨rfl, g4⟩
  have bx4 := Lib.hid (bx3.out.gr g4)
  have lo4 := Lib.hid (lo3.out.trans (Below.mono g4 (Nat.le_of_lt bx3.out.lt)))
  clear g4 bx3 lo3
  go_wp2_with fail
  refine (KW.out w4).mono ?_
  rintro e w5 ⟨rfl, g5⟩
  have bx5 := Lib.hid (bx4.out.gr g5)
  have lo5 := Lib.hid (lo4.out.trans (Below.mono g5 (Nat.le_of_lt bx4.out.lt)))
  clear g5 bx4 lo4
  go_wp2_with fail
  refine (KH.out true b w5 bx5.out).mono ?_
  rintro e w6 ⟨rfl, q6, l6⟩
  have bx6 := Lib.hid q6
  have lo6 := Lib.hid (lo5.out.trans l6)
  clear q6 l6 bx5 lo5
  go_wp2_with fail
  refine (KM.out (true && ch) b w6 bx6.out).mono ?_
  rintro e w7 ⟨rfl, q7, l7⟩
  rw [Bool.true_and] at q7
  have bx7 := Lib.hid q7
  have lo7 := Lib.hid (lo6.out.trans l7)
  clear q7 l7 bx6 lo6
  go_wp2_with fail
  refine (KS.out (ch && cm) b w7 bx7.out).mono ?_
  rintro e w8 ⟨rfl, q8, l8⟩
  have bx8 := Lib.hid q8
  have lo8 := Lib.hid (lo7.out.trans l8)
  clear q8 l8 bx7 lo7
  clear KP KC1 KC2 KW KH KM KS
  generalize hG : (ch && cm && cs) = G at bx8 ⊢
  have HG := Lib.hid hG
  clear hG
  have hc := bx8.out.cell
  have hf := bx8.out.frozen
  have N1 : 0 ≤ xh * 3600 + xm * 60 + xs := by omega
  have N2 : xh * 3600 + xm * 60 + xs ≤ 100000000 := by omega
  have ST : Hid (∀ u : Bool, Below b w (w8.setCell ⟨b, 0, none⟩ (.bool u))) := fun u => Below.setCell lo8.out (Nat.le_refl b) _
  have SC : ∀ u : Bool, (w8.setCell ⟨b, 0, none⟩ (.bool u)).cell? ⟨b, 0, none⟩ = some (.bool u) := fun u => (bx8.out.set u).cell
  cases G with
  | false =>
    have E := Lib.hid (rdOut_no (g := false && decide (0 < xh * 3600 + xm * 60 + xs)) (n := -(xh * 3600 + xm * 60 + xs)) (fun q => by simp at q))
    clear N1 N2
    go_wp2
    go_ret2
    exact ⟨by rw [HG.out]; exact E.out, by unfold Gr; rw [HBB.out]; exact ST.out false⟩
  | true =>
    by_cases z : 0 < xh * 3600 + xm * 60 + xs
    · have z' := ltT z
      by_cases c : 604800 < xh * 3600 + xm * 60 + xs
      · have E := Lib.hid (rdOut_no (g := true && decide (0 < xh * 3600 + xm * 60 + xs)) (n := -(xh * 3600 + xm * 60 + xs)) (fun q => by omega))
        have t1 : -(xh * 3600 + xm * 60 + xs) < -604800 := by omega
        go_wp2
        go_ret2
        exact ⟨by rw [HG.out]; exact E.out, by unfold Gr; rw [HBB.out]; exact ST.out true⟩
      · have E := Lib.hid (rdOut_yes (g := true && decide (0 < xh * 3600 + xm * 60 + xs)) (n := -(xh * 3600 + xm * 60 + xs)) ⟨by simp [z'], by omega, by omega⟩)
        have t1 : ¬ -(xh * 3600 + xm * 60 + xs) < -604800 := by omega
        have t1' := ltF t1
        have t2 : ¬ 604800 < -(xh * 3600 + xm * 60 + xs) := by omega
        have t2' := ltF t2
        go_wp2
        go_ret2
        exact ⟨by rw [HG.out]; exact E.out, by unfold Gr; rw [HBB.out]; exact ST.out true⟩
    · have z' := ltF z
      have E := Lib.hid (rdOut_no (g := true && decide (0 < xh * 3600 + xm * 60 + xs)) (n := -(xh * 3600 + xm * 60 + xs)) (fun q => by rw [z'] at q; cases q.1))
      go_wp2
      go_ret2
      exact ⟨by rw [HG.out]; exact E.out, by unfold Gr; rw [HBB.out]; exact ST.out false⟩
end Go.Proofs.YtkkilmmpmiichaaGreatDoor
