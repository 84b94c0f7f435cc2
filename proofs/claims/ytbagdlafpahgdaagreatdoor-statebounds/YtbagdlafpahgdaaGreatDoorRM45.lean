/- The transitions of a book, asked for in other ways; the reference's Rest again. -/
import Derived.Test.YtbagdlafpahgdaaGreatDoorRM43
import Derived.Test.YtbagdlafpahgdaaGreatDoorRM07
namespace Go.Proofs.YtbagdlafpahgdaaGreatDoor
set_option linter.unusedVariables false
set_option linter.unusedSimpArgs false
open Go.RowKit
theorem ofL_len {rs : List RuD} {zs : List ZonD} {ls : List LinD} {nm : ByteArray} {off : Int} : (ofL rs zs ls nm off).length ≤ 100000 := by
  unfold ofL
  split
  · rename_i h
    obtain ⟨h1, h2, h3, h4, h5⟩ := ofC_zero.1 h
    have p := pens_len (l := selR rs nm) (fun r hr => RuD.ok_of (rules_ok h1 r (sel_mem hr).1))
    rw [turL_len, sorted_len]
    omega
  · simp

theorem rest_q (n m : Int) (w : World) (b1 : -9223372036854775808 ≤ n) (b2 : n ≤ 9223372036854775807) (h1 : 0 < m) (h2 : m ≤ 1099511627776) :
    Calls Tryz.prog 12 #[.int .i64 n, .int .i64 m] w fun e w' => e = .returned (.int .i64 (n % m)) ∧ w' = w := (rest_any n m w b1 b2 h1 h2).mono fun _ _ ⟨a, b⟩ => ⟨a, b.symm⟩
end Go.Proofs.YtbagdlafpahgdaaGreatDoor
