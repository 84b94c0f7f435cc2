/- A book of given rules and of one zone with one era; types compared; stated, the closed fact of the laws of states. -/
import Derived.Test.YtbagdlafpahgdaaGreatDoorPM50
import Derived.Test.YtbagdlafpahgdaaGreatDoorPM24
namespace Go.Proofs.YtbagdlafpahgdaaGreatDoor
set_option linter.unusedVariables false
set_option linter.unusedSimpArgs false
open Go.RowKit
set_option maxRecDepth 100000 in
theorem eqType (o : Int) (s : Bool) (n : ByteArray) (w : World) : (binOp .eql 28 (.agg #[.int .i64 o, .bool s, .string n]) (.agg #[.int .i64 o, .bool s, .string n])).run Tryz.prog w = .ok (.bool true) w := by
  have h : Tryz.prog.underlying 28 = some (.struct (Tryz.prog.fieldsOf 28)) := by kernel_rfl
  have hh : Tryz.prog.stoodInHeld 28 = false := by kernel_rfl
  have u3 := Tryz.underlying3
  have a3 := Tryz.isAgg3
  have z3 := Tryz.sizeOf3
  have u4 := Tryz.underlying4
  have a4 := Tryz.isAgg4
  have z4 := Tryz.sizeOf4
  have u9 := Tryz.underlying9
  have a9 := Tryz.isAgg9
  have z9 := Tryz.sizeOf9
  rw [run_eql_struct, show (10000 : Nat) = 9999 + 1 from rfl, run_equalIn_agg w 9999 28 _ _ h hh]
  simp only [Program.fieldsOf, Tryz.underlying28]
  go_simp

end Go.Proofs.YtbagdlafpahgdaaGreatDoor
