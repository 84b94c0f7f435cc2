/- The reference's Resolve for every book. -/
import Derived.Test.YtbagdlafpahgdaaGreatDoorPM25
import Derived.Test.YtbagdlafpahgdaaGreatDoorPM44
namespace Go.Proofs.YtbagdlafpahgdaaGreatDoor
set_option linter.unusedVariables false
set_option linter.unusedSimpArgs false
open Go.RowKit
theorem rresolve (b : BokD) (nm : ByteArray) (w : World) (hb : b.At w) (hm : HasMax w) :
    Calls Tryz.prog 21 #[bookV b, .string nm] w (ResE b.rs b.zs b.ls nm w) := rresolve0 b nm w hb (fun W g => rbookCheck b W (hb.gr g) (g.max hm))

end Go.Proofs.YtbagdlafpahgdaaGreatDoor
