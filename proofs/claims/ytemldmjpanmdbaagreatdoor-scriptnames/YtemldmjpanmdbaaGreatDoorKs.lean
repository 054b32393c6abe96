/- The example, reckoned. No walk. -/
import Derived.Test.YtemldmjpanmdbaaGreatDoorP40
import Derived.Test.YtemldmjpanmdbaaGreatDoorProg
import Derived.KernelRfl
namespace Go.Proofs.YtemldmjpanmdbaaGreatDoor
open Go.RowKit
set_option maxRecDepth 1000000 in
set_option maxHeartbeats 40000000 in
theorem names_reckoned : Ev.isTrue (Ev.callN (Ev.envOf Tryz.prog) 1000 3 [] Ev.St0) = true := by kernel_rfl
end Go.Proofs.YtemldmjpanmdbaaGreatDoor
