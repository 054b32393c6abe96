/- One call of the example, reckoned. No walk. -/
import Derived.Test.YtgkpnkbigniaoaaGreatDoorKx
import Derived.Test.YtgkpnkbigniaoaaGreatDoorKd
import Derived.KernelRfl
namespace Go.Proofs.YtgkpnkbigniaoaaGreatDoor.Kd
open Go.RowKit
set_option maxRecDepth 1000000 in
set_option maxHeartbeats 40000000 in
theorem e2_ok : e2.ok (Ev.callX (Ev.envOf Tryz.prog) 207 sumK 1000) = true := by kernel_rfl
end Go.Proofs.YtgkpnkbigniaoaaGreatDoor.Kd
