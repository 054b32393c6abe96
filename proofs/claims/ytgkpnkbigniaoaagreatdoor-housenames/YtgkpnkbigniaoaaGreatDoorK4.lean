/- The example, reckoned: three of its calls are told ahead. No walk. -/
import Derived.Test.YtgkpnkbigniaoaaGreatDoorKx
import Derived.Test.YtgkpnkbigniaoaaGreatDoorKd
import Derived.KernelRfl
namespace Go.Proofs.YtgkpnkbigniaoaaGreatDoor.Kd
open Go.RowKit
set_option maxRecDepth 1000000 in
set_option maxHeartbeats 40000000 in
theorem reckoned : Ev.isTrue (Ev.callO (Ev.envOf Tryz.prog) (Ev.told 207 sumK [e1, e2, e3]) (Ev.isTold 207 [e1, e2, e3]) 1000 3 [] Ev.St0) = true := by kernel_rfl
end Go.Proofs.YtgkpnkbigniaoaaGreatDoor.Kd
