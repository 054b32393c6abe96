/- The example that the statement asks for first, reckoned. No walk. -/
import Derived.Test.YtemldmjpanmdbaaGreatDoorB5
import Derived.Test.YtemldmjpanmdbaaGreatDoorProg
import Derived.KernelRfl
namespace Go.Proofs.YtemldmjpanmdbaaGreatDoor
open Go.RowKit
set_option linter.unusedVariables false
set_option maxRecDepth 1000000 in
set_option maxHeartbeats 40000000 in
theorem alive_reckoned : Ev.isTrue (Ev.callN (Ev.envOf Tryz.prog) 1000 5 [] Ev.St0) = true := by kernel_rfl
theorem alive_any (w : World) : Calls Tryz.prog 5 #[] w fun e w' => e = .returned (.bool true) ∧ Below w.heap.size w w' :=
  let ⟨_, h⟩ := Ev.isTrue_some alive_reckoned
  Ev.callN_calls (by kernel_rfl) (by kernel_rfl) rfl h w
end Go.Proofs.YtemldmjpanmdbaaGreatDoor
