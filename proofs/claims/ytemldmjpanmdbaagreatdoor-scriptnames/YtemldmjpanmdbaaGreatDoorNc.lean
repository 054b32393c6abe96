/- The closed facts of ScriptNames' row. No walk. -/
import Derived.Test.YtemldmjpanmdbaaGreatDoorNcp
import Derived.Test.YtemldmjpanmdbaaGreatDoorNcu
import Derived.Test.YtemldmjpanmdbaaGreatDoorNcr
import Derived.Test.YtemldmjpanmdbaaGreatDoorNcn
namespace Go.Proofs.YtemldmjpanmdbaaGreatDoor.scriptNames
open Go.ChangeShapes Go.WideShapes Go.ChangeAt Go.RowKit
theorem closed : joinedFacts Tryz.pinned.checked.prog 3 Tryz.f3 (OpenSpec.ofChange Rows.scriptNamesSpec).bare Rows.scriptNamesRow = true := by
  unfold joinedFacts
  rw [closed1, closed2, closed3, closed4]
  kernel_rfl
end Go.Proofs.YtemldmjpanmdbaaGreatDoor.scriptNames
