/- The closed facts of ScriptReads' row. No walk. -/
import Derived.Test.YtemldmjpanmdbaaGreatDoorRcp
import Derived.Test.YtemldmjpanmdbaaGreatDoorRcu
import Derived.Test.YtemldmjpanmdbaaGreatDoorRcr
import Derived.Test.YtemldmjpanmdbaaGreatDoorRcn
namespace Go.Proofs.YtemldmjpanmdbaaGreatDoor.scriptReads
open Go.ChangeShapes Go.WideShapes Go.ChangeAt Go.RowKit
theorem closed : joinedFacts Tryz.pinned.checked.prog 4 Tryz.f4 (OpenSpec.ofChange Rows.scriptReadsSpec).bare Rows.scriptReadsRow = true := by
  unfold joinedFacts
  rw [closed1, closed2, closed3, closed4]
  kernel_rfl
end Go.Proofs.YtemldmjpanmdbaaGreatDoor.scriptReads
