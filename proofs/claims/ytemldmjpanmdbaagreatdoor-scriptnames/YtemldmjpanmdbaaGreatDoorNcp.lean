/- One of the closed facts of ScriptNames' row. No walk. -/
import Derived.Test.YtemldmjpanmdbaaGreatDoorRows
import Derived.ProofKit
import Derived.KernelRfl
import Derived.SizedLaws
import Derived.Deep.DeepHandedRow
namespace Go.Proofs.YtemldmjpanmdbaaGreatDoor.scriptNames
open Go.ChangeShapes Go.WideShapes Go.ChangeAt Go.RowKit
theorem closed1 : (Rows.scriptNamesRow.inPlace == Tryz.pinned.checked.prog.inPlace 3) = true := by kernel_rfl
end Go.Proofs.YtemldmjpanmdbaaGreatDoor.scriptNames
