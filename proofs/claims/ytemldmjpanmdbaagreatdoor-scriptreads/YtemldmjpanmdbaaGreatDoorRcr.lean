/- One of the closed facts of ScriptReads' row. No walk. -/
import Derived.Test.YtemldmjpanmdbaaGreatDoorRows
import Derived.ProofKit
import Derived.KernelRfl
import Derived.SizedLaws
import Derived.Deep.DeepHandedRow
namespace Go.Proofs.YtemldmjpanmdbaaGreatDoor.scriptReads
open Go.ChangeShapes Go.WideShapes Go.ChangeAt Go.RowKit
theorem closed3 : (Rows.scriptReadsRow.recurses == Tryz.pinned.checked.prog.recurses 4) = true := by kernel_rfl
end Go.Proofs.YtemldmjpanmdbaaGreatDoor.scriptReads
