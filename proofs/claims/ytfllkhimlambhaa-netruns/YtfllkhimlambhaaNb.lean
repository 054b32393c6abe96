/- What the rows of the program's types are. No walk. -/
import Derived.Test.YtfllkhimlambhaaProg
import Derived.Test.YtfllkhimlambhaaSl
import Derived.Test.YtfllkhimlambhaaRa
import Derived.Lib.SliceRun
namespace Go.Proofs.Ytfllkhimlambhaa
open Go.RowKit
set_option linter.unusedVariables false
theorem info5 : (Try.prog.info? 5).map (fun i => (i.zero, i.size, i.bytes)) = some (some (.int .u8 0), 1, 1) := by kernel_rfl
end Go.Proofs.Ytfllkhimlambhaa
