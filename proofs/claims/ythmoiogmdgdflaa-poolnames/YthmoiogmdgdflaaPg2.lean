/- What Set and Bytes of package page do, walked. -/
import Derived.Test.YthmoiogmdgdflaaPg1
import Derived.Handy
namespace Go.Proofs.Ythmoiogmdgdflaa
open Go.RowKit
set_option linter.unusedVariables false

/-- The objects with another one at a place. -/
def putO (k : Nat) (x : Nat × Nat) (j : Nat) (a : Nat × Nat) : Nat × Nat := if k = j then x else a

end Go.Proofs.Ythmoiogmdgdflaa
