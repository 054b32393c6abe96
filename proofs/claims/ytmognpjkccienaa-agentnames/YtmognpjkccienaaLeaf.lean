/- What the leaves of package cnum do, walked: the number of bits, the bits of a number, whether a part is a number. Conditions: none but those that each theorem names. -/
import Derived.Test.YtmognpjkccienaaChecked
import Derived.Test.YtmognpjkccienaaMath
import Derived.WalkKit
import Derived.WalkLawsBesides
import Derived.KernelRfl
namespace Go.Proofs.Ytmognpjkccienaa.Msg

theorem bits_run (a : Nat) (w : World) : (callFunc 80 #[.float .f64 a]).run Try.prog w = .ok (.value (.int .u64 (a : Int))) w := by
  rw [run_callFunc_extern Try.func80 (by kernel_rfl) (by kernel_rfl) (by kernel_rfl) (e := Extern.MathFloatBits.float64bits) (by kernel_rfl)]
  rfl

set_option maxHeartbeats 400000 in
theorem isNaN_any (a : Nat) (w : World) :
    Calls Try.prog 79 #[.float .f64 a] w fun e w' => e = .returned (.bool (nanB a)) ∧ w' = w := by
  go_enter Try.func79, Try.ntmps79
  go_wp2
  go_ret
  exact ⟨rfl, rfl⟩

end Go.Proofs.Ytmognpjkccienaa.Msg
