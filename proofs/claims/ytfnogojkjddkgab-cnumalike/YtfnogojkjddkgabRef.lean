/- What the document's answer for package cnum does where signs are turned, and the law's own sign of life, walked. Conditions: those that each theorem names. -/
import Derived.Test.YtfnogojkjddkgabWalks
namespace Go.Proofs.Ytfnogojkjddkgab

theorem flip_lo (a : Nat) (h : (a : Int) < 9223372036854775808) : (a : Int) + 9223372036854775808 = (Op.negFloat .f64 a : Int) := by
  rw [negFloat_eq a (by omega), if_pos (by omega)]; omega

theorem flip_hi (a : Nat) (ha : a < 18446744073709551616) (h : ¬ (a : Int) < 9223372036854775808) : IntKind.u64.wrap ((a : Int) - 9223372036854775808) = (Op.negFloat .f64 a : Int) := by
  rw [IntKind.wrap_u64, negFloat_eq a ha, if_neg (by omega)]; omega

set_option maxRecDepth 100000 in
set_option maxHeartbeats 400000 in
theorem alive_any (w : World) :
    Calls Try.prog 4 #[] w fun e w' => e = .returned (.bool true) ∧ w' = w := by
  have hf := bits_run
  go_enter Try.func4, Try.ntmps4
  go_wp2_with (first | (go_at_call 11; refine (bits_any _ _ _).mono ?_; rintro e w' ⟨rfl, rfl⟩) | (go_at_call 7; refine (turn_any _ _ _).mono ?_; rintro e w' ⟨rfl, rfl⟩) | (go_at_call 9; refine (less_any _ _ _ _ _).mono ?_; rintro e w' ⟨rfl, rfl⟩) | (go_at_call 8; refine (whole_any _ _ _).mono ?_; rintro e w' ⟨rfl, rfl⟩))
  · go_ret
    exact ⟨ret_bool (by decide +kernel), rfl⟩

end Go.Proofs.Ytfnogojkjddkgab
