/- What the document's answer for package cnum does where signs are turned, and the law's own sign of life, walked. Conditions: those that each theorem names. -/
import Derived.Test.YtfnogojkjddkgaaWalks
namespace Go.Proofs.Ytfnogojkjddkgaa

theorem flip_lo (a : Nat) (h : (a : Int) < 9223372036854775808) : (a : Int) + 9223372036854775808 = (Op.negFloat .f64 a : Int) := by
  rw [negFloat_eq a (by omega), if_pos (by omega)]; omega

theorem flip_hi (a : Nat) (ha : a < 18446744073709551616) (h : ¬ (a : Int) < 9223372036854775808) : IntKind.u64.wrap ((a : Int) - 9223372036854775808) = (Op.negFloat .f64 a : Int) := by
  rw [IntKind.wrap_u64, negFloat_eq a ha, if_neg (by omega)]; omega

set_option maxRecDepth 100000 in
set_option maxHeartbeats 400000 in
theorem flip_walk_lo (a : Nat) (w : World) (h : (a : Int) < 9223372036854775808) :
    Calls Try.prog 26 #[.int .u64 (a : Int)] w fun e w' => e = .returned (.int .u64 (Op.negFloat .f64 a : Int)) ∧ w' = w := by
  go_enter Try.func26, Try.ntmps26
  repeat go_step
  go_ret
  exact ⟨ret_int (flip_lo a h), rfl⟩

set_option maxRecDepth 100000 in
set_option maxHeartbeats 400000 in
theorem flip_walk_hi (a : Nat) (w : World) (h : ¬ (a : Int) < 9223372036854775808) :
    Calls Try.prog 26 #[.int .u64 (a : Int)] w fun e w' => e = .returned (.int .u64 (IntKind.u64.wrap ((a : Int) - 9223372036854775808))) ∧ w' = w := by
  go_enter Try.func26, Try.ntmps26
  repeat go_step
  go_ret
  exact ⟨rfl, rfl⟩

theorem refFlip_any (a : Nat) (ha : a < 18446744073709551616) (w : World) :
    Calls Try.prog 26 #[.int .u64 (a : Int)] w fun e w' => e = .returned (.int .u64 (Op.negFloat .f64 a : Int)) ∧ w' = w := by
  by_cases h : (a : Int) < 9223372036854775808
  · exact flip_walk_lo a w h
  · have := flip_walk_hi a w h
    rw [flip_hi a ha h] at this
    exact this

set_option maxHeartbeats 400000 in
theorem refTurn_any (a b : Nat) (ha : a < 18446744073709551616) (hb : b < 18446744073709551616) (w : World) :
    Calls Try.prog 16 #[.int .u64 (a : Int), .int .u64 (b : Int)] w fun e w' => e = .returned (.tuple #[.int .u64 (formN (Op.negFloat .f64 b) : Int), .int .u64 (formN a : Int)]) ∧ w' = w := by
  have hn := neg_lt b hb
  go_enter Try.func16, Try.ntmps16
  go_wp2_with (first | (go_at_call 26; refine (refFlip_any _ (by assumption) _).mono ?_; rintro e w' ⟨rfl, rfl⟩) | (go_at_call 20; refine (refForm_any _ (by assumption) _).mono ?_; rintro e w' ⟨rfl, rfl⟩))
  go_ret2
  exact ⟨rfl, rfl⟩

set_option maxHeartbeats 400000 in
theorem refMirror_any (a b : Nat) (ha : a < 18446744073709551616) (hb : b < 18446744073709551616) (w : World) :
    Calls Try.prog 17 #[.int .u64 (a : Int), .int .u64 (b : Int)] w fun e w' => e = .returned (.tuple #[.int .u64 (formN a : Int), .int .u64 (formN (Op.negFloat .f64 b) : Int)]) ∧ w' = w := by
  have hn := neg_lt b hb
  go_enter Try.func17, Try.ntmps17
  go_wp2_with (first | (go_at_call 26; refine (refFlip_any _ (by assumption) _).mono ?_; rintro e w' ⟨rfl, rfl⟩) | (go_at_call 20; refine (refForm_any _ (by assumption) _).mono ?_; rintro e w' ⟨rfl, rfl⟩))
  go_ret2
  exact ⟨rfl, rfl⟩

set_option maxHeartbeats 400000 in
theorem nan_any (w : World) :
    Calls Try.prog 9 #[] w fun e w' => e = .returned (.float .f64 9221120237041090561) ∧ w' = w := by
  have hf := frombits_runI
  go_enter Try.func9, Try.ntmps9
  go_wp2
  go_ret
  exact ⟨rfl, rfl⟩

set_option maxRecDepth 100000 in
set_option maxHeartbeats 400000 in
theorem alive_any (w : World) :
    Calls Try.prog 11 #[] w fun e w' => e = .returned (.bool true) ∧ w' = w := by
  have hf := bits_run
  go_enter Try.func11, Try.ntmps11
  go_wp2_with (first | (go_at_call 8; refine (bits_any _ _ _).mono ?_; rintro e w' ⟨rfl, rfl⟩) | (go_at_call 15; refine (turn_any _ _ _).mono ?_; rintro e w' ⟨rfl, rfl⟩) | (go_at_call 21; refine (less_any _ _ _ _ _).mono ?_; rintro e w' ⟨rfl, rfl⟩) | (go_at_call 18; refine (whole_any _ _ _).mono ?_; rintro e w' ⟨rfl, rfl⟩))
  · go_ret
    exact ⟨ret_bool (by decide +kernel), rfl⟩

end Go.Proofs.Ytfnogojkjddkgaa
