/- What the functions of package cnum and of its document's answer do, walked: each returns what a plain function of the words says, and changes nothing. Conditions: those that each theorem names. -/
import Derived.Test.YtmognpjkccienaaLeaf
namespace Go.Proofs.Ytmognpjkccienaa.Msg

theorem ret_int {k : IntKind} {a b : Int} (h : a = b) : Ending.returned (.int k a) = .returned (.int k b) := by rw [h]
theorem ret_bool {a b : Bool} (h : a = b) : Ending.returned (.bool a) = .returned (.bool b) := by rw [h]

set_option maxHeartbeats 400000 in
theorem form_any (a : Nat) (w : World) :
    Calls Try.prog 78 #[.float .f64 a] w fun e w' => e = .returned (.int .u64 (formN a : Int)) ∧ w' = w := by
  have hf := bits_run
  cases h : nanB a
  · go_enter Try.func78, Try.ntmps78
    go_wp2_with (go_at_call 79; refine (isNaN_any _ _).mono ?_; rintro e w' ⟨rfl, rfl⟩)
    go_ret
    exact ⟨ret_int (by simp [formN, h]), rfl⟩
  · go_enter Try.func78, Try.ntmps78
    go_wp2_with (go_at_call 79; refine (isNaN_any _ _).mono ?_; rintro e w' ⟨rfl, rfl⟩)
    go_ret
    exact ⟨ret_int (by simp [formN, h]), rfl⟩

set_option maxHeartbeats 400000 in
theorem bits_any (a b : Nat) (w : World) :
    Calls Try.prog 73 #[.complex .f64 a b] w fun e w' => e = .returned (.tuple #[.int .u64 (formN a : Int), .int .u64 (formN b : Int)]) ∧ w' = w := by
  go_enter Try.func73, Try.ntmps73
  go_wp2_with (go_at_call 78; refine (form_any _ _).mono ?_; rintro e w' ⟨rfl, rfl⟩)
  go_ret2
  exact ⟨rfl, rfl⟩

/-- Are two numbers the same? -/
def sameB (a b c d : Nat) : Bool := (formN a : Int) == (formN c : Int) && (formN b : Int) == (formN d : Int)

set_option maxHeartbeats 400000 in
theorem same_any (a b c d : Nat) (w : World) :
    Calls Try.prog 67 #[.complex .f64 a b, .complex .f64 c d] w fun e w' => e = .returned (.bool (sameB a b c d)) ∧ w' = w := by
  cases h : ((formN a : Int) == (formN c : Int))
  · go_enter Try.func67, Try.ntmps67
    go_wp2_with (go_at_call 73; refine (bits_any _ _ _).mono ?_; rintro e w' ⟨rfl, rfl⟩)
    go_ret
    exact ⟨ret_bool (by simp only [sameB, h, Bool.false_and]), rfl⟩
  · go_enter Try.func67, Try.ntmps67
    go_wp2_with (go_at_call 73; refine (bits_any _ _ _).mono ?_; rintro e w' ⟨rfl, rfl⟩)
    go_ret
    exact ⟨ret_bool (by simp only [sameB, h, Bool.true_and]), rfl⟩

/-- Is a number ahead of another? -/
def lessB (a b c d : Nat) : Bool := if (rankI a != rankI c) = true then decide (rankI a < rankI c) else decide (rankI b < rankI d)

end Go.Proofs.Ytmognpjkccienaa.Msg
