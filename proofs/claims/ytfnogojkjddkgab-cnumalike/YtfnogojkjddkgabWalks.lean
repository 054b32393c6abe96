/- What the functions of package cnum and of its document's answer do, walked: each returns what a plain function of the words says, and changes nothing. Conditions: those that each theorem names. -/
import Derived.Test.YtfnogojkjddkgabLeaf
namespace Go.Proofs.Ytfnogojkjddkgab

theorem ret_int {k : IntKind} {a b : Int} (h : a = b) : Ending.returned (.int k a) = .returned (.int k b) := by rw [h]
theorem ret_bool {a b : Bool} (h : a = b) : Ending.returned (.bool a) = .returned (.bool b) := by rw [h]

theorem frombits_runI (n : Int) (w : World) : (callFunc 13 #[.int .u64 n]).run Try.prog w = .ok (.value (.float .f64 n.toNat)) w := by
  rw [run_callFunc_extern Try.func13 (by kernel_rfl) (by kernel_rfl) (by kernel_rfl) (e := Extern.MathFloatBits.float64frombits) (by kernel_rfl)]
  rfl

set_option maxHeartbeats 400000 in
theorem form_any (a : Nat) (w : World) :
    Calls Try.prog 16 #[.float .f64 a] w fun e w' => e = .returned (.int .u64 (formN a : Int)) ∧ w' = w := by
  have hf := bits_run
  cases h : nanB a
  · go_enter Try.func16, Try.ntmps16
    go_wp2_with (go_at_call 17; refine (isNaN_any _ _).mono ?_; rintro e w' ⟨rfl, rfl⟩)
    go_ret
    exact ⟨ret_int (by simp [formN, h]), rfl⟩
  · go_enter Try.func16, Try.ntmps16
    go_wp2_with (go_at_call 17; refine (isNaN_any _ _).mono ?_; rintro e w' ⟨rfl, rfl⟩)
    go_ret
    exact ⟨ret_int (by simp [formN, h]), rfl⟩

set_option maxHeartbeats 400000 in
theorem bits_any (a b : Nat) (w : World) :
    Calls Try.prog 11 #[.complex .f64 a b] w fun e w' => e = .returned (.tuple #[.int .u64 (formN a : Int), .int .u64 (formN b : Int)]) ∧ w' = w := by
  go_enter Try.func11, Try.ntmps11
  go_wp2_with (go_at_call 16; refine (form_any _ _).mono ?_; rintro e w' ⟨rfl, rfl⟩)
  go_ret2
  exact ⟨rfl, rfl⟩

/-- Are two numbers the same? -/
def sameB (a b c d : Nat) : Bool := (formN a : Int) == (formN c : Int) && (formN b : Int) == (formN d : Int)

set_option maxHeartbeats 400000 in
theorem same_any (a b c d : Nat) (w : World) :
    Calls Try.prog 6 #[.complex .f64 a b, .complex .f64 c d] w fun e w' => e = .returned (.bool (sameB a b c d)) ∧ w' = w := by
  cases h : ((formN a : Int) == (formN c : Int))
  · go_enter Try.func6, Try.ntmps6
    go_wp2_with (go_at_call 11; refine (bits_any _ _ _).mono ?_; rintro e w' ⟨rfl, rfl⟩)
    go_ret
    exact ⟨ret_bool (by simp only [sameB, h, Bool.false_and]), rfl⟩
  · go_enter Try.func6, Try.ntmps6
    go_wp2_with (go_at_call 11; refine (bits_any _ _ _).mono ?_; rintro e w' ⟨rfl, rfl⟩)
    go_ret
    exact ⟨ret_bool (by simp only [sameB, h, Bool.true_and]), rfl⟩

set_option maxHeartbeats 400000 in
theorem turn_any (a b : Nat) (w : World) :
    Calls Try.prog 7 #[.complex .f64 a b] w fun e w' => e = .returned (.complex .f64 (Op.negFloat .f64 b) a) ∧ w' = w := by
  have hn : ∀ k b, Op.unary .neg (.float k b) = pure (.float k (Op.negFloat k b)) := fun _ _ => rfl
  go_enter Try.func7, Try.ntmps7
  go_wp2
  go_ret
  exact ⟨rfl, rfl⟩

set_option maxHeartbeats 400000 in
theorem abs_any (a : Nat) (w : World) :
    Calls Try.prog 19 #[.float .f64 a] w fun e w' => e = .returned (.float .f64 (absN a)) ∧ w' = w := by
  have hf := bits_run
  have hg := frombits_runI
  go_enter Try.func19, Try.ntmps19
  go_wp2
  go_ret
  exact ⟨rfl, rfl⟩

set_option maxHeartbeats 400000 in
theorem isInf_any (a : Nat) (w : World) :
    Calls Try.prog 18 #[.float .f64 a, .int .i64 0] w fun e w' => e = .returned (.bool (infB a)) ∧ w' = w := by
  go_enter Try.func18, Try.ntmps18
  go_wp2_with (go_at_call 19; refine (abs_any _ _).mono ?_; rintro e w' ⟨rfl, rfl⟩)
  go_ret
  exact ⟨rfl, rfl⟩

set_option maxHeartbeats 400000 in
theorem finite_any (a : Nat) (w : World) :
    Calls Try.prog 14 #[.float .f64 a] w fun e w' => e = .returned (.bool (finB a)) ∧ w' = w := by
  cases h : nanB a
  · go_enter Try.func14, Try.ntmps14
    go_wp2_with (first | (go_at_call 17; refine (isNaN_any _ _).mono ?_; rintro e w' ⟨rfl, rfl⟩) | (go_at_call 18; refine (isInf_any _ _).mono ?_; rintro e w' ⟨rfl, rfl⟩))
    go_ret
    exact ⟨ret_bool (by simp only [finB, h, Bool.not_false, Bool.true_and]), rfl⟩
  · go_enter Try.func14, Try.ntmps14
    go_wp2_with (first | (go_at_call 17; refine (isNaN_any _ _).mono ?_; rintro e w' ⟨rfl, rfl⟩) | (go_at_call 18; refine (isInf_any _ _).mono ?_; rintro e w' ⟨rfl, rfl⟩))
    go_ret
    exact ⟨ret_bool (by simp only [finB, h, Bool.not_true, Bool.false_and]), rfl⟩

set_option maxHeartbeats 400000 in
theorem whole_any (a b : Nat) (w : World) :
    Calls Try.prog 8 #[.complex .f64 a b] w fun e w' => e = .returned (.bool (finB a && finB b)) ∧ w' = w := by
  cases h : finB a
  · go_enter Try.func8, Try.ntmps8
    go_wp2_with (go_at_call 14; refine (finite_any _ _).mono ?_; rintro e w' ⟨rfl, rfl⟩)
    go_ret
    exact ⟨ret_bool (by simp only [Bool.false_and]), rfl⟩
  · go_enter Try.func8, Try.ntmps8
    go_wp2_with (go_at_call 14; refine (finite_any _ _).mono ?_; rintro e w' ⟨rfl, rfl⟩)
    go_ret
    exact ⟨ret_bool (by simp only [Bool.true_and]), rfl⟩

set_option maxHeartbeats 400000 in
theorem rank_any (a : Nat) (w : World) :
    Calls Try.prog 15 #[.float .f64 a] w fun e w' => e = .returned (.int .u64 (rankI a)) ∧ w' = w := by
  go_enter Try.func15, Try.ntmps15
  go_wp2_with (go_at_call 16; refine (form_any _ _).mono ?_; rintro e w' ⟨rfl, rfl⟩)
  · go_ret
    exact ⟨ret_int (by rw [rankI, if_pos ‹_›]), rfl⟩
  · go_ret
    exact ⟨ret_int (by rw [rankI, if_neg (by rw [‹(_ != _) = false›]; decide)]), rfl⟩

/-- Is a number ahead of another? -/
def lessB (a b c d : Nat) : Bool := if (rankI a != rankI c) = true then decide (rankI a < rankI c) else decide (rankI b < rankI d)

set_option maxHeartbeats 400000 in
theorem less_any (a b c d : Nat) (w : World) :
    Calls Try.prog 9 #[.complex .f64 a b, .complex .f64 c d] w fun e w' => e = .returned (.bool (lessB a b c d)) ∧ w' = w := by
  go_enter Try.func9, Try.ntmps9
  go_wp2_with (go_at_call 15; refine (rank_any _ _).mono ?_; rintro e w' ⟨rfl, rfl⟩)
  · go_ret
    exact ⟨ret_bool (by rw [lessB, if_pos ‹_›]), rfl⟩
  · go_ret
    exact ⟨ret_bool (by rw [lessB, if_neg (by rw [‹(_ != _) = false›]; decide)]), rfl⟩

end Go.Proofs.Ytfnogojkjddkgab
