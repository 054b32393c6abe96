/- What the functions of package cnum and of its document's answer do, walked: each returns what a plain function of the words says, and changes nothing. Conditions: those that each theorem names. -/
import Derived.Test.YtfnogojkjddkgaaLeaf
namespace Go.Proofs.Ytfnogojkjddkgaa

theorem ret_int {k : IntKind} {a b : Int} (h : a = b) : Ending.returned (.int k a) = .returned (.int k b) := by rw [h]
theorem ret_bool {a b : Bool} (h : a = b) : Ending.returned (.bool a) = .returned (.bool b) := by rw [h]

theorem frombits_runI (n : Int) (w : World) : (callFunc 24 #[.int .u64 n]).run Try.prog w = .ok (.value (.float .f64 n.toNat)) w := by
  rw [run_callFunc_extern Try.func24 (by kernel_rfl) (by kernel_rfl) (by kernel_rfl) (e := Extern.MathFloatBits.float64frombits) (by kernel_rfl)]
  rfl

set_option maxHeartbeats 400000 in
theorem form_any (a : Nat) (w : World) :
    Calls Try.prog 23 #[.float .f64 a] w fun e w' => e = .returned (.int .u64 (formN a : Int)) ∧ w' = w := by
  have hf := bits_run
  cases h : nanB a
  · go_enter Try.func23, Try.ntmps23
    go_wp2_with (go_at_call 29; refine (isNaN_any _ _).mono ?_; rintro e w' ⟨rfl, rfl⟩)
    go_ret
    exact ⟨ret_int (by simp [formN, h]), rfl⟩
  · go_enter Try.func23, Try.ntmps23
    go_wp2_with (go_at_call 29; refine (isNaN_any _ _).mono ?_; rintro e w' ⟨rfl, rfl⟩)
    go_ret
    exact ⟨ret_int (by simp [formN, h]), rfl⟩

set_option maxHeartbeats 400000 in
theorem bits_any (a b : Nat) (w : World) :
    Calls Try.prog 8 #[.complex .f64 a b] w fun e w' => e = .returned (.tuple #[.int .u64 (formN a : Int), .int .u64 (formN b : Int)]) ∧ w' = w := by
  go_enter Try.func8, Try.ntmps8
  go_wp2_with (go_at_call 23; refine (form_any _ _).mono ?_; rintro e w' ⟨rfl, rfl⟩)
  go_ret2
  exact ⟨rfl, rfl⟩

/-- Are two numbers the same? -/
def sameB (a b c d : Nat) : Bool := (formN a : Int) == (formN c : Int) && (formN b : Int) == (formN d : Int)

set_option maxHeartbeats 400000 in
theorem same_any (a b c d : Nat) (w : World) :
    Calls Try.prog 12 #[.complex .f64 a b, .complex .f64 c d] w fun e w' => e = .returned (.bool (sameB a b c d)) ∧ w' = w := by
  cases h : ((formN a : Int) == (formN c : Int))
  · go_enter Try.func12, Try.ntmps12
    go_wp2_with (go_at_call 8; refine (bits_any _ _ _).mono ?_; rintro e w' ⟨rfl, rfl⟩)
    go_ret
    exact ⟨ret_bool (by simp only [sameB, h, Bool.false_and]), rfl⟩
  · go_enter Try.func12, Try.ntmps12
    go_wp2_with (go_at_call 8; refine (bits_any _ _ _).mono ?_; rintro e w' ⟨rfl, rfl⟩)
    go_ret
    exact ⟨ret_bool (by simp only [sameB, h, Bool.true_and]), rfl⟩

set_option maxHeartbeats 400000 in
theorem mirror_any (a b : Nat) (w : World) :
    Calls Try.prog 13 #[.complex .f64 a b] w fun e w' => e = .returned (.complex .f64 a (Op.negFloat .f64 b)) ∧ w' = w := by
  have hn : ∀ k b, Op.unary .neg (.float k b) = pure (.float k (Op.negFloat k b)) := fun _ _ => rfl
  go_enter Try.func13, Try.ntmps13
  go_wp2
  go_ret
  exact ⟨rfl, rfl⟩

set_option maxHeartbeats 400000 in
theorem turn_any (a b : Nat) (w : World) :
    Calls Try.prog 15 #[.complex .f64 a b] w fun e w' => e = .returned (.complex .f64 (Op.negFloat .f64 b) a) ∧ w' = w := by
  have hn : ∀ k b, Op.unary .neg (.float k b) = pure (.float k (Op.negFloat k b)) := fun _ _ => rfl
  go_enter Try.func15, Try.ntmps15
  go_wp2
  go_ret
  exact ⟨rfl, rfl⟩

set_option maxHeartbeats 400000 in
theorem abs_any (a : Nat) (w : World) :
    Calls Try.prog 31 #[.float .f64 a] w fun e w' => e = .returned (.float .f64 (absN a)) ∧ w' = w := by
  have hf := bits_run
  have hg := frombits_runI
  go_enter Try.func31, Try.ntmps31
  go_wp2
  go_ret
  exact ⟨rfl, rfl⟩

set_option maxHeartbeats 400000 in
theorem isInf_any (a : Nat) (w : World) :
    Calls Try.prog 30 #[.float .f64 a, .int .i64 0] w fun e w' => e = .returned (.bool (infB a)) ∧ w' = w := by
  go_enter Try.func30, Try.ntmps30
  go_wp2_with (go_at_call 31; refine (abs_any _ _).mono ?_; rintro e w' ⟨rfl, rfl⟩)
  go_ret
  exact ⟨rfl, rfl⟩

set_option maxHeartbeats 400000 in
theorem finite_any (a : Nat) (w : World) :
    Calls Try.prog 27 #[.float .f64 a] w fun e w' => e = .returned (.bool (finB a)) ∧ w' = w := by
  cases h : nanB a
  · go_enter Try.func27, Try.ntmps27
    go_wp2_with (first | (go_at_call 29; refine (isNaN_any _ _).mono ?_; rintro e w' ⟨rfl, rfl⟩) | (go_at_call 30; refine (isInf_any _ _).mono ?_; rintro e w' ⟨rfl, rfl⟩))
    go_ret
    exact ⟨ret_bool (by simp only [finB, h, Bool.not_false, Bool.true_and]), rfl⟩
  · go_enter Try.func27, Try.ntmps27
    go_wp2_with (first | (go_at_call 29; refine (isNaN_any _ _).mono ?_; rintro e w' ⟨rfl, rfl⟩) | (go_at_call 30; refine (isInf_any _ _).mono ?_; rintro e w' ⟨rfl, rfl⟩))
    go_ret
    exact ⟨ret_bool (by simp only [finB, h, Bool.not_true, Bool.false_and]), rfl⟩

set_option maxHeartbeats 400000 in
theorem whole_any (a b : Nat) (w : World) :
    Calls Try.prog 18 #[.complex .f64 a b] w fun e w' => e = .returned (.bool (finB a && finB b)) ∧ w' = w := by
  cases h : finB a
  · go_enter Try.func18, Try.ntmps18
    go_wp2_with (go_at_call 27; refine (finite_any _ _).mono ?_; rintro e w' ⟨rfl, rfl⟩)
    go_ret
    exact ⟨ret_bool (by simp only [Bool.false_and]), rfl⟩
  · go_enter Try.func18, Try.ntmps18
    go_wp2_with (go_at_call 27; refine (finite_any _ _).mono ?_; rintro e w' ⟨rfl, rfl⟩)
    go_ret
    exact ⟨ret_bool (by simp only [Bool.true_and]), rfl⟩

set_option maxHeartbeats 400000 in
theorem rank_any (a : Nat) (w : World) :
    Calls Try.prog 28 #[.float .f64 a] w fun e w' => e = .returned (.int .u64 (rankI a)) ∧ w' = w := by
  go_enter Try.func28, Try.ntmps28
  go_wp2_with (go_at_call 23; refine (form_any _ _).mono ?_; rintro e w' ⟨rfl, rfl⟩)
  · go_ret
    exact ⟨ret_int (by rw [rankI, if_pos ‹_›]), rfl⟩
  · go_ret
    exact ⟨ret_int (by rw [rankI, if_neg (by rw [‹(_ != _) = false›]; decide)]), rfl⟩

/-- Is a number ahead of another? -/
def lessB (a b c d : Nat) : Bool := if (rankI a != rankI c) = true then decide (rankI a < rankI c) else decide (rankI b < rankI d)

set_option maxHeartbeats 400000 in
theorem less_any (a b c d : Nat) (w : World) :
    Calls Try.prog 21 #[.complex .f64 a b, .complex .f64 c d] w fun e w' => e = .returned (.bool (lessB a b c d)) ∧ w' = w := by
  go_enter Try.func21, Try.ntmps21
  go_wp2_with (go_at_call 28; refine (rank_any _ _).mono ?_; rintro e w' ⟨rfl, rfl⟩)
  · go_ret
    exact ⟨ret_bool (by rw [lessB, if_pos ‹_›]), rfl⟩
  · go_ret
    exact ⟨ret_bool (by rw [lessB, if_neg (by rw [‹(_ != _) = false›]; decide)]), rfl⟩

set_option maxHeartbeats 400000 in
theorem refForm_any (a : Nat) (ha : a < 18446744073709551616) (w : World) :
    Calls Try.prog 20 #[.int .u64 (a : Int)] w fun e w' => e = .returned (.int .u64 (formN a : Int)) ∧ w' = w := by
  go_enter Try.func20, Try.ntmps20
  go_wp2
  · go_ret
    exact ⟨ret_int (form_nan a ha ‹_› ‹_›), rfl⟩
  · go_ret
    exact ⟨ret_int (form_frac a ha ‹_›), rfl⟩
  · go_ret
    exact ⟨ret_int (form_exp a ha ‹_›), rfl⟩

set_option maxHeartbeats 400000 in
theorem refWhole_any (a : Nat) (ha : a < 18446744073709551616) (w : World) :
    Calls Try.prog 19 #[.int .u64 (a : Int)] w fun e w' => e = .returned (.bool (finB a)) ∧ w' = w := by
  go_enter Try.func19, Try.ntmps19
  go_wp2
  go_ret
  exact ⟨ret_bool (whole_bits a ha), rfl⟩

set_option maxHeartbeats 400000 in
theorem refAhead_any (a b : Nat) (ha : a < 18446744073709551616) (hb : b < 18446744073709551616) (w : World) :
    Calls Try.prog 22 #[.int .u64 (a : Int), .int .u64 (b : Int)] w fun e w' => e = .returned (.bool (decide (rankI a < rankI b))) ∧ w' = w := by
  have hf := frombits_run
  go_enter Try.func22, Try.ntmps22
  go_wp2_with (go_at_call 20; refine (refForm_any _ (by assumption) _).mono ?_; rintro e w' ⟨rfl, rfl⟩)
  · go_ret
    exact ⟨ret_bool (ahead1 a b ha hb ‹_›), rfl⟩
  · go_ret
    exact ⟨ret_bool (ahead2 a b ha hb ‹_› ‹_›), rfl⟩
  · go_ret
    exact ⟨ret_bool (ahead3 a b ha hb ‹_› ‹_› ‹_› ‹_› ‹_›), rfl⟩
  · go_ret
    exact ⟨ret_bool (ahead4 a b ha hb ‹_› ‹_› ‹_› ‹_› ‹_›), rfl⟩
  · go_ret
    exact ⟨ret_bool (ahead5 a b ha hb ‹_› ‹_› ‹_›), rfl⟩
  · go_ret
    exact ⟨ret_bool (ahead6 a b ha hb ‹_› ‹_› ‹_›), rfl⟩

end Go.Proofs.Ytfnogojkjddkgaa
