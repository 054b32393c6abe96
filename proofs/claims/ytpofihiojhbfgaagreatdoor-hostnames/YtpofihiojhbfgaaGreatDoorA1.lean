/- Plain facts on the words of float64: which are no numbers, their signs, their order. No program is named here. Conditions: those that each theorem names. What the leaves of package cnum do, walked: the number of bits, the bits of a number, whether a part is a number. Conditions: none but those that each theorem names. What the functions of package cnum and of its document's answer do, walked: each returns what a plain function of the words says, and changes nothing. Conditions: those that each theorem names. -/
import Derived.WalkKit
import Derived.WalkLawsBesides
import Derived.Test.YtpofihiojhbfgaaGreatDoorChecked
import Derived.KernelRfl
namespace Go.Proofs.YtpofihiojhbfgaaGreatDoor

def nanB (b : Nat) : Bool := FloatKind.f64.format.order b b != some .eq

def formN (b : Nat) : Nat := if nanB b then 9221120237041090561 else b

def rung (b : Nat) : Nat := b % 9223372036854775808

def sgn (b : Nat) : Bool := b / 9223372036854775808 % 2 == 1

theorem read_eq (b : Nat) : FloatKind.f64.format.read b =
    if rung b < 4503599627370496 then .number (sgn b) (rung b) (-1074)
    else if rung b < 9218868437227405312 then .number (sgn b) (4503599627370496 + rung b % 4503599627370496) (-1074 + (rung b / 4503599627370496 - 1 : Nat))
    else if rung b = 9218868437227405312 then .infinity (sgn b)
    else .nan (sgn b) (rung b - 9218868437227405312) := by
  rfl

theorem order_self_number (s : Bool) (m : Nat) (i : Int) : Ieee.Datum.order (.number s m i) (.number s m i) = some .eq := by
  simp [Ieee.Datum.order]

theorem nanB_eq (b : Nat) : nanB b = decide (9218868437227405312 < rung b) := by
  unfold nanB Ieee.Format.order
  rw [read_eq]
  split
  · rw [order_self_number]; simp; omega
  · split
    · rw [order_self_number]; simp; omega
    · split
      · rename_i h; rw [h]; cases sgn b <;> rfl
      · have hr : 9218868437227405312 < rung b := by omega
        rw [show Ieee.Datum.order (.nan (sgn b) (rung b - 9218868437227405312)) (.nan (sgn b) (rung b - 9218868437227405312)) = none from rfl]
        simp [hr]

theorem formN_lt (b : Nat) (hb : b < 18446744073709551616) : formN b < 18446744073709551616 := by
  unfold formN; split <;> omega

theorem and_exp (a : Nat) (ha : a < 18446744073709551616) : bits .and .u64 ((a : Int) / 4503599627370496) 2047 = ((a / 4503599627370496 % 2048 : Nat) : Int) := by
  have e : ((a : Int) / 4503599627370496) = ((a / 4503599627370496 : Nat) : Int) := by simp
  rw [e]
  go_bits2

theorem and_frac (a : Nat) (ha : a < 18446744073709551616) : bits .and .u64 (a : Int) 4503599627370495 = ((a % 4503599627370496 : Nat) : Int) := by
  go_bits2

theorem form_nan (a : Nat) (ha : a < 18446744073709551616) (h1 : bits .and .u64 ((a : Int) / 4503599627370496) 2047 = 2047) (h2 : (bits .and .u64 (a : Int) 4503599627370495 != 0) = true) : 9221120237041090561 = (formN a : Int) := by
  rw [and_exp a ha] at h1
  rw [and_frac a ha] at h2
  have h3 : a % 4503599627370496 ≠ 0 := by simp at h2; omega
  have n : nanB a = true := by rw [nanB_eq]; unfold rung; simp; omega
  unfold formN; rw [if_pos n]; rfl

theorem form_frac (a : Nat) (ha : a < 18446744073709551616) (h2 : (bits .and .u64 (a : Int) 4503599627370495 != 0) = false) : (a : Int) = (formN a : Int) := by
  rw [and_frac a ha] at h2
  have h3 : a % 4503599627370496 = 0 := by simp at h2; omega
  have n : nanB a = false := by rw [nanB_eq]; unfold rung; simp; omega
  unfold formN; rw [n]; rfl

theorem form_exp (a : Nat) (ha : a < 18446744073709551616) (h1 : ¬ bits .and .u64 ((a : Int) / 4503599627370496) 2047 = 2047) : (a : Int) = (formN a : Int) := by
  rw [and_exp a ha] at h1
  have n : nanB a = false := by rw [nanB_eq]; unfold rung; simp; omega
  unfold formN; rw [n]; rfl

end Go.Proofs.YtpofihiojhbfgaaGreatDoor

namespace Go.Proofs.YtpofihiojhbfgaaGreatDoor

theorem frombits_run (a : Nat) (w : World) : (callFunc 180 #[.int .u64 (a : Int)]).run Tryz.prog w = .ok (.value (.float .f64 a)) w := by
  rw [run_callFunc_extern Tryz.func180 (by kernel_rfl) (by kernel_rfl) (by kernel_rfl) (e := Extern.MathFloatBits.float64frombits) (by kernel_rfl)]
  rfl

theorem bits_run (a : Nat) (w : World) : (callFunc 134 #[.float .f64 a]).run Tryz.prog w = .ok (.value (.int .u64 (a : Int))) w := by
  rw [run_callFunc_extern Tryz.func134 (by kernel_rfl) (by kernel_rfl) (by kernel_rfl) (e := Extern.MathFloatBits.float64bits) (by kernel_rfl)]
  rfl

set_option maxHeartbeats 400000 in
theorem of_any (a b : Nat) (w : World) :
    Calls Tryz.prog 149 #[.int .u64 (a : Int), .int .u64 (b : Int)] w fun e w' => e = .returned (.complex .f64 a b) ∧ w' = w := by
  have hf := frombits_run
  go_enter Tryz.func149, Tryz.ntmps149
  go_wp2
  go_ret
  exact ⟨rfl, rfl⟩

set_option maxHeartbeats 400000 in
theorem isNaN_any (a : Nat) (w : World) :
    Calls Tryz.prog 195 #[.float .f64 a] w fun e w' => e = .returned (.bool (nanB a)) ∧ w' = w := by
  go_enter Tryz.func195, Tryz.ntmps195
  go_wp2
  go_ret
  exact ⟨rfl, rfl⟩

end Go.Proofs.YtpofihiojhbfgaaGreatDoor

namespace Go.Proofs.YtpofihiojhbfgaaGreatDoor

theorem ret_int {k : IntKind} {a b : Int} (h : a = b) : Ending.returned (.int k a) = .returned (.int k b) := by rw [h]
theorem ret_bool {a b : Bool} (h : a = b) : Ending.returned (.bool a) = .returned (.bool b) := by rw [h]

set_option maxHeartbeats 400000 in
theorem form_any (a : Nat) (w : World) :
    Calls Tryz.prog 181 #[.float .f64 a] w fun e w' => e = .returned (.int .u64 (formN a : Int)) ∧ w' = w := by
  have hf := bits_run
  cases h : nanB a
  · go_enter Tryz.func181, Tryz.ntmps181
    go_wp2_with (go_at_call 195; refine (isNaN_any _ _).mono ?_; rintro e w' ⟨rfl, rfl⟩)
    go_ret
    exact ⟨ret_int (by simp [formN, h]), rfl⟩
  · go_enter Tryz.func181, Tryz.ntmps181
    go_wp2_with (go_at_call 195; refine (isNaN_any _ _).mono ?_; rintro e w' ⟨rfl, rfl⟩)
    go_ret
    exact ⟨ret_int (by simp [formN, h]), rfl⟩

set_option maxHeartbeats 400000 in
theorem bits_any (a b : Nat) (w : World) :
    Calls Tryz.prog 150 #[.complex .f64 a b] w fun e w' => e = .returned (.tuple #[.int .u64 (formN a : Int), .int .u64 (formN b : Int)]) ∧ w' = w := by
  go_enter Tryz.func150, Tryz.ntmps150
  go_wp2_with (go_at_call 181; refine (form_any _ _).mono ?_; rintro e w' ⟨rfl, rfl⟩)
  go_ret2
  exact ⟨rfl, rfl⟩

def sameB (a b c d : Nat) : Bool := (formN a : Int) == (formN c : Int) && (formN b : Int) == (formN d : Int)

set_option maxHeartbeats 400000 in
theorem same_any (a b c d : Nat) (w : World) :
    Calls Tryz.prog 183 #[.complex .f64 a b, .complex .f64 c d] w fun e w' => e = .returned (.bool (sameB a b c d)) ∧ w' = w := by
  cases h : ((formN a : Int) == (formN c : Int))
  · go_enter Tryz.func183, Tryz.ntmps183
    go_wp2_with (go_at_call 150; refine (bits_any _ _ _).mono ?_; rintro e w' ⟨rfl, rfl⟩)
    go_ret
    exact ⟨ret_bool (by simp only [sameB, h, Bool.false_and]), rfl⟩
  · go_enter Tryz.func183, Tryz.ntmps183
    go_wp2_with (go_at_call 150; refine (bits_any _ _ _).mono ?_; rintro e w' ⟨rfl, rfl⟩)
    go_ret
    exact ⟨ret_bool (by simp only [sameB, h, Bool.true_and]), rfl⟩

set_option maxHeartbeats 400000 in
theorem refForm_any (a : Nat) (ha : a < 18446744073709551616) (w : World) :
    Calls Tryz.prog 133 #[.int .u64 (a : Int)] w fun e w' => e = .returned (.int .u64 (formN a : Int)) ∧ w' = w := by
  go_enter Tryz.func133, Tryz.ntmps133
  go_wp2
  · go_ret
    exact ⟨ret_int (form_nan a ha ‹_› ‹_›), rfl⟩
  · go_ret
    exact ⟨ret_int (form_frac a ha ‹_›), rfl⟩
  · go_ret
    exact ⟨ret_int (form_exp a ha ‹_›), rfl⟩

end Go.Proofs.YtpofihiojhbfgaaGreatDoor
