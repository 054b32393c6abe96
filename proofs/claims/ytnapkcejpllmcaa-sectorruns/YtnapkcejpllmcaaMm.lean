/- A bit of a number, told in two ways. -/
import Derived.Test.YtnapkcejpllmcaaS2
namespace Go.Proofs.Ytnapkcejpllmcaa
open Go.RowKit
set_option linter.unusedVariables false

theorem nat_and_pow (n i : Nat) : n &&& 2 ^ i = (n.testBit i).toNat * 2 ^ i := by
  apply Nat.eq_of_testBit_eq
  intro j
  rw [Nat.testBit_and, Nat.testBit_two_pow]
  cases hb : n.testBit i
  · simp
    intro h e
    subst e
    rw [hb] at h; cases h
  · simp only [Bool.toNat_true, Nat.one_mul, Nat.testBit_two_pow]
    by_cases e : i = j
    · subst e; simp [hb]
    · simp [e]

theorem and_one_bit (x : Int) (i : Nat) (hi : i < 6) : bits .and .i64 x ((2 : Int) ^ i) = if x / 2 ^ i % 2 = 1 then (2 : Int) ^ i else 0 := by
  have h1 : (BitVec.ofInt 64 x).toNat = (x % 18446744073709551616).toNat := by rw [BitVec.toNat_ofInt]; rfl
  have h2 : (BitVec.ofInt 64 ((2 : Int) ^ i)).toNat = 2 ^ i := by
    obtain rfl | rfl | rfl | rfl | rfl | rfl : i = 0 ∨ i = 1 ∨ i = 2 ∨ i = 3 ∨ i = 4 ∨ i = 5 := by omega
    all_goals decide
  show IntKind.i64.wrap ((BitVec.ofInt 64 x &&& BitVec.ofInt 64 ((2 : Int) ^ i)).toNat : Int) = _
  rw [BitVec.toNat_and, h1, h2, nat_and_pow, Nat.testBit_eq_decide_div_mod_eq]
  generalize hu : (x % 18446744073709551616).toNat = u
  have hu2 : (u : Int) = x % 18446744073709551616 := by omega
  rw [IntKind.wrap_i64]
  obtain rfl | rfl | rfl | rfl | rfl | rfl : i = 0 ∨ i = 1 ∨ i = 2 ∨ i = 3 ∨ i = 4 ∨ i = 5 := by omega
  all_goals
    simp only [Nat.reducePow, Int.reducePow]
    split
    · rename_i h
      rw [decide_eq_true (by omega)]
      simp
    · rename_i h
      rw [decide_eq_false (by omega)]
      simp

theorem kbit_iff (keep : Int) (i : Nat) (hi : i < 6) : kbit keep i = true ↔ bits .and .i64 keep ((2 : Int) ^ i) ≠ 0 := by
  unfold kbit
  have h0 := and_one_bit (keep / 2 ^ i) 0 (by omega)
  simp only [Int.pow_zero, Int.ediv_one] at h0
  rw [h0, and_one_bit keep i hi]
  have hp : (2 : Int) ^ i ≠ 0 := Int.ne_of_gt (Int.pow_pos (by omega))
  split <;> simp [hp]

end Go.Proofs.Ytnapkcejpllmcaa
