/- One function's answers known: the sum of one byte more. No walk. -/
import Derived.Test.YtgkpnkbigniaoaaGreatDoorCr1
import Derived.Test.YtgkpnkbigniaoaaGreatDoorP40
namespace Go.Proofs.YtgkpnkbigniaoaaGreatDoor
open Go.RowKit
set_option linter.unusedVariables false
/-- One bit. -/
def uK (x : Nat) : Nat := cond (Nat.beq (Nat.land x 1) 1) (Nat.xor (Nat.div x 2) 33800) (Nat.div x 2)
/-- One byte. -/
def adK (s b : Nat) : Nat := uK (uK (uK (uK (uK (uK (uK (uK (Nat.xor s b))))))))
def sumK : List Value → Option Value
  | [.int .u16 (.ofNat s), .int .u8 (.ofNat b)] => cond (Nat.blt s 65536) (cond (Nat.blt b 256) (some (.int .u16 (.ofNat (adK s b)))) none) none
  | _ => none
theorem uK_eq (x : Nat) : uK x = U x := by
  have h1 : Nat.land x 1 = x % 2 := Nat.and_one_is_mod x
  unfold uK U
  rw [h1]
  by_cases h : x % 2 = 1
  · rw [if_pos h, h]; rfl
  · have h0 : x % 2 = 0 := by omega
    rw [if_neg h, h0]; rfl
theorem adK_eq (s b : Nat) : adK s b = adB s b := by
  unfold adK adB
  simp only [uK_eq]
  rfl
theorem sumK_some {args : List Value} {v : Value} (h : sumK args = some v) : ∃ s b : Nat, s < 65536 ∧ b < 256 ∧ args = [.int .u16 (s : Int), .int .u8 (b : Int)] ∧ v = .int .u16 ((adB s b : Nat) : Int) := by
  unfold sumK at h
  split at h
  · rename_i s b
    obtain ⟨h1, h⟩ := Ev.cond_some.1 h
    obtain ⟨h2, h⟩ := Ev.cond_some.1 h
    cases h
    exact ⟨s, b, Ev.blt_iff.1 h1, Ev.blt_iff.1 h2, rfl, by rw [adK_eq]; rfl⟩
  · cases h
theorem sum_ok : Ev.SumOk Tryz.prog 207 sumK := by
  refine ⟨fun args v h => ?_, fun args v h w => ?_⟩
  · obtain ⟨s, b, _, _, rfl, rfl⟩ := sumK_some h
    exact ⟨rfl, rfl⟩
  · obtain ⟨s, b, h1, h2, rfl, rfl⟩ := sumK_some h
    exact addByte_any s b h1 h2 w
end Go.Proofs.YtgkpnkbigniaoaaGreatDoor
