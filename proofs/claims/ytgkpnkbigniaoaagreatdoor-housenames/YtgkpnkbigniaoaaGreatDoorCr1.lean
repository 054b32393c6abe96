/- What the functions of package crc do, walked: the sum of one byte more. -/
import Derived.Test.YtgkpnkbigniaoaaGreatDoorProg
import Derived.Test.YtgkpnkbigniaoaaGreatDoorSl
import Derived.Test.YtgkpnkbigniaoaaGreatDoorCm
import Derived.WalkKit
import Derived.ScopeJumps
namespace Go.Proofs.YtgkpnkbigniaoaaGreatDoor
open Go.RowKit
set_option linter.unusedVariables false

theorem and1 (x : Nat) (h : x < 65536) : bits .and .u16 (x : Int) 1 = ((x % 2 : Nat) : Int) := by
  have := u16_and_nat x 1 h (by decide)
  rw [Nat.and_one_is_mod] at this
  exact this

theorem step_odd {x : Nat} (h : x < 65536) (ho : (bits .and .u16 (x : Int) 1 == 1) = true) : bits .xor .u16 ((x : Int) / 2) 33800 = ((U x : Nat) : Int) := by
  rw [and1 x h] at ho
  have ho2 : x % 2 = 1 := by simp at ho; omega
  have := u16_xor_nat (x / 2) 33800 (by omega) (by decide)
  unfold U
  rw [if_pos ho2]
  exact this

theorem step_even {x : Nat} (h : x < 65536) (ho : (bits .and .u16 (x : Int) 1 == 1) = false) : (x : Int) / 2 = ((U x : Nat) : Int) := by
  rw [and1 x h] at ho
  have ho2 : ¬ x % 2 = 1 := by simp at ho; omega
  unfold U
  rw [if_neg ho2]
  rfl

set_option maxRecDepth 1000000 in
theorem addByte_any (s b : Nat) (hs : s < 65536) (hb : b < 256) (w : World) :
    Calls Tryz.prog 207 #[.int .u16 (s : Int), .int .u8 (b : Int)] w fun e w' => e = .returned (.int .u16 (adB s b : Nat)) ∧ w' = w := by
  have hx := u16_xor_nat s b hs (by omega)
  have hlt : s ^^^ b < 65536 := xor16 hs (by omega)
  go_enter Tryz.func207, Tryz.ntmps207
  go_wp2
  refine wp_scope_jumps 0 (fun a' w' => w' = w ∧ ∃ (j : Nat) (u1 u2 u3 u4 u6 u7 u8 u9 u10 u11 u12 u13 u14 u15 u16 u17 u18 u19 u20 u21 u22 u23 : Value), 1 ≤ j ∧ j ≤ 7 ∧ a' = { tmps := #[.int .u16 (Un (8 - j) (s ^^^ b) : Nat), u1, u2, u3, u4, .int .i64 (j : Int), u6, u7, u8, u9, u10, u11, u12, u13, u14, u15, u16, u17, u18, u19, u20, u21, u22, u23], defers := [] }) (fun a' _ => (intOf (a'.tmps.getD 5 undef)).toNat) rfl ?_ ?_
  · go_wp2
    go_step3
    go_wp2
    · rename_i ho _ _
      rw [step_odd hlt ho]
      go_step3
      exact ⟨rfl, rfl, 7, _, _, _, _, _, _, _, _, _, _, _, _, _, _, _, _, _, _, _, _, _, _, by omega, by omega, rfl⟩
    · rename_i ho _ _
      rw [step_even hlt ho]
      go_step3
      exact ⟨rfl, rfl, 7, _, _, _, _, _, _, _, _, _, _, _, _, _, _, _, _, _, _, _, _, _, _, by omega, by omega, rfl⟩
  · rintro a' w' ⟨rfl, j, u1, u2, u3, u4, u6, u7, u8, u9, u10, u11, u12, u13, u14, u15, u16, u17, u18, u19, u20, u21, u22, u23, h1, h7, rfl⟩
    have hy : Un (8 - j) (s ^^^ b) < 65536 := Un_lt _ hlt
    have hU : U (Un (8 - j) (s ^^^ b)) = Un (8 - j + 1) (s ^^^ b) := (Un_succ _ _).symm
    have hj : 8 - j + 1 = 8 - (j - 1) := by omega
    by_cases hj1 : j = 1
    · subst hj1
      go_wp2
      · rename_i ho
        simp only [Exit.jump]
        go_ret
        rw [step_odd hy ho, hU]
        exact ⟨rfl, rfl⟩
      · rename_i ho
        simp only [Exit.jump]
        go_ret
        rw [step_even hy ho, hU]
        exact ⟨rfl, rfl⟩
    · have hj2 : (0 : Int) < (j : Int) - 1 := by omega
      have hj3 : (j : Int) - 1 = ((j - 1 : Nat) : Int) := by omega
      go_wp2
      · have ho : (bits .and .u16 ((Un (8 - j) (s ^^^ b) : Nat) : Int) 1 == 1) = true := by assumption
        rw [step_odd hy ho, hU, hj]
        go_step3
        refine ⟨rfl, ⟨rfl, j - 1, ⟨_, _, _, _, _, _, _, _, _, _, _, _, _, _, _, _, _, _, _, _, _, _, by omega, by omega, rfl⟩⟩, ?_⟩
        simp [intOf]; omega
      · have ho : (bits .and .u16 ((Un (8 - j) (s ^^^ b) : Nat) : Int) 1 == 1) = false := by assumption
        rw [step_even hy ho, hU, hj]
        go_step3
        refine ⟨rfl, ⟨rfl, j - 1, ⟨_, _, _, _, _, _, _, _, _, _, _, _, _, _, _, _, _, _, _, _, _, _, by omega, by omega, rfl⟩⟩, ?_⟩
        simp [intOf]; omega
end Go.Proofs.YtgkpnkbigniaoaaGreatDoor
