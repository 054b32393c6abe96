/- What the document's Clear does, walked. -/
import Derived.Test.YtngfcnbcljcdfaaU7
namespace Go.Proofs.Ytngfcnbcljcdfaa
open Go.RowKit
set_option linter.unusedVariables false

/-- A client's masks of the pages below k are nothing. -/
def clP (T : Nat → Nat) (c : Int) : Nat → (Nat → Nat)
  | 0 => T
  | k + 1 => dT (clP T c k) c k 15 15

theorem dT_lt {T : Nat → Nat} (hT : ∀ i, T i < 16) (c p a b : Int) : ∀ i, dT T c p a b i < 16 := by
  intro i
  unfold dT
  split
  · rename_i e
    obtain ⟨k, l, x, y, h1, h2, h3, h4, rfl, rfl, rfl, rfl⟩ := arg_yes e
    simp only [Int.toNat_natCast, drT, put]
    split
    · exact lsub (hT _) (lor h3 h4)
    · split
      · exact lsub (hT _) h3
      · exact hT i
  · exact hT i
theorem clP_lt {T : Nat → Nat} (hT : ∀ i, T i < 16) (c : Int) : ∀ k i, clP T c k i < 16
  | 0, i => hT i
  | k + 1, i => dT_lt (clP_lt hT c k) c k 15 15 i

theorem sub15 : ∀ m < 16, sub m 15 = 0 := by decide +kernel

theorem cT_nat' {T : Nat → Nat} {c : Nat} (hc : c < 4) : cT T c = clT T c := by simp [cT, cl_nat hc]

/-- Six drops are a clear. -/
theorem clP_all {T : Nat → Nat} (hT : ∀ i, T i < 16) {c : Nat} (hc : c < 4) : ∀ k, k ≤ 6 → ∀ j, clP T c k j = if c * 12 ≤ j ∧ j < c * 12 + k * 2 then 0 else T j
  | 0, _, j => by rw [clP, if_neg (by omega)]
  | k + 1, hk, j => by
    have ih := clP_all hT hc k (by omega)
    have harg : argB c k 15 15 = true := by unfold argB; rw [pl_nat hc (by omega)]; rfl
    have e15 : (15 : Int).toNat = 15 := rfl
    have s1 : ∀ m, m < 16 → sub m (15 ||| 15) = 0 := fun m hm => (show (15 ||| 15 : Nat) = 15 from by decide) ▸ sub15 m hm
    rw [clP, dT, if_pos harg]
    simp only [Int.toNat_natCast, drT, put, e15]
    by_cases h1 : j = c * 12 + k * 2 + 1
    · rw [if_pos h1, s1 _ (show ow (clP T c k) c k < 16 from clP_lt hT _ _ _), if_pos (by omega)]
    · rw [if_neg h1]
      by_cases h2 : j = c * 12 + k * 2
      · rw [if_pos h2, sub15 _ (show cp (clP T c k) c k < 16 from clP_lt hT _ _ _), if_pos (by omega)]
      · rw [if_neg h2, ih j]
        by_cases h3 : c * 12 ≤ j ∧ j < c * 12 + k * 2
        · rw [if_pos h3, if_pos (by omega)]
        · rw [if_neg h3, if_neg (by omega)]

theorem clP_is {T : Nat → Nat} (hT : ∀ i, T i < 16) (c : Int) : clP T c 6 = cT T c := by
  cases h : clB c
  · have h2 : ∀ k, clP T c k = T := by
      intro k
      induction k with
      | zero => rfl
      | succ k ih =>
        rw [clP, ih, dT, if_neg]
        unfold argB plB
        rw [h]
        simp
    rw [h2, cT, h]
    rfl
  · obtain ⟨k, hk, rfl⟩ := nat_of_cl h
    rw [cT_nat' hk]
    funext j
    rw [clP_all hT hk 6 (Nat.le_refl _) j]
    rfl

end Go.Proofs.Ytngfcnbcljcdfaa
