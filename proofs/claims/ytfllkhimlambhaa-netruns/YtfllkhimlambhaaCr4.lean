/- What the functions of package crc do, walked: how many bits a mask has. -/
import Derived.Test.YtfllkhimlambhaaCr3
import Derived.Lib.BitFns
namespace Go.Proofs.Ytfllkhimlambhaa
open Go.RowKit
set_option linter.unusedVariables false

theorem tab_size : Lib.len8tab.size = 256 := by decide +kernel

theorem tab_all : ∀ n : Fin 256, ((Lib.len8tab[n.val]'(by rw [tab_size]; exact n.isLt)).toNat = Lib.bitLen n.val) ∧ n.val < 2 ^ Lib.bitLen n.val ∧ (Lib.bitLen n.val ≠ 0 → n.val / 2 ^ (Lib.bitLen n.val - 1) % 2 = 1) ∧ Lib.bitLen n.val ≤ 8 := by decide +kernel

theorem tab_get (i : Nat) (h : i < Lib.len8tab.size) : (Lib.len8tab[i]).toNat = Lib.bitLen i := (tab_all ⟨i, by rw [tab_size] at h; exact h⟩).1

theorem isLen_low {m : Nat} (h : m < 256) : IsLen m (Lib.bitLen m) :=
  have := tab_all ⟨m, h⟩
  ⟨this.2.1, this.2.2.1, by have := this.2.2.2; simp at this; omega⟩

theorem isLen_high {m : Nat} (h : 256 ≤ m) (h2 : m < 65536) : IsLen m (8 + Lib.bitLen (m / 256)) := by
  have t := tab_all ⟨m / 256, by omega⟩
  obtain ⟨_, t1, t2, t3⟩ := t
  simp only at t1 t2 t3
  have h0 : Lib.bitLen (m / 256) ≠ 0 := by
    intro e
    rw [e] at t1
    simp at t1
    omega
  refine ⟨?_, fun _ => ?_, by omega⟩
  · rw [Nat.pow_add]
    have e : (2 : Nat) ^ 8 = 256 := rfl
    rw [e]
    omega
  · rw [show 8 + Lib.bitLen (m / 256) - 1 = 8 + (Lib.bitLen (m / 256) - 1) by omega, Nat.pow_add, ← Nat.div_div_eq_div_mul]
    exact t2 h0

/-- How many bits a mask has. -/
def L16 (m : Nat) : Nat := if m < 256 then Lib.bitLen m else 8 + Lib.bitLen (m / 256)

theorem isLen (m : Nat) (h : m < 65536) : IsLen m (L16 m) := by
  unfold L16
  split
  · exact isLen_low (by assumption)
  · exact isLen_high (by omega) h

set_option maxHeartbeats 4000000 in
set_option maxRecDepth 100000 in
theorem len16_any (m : Nat) (w : World) (hm : m < 65536) :
    Calls Try.prog 36 #[.int .u16 (m : Int)] w fun e w' => e = .returned (.int .i64 (L16 m : Nat)) ∧ w' = w := by
  have hts := tab_size
  by_cases h : m < 256
  · have hg := tab_get m (by omega)
    have hl := (isLen_low h).le
    have e : L16 m = Lib.bitLen m := if_pos h
    rw [e]
    go_enter Try.func36, Try.ntmps36
    go_wp2
    go_ret
    exact ⟨rfl, rfl⟩
  · have hg := tab_get (m / 256) (by omega)
    have hl := (isLen_high (by omega) hm).le
    have e : L16 m = 8 + Lib.bitLen (m / 256) := if_neg h
    rw [e]
    go_enter Try.func36, Try.ntmps36
    go_wp2
    go_ret
    exact ⟨congrArg Ending.returned (congrArg (Value.int IntKind.i64) (by simp)), rfl⟩

end Go.Proofs.Ytfllkhimlambhaa
