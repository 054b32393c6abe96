/- The chapter's example, walked. -/
import Derived.Test.YteofipheoipeoaaDoorW3
namespace Go.Proofs.YteofipheoipeoaaDoor
open Go.RowKit
set_option linter.unusedVariables false

def E0 : List (Int × Int) := [(0, 1), (1, 0), (2, 0)]
theorem ev1 : vcI E0 = 1 := by decide +kernel
theorem ev2 : vcB E0 = true := by decide +kernel
theorem ev3 : cyB E0 0 = true := by decide +kernel
theorem ev4 : cyB E0 2 = false := by decide +kernel
theorem ev5 : (rlI E0 2).length = 2 := by decide +kernel
theorem ev6 : (wo E0 1).length = 2 := by decide +kernel

set_option maxHeartbeats 800000 in
theorem alive_any (w : World) (H : Tz w) : Calls Tryd.prog 10 #[] w fun e w' => e = .returned (.bool true) ∧ Below w.heap.size w w' := by
  have hR : RdE (w.alloc (.cells #[.int .i64 0, .int .i64 1, .int .i64 1, .int .i64 0, .int .i64 2, .int .i64 0] 29)) (some ⟨w.heap.size, 0, none⟩) 3 E0 := RdE.built w _ E0 rfl (by simp [maxLen, E0]) 3 rfl
  have hB : Below w.heap.size w (w.alloc (.cells #[.int .i64 0, .int .i64 1, .int .i64 1, .int .i64 0, .int .i64 2, .int .i64 0] 29)) := by go_grown
  have hT := H.on hB
  have hl : E0.length = 3 := rfl
  have HL : Hid (E0.length = 3) := hl
  clear hl
  go_enter Tryd.func10, Tryd.ntmps10
  go_wp2_with (first
    | (go_at_call 9; refine (victim_any _ _ _ _ E0 hR HL.out hT).mono ?_; rw [ev1, ev2]; rintro e w2 ⟨rfl, hb2⟩; have hR2 := hR.below hb2; have hT2 := hT.on hb2; have hB2 := hB.trans (hb2.mono hB.size))
    | (go_at_call 12; with_reducible refine (cycle_any _ _ _ _ E0 hR2 HL.out hT2 0).mono ?_; rw [ev3]; rintro e w3 ⟨rfl, hb3⟩; have hR3 := hR2.below hb3; have hT3 := hT2.on hb3; have hB3 := hB2.trans (hb3.mono hB2.size))
    | (go_at_call 12; with_reducible refine (cycle_any _ _ _ _ E0 hR3 HL.out hT3 2).mono ?_; rw [ev4]; rintro e w4 ⟨rfl, hb4⟩; have hR4 := hR3.below hb4; have hT4 := hT3.on hb4; have hB4 := hB3.trans (hb4.mono hB3.size))
    | (go_at_call 11; refine (reach_any _ _ _ _ E0 hR4 HL.out hT4 2).mono ?_; rw [ev5]; rintro e w5 ⟨ao5, n5, cap5, rfl, ho5, rfl, hb5⟩; clear ho5; have hR5 := hR4.below hb5; have hB5 := hB4.trans (hb5.mono hB4.size))
    | (go_at_call 18; refine (without_any _ _ _ _ E0 hR5 HL.out (by omega) 1).mono ?_; rw [ev6]; rintro e w6 ⟨ao6, n6, cap6, rfl, ho6, rfl, hb6⟩; clear ho6; have hB6 := hB5.trans (hb6.mono hB5.size)))
  go_ret
  exact ⟨rfl, hB6⟩

end Go.Proofs.YteofipheoipeoaaDoor
