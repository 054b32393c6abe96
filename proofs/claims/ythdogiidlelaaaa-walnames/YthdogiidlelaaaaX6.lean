/- The chapter's example, walked whole. -/
import Derived.Test.YthdogiidlelaaaaX5
namespace Go.Proofs.Ythdogiidlelaaaa
open Go.RowKit
set_option linter.unusedVariables false

set_option maxHeartbeats 1600000 in
theorem alive_any (w : World) : Calls Try.prog 7 #[] w fun e w' => e = .returned (.bool true) ∧ Below w.heap.size w w' := by
  go_enter Try.func7, Try.ntmps7
  go_wp2_with (first
    | (go_at_call 21; refine (com4 _ _ _ _ _ _ hG5).mono ?_; rintro e w14 ⟨aoC, capC, rfl, hb14⟩; have hB14 : Below w.heap.size w w14 := below_step hB13 hb14)
    | (go_at_call 6; refine (al4 _ _ _ _ _ _ _ (hG4.below hb12) hR4).mono ?_; rintro e w13 ⟨rfl, ao13, cap13, hG5, hb13⟩; have hB13 : Below w.heap.size w w13 := (below_step hB11 hb12).trans hb13)
    | (go_at_call 16; refine (one_any 4 w11).mono ?_; rintro e w12 ⟨ap4, rfl, hR4, hb12⟩)
    | (go_at_call 4; refine (op2 _ _ _ _ _ hT10).mono ?_; rintro e w11 ⟨gm, rfl, hG4, hb11, -⟩; have hB11 : Below w.heap.size w w11 := hB10.trans hb11)
    | (go_at_call 20; refine (cr2 _ _ _ _ _ hG3'.t).mono ?_; rintro e w10 ⟨rfl, hT10, hO10, -⟩; have hB10 : Below w.heap.size w w10 := hB9.trans (hG3'.t.belowB hO10))
    | (go_at_call 19; refine (last_log _ _ _ _ _ _ _ _ _ _ _ hG3').mono ?_; rintro e w' ⟨rfl, hw⟩; subst w')
    | (go_at_call 18; refine (dur2 _ _ _ _ _ _ hG3).mono ?_; rintro e w9 ⟨rfl, hb9⟩; have hB9 : Below w.heap.size w w9 := below_step hB8 hb9; have hG3' := hG3.below hb9)
    | (go_at_call 6; refine (al3 _ _ _ _ _ _ _ (hG2'.below hb7) hR3).mono ?_; rintro e w8 ⟨rfl, ao8, cap8, hG3, hb8⟩; have hB8 : Below w.heap.size w w8 := (below_step hB6 hb7).trans hb8)
    | (go_at_call 16; refine (one_any 3 w6).mono ?_; rintro e w7 ⟨ap3, rfl, hR3, hb7⟩)
    | (go_at_call 17; refine (force_log _ _ _ _ _ _ _ _ _ _ _ hG2).mono ?_; rintro e w6 ⟨rfl, hG2', hb6⟩; have hB6 : Below w.heap.size w w6 := hB5.trans hb6)
    | (go_at_call 6; refine (al2 _ _ _ _ _ _ _ (hG1.below hb4) hR2).mono ?_; rintro e w5 ⟨rfl, ao5, cap5, hG2, hb5⟩; have hB5 : Below w.heap.size w w5 := (below_step hB3' hb4).trans hb5)
    | (go_at_call 16; refine (one_any 2 w3').mono ?_; rintro e w4 ⟨ap2, rfl, hR2, hb4⟩)
    | (go_at_call 6; refine (al1 _ _ _ _ _ _ _ (hG0.below hb3) hR1).mono ?_; rintro e w3' ⟨rfl, ao3, cap3, hG1, hb3'⟩; have hB3' : Below w.heap.size w w3' := (below_step hB2 hb3).trans hb3')
    | (go_at_call 16; refine (one_any 1 w2).mono ?_; rintro e w3 ⟨ap1, rfl, hR1, hb3⟩)
    | (go_at_call 4; refine (op0 _ _ _ hT1).mono ?_; rintro e w2 ⟨gl, rfl, hG0, hb2, -⟩; have hB2 : Below w.heap.size w w2 := hB1.trans hb2)
    | (go_at_call 5; refine (new_any 500 w).mono ?_; rintro e w1 ⟨rfl, hN, -, hB1⟩; have hT1 : Tp w1 w.heap.size w.heap.size none 0 0 [] 0 500 := hN _ (Nat.le_refl _); clear hN))
  go_ret
  exact ⟨rfl, hB14⟩

end Go.Proofs.Ythdogiidlelaaaa
