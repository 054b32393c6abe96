/- The sum and the frame of any bytes as the document answers: the walk. Bytes that are no frame. -/
import Derived.Test.YtdnebhhmjmcfjaaSg
import Derived.Test.YtdnebhhmjmcfjaaRf2
import Derived.Deep.RegionHeldLaw
namespace Go.Proofs.Ytdnebhhmjmcfjaa.crcFrames
open Go.RowKit
set_option linter.unusedVariables false

set_option maxHeartbeats 3200000 in
theorem walkB (a0 : Option Addr) (c0 n0 : Nat) (bs : List Nat) (a1 : Option Addr) (c1 n1 : Nat) (fs : List Nat) (w : World) (h : Rd8 w a0 n0 c0 bs) (hn : n0 ≤ 140737488351232) (g : Rd8 w a1 n1 c1 fs) (gn : n1 ≤ 140737488351232) (m1 : Nat) (hm1 : n1 = m1 + 2) (hbad : ¬ okN fs) :
    Calls Try.prog 4 #[.slice a0 n0 c0, .slice a1 n1 c1] w fun e w' => e = .returned (.bool true) ∧ Below w.heap.size w w' := by
  subst hm1
  have HB : Hid (¬ okN fs) := hbad
  clear hbad
  have hl := h.len
  have gl := g.len
  go_enter Try.func4, Try.ntmps4
  go_wp2_with (first
    | (at_builtin; refine wpList_append_rdI _ rfl (.tmp 10) (.tmp 11) 22 rfl w.heap.size 5 .u8 (.int .u8 0) 1 Try.underlying22 info5 rfl rfl rfl (OwnI.fresh w _ _ _ (Nat.le_refl _)) (g.alloc _).rd rfl (by rw [ci_length]; omega) (by omega) (by unfold maxLen; omega) (by simp) ?_; intro ao1 cap1 w1 ho1 hb1; have hB1 : Below w.heap.size w w1 := below_alloc hb1; have hO1 := Own8.mk ho1 gl g.byte)
    | (go_at_call 9; refine (open_bad _ m1 _ _ fs _ hO1.rd (by omega) (by omega) HB.out).mono ?_; rintro e w2 ⟨rfl, hb2⟩; have hB2 : Below w.heap.size w w2 := below_step hB1 hb2)
    | (go_at_call 12; refine (refOpen_bad _ m1 _ _ fs _ (g.below hB2) rfl (by omega) HB.out).mono ?_; rintro e w3 ⟨rfl, hb3⟩; have hBW : Below w.heap.size w w3 := below_step hB2 hb3))
  have hS : Hid (∀ w', Below w3.heap.size w3 w' → (convert 22 9 (.slice none 0 0)).run Try.prog w' = .ok (.string (strOfNums (ci []))) w') :=
    fun w' hh => (Rd8.empty w').str
  first
    | go_region_held_law (fun w' => (convert 22 9 (.slice none 0 0)).run Try.prog w' = .ok (.string (strOfNums (ci []))) w')
      (first | exact hS.out _ (Below.refl _ _).drew | exact hS.out _ hB9 | exact hS.out _ hB8 | exact hS.out _ hB7 | exact hS.out _ ((hB6.alloc hB6.size _).alloc (by simp; exact Nat.le_succ_of_le hB6.size) _) | exact hS.out _ (hB6.alloc hB6.size _) | exact hS.out _ hB6 | exact hS.out _ (hB5.alloc hB5.size _) | exact hS.out _ hB5)
      ((first
        | (refine step_append_rdG (n := 0) (m := n0) _ (by rfl) (.tmp 23) (.tmp 24) 22 (by rfl) w5.heap.size 5 .u8 (.int .u8 0) 1 Try.underlying22 info5 rfl (by rfl) (by rfl) (OwnI.fresh w5 _ _ _ (Nat.le_refl _)) ((h.below (below_step hBW hB5)).alloc _).rd rfl (by rw [ci_length]; exact hl) (by omega) (by unfold maxLen; omega) (by simp) ?_; intro ao6 cap6 w6 ho6 hb6; have hO6 := Own8.mk ho6 hl h.byte; have hB6 : Below w3.heap.size w3 w6 := below_step hB5 (below_alloc hb6))
        | (refine step_append_rdG (n := 0) (m := n0) _ (by rfl) (.tmp 33) (.tmp 34) 22 (by rfl) w6.heap.size 5 .u8 (.int .u8 0) 1 Try.underlying22 info5 rfl (by rfl) (by rfl) (OwnI.fresh2 w6 _ _ _ _ (by omega)) (((h.below (below_step hBW hB6)).alloc _).alloc _).rd rfl (by rw [ci_length]; exact hl) (by omega) (by unfold maxLen; omega) (by simp; omega) ?_; intro ao7 cap7 w7 ho7 hb7; have hO7 := Own8.mk ho7 hl h.byte; have hB7 : Below w3.heap.size w3 w7 := below_step hB6 (below_alloc (((Below.refl _ _).alloc (by simp) _).trans hb7)))
        | (go_at_call 10; refine (alive_any _).mono ?_; rintro e w5 ⟨rfl, hb5⟩; have hB5 : Below w3.heap.size w3 w5 := ⟨hb5.os, hb5.tape, hb5.output, hb5.size, hb5.block⟩)
        | (go_at_call 13; refine (of_one _ _ _ bs _ hO6.rd _).mono ?_; rintro e w' ⟨rfl, hw⟩; subst w')
        | (go_at_call 14; refine (refOf_any _ _ _ bs _ ((h.below (below_step hBW hB6)).alloc _) (by omega)).mono ?_; rintro e w' ⟨rfl, hw⟩; subst w')
        | (go_at_call 15; refine (seal_any _ _ _ bs _ hO7.rd (by omega)).mono ?_; rintro e w8 ⟨a8, c8, rfl, ho8, hb8⟩; have hB8 : Below w3.heap.size w3 w8 := below_step hB7 hb8; have hx8 := ho8.rd.str)
        | (go_at_call 16; refine (refSeal_any _ _ _ bs _ (h.below (below_step hBW hB8)) (by omega)).mono ?_; rintro e w9 ⟨a9, c9, rfl, ho9, hb9⟩; have hB9 : Below w3.heap.size w3 w9 := below_step hB8 hb9; have hx9 := ho9.rd.str; have hy8 := (ho8.below hb9).rd.str)))
    | fail
  all_goals go_wp2
  all_goals go_ret
  all_goals exact ⟨rfl, below_step hBW hB9⟩

end Go.Proofs.Ytdnebhhmjmcfjaa.crcFrames
