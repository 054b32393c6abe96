/- What the chapter's example does, walked. -/
import Derived.Test.YtedpjlcidcjkiaaPk4
namespace Go.Proofs.Ytedpjlcidcjkiaa
open Go.RowKit
set_option linter.unusedVariables false

theorem nums_alive (w : World) (ao : Option Addr) (cap : Nat) (hrd : RdI w .i64 ao cap [1, 258]) :
    Calls Try.prog 7 #[.slice ao 2 cap] w fun e w' => ∃ ao' cap', e = .returned (.tuple #[.slice ao' 6 cap', .int .i64 0]) ∧ OwnI w' w.heap.size 5 .u8 ao' cap' [0, 0, 1, 0, 1, 2] ∧ Below w.heap.size w w' :=
  nums_good ao cap 2 [1, 258] w hrd rfl (by omega) (by intro z hz; simp at hz; omega)

theorem value_alive (w : World) :
    Calls Try.prog 14 #[.complex .f64 4607182418800017408 4611686018427387904] w fun e w' => ∃ ao cap, e = .returned (.slice ao 16 cap) ∧ OwnI w' w.heap.size 5 .u8 ao cap [63, 240, 0, 0, 0, 0, 0, 0, 64, 0, 0, 0, 0, 0, 0, 0] ∧ Below w.heap.size w w' := by
  have := value_any 4607182418800017408 4611686018427387904 w (by decide +kernel) (by decide +kernel)
  rwa [show valN 4607182418800017408 4611686018427387904 = [63, 240, 0, 0, 0, 0, 0, 0, 64, 0, 0, 0, 0, 0, 0, 0] by decide +kernel] at this

theorem take_alive (w : World) (ao : Option Addr) (cap : Nat) (hrd : RdI w .u8 ao cap ([63, 240, 0, 0, 0, 0, 0, 0, 64, 0, 0, 0, 0, 0, 0, 0] ++ [9])) :
    Calls Try.prog 13 #[.slice ao 17 cap] w fun e w' => ∃ a2 c2, e = .returned (.tuple #[.complex .f64 4607182418800017408 4611686018427387904, .slice a2 1 c2, .int .i64 0]) ∧ OwnI w' w.heap.size 5 .u8 a2 c2 [9] ∧ Below w.heap.size w w' :=
  take_long ao cap 17 _ w hrd rfl (by decide +kernel) (by omega) (by omega) (by decide +kernel) (by decide +kernel)

set_option maxHeartbeats 800000 in
theorem alive_any (w : World) : Calls Try.prog 8 #[] w fun e w' => e = .returned (.bool true) ∧ Below w.heap.size w w' := by
  go_enter Try.func8, Try.ntmps8
  go_wp2_with (first
    | (go_at_call 7; refine (nums_alive _ _ _ (RdI.built w 3 .i64 _ 2 [1, 258] rfl rfl (by decide))).mono ?_; rintro e w1 ⟨ao1, cap1, rfl, ho1, hb1⟩)
    | (go_at_call 14; refine (value_alive _).mono ?_; rintro e w2 ⟨ao2, cap2, rfl, ho2, hb2⟩)
    | (at_builtin; refine wpList_append_rdI _ rfl _ _ 22 rfl w1.heap.size 5 .u8 (.int .u8 0) 1 Try.underlying22 info5 rfl rfl rfl (OwnI.alloc ho2 _) (RdI.one _ _ _ _) rfl rfl (by omega) (by unfold maxLen; omega) (by have := hb2.size; simp; omega) ?_; intro ao3 cap3 w3 ho3 hb3)
    | (go_at_call 13; refine (take_alive _ _ _ ho3.rd).mono ?_; rintro e w4 ⟨ao4, cap4, rfl, ho4, hb4⟩; have hb14 : Below w1.heap.size w1 w4 := ((hb2.alloc hb2.size _).trans hb3).trans (hb4.mono (((hb2.alloc hb2.size _).trans hb3).size)); have hcv : (convert 22 9 (.slice ao1 6 cap1)).run Try.prog w4 = .ok (.string ⟨#[0, 0, 1, 0, 1, 2]⟩) w4 := run_string_rd (P := Try.prog) 22 9 5 Try.underlying22 Try.underlying5 Try.underlying9 (ho1.below hb14).rd rfl))
  go_ret
  exact ⟨rfl, ((Below.refl _ _).alloc (Nat.le_refl _) _).trans ((hb1.mono (by simp)).trans (hb14.mono (by have := hb1.size; simp at this; omega)))⟩

end Go.Proofs.Ytedpjlcidcjkiaa
