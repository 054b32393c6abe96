/- The chapter's example, walked. -/
import Derived.Test.YtdajhdeheheccaaT2
import Derived.Deep.RegionWith
namespace Go.Proofs.Ytdajhdeheheccaa
open Go.RowKit
set_option linter.unusedVariables false

theorem str_cd {w : World} {ao : Option Addr} {cap : Nat} (h : Rd8 w ao 2 cap [99, 100]) : (convert 27 9 (.slice ao 2 cap)).run Try.prog w = .ok (.string ⟨#[99, 100]⟩) w := h.str

theorem alive1 (w : World) (g : Nat) (B : Nat) (hT : Tp w B g none 0 0 [] 0 9) (ax : Option Addr) (cx : Nat) (hr : Rd8 w ax 3 cx [97, 98, 99]) :
    Calls Try.prog 10 #[tp g, .slice ax 3 cx] w fun e w' => e = .returned (.int .i64 0) ∧ Led w w' B g none 3 [97, 98, 99] 0 9 := append_ok B g none 0 0 [] 0 9 w hT ax 3 cx [97, 98, 99] hr (by omega)
theorem alive2 (w : World) (g : Nat) (B : Nat) (ao : Option Addr) (cap : Nat) (hT : Tp w B g ao 3 cap [97, 98, 99] 3 9) (ax : Option Addr) (cx : Nat) (hr : Rd8 w ax 2 cx [100, 101]) :
    Calls Try.prog 10 #[tp g, .slice ax 2 cx] w fun e w' => e = .returned (.int .i64 0) ∧ Led w w' B g ao 5 [97, 98, 99, 100, 101] 3 9 := append_ok B g ao 3 cap [97, 98, 99] 3 9 w hT ax 2 cx [100, 101] hr (by omega)
theorem alive3 (w : World) (g : Nat) (B : Nat) (ao : Option Addr) (cap : Nat) (hT : Tp w B g ao 5 cap [97, 98, 99, 100, 101] 3 9) :
    Calls Try.prog 21 #[tp g, .int .i64 2] w fun e w' => e = .returned (.bool true) ∧ Led w w' B g ao 3 [99, 100, 101] 1 9 := drop_ok B g ao 5 cap _ 3 9 w hT 2 (by omega)
theorem alive4 (w : World) (g : Nat) (B : Nat) (ao : Option Addr) (cap : Nat) (hT : Tp w B g ao 3 cap [99, 100, 101] 1 9) :
    Calls Try.prog 21 #[tp g, .int .i64 2] w fun e w' => e = .returned (.bool false) ∧ w' = w := drop_bad B g ao 3 cap _ 1 9 w hT 2 (by omega)
theorem alive5 (w : World) (g : Nat) (B : Nat) (ao : Option Addr) (cap : Nat) (hT : Tp w B g ao 3 cap [99, 100, 101] 1 9) :
    Calls Try.prog 15 #[tp g, .int .i64 1] w fun e w' => e = .returned (.tuple #[]) ∧ Tp w' B g ao 2 cap [99, 100] 2 9 ∧ Off2 g ao w w' ∧ w'.heap.size = w.heap.size := crash_at B g ao 3 cap _ 1 9 w hT 1 2 _ (by decide) rfl

set_option maxHeartbeats 1600000 in
theorem alive_any (w : World) : Calls Try.prog 8 #[] w fun e w' => e = .returned (.bool true) ∧ Below w.heap.size w w' := by
  go_enter Try.func8, Try.ntmps8
  go_wp2_with (first
    | (go_at_call 24; refine (safe_any _ _ _ _ _ _ _ _ _ hT7).mono ?_; rintro e w' ⟨rfl, hw⟩; subst w')
    | (go_at_call 23; refine (bytes_any _ _ _ _ _ _ _ _ _ hT6).mono ?_; rintro e w7 ⟨ao7, cap7, rfl, ho7, hb7⟩; have hT7 := hT6.below hb7; have hB7 := below_step hB6 hb7; have hx := str_cd ho7.rd)
    | (go_at_call 15; refine (alive5 _ _ _ _ _ hT5).mono ?_; rintro e w6 ⟨rfl, hT6, hO6, -⟩; have hB6 : Below w.heap.size w w6 := hB5.trans (hT5.belowB hO6))
    | (go_at_call 21; refine (alive4 _ _ _ _ _ hT5).mono ?_; rintro e w' ⟨rfl, hw⟩; subst w')
    | (go_at_call 21; refine (alive3 _ _ _ _ _ hT4).mono ?_; rintro e w5 ⟨rfl, ao5, cap5, hT5, hO5, hN5⟩; have hB5 : Below w.heap.size w w5 := hB4.trans (hT4.belowB hO5))
    | (go_at_call 10; refine (alive2 _ _ _ _ _ (hT3.below ((Below.refl _ _).alloc (Nat.le_refl _) _)) _ _ (Rd8.marked w3 _ 2 _ [100, 101] rfl rfl (by intro b hb; simp at hb; omega) (by unfold maxLen; omega))).mono ?_; rintro e w4 ⟨rfl, ao4, cap4, hT4, hO4, hN4⟩; have hB4 : Below w.heap.size w w4 := (hB3.alloc (by omega) _).trans ((hT3.below ((Below.refl _ _).alloc (Nat.le_refl _) _)).belowB hO4))
    | (go_at_call 13; refine (sync_any _ _ _ _ _ _ _ _ _ hT2).mono ?_; rintro e w3 ⟨rfl, hT3, hO3, -⟩; have hB3 : Below w.heap.size w w3 := hB2.trans (hT2.belowB hO3); have hs3 := hT3.hd.lt; have hcw := Go.Lib.run_convert_bytes_const (P := Try.prog) w3 27 5 #[.int .u8 100, .int .u8 101] 2 2 Try.underlying27 Try.underlying5)
    | (go_at_call 10; refine (alive1 _ _ _ (hT1.below ((Below.refl _ _).alloc (Nat.le_refl _) _)) _ _ (Rd8.marked w1 _ 3 _ [97, 98, 99] rfl rfl (by intro b hb; simp at hb; omega) (by unfold maxLen; omega))).mono ?_; rintro e w2 ⟨rfl, ao2, cap2, hT2, hO2, hN2⟩; have hB2 : Below w.heap.size w w2 := (hB1.alloc (by omega) _).trans ((hT1.below ((Below.refl _ _).alloc (Nat.le_refl _) _)).belowB hO2))
    | (go_at_call 9; refine (new_any 9 w).mono ?_; rintro e w1 ⟨rfl, hN, hS1, hB1⟩; have hT1 : Tp w1 w.heap.size w.heap.size none 0 0 [] 0 9 := hN _ (Nat.le_refl _); clear hN; have hs1 : w.heap.size + 1 ≤ w1.heap.size := (by omega); clear hS1; have hcv := Go.Lib.run_convert_bytes_const (P := Try.prog) w1 27 5 #[.int .u8 97, .int .u8 98, .int .u8 99] 3 3 Try.underlying27 Try.underlying5))
  go_ret
  exact ⟨rfl, hB7⟩

end Go.Proofs.Ytdajhdeheheccaa
