/- The walk of NetNames. -/
import Derived.Test.YtfllkhimlambhaaN6
namespace Go.Proofs.Ytfllkhimlambhaa
open Go.RowKit
set_option linter.unusedVariables false
set_option maxRecDepth 8000

theorem put_no {w : World} {g : Nat} {V : Nat → Prop} {T : Nat → List It} (H : Net w g V T) (z : Int) (hz : putB T z = false) (sv : Value) : Calls Try.prog 11 #[np g, .int .i64 z, sv] w fun e w' => e = .returned (.bool false) ∧ w' = w := by
  have HC : Hid (Calls Try.prog 24 #[np g, .int .i64 z, sv, .bool false] w fun e w' => e = .returned (.bool false) ∧ w' = w) := add_no H z hz sv false
  clear H hz
  go_enter Try.func11, Try.ntmps11
  go_wp2_with (go_at_call 24; refine HC.out.mono ?_; rintro e w1 ⟨rfl, hw1⟩; subst w1)
  go_ret
  exact ⟨rfl, rfl⟩

set_option maxHeartbeats 800000 in
theorem names_main (w : World) : Calls Try.prog 3 #[] w fun e w' => e = .returned (.bool true) ∧ Below w.heap.size w w' := by
  have hl1 : lanZ 3 true = 7 := by decide
  have hl2 : lanZ 0 false = 0 := by decide
  have hl3 : lanZ 4 false = -1 := by decide
  have hl4 : lanZ (-1) true = -1 := by decide
  have HNew : Hid (Calls Try.prog 8 #[] w fun e w' => e = .returned (np w.heap.size) ∧ Hid (Net w' w.heap.size (fun k => w.heap.size ≤ k) (fun _ => []) ∧ Below w.heap.size w w')) := new_any w
  have HZ : Hid (putB (fun _ => []) 8 = false ∧ putB (fun _ => []) (-1) = false ∧ lenZ (fun _ => []) 9 = 0) := by refine ⟨by decide, by decide, by decide⟩
  go_enter Try.func3, Try.ntmps3
  go_wp2_with (first
    | (go_at_call 12; refine (len_any HN2.out.1 _).mono ?_; rw [HZ.out.2.2]; rintro e w9 ⟨rfl, hw9⟩; subst w9)
    | (go_at_call 11; (with_reducible refine (put_no HN2.out.1 _ HZ.out.2.1 _).mono ?_); rintro e w8 ⟨rfl, hw8⟩; subst w8)
    | (go_at_call 11; (with_reducible refine (put_no HN2.out.1 _ HZ.out.1 _).mono ?_); rintro e w7 ⟨rfl, hw7⟩; subst w7)
    | (go_at_call 10; refine (lane_any _ _ _).mono ?_; (first | rw [hl1] | rw [hl2] | rw [hl3] | rw [hl4]); rintro e w6 ⟨rfl, hw6⟩; subst w6)
    | (go_at_call 9; refine (alive_any _).mono ?_; rintro e w2 ⟨rfl, hb2⟩; have HN2 : Hid (Net w2 w.heap.size (fun k => w.heap.size ≤ k) (fun _ => []) ∧ Below w.heap.size w w2) := ⟨HN1.out.1.below hb2, below_step HN1.out.2 hb2⟩; clear hb2)
    | (go_at_call 8; refine HNew.out.mono ?_; rintro e w1 ⟨rfl, HN1⟩))
  go_ret
  exact ⟨rfl, HN2.out.2⟩

end Go.Proofs.Ytfllkhimlambhaa
