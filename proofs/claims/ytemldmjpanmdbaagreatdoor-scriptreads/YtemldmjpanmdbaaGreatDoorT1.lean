/- The document's answer for scripts: has, sameOp, and which Config can be, walked. -/
import Derived.Test.YtemldmjpanmdbaaGreatDoorS5
import Derived.Test.YtemldmjpanmdbaaGreatDoorB7
namespace Go.Proofs.YtemldmjpanmdbaaGreatDoor
open Go.RowKit
set_option linter.unusedVariables false

abbrev hasV (k : Int) : Value := .agg #[.bool (kC k), .bool (kO k), .bool (kL k), .bool (kN k), .bool (kA k), .bool (kM k)]
set_option maxHeartbeats 4000000 in
set_option maxRecDepth 100000 in
theorem has_any (k : Int) (h0 : 0 ≤ k) (h14 : k ≤ 14) (w : World) : Calls Tryz.prog 98 #[.int .i64 k] w fun x w' => x = .returned (hasV k) ∧ Below w.heap.size w w' := by
  have : k = 0 ∨ k = 1 ∨ k = 2 ∨ k = 3 ∨ k = 4 ∨ k = 5 ∨ k = 6 ∨ k = 7 ∨ k = 8 ∨ k = 9 ∨ k = 10 ∨ k = 11 ∨ k = 12 ∨ k = 13 ∨ k = 14 := by omega
  clear h0 h14
  rcases this with rfl | rfl | rfl | rfl | rfl | rfl | rfl | rfl | rfl | rfl | rfl | rfl | rfl | rfl | rfl
  all_goals
    go_enter Tryz.func98, Tryz.ntmps98
    go_wp2
    refine bodyPost_ret (by simp [results, Tryz.results98, go_sem]; try rfl) rfl ?_
    exact ⟨rfl, by go_grown⟩

abbrev opV (a b c : Int) (v : Nat × Nat) : Value := .agg #[.int .i64 a, .int .i64 b, .int .i64 c, .complex .f64 v.1 v.2]
def sameO (a b c : Int) (v : Nat × Nat) (d e f : Int) (u : Nat × Nat) : Bool := a == d && (b == e && (c == f && sameB v.1 v.2 u.1 u.2))
set_option maxHeartbeats 800000 in
theorem sameOp_any (a b c : Int) (v : Nat × Nat) (d e f : Int) (u : Nat × Nat) (hv : wordB v) (hu : wordB u) (w : World) : Calls Tryz.prog 21 #[opV a b c v, opV d e f u] w fun x w' => x = .returned (.bool (sameO a b c v d e f u)) ∧ Below w.heap.size w w' := by
  obtain ⟨v1, v2⟩ := v
  obtain ⟨u1, u2⟩ := u
  have HV : Hid (wordB (v1, v2) ∧ wordB (u1, u2)) := ⟨hv, hu⟩
  clear hv hu
  go_enter Tryz.func21, Tryz.ntmps21
  go_wp2_with (first
    | (go_at_call 45; refine (refSame_any (v1, v2) (u1, u2) HV.out.1 HV.out.2 _).mono ?_; rintro x w0 ⟨rfl, hw⟩; subst w0))
  all_goals
    go_ret
    exact ⟨ret_bool (by simp_all [sameO]), by go_grown⟩

set_option maxHeartbeats 1600000 in
theorem refCan_any (c f m p r : Int) (w : World) : Calls Tryz.prog 65 #[cfV c f m p r] w fun x w' => x = .returned (.bool (rightSc.canC c f m p r)) ∧ Below w.heap.size w w' := by
  have hB0 : Below w.heap.size w (w.alloc (.cells #[.int .i64 c, .int .i64 f, .int .i64 m, .int .i64 p, .int .i64 r] 25)) := below_box _ _
  unfold cfV
  go_enter Tryz.func65, Tryz.ntmps65
  go_wp2
  all_goals
    go_ret
    refine ⟨ret_bool ?_, hB0⟩
    simp only [rightSc.canC, bw]
    first | (simp_all; done) | (simp_all; omega)
end Go.Proofs.YtemldmjpanmdbaaGreatDoor
