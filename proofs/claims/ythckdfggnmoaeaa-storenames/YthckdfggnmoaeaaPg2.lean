/- What Set and Bytes of package page do, walked. -/
import Derived.Test.YthckdfggnmoaeaaPg1
import Derived.Handy
namespace Go.Proofs.Ythckdfggnmoaeaa
open Go.RowKit
set_option linter.unusedVariables false

/-- The objects with another one at a place. -/
def putO (k : Nat) (x : Nat × Nat) (j : Nat) (a : Nat × Nat) : Nat × Nat := if k = j then x else a

set_option maxHeartbeats 800000 in
theorem set_ok (l : Int) (a b c d x : Nat × Nat) (k : Nat) (lsn : Int) (w : World) (hk : k < 4) (hl : lsnB lsn = true) :
    Calls Try.prog 35 #[pgV l a b c d, .int .i64 (k : Int), .complex .f64 x.1 x.2, .int .i64 lsn] w fun e w' => e = .returned (.tuple #[pgV lsn (putO k x 0 a) (putO k x 1 b) (putO k x 2 c) (putO k x 3 d), .int .i64 0]) ∧ Below w.heap.size w w' := by
  have ho : objB (k : Int) = true := by simp [objB]; omega
  obtain rfl | rfl | rfl | rfl : k = 0 ∨ k = 1 ∨ k = 2 ∨ k = 3 := by omega
  all_goals
    have hst := fun (ad : Addr) (re im : Nat) (W : World) => run_store Try.prog W ad (.complex .f64 re im) .plain rfl
    unfold pgV
    go_enter Try.func35, Try.ntmps35
    go_wp2_with (first
      | (go_at_call 52; refine (rightObj_any _ _).mono ?_; rintro e w' ⟨rfl, hw⟩; subst w')
      | (go_at_call 53; refine (rightLSN_any _ _).mono ?_; rintro e w' ⟨rfl, hw⟩; subst w'))
    go_returns
    refine ⟨rfl, ?_⟩; go_grown

end Go.Proofs.Ythckdfggnmoaeaa
