/- A world for any Config that can be: New answers one, reckoned by ranges. No walk. -/
import Derived.Test.YtemldmjpanmdbaaGreatDoorB5
import Derived.Test.YtemldmjpanmdbaaGreatDoorProg
import Derived.KernelRfl
namespace Go.Proofs.YtemldmjpanmdbaaGreatDoor
open Go.RowKit
set_option linter.unusedVariables false
/-- A Config as it is handed over. -/
def cfV (c f m p r : Int) : Value := .agg #[.int .i64 c, .int .i64 f, .int .i64 m, .int .i64 p, .int .i64 r]
/-- One with so many clients and frames, and whatever else it may have. -/
def cfA (c f : Nat) : Value := .agg #[.int .i64 (.ofNat c), .int .i64 (.ofNat f), Ev.rng 1 6, Ev.rng 1 100, Ev.rng 0 20000]
/-- There is one. -/
def okN (x : Option (Value × Ev.St)) : Bool :=
  match x with
  | some (.tuple ⟨[.pointer (some ⟨_, _, none⟩), .int .i64 (.ofNat 0)]⟩, _) => true
  | _ => false
noncomputable def allN (c : Nat) : Bool := [1, 2, 3, 4, 5, 6].all fun f => okN (Ev.callN (Ev.envOf Tryz.prog) 1000 15 [cfA c f] Ev.St0)
set_option maxRecDepth 1000000 in
set_option maxHeartbeats 40000000 in
theorem new1 : allN 1 = true := by kernel_rfl
set_option maxRecDepth 1000000 in
set_option maxHeartbeats 40000000 in
theorem new2 : allN 2 = true := by kernel_rfl
set_option maxRecDepth 1000000 in
set_option maxHeartbeats 40000000 in
theorem new3 : allN 3 = true := by kernel_rfl
set_option maxRecDepth 1000000 in
set_option maxHeartbeats 40000000 in
theorem new4 : allN 4 = true := by kernel_rfl
end Go.Proofs.YtemldmjpanmdbaaGreatDoor
