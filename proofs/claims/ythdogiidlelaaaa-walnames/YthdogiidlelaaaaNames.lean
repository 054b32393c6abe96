/- The error and the limits of package wal have their numbers: the law's function returns true. Conditions: none. -/
import Derived.Test.YthdogiidlelaaaaRows
import Derived.Test.YthdogiidlelaaaaMath
import Derived.Test.YthdogiidlelaaaaLeaf
import Derived.Test.YthdogiidlelaaaaWalks
import Derived.Test.YthdogiidlelaaaaSl
import Derived.Test.YthdogiidlelaaaaPkm
import Derived.Test.YthdogiidlelaaaaPk1
import Derived.Test.YthdogiidlelaaaaPk2
import Derived.Test.YthdogiidlelaaaaPk3
import Derived.Test.YthdogiidlelaaaaPk4
import Derived.Test.YthdogiidlelaaaaPk6
import Derived.Test.YthdogiidlelaaaaCm
import Derived.Test.YthdogiidlelaaaaCr1
import Derived.Test.YthdogiidlelaaaaCr2
import Derived.Test.YthdogiidlelaaaaCr3
import Derived.Test.YthdogiidlelaaaaPg3
import Derived.Test.YthdogiidlelaaaaPg4
import Derived.Test.YthdogiidlelaaaaSd
import Derived.Test.YthdogiidlelaaaaAp
import Derived.Test.YthdogiidlelaaaaTd
import Derived.Test.YthdogiidlelaaaaT1
import Derived.Test.YthdogiidlelaaaaT2
import Derived.Test.YthdogiidlelaaaaW1
import Derived.Test.YthdogiidlelaaaaW2
import Derived.Test.YthdogiidlelaaaaW3
import Derived.Test.YthdogiidlelaaaaW4
import Derived.Test.YthdogiidlelaaaaW5
import Derived.Test.YthdogiidlelaaaaW6
import Derived.Test.YthdogiidlelaaaaW7
import Derived.Test.YthdogiidlelaaaaW8
import Derived.Test.YthdogiidlelaaaaW9
import Derived.Test.YthdogiidlelaaaaX1
import Derived.Test.YthdogiidlelaaaaX2
import Derived.Test.YthdogiidlelaaaaX3
import Derived.Test.YthdogiidlelaaaaX4
import Derived.Test.YthdogiidlelaaaaX5
import Derived.Test.YthdogiidlelaaaaX6
import Derived.WalkKit
import Derived.ProofKit
import Derived.OpenShut
import Derived.ShutString
import Derived.ChangeOld
import Derived.SizedLaws
import Derived.Below
import Derived.Deep.QuietTactic
import Derived.BigQuiet
import Derived.Deep.RegionWith
import Derived.Deep.RegionHeld
import Derived.Deep.RegionHeldLaw
import Derived.RegionTactic
namespace Go.Proofs.Ythdogiidlelaaaa.walNames
open Go.ChangeShapes Go.WideShapes Go.ChangeAt Go.RowKit
set_option linter.unusedVariables false

theorem own : ownKnob Try.prog.godebug = none := by kernel_rfl
theorem laidOut : laidOutB Try.prog = true := by kernel_rfl

set_option maxHeartbeats 400000 in
theorem walk (w : World) : Calls Try.prog 3 #[] w fun e w' => e = .returned (.bool true) ∧ Below w.heap.size w w' := by
  go_enter Try.func3, Try.ntmps3
  go_wp2_with (first
    | (go_at_call 8; refine (right_zero _).mono ?_; rintro e w5 ⟨rfl, hb5⟩; have hB5 : Below w.heap.size w w5 := below_step hB4 hb5)
    | (go_at_call 7; refine (alive_any _).mono ?_; rintro e w4 ⟨rfl, hb4⟩; have hB4 : Below w.heap.size w w4 := below_step hB3 hb4)
    | (go_at_call 6; refine (append_empty _ _ _ _ _ _ _ _ _ _ _ hG2 (by omega)).mono ?_; rintro e w3 ⟨rfl, hb3⟩; have hB3 : Below w.heap.size w w3 := below_step hB2 hb3)
    | (go_at_call 4; refine (op0 _ _ _ hT1).mono ?_; rintro e w2 ⟨gl, rfl, hG2, hb2, -⟩; have hB2 : Below w.heap.size w w2 := hB1.trans hb2)
    | (go_at_call 5; refine (new_any 500 w).mono ?_; rintro e w1 ⟨rfl, hN, -, hB1⟩; have hT1 : Tp w1 w.heap.size w.heap.size none 0 0 [] 0 500 := hN _ (Nat.le_refl _); clear hN))
  go_ret
  exact ⟨rfl, hB5⟩

set_option maxRecDepth 100000 in
theorem lifted (os : Os) (started : os.Started) (H : Type) (enc : TypeId × Value → H) :
    ReturnsInHanded {} Try.checked os 3 .any (Rows.walNamesSpec.pre6 enc Try.prog Try.f3 Rows.walNamesRow.domain false) (Rows.walNamesSpec.post enc Try.prog Try.f3 false true false false) := by
  refine returnsInHanded_of_change_sized (C := Try.checked) own started (by kernel_rfl) Try.func3
    (ChangeSpec.witness6 (enc := enc) (C := Try.checked) false ⟨#[], #[], []⟩ 8 (by kernel_rfl) (by kernel_rfl) (by kernel_rfl) (by kernel_rfl)) ?_
  intro W base args ds gs before hval0 hW hcnd hsz0 _
  have hval : ∀ (j : Nat) t v, Try.f3.params[j]? = some t → args[j]? = some v → Value.okWide Try.prog W .any base t v := hval0
  have hsz : (DataW.weightsEach Try.prog (Try.f3.params.toList ++ Rows.walNamesSpec.plain.varTypes Try.prog) (ds ++ gs)).all (· ≤ reachBytes) = true := hsz0
  have hW' := hW
  obtain ⟨p, q, hA0, hV, rfl, hfz, hnd⟩ := hW
  have hA : DataW.TrodAll enc Try.prog W 0 (fun _ => true) true Try.f3.params.toList args.toList ds p := hA0
  rw [Try.params3] at hA hval hsz
  obtain ⟨rfl, rfl, rfl⟩ := trodAll_none hA
  obtain ⟨rfl, rfl⟩ := trodVars_none hV
  clear hA0 hval0
  refine (walk  W ).mono fun e W' ⟨he, bel⟩ => ?_
  subst he
  exact ⟨_, rfl, _, _, _, [], _, [], hW', trodAll_mk1 (shut_bool Try.underlying4 _), trodAll_mk0, rfl, bel.frame _, fun h => by cases h⟩

theorem over : Rows.walNamesRow.holds Try.pinned (OpenSpec.ofChange Rows.walNamesSpec) :=
  OpenClaim.holds_of_wide 3 Try.f3 rfl rfl rfl rfl rfl rfl rfl ⟨rfl, rfl, rfl, rfl, rfl⟩ rfl rfl rfl rfl rfl (by kernel_rfl) Try.func3 (by kernel_rfl)
    (of_decide_eq_true (by kernel_rfl)) (by unfold Func.isWrapper; first | (rw [if_pos (by decide +kernel)]; kernel_rfl) | (rw [if_neg (by decide +kernel)]; exact ⟨rfl, rfl⟩))
    (fun os started H enc _ => lifted os started H enc)

theorem proved : Rows.WalNamesSaid := over
#print axioms proved
end Go.Proofs.Ythdogiidlelaaaa.walNames
