/- A page that is none can not be committed to, a new store has pages of zeros, and the chapter's example holds (a commit that was not synced is gone behind a crash, the one that was is there): the law's function returns true. Conditions: none. -/
import Derived.Test.YthckdfggnmoaeaaRows
import Derived.Test.YthckdfggnmoaeaaMath
import Derived.Test.YthckdfggnmoaeaaLeaf
import Derived.Test.YthckdfggnmoaeaaWalks
import Derived.Test.YthckdfggnmoaeaaSl
import Derived.Test.YthckdfggnmoaeaaPkm
import Derived.Test.YthckdfggnmoaeaaPk1
import Derived.Test.YthckdfggnmoaeaaPk2
import Derived.Test.YthckdfggnmoaeaaPk3
import Derived.Test.YthckdfggnmoaeaaPk4
import Derived.Test.YthckdfggnmoaeaaPk6
import Derived.Test.YthckdfggnmoaeaaCm
import Derived.Test.YthckdfggnmoaeaaCr1
import Derived.Test.YthckdfggnmoaeaaCr2
import Derived.Test.YthckdfggnmoaeaaCr3
import Derived.Test.YthckdfggnmoaeaaPg1
import Derived.Test.YthckdfggnmoaeaaPg2
import Derived.Test.YthckdfggnmoaeaaPg3
import Derived.Test.YthckdfggnmoaeaaPg4
import Derived.Test.YthckdfggnmoaeaaSd
import Derived.Test.YthckdfggnmoaeaaS1
import Derived.Test.YthckdfggnmoaeaaS2
import Derived.Test.YthckdfggnmoaeaaAp
import Derived.Test.YthckdfggnmoaeaaTd
import Derived.Test.YthckdfggnmoaeaaT1
import Derived.Test.YthckdfggnmoaeaaT2
import Derived.Test.YthckdfggnmoaeaaW1
import Derived.Test.YthckdfggnmoaeaaW2
import Derived.Test.YthckdfggnmoaeaaW3
import Derived.Test.YthckdfggnmoaeaaW4
import Derived.Test.YthckdfggnmoaeaaW5
import Derived.Test.YthckdfggnmoaeaaW6
import Derived.Test.YthckdfggnmoaeaaW7
import Derived.Test.YthckdfggnmoaeaaW8
import Derived.Test.YthckdfggnmoaeaaW9
import Derived.Test.YthckdfggnmoaeaaX1
import Derived.Test.YthckdfggnmoaeaaX2
import Derived.Test.YthckdfggnmoaeaaX3
import Derived.Test.YthckdfggnmoaeaaX4
import Derived.Test.YthckdfggnmoaeaaP1
import Derived.Test.YthckdfggnmoaeaaP2
import Derived.Test.YthckdfggnmoaeaaP3
import Derived.Test.YthckdfggnmoaeaaP4
import Derived.Test.YthckdfggnmoaeaaP5
import Derived.Test.YthckdfggnmoaeaaP6
import Derived.Test.YthckdfggnmoaeaaQ1
import Derived.Test.YthckdfggnmoaeaaQ2
import Derived.Test.YthckdfggnmoaeaaQ3
import Derived.Test.YthckdfggnmoaeaaQ4
import Derived.Test.YthckdfggnmoaeaaQ5
import Derived.Test.YthckdfggnmoaeaaQ6
import Derived.Test.YthckdfggnmoaeaaQ7
import Derived.Test.YthckdfggnmoaeaaQ8
import Derived.Test.YthckdfggnmoaeaaQ9
import Derived.Test.YthckdfggnmoaeaaQA
import Derived.WalkKit
import Derived.ProofKit
import Derived.OpenShut
import Derived.ShutString
import Derived.ChangeOld
import Derived.SizedLaws
import Derived.Below
import Derived.Deep.QuietTactic
import Derived.BigQuiet
import Derived.Deep.RegionWith
import Derived.Deep.RegionHeld
import Derived.Deep.RegionHeldLaw
import Derived.RegionTactic
namespace Go.Proofs.Ythckdfggnmoaeaa.storeNames
open Go.ChangeShapes Go.WideShapes Go.ChangeAt Go.RowKit
set_option linter.unusedVariables false

theorem own : ownKnob Try.prog.godebug = none := by kernel_rfl
theorem laidOut : laidOutB Try.prog = true := by kernel_rfl

theorem walk (w : World) : Calls Try.prog 3 #[] w fun e w' => e = .returned (.bool true) ∧ Below w.heap.size w w' := names_any w

set_option maxRecDepth 100000 in
theorem lifted (os : Os) (started : os.Started) (H : Type) (enc : TypeId × Value → H) :
    ReturnsInHanded {} Try.checked os 3 .any (Rows.storeNamesSpec.pre6 enc Try.prog Try.f3 Rows.storeNamesRow.domain false) (Rows.storeNamesSpec.post enc Try.prog Try.f3 false true false false) := by
  refine returnsInHanded_of_change_sized (C := Try.checked) own started (by kernel_rfl) Try.func3
    (ChangeSpec.witness6 (enc := enc) (C := Try.checked) false ⟨#[], #[], []⟩ 8 (by kernel_rfl) (by kernel_rfl) (by kernel_rfl) (by kernel_rfl)) ?_
  intro W base args ds gs before hval0 hW hcnd hsz0 _
  have hval : ∀ (j : Nat) t v, Try.f3.params[j]? = some t → args[j]? = some v → Value.okWide Try.prog W .any base t v := hval0
  have hsz : (DataW.weightsEach Try.prog (Try.f3.params.toList ++ Rows.storeNamesSpec.plain.varTypes Try.prog) (ds ++ gs)).all (· ≤ reachBytes) = true := hsz0
  have hW' := hW
  obtain ⟨p, q, hA0, hV, rfl, hfz, hnd⟩ := hW
  have hA : DataW.TrodAll enc Try.prog W 0 (fun _ => true) true Try.f3.params.toList args.toList ds p := hA0
  rw [Try.params3] at hA hval hsz
  obtain ⟨rfl, rfl, rfl⟩ := trodAll_none hA
  obtain ⟨rfl, rfl⟩ := trodVars_none hV
  clear hA0 hval0
  refine (walk  W ).mono fun e W' ⟨he, bel⟩ => ?_
  subst he
  exact ⟨_, rfl, _, _, _, [], _, [], hW', trodAll_mk1 (shut_bool Try.underlying4 _), trodAll_mk0, rfl, bel.frame _, fun h => by cases h⟩

theorem over : Rows.storeNamesRow.holds Try.pinned (OpenSpec.ofChange Rows.storeNamesSpec) :=
  OpenClaim.holds_of_wide 3 Try.f3 rfl rfl rfl rfl rfl rfl rfl ⟨rfl, rfl, rfl, rfl, rfl⟩ rfl rfl rfl rfl rfl (by kernel_rfl) Try.func3 (by kernel_rfl)
    (of_decide_eq_true (by kernel_rfl)) (by unfold Func.isWrapper; first | (rw [if_pos (by decide +kernel)]; kernel_rfl) | (rw [if_neg (by decide +kernel)]; exact ⟨rfl, rfl⟩))
    (fun os started H enc _ => lifted os started H enc)

theorem proved : Rows.StoreNamesSaid := over
#print axioms proved
end Go.Proofs.Ythckdfggnmoaeaa.storeNames
