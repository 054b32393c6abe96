/- The error and the kinds have their numbers, the bytes of the empty message are twenty-four, and the chapter's example holds (a message, and a packet with it, come back; with a bit turned the packet is not opened): the law's function returns true. Conditions: none. -/
import Derived.Test.YtgeoeaadeemmcaaRows
import Derived.Test.YtgeoeaadeemmcaaMath
import Derived.Test.YtgeoeaadeemmcaaLeaf
import Derived.Test.YtgeoeaadeemmcaaWalks
import Derived.Test.YtgeoeaadeemmcaaSl
import Derived.Test.YtgeoeaadeemmcaaPkm
import Derived.Test.YtgeoeaadeemmcaaPk1
import Derived.Test.YtgeoeaadeemmcaaPk2
import Derived.Test.YtgeoeaadeemmcaaPk3
import Derived.Test.YtgeoeaadeemmcaaPk4
import Derived.Test.YtgeoeaadeemmcaaPk6
import Derived.Test.YtgeoeaadeemmcaaCm
import Derived.Test.YtgeoeaadeemmcaaCr1
import Derived.Test.YtgeoeaadeemmcaaCr2
import Derived.Test.YtgeoeaadeemmcaaCr3
import Derived.Test.YtgeoeaadeemmcaaCr4
import Derived.Test.YtgeoeaadeemmcaaCr5
import Derived.Test.YtgeoeaadeemmcaaCr7
import Derived.Test.YtgeoeaadeemmcaaPg3
import Derived.Test.YtgeoeaadeemmcaaPg4
import Derived.Test.YtgeoeaadeemmcaaSd
import Derived.Test.YtgeoeaadeemmcaaAp
import Derived.Test.YtgeoeaadeemmcaaW1
import Derived.Test.YtgeoeaadeemmcaaW2
import Derived.Test.YtgeoeaadeemmcaaM1
import Derived.Test.YtgeoeaadeemmcaaM2
import Derived.Test.YtgeoeaadeemmcaaM3
import Derived.Test.YtgeoeaadeemmcaaM4
import Derived.Test.YtgeoeaadeemmcaaM5
import Derived.Test.YtgeoeaadeemmcaaMz
import Derived.Test.YtgeoeaadeemmcaaM6
import Derived.Test.YtgeoeaadeemmcaaM7
import Derived.Test.YtgeoeaadeemmcaaM8
import Derived.Test.YtgeoeaadeemmcaaMa
import Derived.Test.YtgeoeaadeemmcaaM9
import Derived.Test.YtgeoeaadeemmcaaMbA
import Derived.Test.YtgeoeaadeemmcaaMbB
import Derived.Test.YtgeoeaadeemmcaaMbC
import Derived.Test.YtgeoeaadeemmcaaMbD
import Derived.Test.YtgeoeaadeemmcaaMbE
import Derived.Test.YtgeoeaadeemmcaaMbF
import Derived.Test.YtgeoeaadeemmcaaMbG
import Derived.Test.YtgeoeaadeemmcaaMr
import Derived.Test.YtgeoeaadeemmcaaPa
import Derived.Test.YtgeoeaadeemmcaaPb
import Derived.Test.YtgeoeaadeemmcaaPc
import Derived.Test.YtgeoeaadeemmcaaAl
import Derived.WalkKit
import Derived.ProofKit
import Derived.OpenShut
import Derived.ShutString
import Derived.ChangeOld
import Derived.SizedLaws
import Derived.Below
import Derived.Deep.QuietTactic
import Derived.BigQuiet
import Derived.Deep.RegionWith
import Derived.Deep.RegionHeld
import Derived.Deep.RegionHeldLaw
import Derived.RegionTactic
namespace Go.Proofs.Ytgeoeaadeemmcaa.msgNames
open Go.ChangeShapes Go.WideShapes Go.ChangeAt Go.RowKit
set_option linter.unusedVariables false

theorem own : ownKnob Try.prog.godebug = none := by kernel_rfl
theorem laidOut : laidOutB Try.prog = true := by kernel_rfl

set_option maxHeartbeats 400000 in
theorem walk (w : World) : Calls Try.prog 3 #[] w fun e w' => e = .returned (.bool true) ∧ Below w.heap.size w w' := by
  go_enter Try.func3, Try.ntmps3
  go_wp2_with (first
    | (go_at_call 7; refine (alive_any _).mono ?_; rintro x w2 ⟨rfl, hb2⟩)
    | (go_at_call 6; refine (bytes_Z _).mono ?_; rintro x w1 ⟨a1, c1, rfl, hb1⟩))
  go_ret
  exact ⟨rfl, below_step hb1 hb2⟩

set_option maxRecDepth 100000 in
theorem lifted (os : Os) (started : os.Started) (H : Type) (enc : TypeId × Value → H) :
    ReturnsInHanded {} Try.checked os 3 .any (Rows.msgNamesSpec.pre6 enc Try.prog Try.f3 Rows.msgNamesRow.domain false) (Rows.msgNamesSpec.post enc Try.prog Try.f3 false true false false) := by
  refine returnsInHanded_of_change_sized (C := Try.checked) own started (by kernel_rfl) Try.func3
    (ChangeSpec.witness6 (enc := enc) (C := Try.checked) false ⟨#[], #[], []⟩ 8 (by kernel_rfl) (by kernel_rfl) (by kernel_rfl) (by kernel_rfl)) ?_
  intro W base args ds gs before hval0 hW hcnd hsz0 _
  have hval : ∀ (j : Nat) t v, Try.f3.params[j]? = some t → args[j]? = some v → Value.okWide Try.prog W .any base t v := hval0
  have hsz : (DataW.weightsEach Try.prog (Try.f3.params.toList ++ Rows.msgNamesSpec.plain.varTypes Try.prog) (ds ++ gs)).all (· ≤ reachBytes) = true := hsz0
  have hW' := hW
  obtain ⟨p, q, hA0, hV, rfl, hfz, hnd⟩ := hW
  have hA : DataW.TrodAll enc Try.prog W 0 (fun _ => true) true Try.f3.params.toList args.toList ds p := hA0
  rw [Try.params3] at hA hval hsz
  obtain ⟨rfl, rfl, rfl⟩ := trodAll_none hA
  obtain ⟨rfl, rfl⟩ := trodVars_none hV
  clear hA0 hval0
  refine (walk  W ).mono fun e W' ⟨he, bel⟩ => ?_
  subst he
  exact ⟨_, rfl, _, _, _, [], _, [], hW', trodAll_mk1 (shut_bool Try.underlying4 _), trodAll_mk0, rfl, bel.frame _, fun h => by cases h⟩

theorem over : Rows.msgNamesRow.holds Try.pinned (OpenSpec.ofChange Rows.msgNamesSpec) :=
  OpenClaim.holds_of_wide 3 Try.f3 rfl rfl rfl rfl rfl rfl rfl ⟨rfl, rfl, rfl, rfl, rfl⟩ rfl rfl rfl rfl rfl (by kernel_rfl) Try.func3 (by kernel_rfl)
    (of_decide_eq_true (by kernel_rfl)) (by unfold Func.isWrapper; first | (rw [if_pos (by decide +kernel)]; kernel_rfl) | (rw [if_neg (by decide +kernel)]; exact ⟨rfl, rfl⟩))
    (fun os started H enc _ => lifted os started H enc)

theorem proved : Rows.MsgNamesSaid := over
#print axioms proved
end Go.Proofs.Ytgeoeaadeemmcaa.msgNames
