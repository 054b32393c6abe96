/- The error and the limit of package sector have their numbers: the law's function returns true. Conditions: none. -/
import Derived.Test.YtnapkcejpllmcaaRows
import Derived.Test.YtnapkcejpllmcaaSl
import Derived.Test.YtnapkcejpllmcaaSd
import Derived.Test.YtnapkcejpllmcaaS1
import Derived.Test.YtnapkcejpllmcaaS2
import Derived.Test.YtnapkcejpllmcaaS3
import Derived.WalkKit
import Derived.ProofKit
import Derived.OpenShut
import Derived.ShutString
import Derived.ChangeOld
import Derived.SizedLaws
import Derived.Below
import Derived.Deep.QuietTactic
import Derived.BigQuiet
import Derived.Deep.RegionWith
import Derived.Deep.RegionHeld
import Derived.Deep.RegionHeldLaw
import Derived.RegionTactic
namespace Go.Proofs.Ytnapkcejpllmcaa.sectorNames
open Go.ChangeShapes Go.WideShapes Go.ChangeAt Go.RowKit
set_option linter.unusedVariables false

theorem own : ownKnob Try.prog.godebug = none := by kernel_rfl
theorem laidOut : laidOutB Try.prog = true := by kernel_rfl

theorem read1 (g : Nat) (w : World) (h : Drv w g (fun k => g + 2 ≤ k) [Sec.e]) : Calls Try.prog 9 #[dp g, .int .i64 1] w fun e w' => e = .returned (.tuple #[.slice none 0 0, .int .i64 51]) ∧ w' = w := read_bad g _ [Sec.e] 1 w h (by decide)
theorem len6 (g : Nat) (w : World) (h : Drv w g (fun k => g + 2 ≤ k) (List.replicate (newN 99) Sec.e)) : Calls Try.prog 11 #[dp g] w fun e w' => e = .returned (.int .i64 6) ∧ w' = w := len_any g _ _ w h
theorem len0 (g : Nat) (w : World) (h : Drv w g (fun k => g + 2 ≤ k) (List.replicate (newN (-1)) Sec.e)) : Calls Try.prog 11 #[dp g] w fun e w' => e = .returned (.int .i64 0) ∧ w' = w := len_any g _ _ w h

set_option maxHeartbeats 400000 in
theorem walk (w : World) : Calls Try.prog 3 #[] w fun e w' => e = .returned (.bool true) ∧ Below w.heap.size w w' := by
  go_enter Try.func3, Try.ntmps3
  go_wp2_with (first
    | (go_at_call_of 8 (Value.int .i64 1); refine (new_any 1 _).mono ?_; rintro e w1 ⟨rfl, hD, hS1, hb1⟩; have hD1 : Drv w1 w.heap.size (fun k => w.heap.size + 2 ≤ k) [Sec.e] := hD _ (by omega); clear hD hS1)
    | (go_at_call 9; refine (read1 _ _ hD1).mono ?_; rintro e w' ⟨rfl, hw⟩; subst w')
    | (go_at_call 10; refine (alive_any _).mono ?_; rintro e w2 ⟨rfl, hb2⟩; have hB2 : Below w.heap.size w w2 := below_step hb1 hb2)
    | (go_at_call_of 8 (Value.int .i64 99); refine (new_any 99 _).mono ?_; rintro e w3 ⟨rfl, hD, hS1, hb3⟩; have hD3 : Drv w3 w2.heap.size (fun k => w2.heap.size + 2 ≤ k) (List.replicate (newN 99) Sec.e) := hD _ (by omega); clear hD hS1; have hB3 : Below w.heap.size w w3 := below_step hB2 hb3)
    | (go_at_call 11; with_reducible refine (len6 w2.heap.size _ hD3).mono ?_; rintro e w' ⟨rfl, hw⟩; subst w')
    | (go_at_call 8; refine (new_any (-1) _).mono ?_; rintro e w4 ⟨rfl, hD, hS1, hb4⟩; have hD4 : Drv w4 w3.heap.size (fun k => w3.heap.size + 2 ≤ k) (List.replicate (newN (-1)) Sec.e) := hD _ (by omega); clear hD hS1; have hB4 : Below w.heap.size w w4 := below_step hB3 hb4)
    | (go_at_call 11; with_reducible refine (len0 w3.heap.size _ hD4).mono ?_; rintro e w' ⟨rfl, hw⟩; subst w'))
  go_ret
  exact ⟨rfl, hB4⟩

set_option maxRecDepth 100000 in
theorem lifted (os : Os) (started : os.Started) (H : Type) (enc : TypeId × Value → H) :
    ReturnsInHanded {} Try.checked os 3 .any (Rows.sectorNamesSpec.pre6 enc Try.prog Try.f3 Rows.sectorNamesRow.domain false) (Rows.sectorNamesSpec.post enc Try.prog Try.f3 false true false false) := by
  refine returnsInHanded_of_change_sized (C := Try.checked) own started (by kernel_rfl) Try.func3
    (ChangeSpec.witness6 (enc := enc) (C := Try.checked) false ⟨#[], #[], []⟩ 8 (by kernel_rfl) (by kernel_rfl) (by kernel_rfl) (by kernel_rfl)) ?_
  intro W base args ds gs before hval0 hW hcnd hsz0 _
  have hval : ∀ (j : Nat) t v, Try.f3.params[j]? = some t → args[j]? = some v → Value.okWide Try.prog W .any base t v := hval0
  have hsz : (DataW.weightsEach Try.prog (Try.f3.params.toList ++ Rows.sectorNamesSpec.plain.varTypes Try.prog) (ds ++ gs)).all (· ≤ reachBytes) = true := hsz0
  have hW' := hW
  obtain ⟨p, q, hA0, hV, rfl, hfz, hnd⟩ := hW
  have hA : DataW.TrodAll enc Try.prog W 0 (fun _ => true) true Try.f3.params.toList args.toList ds p := hA0
  rw [Try.params3] at hA hval hsz
  obtain ⟨rfl, rfl, rfl⟩ := trodAll_none hA
  obtain ⟨rfl, rfl⟩ := trodVars_none hV
  clear hA0 hval0
  refine (walk  W ).mono fun e W' ⟨he, bel⟩ => ?_
  subst he
  exact ⟨_, rfl, _, _, _, [], _, [], hW', trodAll_mk1 (shut_bool Try.underlying4 _), trodAll_mk0, rfl, bel.frame _, fun h => by cases h⟩

theorem over : Rows.sectorNamesRow.holds Try.pinned (OpenSpec.ofChange Rows.sectorNamesSpec) :=
  OpenClaim.holds_of_wide 3 Try.f3 rfl rfl rfl rfl rfl rfl rfl ⟨rfl, rfl, rfl, rfl, rfl⟩ rfl rfl rfl rfl rfl (by kernel_rfl) Try.func3 (by kernel_rfl)
    (of_decide_eq_true (by kernel_rfl)) (by unfold Func.isWrapper; first | (rw [if_pos (by decide +kernel)]; kernel_rfl) | (rw [if_neg (by decide +kernel)]; exact ⟨rfl, rfl⟩))
    (fun os started H enc _ => lifted os started H enc)

theorem proved : Rows.SectorNamesSaid := over
#print axioms proved
end Go.Proofs.Ytnapkcejpllmcaa.sectorNames
