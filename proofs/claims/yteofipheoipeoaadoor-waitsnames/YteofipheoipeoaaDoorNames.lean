/- Proved: WaitsNames, that is: of no edges nobody must give way and nobody can be come to; who waits for itself is a cycle, a number that is no client is none; with the chapter's example. Conditions: the two tables of package math/bits hold what the program's text lays (tied by the card). -/
import Derived.Test.YteofipheoipeoaaDoorRows
import Derived.Test.YteofipheoipeoaaDoorCards
import Derived.Test.YteofipheoipeoaaDoorTie
import Derived.Test.YteofipheoipeoaaDoorW4
import Derived.Test.YteofipheoipeoaaDoorOe
import Derived.WalkKit
import Derived.ProofKit
import Derived.OpenShut
import Derived.ShutString
import Derived.ChangeOld
import Derived.SizedLaws
import Derived.Below
import Derived.Deep.QuietTactic
import Derived.BigQuiet
import Derived.Deep.RegionWith
import Derived.Deep.RegionHeld
import Derived.Deep.RegionHeldLaw
import Derived.RegionTactic
import Derived.Deep.DeepHandedRow
import Derived.Lib.LaidTab
namespace Go.Proofs.YteofipheoipeoaaDoor.waitsNames
open Go.ChangeShapes Go.WideShapes Go.ChangeAt Go.RowKit
set_option linter.unusedVariables false


set_option maxHeartbeats 800000 in
theorem walk (w : World) (H : Tz w) : Calls Tryd.prog 3 #[] w fun e w' => e = .returned (.bool true) ∧ Below w.heap.size w w' := by
  have v1 : vcI [] = 0 := by decide +kernel
  have v2 : vcB [] = false := by decide +kernel
  have v3 : (rlI [] 0).length = 0 := by decide +kernel
  have v4 : cyB [(3, 3)] 3 = true := by decide +kernel
  have v5 : cyB [(4, 4)] 4 = false := by decide +kernel
  have HV : Hid (vcI [] = 0 ∧ vcB [] = false ∧ (rlI [] 0).length = 0 ∧ cyB [(3, 3)] 3 = true ∧ cyB [(4, 4)] 4 = false) := ⟨v1, v2, v3, v4, v5⟩
  clear v1 v2 v3 v4 v5
  go_enter Tryd.func3, Tryd.ntmps3
  go_wp2_with (first
    | (go_at_call 9; refine (victim_any w none 0 0 [] (RdE.empty w) rfl H).mono ?_; rw [HV.out.1, HV.out.2.1]; rintro e w2 ⟨rfl, hb2⟩; have hT2 := H.on hb2)
    | (go_at_call 10; refine (alive_any w2 hT2).mono ?_; rintro e w3 ⟨rfl, hb3⟩; have hT3 := hT2.on hb3; have hB3 := below_step hb2 hb3)
    | (go_at_call 11; refine (reach_any w3 none 0 0 [] (RdE.empty _) rfl hT3 0).mono ?_; rw [HV.out.2.2.1]; rintro e w4 ⟨ao4, n4, cap4, rfl, ho4, rfl, hb4⟩; clear ho4; have hT4 := hT3.on hb4; have hB4 := below_step hB3 hb4; have hb5 : Below w4.heap.size w4 (w4.alloc (.cells #[.int .i64 3, .int .i64 3] 29)) := (by go_grown); have hT5 := hT4.on hb5; have hB5 := below_step hB4 hb5; have hR5 := RdE.built w4 #[.int .i64 3, .int .i64 3] [(3, 3)] rfl (by simp [maxLen]) 1 rfl)
    | (go_at_call 12; with_reducible refine (cycle_any _ _ 1 _ [(3, 3)] hR5 rfl hT5 3).mono ?_; rw [HV.out.2.2.2.1]; rintro e w6 ⟨rfl, hb6⟩; have hT6 := hT5.on hb6; have hB6 := below_step hB5 hb6; have hb7 : Below w6.heap.size w6 (w6.alloc (.cells #[.int .i64 4, .int .i64 4] 29)) := (by go_grown); have hT7 := hT6.on hb7; have hB7 := below_step hB6 hb7; have hR7 := RdE.built w6 #[.int .i64 4, .int .i64 4] [(4, 4)] rfl (by simp [maxLen]) 1 rfl)
    | (go_at_call 12; with_reducible refine (cycle_any _ _ 1 _ [(4, 4)] hR7 rfl hT7 4).mono ?_; rw [HV.out.2.2.2.2]; rintro e w8 ⟨rfl, hb8⟩; have hB8 := below_step hB7 hb8))
  go_ret
  exact ⟨rfl, hB8⟩

theorem reads (os : Os) {H : Type} (enc : TypeId × Value → H) : ∃ places, DataW.whole enc Tryd.prog ((laidWorld os).forCall (fun _ _ => 0) ⟨#[], #[], []⟩).memory Tryd.f3.params.toList Rows.waitsNamesSpec.vars false (#[] : Array Value).toList 8 = some ([], [], places) :=
  ⟨[], by kernel_rfl⟩

set_option maxRecDepth 100000 in
theorem lifted (os : Os) (started : os.Started) (H : Type) (enc : TypeId × Value → H) (F : Stop.Interp) :
    ReturnsInHanded {} Tryd.checked os 3 .any ((OpenSpec.ofChange Rows.waitsNamesSpec).preRow enc Tryd.prog Tryd.f3 Rows.waitsNamesRow.domain false Rows.waitsNamesRow.laid) (((OpenSpec.ofChange Rows.waitsNamesSpec).at F).post enc Tryd.prog Tryd.f3 false true false false) := by
  obtain ⟨places, hx⟩ := reads os enc
  refine returnsInHanded_of_row (C := Tryd.checked) (s := OpenSpec.ofChange Rows.waitsNamesSpec) own started (by kernel_rfl) Tryd.func3
    (witness_row_at (enc := enc) (C := Tryd.checked) false (laidWorld os) #[] rfl (by kernel_rfl) (by kernel_rfl) (by kernel_rfl)
      (OpenSpec.preRow_of_cond 8 hx (by kernel_rfl) (fun k hk => by cases hk) (by kernel_rfl) (laid_met os _))) ?_
  intro W base args ds gs before hval0 hW _ _ hsz0 hL _ _
  have HT : Tz W := tz_of_laid hL
  have hval : ∀ (j : Nat) t v, Tryd.f3.params[j]? = some t → args[j]? = some v → Value.okWide Tryd.prog W .any base t v := hval0
  have hsz : (DataW.weightsEach Tryd.prog (Tryd.f3.params.toList ++ Rows.waitsNamesSpec.plain.varTypes Tryd.prog) (ds ++ gs)).all (· ≤ reachBytes) = true := hsz0
  have hW' := hW
  obtain ⟨p, q, hA0, hV, rfl, hfz, hnd⟩ := hW
  have hA : DataW.TrodAll enc Tryd.prog W 0 (fun _ => true) true Tryd.f3.params.toList args.toList ds p := hA0
  rw [Tryd.params3] at hA hval hsz
  obtain ⟨rfl, rfl, rfl⟩ := trodAll_none hA
  obtain ⟨rfl, rfl⟩ := trodVars_none hV
  clear hA0 hval0 hsz0
  refine (walk  W  HT).mono fun e W' ⟨he, bel⟩ => ?_
  subst he
  exact ⟨_, rfl, _, _, _, [], _, [], hW', trodAll_mk1 (shut_bool Tryd.underlying4 _), trodAll_mk0, rfl, bel.frame _, fun h => by cases h⟩

theorem said : Rows.WaitsNamesSaid :=
  OpenClaim.holds_of_cond 3 Tryd.f3 rfl rfl rfl rfl rfl rfl rfl ⟨rfl, rfl, rfl, rfl, rfl⟩ rfl rfl rfl rfl rfl (by kernel_rfl) Tryd.func3 (by kernel_rfl)
    (of_decide_eq_true (by kernel_rfl)) (by unfold Func.isWrapper; first | (rw [if_pos (by decide +kernel)]; kernel_rfl) | (rw [if_neg (by decide +kernel)]; exact ⟨rfl, rfl⟩))
    (fun os started H enc _ F => by rw [OpenClaim.pre_eq_preRow]; exact lifted os started H enc F)

theorem plain (f : FuncId) (fn : Func) (hf : Tryd.pinned.checked.prog.funcNamed "cloakroom/cloakroomlaw13.WaitsNames" = some f) (hfn : Tryd.pinned.checked.prog.funcs[f]? = some fn) :
    false = Tryd.pinned.checked.prog.looks [] ∧ ∀ (j : Nat) t, fn.params[j]? = some t → Tryd.pinned.checked.prog.wantsStandIn t = false := by
  obtain rfl : f = 3 := Option.some.inj ((show Tryd.prog.funcNamed "cloakroom/cloakroomlaw13.WaitsNames" = some 3 by kernel_rfl).symm.trans hf) |>.symm
  obtain rfl : fn = Tryd.f3 := (Option.some.inj (Tryd.func3.symm.trans hfn)).symm
  refine ⟨by kernel_rfl, fun j t ht => ?_⟩
  rw [Tryd.params3] at ht
  simp at ht

theorem proved : Rows.WaitsNamesCardSaid :=
  Claim7.holds_tied_plain_at .later [] _ _ _ _ said (fun _ h => by cases h) (by kernel_rfl) (fun _ h => by cases h) waitsNames_row_tie rfl ⟨rfl, rfl⟩ (by kernel_rfl) rfl plain (by kernel_rfl)
#print axioms proved
end Go.Proofs.YteofipheoipeoaaDoor.waitsNames
