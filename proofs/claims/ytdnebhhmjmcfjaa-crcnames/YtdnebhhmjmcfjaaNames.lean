/- The error of package crc has its number, and nothing is no frame: the law's function returns true. Conditions: none. -/
import Derived.Test.YtdnebhhmjmcfjaaRows
import Derived.Test.YtdnebhhmjmcfjaaSl
import Derived.Test.YtdnebhhmjmcfjaaCm
import Derived.Test.YtdnebhhmjmcfjaaCr1
import Derived.Test.YtdnebhhmjmcfjaaCr2
import Derived.Test.YtdnebhhmjmcfjaaCr3
import Derived.Test.YtdnebhhmjmcfjaaCr4
import Derived.Test.YtdnebhhmjmcfjaaCr5
import Derived.Test.YtdnebhhmjmcfjaaCr6
import Derived.WalkKit
import Derived.ProofKit
import Derived.OpenShut
import Derived.ShutString
import Derived.ChangeOld
import Derived.SizedLaws
import Derived.Below
import Derived.Deep.QuietTactic
import Derived.BigQuiet
import Derived.Deep.RegionWith
import Derived.Deep.RegionHeld
namespace Go.Proofs.Ytdnebhhmjmcfjaa.crcNames
open Go.ChangeShapes Go.WideShapes Go.ChangeAt Go.RowKit
set_option linter.unusedVariables false

theorem own : ownKnob Try.prog.godebug = none := by kernel_rfl
theorem laidOut : laidOutB Try.prog = true := by kernel_rfl

theorem br_ex : brN [0, 0] 7 3 (L16 3) = [128, 1] := by decide +kernel

theorem burst_ex (w : World) : Calls Try.prog 11 #[.slice (some ⟨w.heap.size, 0, none⟩) 2 2, .int .i64 7, .int .u16 3] (w.alloc (.cells #[.int .u8 0, .int .u8 0] 5)) fun e w' => ∃ ao' cap', e = .returned (.slice ao' 2 cap') ∧ Own8 w' (w.alloc (.cells #[.int .u8 0, .int .u8 0] 5)).heap.size ao' 2 cap' [128, 1] ∧ Below (w.alloc (.cells #[.int .u8 0, .int .u8 0] 5)).heap.size (w.alloc (.cells #[.int .u8 0, .int .u8 0] 5)) w' := by
  have := burst_any _ _ _ _ 7 3 _ (Rd8.built w #[.int .u8 0, .int .u8 0] 2 [0, 0] rfl rfl (by intro b hb; simp at hb; omega) (by unfold maxLen; omega)) (by omega) (by omega) (by omega) (by omega)
  rw [br_ex] at this
  exact this

theorem str_ex {w : World} {ao : Option Addr} {cap : Nat} (h : Rd8 w ao 2 cap [128, 1]) : (convert 22 9 (.slice ao 2 cap)).run Try.prog w = .ok (.string ⟨#[128, 1]⟩) w := h.str

set_option maxHeartbeats 800000 in
theorem walk (w : World) : Calls Try.prog 3 #[] w fun e w' => e = .returned (.bool true) ∧ Below w.heap.size w w' := by
  go_enter Try.func3, Try.ntmps3
  go_wp2_with (first
    | (go_at_call 9; refine (open_short _ 0 _ _ (by omega)).mono ?_; rintro e w' ⟨rfl, hw⟩; subst w')
    | (go_at_call 10; refine (alive_any _).mono ?_; rintro e w1 ⟨rfl, hb1⟩)
    | (go_at_call 11; refine (burst_ex _).mono ?_; rintro e w2 ⟨ao2, cap2, rfl, ho2, hb2⟩; have hx2 := str_ex ho2.rd))
  go_ret
  exact ⟨rfl, below_step hb1 (below_alloc (hb2.mono (by simp)))⟩

set_option maxRecDepth 100000 in
theorem lifted (os : Os) (started : os.Started) (H : Type) (enc : TypeId × Value → H) :
    ReturnsInHanded {} Try.checked os 3 .any (Rows.crcNamesSpec.pre6 enc Try.prog Try.f3 Rows.crcNamesRow.domain false) (Rows.crcNamesSpec.post enc Try.prog Try.f3 false true false false) := by
  refine returnsInHanded_of_change_sized (C := Try.checked) own started (by kernel_rfl) Try.func3
    (ChangeSpec.witness6 (enc := enc) (C := Try.checked) false ⟨#[], #[], []⟩ 8 (by kernel_rfl) (by kernel_rfl) (by kernel_rfl) (by kernel_rfl)) ?_
  intro W base args ds gs before hval0 hW hcnd hsz0 _
  have hval : ∀ (j : Nat) t v, Try.f3.params[j]? = some t → args[j]? = some v → Value.okWide Try.prog W .any base t v := hval0
  have hsz : (DataW.weightsEach Try.prog (Try.f3.params.toList ++ Rows.crcNamesSpec.plain.varTypes Try.prog) (ds ++ gs)).all (· ≤ reachBytes) = true := hsz0
  have hW' := hW
  obtain ⟨p, q, hA0, hV, rfl, hfz, hnd⟩ := hW
  have hA : DataW.TrodAll enc Try.prog W 0 (fun _ => true) true Try.f3.params.toList args.toList ds p := hA0
  rw [Try.params3] at hA hval hsz
  obtain ⟨rfl, rfl, rfl⟩ := trodAll_none hA
  obtain ⟨rfl, rfl⟩ := trodVars_none hV
  clear hA0 hval0
  refine (walk  W ).mono fun e W' ⟨he, bel⟩ => ?_
  subst he
  exact ⟨_, rfl, _, _, _, [], _, [], hW', trodAll_mk1 (shut_bool Try.underlying4 _), trodAll_mk0, rfl, bel.frame _, fun h => by cases h⟩

theorem over : Rows.crcNamesRow.holds Try.pinned (OpenSpec.ofChange Rows.crcNamesSpec) :=
  OpenClaim.holds_of_wide 3 Try.f3 rfl rfl rfl rfl rfl rfl rfl ⟨rfl, rfl, rfl, rfl, rfl⟩ rfl rfl rfl rfl rfl (by kernel_rfl) Try.func3 (by kernel_rfl)
    (of_decide_eq_true (by kernel_rfl)) (by unfold Func.isWrapper; first | (rw [if_pos (by decide +kernel)]; kernel_rfl) | (rw [if_neg (by decide +kernel)]; exact ⟨rfl, rfl⟩))
    (fun os started H enc _ => lifted os started H enc)

theorem proved : Rows.CrcNamesSaid := over
#print axioms proved
end Go.Proofs.Ytdnebhhmjmcfjaa.crcNames
