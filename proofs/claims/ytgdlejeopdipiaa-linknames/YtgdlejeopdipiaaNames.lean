/- The errors and the limit have their numbers (a ninth body that is under way, a body of 701 bytes), eight bodies are taken, and the chapter's example holds (a packet that comes twice is told once): the law's function returns true. Conditions: none. -/
import Derived.Test.YtgdlejeopdipiaaRows
import Derived.Test.YtgdlejeopdipiaaSl
import Derived.Test.YtgdlejeopdipiaaSd
import Derived.Test.YtgdlejeopdipiaaAp
import Derived.Test.YtgdlejeopdipiaaTd
import Derived.Test.YtgdlejeopdipiaaLm
import Derived.Test.YtgdlejeopdipiaaL1
import Derived.Test.YtgdlejeopdipiaaL2
import Derived.Test.YtgdlejeopdipiaaL3
import Derived.Test.YtgdlejeopdipiaaPm
import Derived.Test.YtgdlejeopdipiaaL4
import Derived.Test.YtgdlejeopdipiaaL5
import Derived.Test.YtgdlejeopdipiaaL6
import Derived.Test.YtgdlejeopdipiaaL7
import Derived.WalkKit
import Derived.ProofKit
import Derived.OpenShut
import Derived.ShutString
import Derived.ChangeOld
import Derived.SizedLaws
import Derived.Below
import Derived.Deep.QuietTactic
import Derived.BigQuiet
import Derived.Deep.RegionWith
import Derived.Deep.RegionHeld
import Derived.Deep.RegionHeldLaw
import Derived.RegionTactic
import Derived.Laws.MakeOwn
import Derived.Deep.RegionLaw
import Derived.Deep.DeepCutAuto
import Derived.Deep.CutBlock
namespace Go.Proofs.Ytgdlejeopdipiaa.linkNames
open Go.ChangeShapes Go.WideShapes Go.ChangeAt Go.RowKit
set_option linter.unusedVariables false

theorem own : ownKnob Try.prog.godebug = none := by kernel_rfl
theorem laidOut : laidOutB Try.prog = true := by kernel_rfl

theorem make701 : ∃ Z : Array Value, ∀ W : World, (Instr.makeSlice 27 (.int .i64 701) (.int .i64 701)).run Try.prog W = .ok (.slice (some ⟨W.heap.size, 0, none⟩) 701 701) (W.alloc (.cells Z 5)) := by
  obtain ⟨i, hi, hz, hsz, hb⟩ := info_parts info5
  exact ⟨_, fun W => run_make (P := Try.prog) W 27 5 i _ Try.underlying27 hi hz .i64 .i64 701 701 (by omega) (by omega) (by rw [hb]; omega) (by omega)⟩

abbrev nI : LkI := ⟨0, 1, 1, false⟩

set_option maxHeartbeats 1600000 in
theorem walk (w : World) : Calls Try.prog 3 #[] w fun e w' => e = .returned (.bool true) ∧ Below w.heap.size w w' := by
  obtain ⟨Z, hZ⟩ := make701
  go_enter Try.func3, Try.ntmps3
  go_wp2_with (first
    | (go_at_call 9; refine (new_any 0 1 1 false w).mono ?_; rintro e w1 ⟨rfl, hA1, hb1⟩; have K1 := hA1 w.heap.size (fun _ => True) (Nat.le_refl _); clear hA1))
  go_loopw [2] (fun i wr => ∃ (k : Nat) (ao : Option Addr) (cap : Nat), k ≤ 8 ∧ i = .int .i64 k ∧ Lk wr w.heap.size w.heap.size ao k cap (fun _ => True) nI (List.replicate k []) k 0 ∧ Below w.heap.size w wr) (fun i _ => 8 - (intOf i).toNat)
  case atStart => exact ⟨0, none, 0, by omega, rfl, K1, hb1⟩
  case round =>
    obtain ⟨k, ao, cap, hk, rfl, K, hbel⟩ := hrel
    by_cases hlt : k < 8
    · have HR : Hid (List.replicate k ([] : List Nat) ++ [[]] = List.replicate (k + 1) []) := List.replicate_succ'.symm
      go_wp2_with (first
        | (go_at_call 10; refine (push_ok _ _ _ _ _ _ _ _ _ _ _ K none 0 0 [] (Rd8.empty _) (by omega) hlt (by omega) (fun _ _ => trivial)).mono ?_; rw [HR.out]; rintro e w3 ⟨rfl, ao3, cap3, K3, hO3, hN3⟩))
      go_roundw
      case rel => exact ⟨k + 1, ao3, cap3, by omega, by go_num, K3, hbel.trans (K.belowB hO3)⟩
      case measure => simp [intOf]; omega
    · obtain rfl : k = 8 := by omega
      go_wp2_with (first
        | (go_at_call 12; refine (sent_any _ _ _ _ _ _ _ _ _ _ _ K3).mono ?_; rintro e w4 ⟨rfl, hw⟩; subst w4)
        | (go_at_call_of 10 (Value.slice none 0 0); refine (push_full _ _ _ _ _ _ _ _ _ _ K2 none 0 0 (by omega) (by omega)).mono ?_; rintro e w3 ⟨rfl, hw⟩; subst w3)
        | (go_at_call 10; refine (push_big _ _ 701 _ _ (by omega)).mono ?_; rintro e w3 ⟨rfl, hw⟩; subst w3; have K3 := K2.below ((Below.refl _ _).alloc (Nat.le_refl _) (.cells Z 5)); have hv := K3.hd.c5)
        | (go_at_call 11; refine (alive_any _).mono ?_; rintro e w2 ⟨rfl, hb2⟩; have K2 := K.below hb2))
      go_ret
      exact ⟨rfl, below_step hbel (hb2.alloc hb2.size _)⟩

set_option maxRecDepth 100000 in
theorem lifted (os : Os) (started : os.Started) (H : Type) (enc : TypeId × Value → H) :
    ReturnsInHanded {} Try.checked os 3 .any (Rows.linkNamesSpec.pre6 enc Try.prog Try.f3 Rows.linkNamesRow.domain false) (Rows.linkNamesSpec.post enc Try.prog Try.f3 false true false false) := by
  refine returnsInHanded_of_change_sized (C := Try.checked) own started (by kernel_rfl) Try.func3
    (ChangeSpec.witness6 (enc := enc) (C := Try.checked) false ⟨#[], #[], []⟩ 8 (by kernel_rfl) (by kernel_rfl) (by kernel_rfl) (by kernel_rfl)) ?_
  intro W base args ds gs before hval0 hW hcnd hsz0 _
  have hval : ∀ (j : Nat) t v, Try.f3.params[j]? = some t → args[j]? = some v → Value.okWide Try.prog W .any base t v := hval0
  have hsz : (DataW.weightsEach Try.prog (Try.f3.params.toList ++ Rows.linkNamesSpec.plain.varTypes Try.prog) (ds ++ gs)).all (· ≤ reachBytes) = true := hsz0
  have hW' := hW
  obtain ⟨p, q, hA0, hV, rfl, hfz, hnd⟩ := hW
  have hA : DataW.TrodAll enc Try.prog W 0 (fun _ => true) true Try.f3.params.toList args.toList ds p := hA0
  rw [Try.params3] at hA hval hsz
  obtain ⟨rfl, rfl, rfl⟩ := trodAll_none hA
  obtain ⟨rfl, rfl⟩ := trodVars_none hV
  clear hA0 hval0
  refine (walk  W ).mono fun e W' ⟨he, bel⟩ => ?_
  subst he
  exact ⟨_, rfl, _, _, _, [], _, [], hW', trodAll_mk1 (shut_bool Try.underlying4 _), trodAll_mk0, rfl, bel.frame _, fun h => by cases h⟩

theorem over : Rows.linkNamesRow.holds Try.pinned (OpenSpec.ofChange Rows.linkNamesSpec) :=
  OpenClaim.holds_of_wide 3 Try.f3 rfl rfl rfl rfl rfl rfl rfl ⟨rfl, rfl, rfl, rfl, rfl⟩ rfl rfl rfl rfl rfl (by kernel_rfl) Try.func3 (by kernel_rfl)
    (of_decide_eq_true (by kernel_rfl)) (by unfold Func.isWrapper; first | (rw [if_pos (by decide +kernel)]; kernel_rfl) | (rw [if_neg (by decide +kernel)]; exact ⟨rfl, rfl⟩))
    (fun os started H enc _ => lifted os started H enc)

theorem proved : Rows.LinkNamesSaid := over
#print axioms proved
end Go.Proofs.Ytgdlejeopdipiaa.linkNames
