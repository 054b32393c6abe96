/- The error and the limit of package tape have their numbers: the law's function returns true. Conditions: none. -/
import Derived.Test.YtdajhdeheheccaaRows
import Derived.Test.YtdajhdeheheccaaSl
import Derived.Test.YtdajhdeheheccaaSd
import Derived.Test.YtdajhdeheheccaaAp
import Derived.Test.YtdajhdeheheccaaTd
import Derived.Test.YtdajhdeheheccaaT1
import Derived.Test.YtdajhdeheheccaaT2
import Derived.Test.YtdajhdeheheccaaT3
import Derived.WalkKit
import Derived.ProofKit
import Derived.OpenShut
import Derived.ShutString
import Derived.ChangeOld
import Derived.SizedLaws
import Derived.Below
import Derived.Deep.QuietTactic
import Derived.BigQuiet
import Derived.Deep.RegionWith
import Derived.Deep.RegionHeld
import Derived.Deep.RegionHeldLaw
import Derived.RegionTactic
namespace Go.Proofs.Ytdajhdeheheccaa.tapeNames
open Go.ChangeShapes Go.WideShapes Go.ChangeAt Go.RowKit
set_option linter.unusedVariables false

theorem own : ownKnob Try.prog.godebug = none := by kernel_rfl
theorem laidOut : laidOutB Try.prog = true := by kernel_rfl

theorem bad1 (w : World) (g B : Nat) (hT : Tp w B g none 0 0 [] 0 0) (ax : Option Addr) (cx : Nat) :
    Calls Try.prog 10 #[tp g, .slice ax 1 cx] w fun e w' => e = .returned (.int .i64 61) ∧ Below w.heap.size w w' := append_bad B g none 0 0 [] 0 0 w hT ax 1 cx (by omega) (by omega) (by omega)
theorem ok0 (w : World) (g B : Nat) (hT : Tp w B g none 0 0 [] 0 0) :
    Calls Try.prog 10 #[tp g, .slice none 0 0] w fun e w' => e = .returned (.int .i64 0) ∧ Led w w' B g none 0 [] 0 0 := append_ok B g none 0 0 [] 0 0 w hT none 0 0 [] (Rd8.empty w) (by omega)

set_option maxHeartbeats 400000 in
theorem walk (w : World) : Calls Try.prog 3 #[] w fun e w' => e = .returned (.bool true) ∧ Below w.heap.size w w' := by
  go_enter Try.func3, Try.ntmps3
  go_wp2_with (first
    | (go_at_call 10; refine (ok0 _ _ _ hT4).mono ?_; rintro e w5 ⟨rfl, ao5, cap5, hT5, hO5, hN5⟩; have hB5 : Below w.heap.size w w5 := hB4.trans ((hT4.belowB hO5).mono (by omega)))
    | (go_at_call 9; refine (new_any (-5) w3).mono ?_; rintro e w4 ⟨rfl, hN, -, hb4⟩; have hT4 : Tp w4 w3.heap.size w3.heap.size none 0 0 [] 0 0 := hN _ (Nat.le_refl _); clear hN; have hB4 := below_step hB3 hb4; have hs4 := hB3.size)
    | (go_at_call 10; refine (bad1 _ _ _ (hT2.below ((Below.refl _ _).alloc (Nat.le_refl _) _)) _ _).mono ?_; rintro e w3 ⟨rfl, hb3⟩; have hB3 : Below w.heap.size w w3 := below_step hB2 (below_alloc (hb3.mono (by simp))))
    | (go_at_call 9; refine (new_any 0 w1).mono ?_; rintro e w2 ⟨rfl, hN, -, hb2⟩; have hT2 : Tp w2 w1.heap.size w1.heap.size none 0 0 [] 0 0 := hN _ (Nat.le_refl _); clear hN; have hB2 := below_step hB1 hb2; have hcv := Go.Lib.run_convert_bytes_const (P := Try.prog) w2 27 5 #[.int .u8 97] 1 1 Try.underlying27 Try.underlying5)
    | (go_at_call 8; refine (alive_any _).mono ?_; rintro e w1 ⟨rfl, hB1⟩))
  go_ret
  exact ⟨rfl, hB5⟩

set_option maxRecDepth 100000 in
theorem lifted (os : Os) (started : os.Started) (H : Type) (enc : TypeId × Value → H) :
    ReturnsInHanded {} Try.checked os 3 .any (Rows.tapeNamesSpec.pre6 enc Try.prog Try.f3 Rows.tapeNamesRow.domain false) (Rows.tapeNamesSpec.post enc Try.prog Try.f3 false true false false) := by
  refine returnsInHanded_of_change_sized (C := Try.checked) own started (by kernel_rfl) Try.func3
    (ChangeSpec.witness6 (enc := enc) (C := Try.checked) false ⟨#[], #[], []⟩ 8 (by kernel_rfl) (by kernel_rfl) (by kernel_rfl) (by kernel_rfl)) ?_
  intro W base args ds gs before hval0 hW hcnd hsz0 _
  have hval : ∀ (j : Nat) t v, Try.f3.params[j]? = some t → args[j]? = some v → Value.okWide Try.prog W .any base t v := hval0
  have hsz : (DataW.weightsEach Try.prog (Try.f3.params.toList ++ Rows.tapeNamesSpec.plain.varTypes Try.prog) (ds ++ gs)).all (· ≤ reachBytes) = true := hsz0
  have hW' := hW
  obtain ⟨p, q, hA0, hV, rfl, hfz, hnd⟩ := hW
  have hA : DataW.TrodAll enc Try.prog W 0 (fun _ => true) true Try.f3.params.toList args.toList ds p := hA0
  rw [Try.params3] at hA hval hsz
  obtain ⟨rfl, rfl, rfl⟩ := trodAll_none hA
  obtain ⟨rfl, rfl⟩ := trodVars_none hV
  clear hA0 hval0
  refine (walk  W ).mono fun e W' ⟨he, bel⟩ => ?_
  subst he
  exact ⟨_, rfl, _, _, _, [], _, [], hW', trodAll_mk1 (shut_bool Try.underlying4 _), trodAll_mk0, rfl, bel.frame _, fun h => by cases h⟩

theorem over : Rows.tapeNamesRow.holds Try.pinned (OpenSpec.ofChange Rows.tapeNamesSpec) :=
  OpenClaim.holds_of_wide 3 Try.f3 rfl rfl rfl rfl rfl rfl rfl ⟨rfl, rfl, rfl, rfl, rfl⟩ rfl rfl rfl rfl rfl (by kernel_rfl) Try.func3 (by kernel_rfl)
    (of_decide_eq_true (by kernel_rfl)) (by unfold Func.isWrapper; first | (rw [if_pos (by decide +kernel)]; kernel_rfl) | (rw [if_neg (by decide +kernel)]; exact ⟨rfl, rfl⟩))
    (fun os started H enc _ => lifted os started H enc)

theorem proved : Rows.TapeNamesSaid := over
#print axioms proved
end Go.Proofs.Ytdajhdeheheccaa.tapeNames
