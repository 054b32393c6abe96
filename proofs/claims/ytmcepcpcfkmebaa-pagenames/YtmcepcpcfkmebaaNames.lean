/- /- The error of package page has its number, and nothing is no page: the law's function returns true. Conditions: none. -/ -/
import Derived.Test.YtmcepcpcfkmebaaRows
import Derived.Test.YtmcepcpcfkmebaaMath
import Derived.Test.YtmcepcpcfkmebaaLeaf
import Derived.Test.YtmcepcpcfkmebaaWalks
import Derived.Test.YtmcepcpcfkmebaaSl
import Derived.Test.YtmcepcpcfkmebaaPkm
import Derived.Test.YtmcepcpcfkmebaaPk1
import Derived.Test.YtmcepcpcfkmebaaPk2
import Derived.Test.YtmcepcpcfkmebaaPk3
import Derived.Test.YtmcepcpcfkmebaaPk4
import Derived.Test.YtmcepcpcfkmebaaPk6
import Derived.Test.YtmcepcpcfkmebaaCm
import Derived.Test.YtmcepcpcfkmebaaCr1
import Derived.Test.YtmcepcpcfkmebaaCr2
import Derived.Test.YtmcepcpcfkmebaaCr3
import Derived.Test.YtmcepcpcfkmebaaPg1
import Derived.Test.YtmcepcpcfkmebaaPg2
import Derived.Test.YtmcepcpcfkmebaaPg3
import Derived.Test.YtmcepcpcfkmebaaPg4
import Derived.Test.YtmcepcpcfkmebaaPg5
import Derived.Test.YtmcepcpcfkmebaaPg6
import Derived.WalkKit
import Derived.ProofKit
import Derived.OpenShut
import Derived.ShutString
import Derived.ChangeOld
import Derived.SizedLaws
import Derived.Below
import Derived.Deep.QuietTactic
import Derived.BigQuiet
import Derived.Deep.RegionWith
import Derived.Deep.RegionHeld
import Derived.Deep.RegionHeldLaw
import Derived.RegionTactic
namespace Go.Proofs.Ytmcepcpcfkmebaa.pageNames
open Go.ChangeShapes Go.WideShapes Go.ChangeAt Go.RowKit
set_option linter.unusedVariables false

theorem own : ownKnob Try.prog.godebug = none := by kernel_rfl
theorem laidOut : laidOutB Try.prog = true := by kernel_rfl

theorem al_nil (w : World) : Calls Try.prog 4 #[.slice none 0 0] w fun e w' => e = .returned (.tuple #[zP, .int .i64 41]) ∧ Below w.heap.size w w' :=
  read_short none 0 0 w (by omega)

theorem al_right (w : World) : Calls Try.prog 6 #[.agg #[.int .i64 (-1), .complex .f64 0 0, .complex .f64 0 0, .complex .f64 0 0, .complex .f64 0 0]] w fun e w' => e = .returned (.bool false) ∧ Below w.heap.size w w' :=
  (right_any (-1) zO zO zO zO w).mono fun e w' ⟨he, hw⟩ => ⟨he, by rw [hw]; exact (Below.refl _ _).alloc (Nat.le_refl _) _⟩

set_option maxHeartbeats 400000 in
theorem walk (w : World) : Calls Try.prog 3 #[] w fun e w' => e = .returned (.bool true) ∧ Below w.heap.size w w' := by
  have hst := fun (ad : Addr) (re im : Nat) (W : World) => run_store Try.prog W ad (.complex .f64 re im) .plain rfl
  go_enter Try.func3, Try.ntmps3
  go_wp2_with (first
    | (go_at_call 4; with_reducible refine (al_nil _).mono ?_; rintro e w1 ⟨rfl, hb1⟩)
    | (go_at_call 5; refine (alive_any _).mono ?_; rintro e w2 ⟨rfl, hb2⟩; have hB2 : Below w.heap.size w w2 := below_step (hb1.alloc hb1.size _) hb2)
    | (go_at_call 6; with_reducible refine (al_right _).mono ?_; rintro e w3 ⟨rfl, hb3⟩; have hB3 : Below w.heap.size w w3 := below_step hB2 hb3))
  go_ret
  exact ⟨rfl, hB3⟩

set_option maxRecDepth 100000 in
theorem lifted (os : Os) (started : os.Started) (H : Type) (enc : TypeId × Value → H) :
    ReturnsInHanded {} Try.checked os 3 .any (Rows.pageNamesSpec.pre6 enc Try.prog Try.f3 Rows.pageNamesRow.domain false) (Rows.pageNamesSpec.post enc Try.prog Try.f3 false true false false) := by
  refine returnsInHanded_of_change_sized (C := Try.checked) own started (by kernel_rfl) Try.func3
    (ChangeSpec.witness6 (enc := enc) (C := Try.checked) false ⟨#[], #[], []⟩ 8 (by kernel_rfl) (by kernel_rfl) (by kernel_rfl) (by kernel_rfl)) ?_
  intro W base args ds gs before hval0 hW hcnd hsz0 _
  have hval : ∀ (j : Nat) t v, Try.f3.params[j]? = some t → args[j]? = some v → Value.okWide Try.prog W .any base t v := hval0
  have hsz : (DataW.weightsEach Try.prog (Try.f3.params.toList ++ Rows.pageNamesSpec.plain.varTypes Try.prog) (ds ++ gs)).all (· ≤ reachBytes) = true := hsz0
  have hW' := hW
  obtain ⟨p, q, hA0, hV, rfl, hfz, hnd⟩ := hW
  have hA : DataW.TrodAll enc Try.prog W 0 (fun _ => true) true Try.f3.params.toList args.toList ds p := hA0
  rw [Try.params3] at hA hval hsz
  obtain ⟨rfl, rfl, rfl⟩ := trodAll_none hA
  obtain ⟨rfl, rfl⟩ := trodVars_none hV
  clear hA0 hval0
  refine (walk  W ).mono fun e W' ⟨he, bel⟩ => ?_
  subst he
  exact ⟨_, rfl, _, _, _, [], _, [], hW', trodAll_mk1 (shut_bool Try.underlying4 _), trodAll_mk0, rfl, bel.frame _, fun h => by cases h⟩

theorem over : Rows.pageNamesRow.holds Try.pinned (OpenSpec.ofChange Rows.pageNamesSpec) :=
  OpenClaim.holds_of_wide 3 Try.f3 rfl rfl rfl rfl rfl rfl rfl ⟨rfl, rfl, rfl, rfl, rfl⟩ rfl rfl rfl rfl rfl (by kernel_rfl) Try.func3 (by kernel_rfl)
    (of_decide_eq_true (by kernel_rfl)) (by unfold Func.isWrapper; first | (rw [if_pos (by decide +kernel)]; kernel_rfl) | (rw [if_neg (by decide +kernel)]; exact ⟨rfl, rfl⟩))
    (fun os started H enc _ => lifted os started H enc)

theorem proved : Rows.PageNamesSaid := over
#print axioms proved
end Go.Proofs.Ytmcepcpcfkmebaa.pageNames
