/- Whatever is done with a tape: all answers, what is on it and how many bytes are safe are those of the document's answer: the law's function returns true. Conditions: none. -/
import Derived.Test.YtdajhdeheheccaaRows
import Derived.Test.YtdajhdeheheccaaSl
import Derived.Test.YtdajhdeheheccaaSd
import Derived.Test.YtdajhdeheheccaaAp
import Derived.Test.YtdajhdeheheccaaTd
import Derived.Test.YtdajhdeheheccaaT1
import Derived.Test.YtdajhdeheheccaaT2
import Derived.Test.YtdajhdeheheccaaT3
import Derived.Test.YtdajhdeheheccaaAc
import Derived.Test.YtdajhdeheheccaaSt
import Derived.Test.YtdajhdeheheccaaSg
import Derived.Test.YtdajhdeheheccaaF1
import Derived.Test.YtdajhdeheheccaaF2
import Derived.Test.YtdajhdeheheccaaF3
import Derived.Test.YtdajhdeheheccaaG1
import Derived.Test.YtdajhdeheheccaaG2
import Derived.Test.YtdajhdeheheccaaRu
import Derived.WalkKit
import Derived.ProofKit
import Derived.OpenShut
import Derived.ShutString
import Derived.ChangeOld
import Derived.SizedLaws
import Derived.Below
import Derived.Deep.QuietTactic
import Derived.BigQuiet
import Derived.Deep.RegionWith
import Derived.Deep.RegionHeld
import Derived.Deep.RegionHeldLaw
import Derived.RegionTactic
namespace Go.Proofs.Ytdajhdeheheccaa.tapeRuns
open Go.ChangeShapes Go.WideShapes Go.ChangeAt Go.RowKit
set_option linter.unusedVariables false

theorem own : ownKnob Try.prog.godebug = none := by kernel_rfl
theorem laidOut : laidOutB Try.prog = true := by kernel_rfl

set_option maxHeartbeats 400000 in
theorem great (room : Int) (a1 : Option Addr) (c1 n1 : Nat) (w : World) (hm : 200 < n1) :
    Calls Try.prog 4 #[.int .i64 room, .slice a1 n1 c1] w fun e w' => e = .returned (.bool true) ∧ Below w.heap.size w w' := by
  go_enter Try.func4, Try.ntmps4
  go_wp2_with (first
    | (go_at_call 8; refine (alive_any _).mono ?_; rintro e w1 ⟨rfl, hb1⟩))
  go_ret
  exact ⟨rfl, hb1⟩

theorem walk (room : Int) (a1 : Option Addr) (c1 n1 : Nat) (A : List ActG) (w : World) (hr : (Lit.int .i64 room).wf = true) (hA : ActsAt w a1 A) (hn : A.length = n1) :
    Calls Try.prog 4 #[.int .i64 room, .slice a1 n1 c1] w fun e w' => e = .returned (.bool true) ∧ Below w.heap.size w w' := by
  by_cases hm : n1 ≤ 200
  · exact runs_walk room a1 c1 n1 A w hA hn hm
  · exact great room a1 c1 n1 w (by omega)

set_option maxRecDepth 100000 in
theorem lifted (os : Os) (started : os.Started) (H : Type) (enc : TypeId × Value → H) :
    ReturnsInHanded {} Try.checked os 4 .any (Rows.tapeRunsSpec.pre6 enc Try.prog Try.f4 Rows.tapeRunsRow.domain false) (Rows.tapeRunsSpec.post enc Try.prog Try.f4 false true false false) := by
  refine returnsInHanded_of_change_sized (C := Try.checked) own started (by kernel_rfl) Try.func4
    (ChangeSpec.witness6 (enc := enc) (C := Try.checked) false ⟨#[], #[.int .i64 0, .slice none 0 0], []⟩ 8 (by kernel_rfl) (by kernel_rfl) (by kernel_rfl) (by kernel_rfl)) ?_
  intro W base args ds gs before hval0 hW hcnd hsz0 _
  have hval : ∀ (j : Nat) t v, Try.f4.params[j]? = some t → args[j]? = some v → Value.okWide Try.prog W .any base t v := hval0
  have hsz : (DataW.weightsEach Try.prog (Try.f4.params.toList ++ Rows.tapeRunsSpec.plain.varTypes Try.prog) (ds ++ gs)).all (· ≤ reachBytes) = true := hsz0
  have hW' := hW
  obtain ⟨p, q, hA0, hV, rfl, hfz, hnd⟩ := hW
  have hA : DataW.TrodAll enc Try.prog W 0 (fun _ => true) true Try.f4.params.toList args.toList ds p := hA0
  rw [Try.params4] at hA hval hsz
  obtain ⟨v0, vs0, d0, ds0, p0, q0, hargs, rfl, rfl, h0, r0⟩ := trodAll_cons hA
  obtain ⟨v1, vs1, d1, ds1, p1, q1, rfl, rfl, rfl, h1, r1⟩ := trodAll_cons r0
  obtain ⟨rfl, rfl, rfl⟩ := trodAll_nil r1
  obtain rfl : args = #[v0, v1] := by cases args; simp_all
  obtain ⟨rfl, rfl⟩ := trodVars_none hV
  obtain ⟨a0, rfl, rfl, rfl, w0⟩ := open_int Try.underlying3 (hval 0 3 v0 rfl rfl) h0
  obtain ⟨a1, n1, c1, rfl⟩ := okWide_slice Try.underlying28 (hval 1 28 v1 rfl rfl)
  have k1 := h1
  have lt1 : ∀ x ∈ p1, x.block < W.heap.size := by obtain ⟨m, hm⟩ := k1; exact DataW.trod_lt m _ _ _ hm
  obtain ⟨q1', r1', l1⟩ : ∃ A : List ActG, ActsAt W a1 A ∧ A.length = n1 := by
    obtain ⟨fuel, hf⟩ := h1
    obtain ⟨a, l, c, A, hcs, h1, h2, _⟩ := acts_of hf (fun n hn => by have := List.all_eq_true.1 hsz _ (DataW.weights_mem_each (j := 1) (t := 28) (d := d1) rfl rfl n hn); simpa using this)
    simp [Value.cells] at hcs
    obtain ⟨rfl, rfl, rfl⟩ := hcs
    exact ⟨A, h1, h2⟩
  clear hA0 hval0
  refine (walk a0 a1 c1 n1 q1' W w0 r1' l1).mono fun e W' ⟨he, bel⟩ => ?_
  subst he
  exact ⟨_, rfl, _, _, _, [], _, [], hW', trodAll_mk1 (shut_bool Try.underlying4 _), (trodAll_cons_mk (shut_int Try.underlying3 w0) (trodAll_cons_mk (Below.trod laidOut (by kernel_rfl) (of_decide_eq_true (by kernel_rfl)) k1 bel lt1) trodAll_mk0)), rfl, bel.frame _, fun h => by cases h⟩

theorem over : Rows.tapeRunsRow.holds Try.pinned (OpenSpec.ofChange Rows.tapeRunsSpec) :=
  OpenClaim.holds_of_wide 4 Try.f4 rfl rfl rfl rfl rfl rfl rfl ⟨rfl, rfl, rfl, rfl, rfl⟩ rfl rfl rfl rfl rfl (by kernel_rfl) Try.func4 (by kernel_rfl)
    (of_decide_eq_true (by kernel_rfl)) (by unfold Func.isWrapper; first | (rw [if_pos (by decide +kernel)]; kernel_rfl) | (rw [if_neg (by decide +kernel)]; exact ⟨rfl, rfl⟩))
    (fun os started H enc _ => lifted os started H enc)

theorem proved : Rows.TapeRunsSaid := over
#print axioms proved
end Go.Proofs.Ytdajhdeheheccaa.tapeRuns
