/- A crash keeps of what is loose just the sectors whose bits are there: the law's function returns true. Conditions: none. -/
import Derived.Test.YtnapkcejpllmcaaRows
import Derived.Test.YtnapkcejpllmcaaSl
import Derived.Test.YtnapkcejpllmcaaSd
import Derived.Test.YtnapkcejpllmcaaS1
import Derived.Test.YtnapkcejpllmcaaS2
import Derived.Test.YtnapkcejpllmcaaS3
import Derived.Test.YtnapkcejpllmcaaS4
import Derived.Test.YtnapkcejpllmcaaAc
import Derived.Test.YtnapkcejpllmcaaSg
import Derived.Test.YtnapkcejpllmcaaKp
import Derived.Test.YtnapkcejpllmcaaMm
import Derived.Test.YtnapkcejpllmcaaMa
import Derived.Test.YtnapkcejpllmcaaA6
import Derived.WalkKit
import Derived.ProofKit
import Derived.OpenShut
import Derived.ShutString
import Derived.ChangeOld
import Derived.SizedLaws
import Derived.Below
import Derived.Deep.QuietTactic
import Derived.BigQuiet
import Derived.Deep.RegionWith
import Derived.Deep.RegionHeld
import Derived.Deep.RegionHeldLaw
import Derived.RegionTactic
namespace Go.Proofs.Ytnapkcejpllmcaa.sectorMask
open Go.ChangeShapes Go.WideShapes Go.ChangeAt Go.RowKit
set_option linter.unusedVariables false

theorem own : ownKnob Try.prog.godebug = none := by kernel_rfl
theorem laidOut : laidOutB Try.prog = true := by kernel_rfl

theorem walk (x00 x01 x02 x03 x04 x05 x10 x11 x12 x13 x14 x15 : Pt) (keep : Int) (w : World) (b0 : ∀ q ∈ [x00, x01, x02, x03, x04, x05], Rd8 w q.ao q.n q.cap q.bs) (b1 : ∀ q ∈ [x10, x11, x12, x13, x14, x15], Rd8 w q.ao q.n q.cap q.bs) (hk : (Lit.int .i64 keep).wf = true) :
    Calls Try.prog 7 #[.agg #[.slice x00.ao x00.n x00.cap, .slice x01.ao x01.n x01.cap, .slice x02.ao x02.n x02.cap, .slice x03.ao x03.n x03.cap, .slice x04.ao x04.n x04.cap, .slice x05.ao x05.n x05.cap],
      .agg #[.slice x10.ao x10.n x10.cap, .slice x11.ao x11.n x11.cap, .slice x12.ao x12.n x12.cap, .slice x13.ao x13.n x13.cap, .slice x14.ao x14.n x14.cap, .slice x15.ao x15.n x15.cap], .int .i64 keep] w fun e w' => e = .returned (.bool true) ∧ Below w.heap.size w w' :=
  mask_walk x00 x01 x02 x03 x04 x05 x10 x11 x12 x13 x14 x15 _ _ rfl rfl keep w b0 b1

set_option maxRecDepth 100000 in
theorem lifted (os : Os) (started : os.Started) (H : Type) (enc : TypeId × Value → H) :
    ReturnsInHanded {} Try.checked os 7 .any (Rows.sectorMaskSpec.pre6 enc Try.prog Try.f7 Rows.sectorMaskRow.domain false) (Rows.sectorMaskSpec.post enc Try.prog Try.f7 false true false false) := by
  refine returnsInHanded_of_change_sized (C := Try.checked) own started (by kernel_rfl) Try.func7
    (ChangeSpec.witness6 (enc := enc) (C := Try.checked) false ⟨#[], #[.agg #[.slice none 0 0, .slice none 0 0, .slice none 0 0, .slice none 0 0, .slice none 0 0, .slice none 0 0], .agg #[.slice none 0 0, .slice none 0 0, .slice none 0 0, .slice none 0 0, .slice none 0 0, .slice none 0 0], .int .i64 0], []⟩ 8 (by kernel_rfl) (by kernel_rfl) (by kernel_rfl) (by kernel_rfl)) ?_
  intro W base args ds gs before hval0 hW hcnd hsz0 _
  have hval : ∀ (j : Nat) t v, Try.f7.params[j]? = some t → args[j]? = some v → Value.okWide Try.prog W .any base t v := hval0
  have hsz : (DataW.weightsEach Try.prog (Try.f7.params.toList ++ Rows.sectorMaskSpec.plain.varTypes Try.prog) (ds ++ gs)).all (· ≤ reachBytes) = true := hsz0
  have hW' := hW
  obtain ⟨p, q, hA0, hV, rfl, hfz, hnd⟩ := hW
  have hA : DataW.TrodAll enc Try.prog W 0 (fun _ => true) true Try.f7.params.toList args.toList ds p := hA0
  rw [Try.params7] at hA hval hsz
  obtain ⟨v0, vs0, d0, ds0, p0, q0, hargs, rfl, rfl, h0, r0⟩ := trodAll_cons hA
  obtain ⟨v1, vs1, d1, ds1, p1, q1, rfl, rfl, rfl, h1, r1⟩ := trodAll_cons r0
  obtain ⟨v2, vs2, d2, ds2, p2, q2, rfl, rfl, rfl, h2, r2⟩ := trodAll_cons r1
  obtain ⟨rfl, rfl, rfl⟩ := trodAll_nil r2
  obtain rfl : args = #[v0, v1, v2] := by cases args; simp_all
  obtain ⟨rfl, rfl⟩ := trodVars_none hV
  have k0 := h0
  have lt0 : ∀ x ∈ p0, x.block < W.heap.size := by obtain ⟨m, hm⟩ := k0; exact DataW.trod_lt m _ _ _ hm
  obtain ⟨x00, x01, x02, x03, x04, x05, rfl, b0⟩ := open_six (hval 0 56 v0 rfl rfl) h0
  have k1 := h1
  have lt1 : ∀ x ∈ p1, x.block < W.heap.size := by obtain ⟨m, hm⟩ := k1; exact DataW.trod_lt m _ _ _ hm
  obtain ⟨x10, x11, x12, x13, x14, x15, rfl, b1⟩ := open_six (hval 1 56 v1 rfl rfl) h1
  obtain ⟨a2, rfl, rfl, rfl, w2⟩ := open_int Try.underlying3 (hval 2 3 v2 rfl rfl) h2
  clear hA0 hval0
  refine (walk x00 x01 x02 x03 x04 x05 x10 x11 x12 x13 x14 x15 a2 W b0 b1 w2).mono fun e W' ⟨he, bel⟩ => ?_
  subst he
  exact ⟨_, rfl, _, _, _, [], _, [], hW', trodAll_mk1 (shut_bool Try.underlying4 _), (trodAll_cons_mk (Below.trod laidOut (by kernel_rfl) (of_decide_eq_true (by kernel_rfl)) k0 bel lt0) (trodAll_cons_mk (Below.trod laidOut (by kernel_rfl) (of_decide_eq_true (by kernel_rfl)) k1 bel lt1) (trodAll_cons_mk (shut_int Try.underlying3 w2) trodAll_mk0))), rfl, bel.frame _, fun h => by cases h⟩

theorem over : Rows.sectorMaskRow.holds Try.pinned (OpenSpec.ofChange Rows.sectorMaskSpec) :=
  OpenClaim.holds_of_wide 7 Try.f7 rfl rfl rfl rfl rfl rfl rfl ⟨rfl, rfl, rfl, rfl, rfl⟩ rfl rfl rfl rfl rfl (by kernel_rfl) Try.func7 (by kernel_rfl)
    (of_decide_eq_true (by kernel_rfl)) (by unfold Func.isWrapper; first | (rw [if_pos (by decide +kernel)]; kernel_rfl) | (rw [if_neg (by decide +kernel)]; exact ⟨rfl, rfl⟩))
    (fun os started H enc _ => lifted os started H enc)

theorem proved : Rows.SectorMaskSaid := over
#print axioms proved
end Go.Proofs.Ytnapkcejpllmcaa.sectorMask
