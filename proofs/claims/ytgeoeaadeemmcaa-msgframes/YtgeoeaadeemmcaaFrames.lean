/- For every packet and every frame: the program's Frame of the packet and Open of the frame answer as the document's, and the packet's body is as it was: the law's function returns true, and the arguments read as they did. Conditions: none. -/
import Derived.Test.YtgeoeaadeemmcaaRows
import Derived.Test.YtgeoeaadeemmcaaMath
import Derived.Test.YtgeoeaadeemmcaaLeaf
import Derived.Test.YtgeoeaadeemmcaaWalks
import Derived.Test.YtgeoeaadeemmcaaSl
import Derived.Test.YtgeoeaadeemmcaaPkm
import Derived.Test.YtgeoeaadeemmcaaPk1
import Derived.Test.YtgeoeaadeemmcaaPk2
import Derived.Test.YtgeoeaadeemmcaaPk3
import Derived.Test.YtgeoeaadeemmcaaPk4
import Derived.Test.YtgeoeaadeemmcaaPk6
import Derived.Test.YtgeoeaadeemmcaaCm
import Derived.Test.YtgeoeaadeemmcaaCr1
import Derived.Test.YtgeoeaadeemmcaaCr2
import Derived.Test.YtgeoeaadeemmcaaCr3
import Derived.Test.YtgeoeaadeemmcaaCr4
import Derived.Test.YtgeoeaadeemmcaaCr5
import Derived.Test.YtgeoeaadeemmcaaCr7
import Derived.Test.YtgeoeaadeemmcaaPg3
import Derived.Test.YtgeoeaadeemmcaaPg4
import Derived.Test.YtgeoeaadeemmcaaSd
import Derived.Test.YtgeoeaadeemmcaaAp
import Derived.Test.YtgeoeaadeemmcaaW1
import Derived.Test.YtgeoeaadeemmcaaW2
import Derived.Test.YtgeoeaadeemmcaaM1
import Derived.Test.YtgeoeaadeemmcaaM2
import Derived.Test.YtgeoeaadeemmcaaM3
import Derived.Test.YtgeoeaadeemmcaaM4
import Derived.Test.YtgeoeaadeemmcaaM5
import Derived.Test.YtgeoeaadeemmcaaMz
import Derived.Test.YtgeoeaadeemmcaaM6
import Derived.Test.YtgeoeaadeemmcaaM7
import Derived.Test.YtgeoeaadeemmcaaM8
import Derived.Test.YtgeoeaadeemmcaaMa
import Derived.Test.YtgeoeaadeemmcaaM9
import Derived.Test.YtgeoeaadeemmcaaMbA
import Derived.Test.YtgeoeaadeemmcaaMbB
import Derived.Test.YtgeoeaadeemmcaaMbC
import Derived.Test.YtgeoeaadeemmcaaMbD
import Derived.Test.YtgeoeaadeemmcaaMbE
import Derived.Test.YtgeoeaadeemmcaaMbF
import Derived.Test.YtgeoeaadeemmcaaMbG
import Derived.Test.YtgeoeaadeemmcaaMr
import Derived.Test.YtgeoeaadeemmcaaPa
import Derived.Test.YtgeoeaadeemmcaaPb
import Derived.Test.YtgeoeaadeemmcaaPc
import Derived.Test.YtgeoeaadeemmcaaAl
import Derived.Test.YtgeoeaadeemmcaaPr1
import Derived.Test.YtgeoeaadeemmcaaRf1
import Derived.Test.YtgeoeaadeemmcaaRf2
import Derived.Test.YtgeoeaadeemmcaaQa
import Derived.Test.YtgeoeaadeemmcaaQb
import Derived.Test.YtgeoeaadeemmcaaSg
import Derived.Test.YtgeoeaadeemmcaaOp
import Derived.Test.YtgeoeaadeemmcaaFr
import Derived.WalkKit
import Derived.ProofKit
import Derived.OpenShut
import Derived.ShutString
import Derived.ChangeOld
import Derived.SizedLaws
import Derived.Below
import Derived.Deep.QuietTactic
import Derived.BigQuiet
import Derived.Deep.RegionWith
import Derived.Deep.RegionHeld
import Derived.Deep.RegionHeldLaw
import Derived.RegionTactic
namespace Go.Proofs.Ytgeoeaadeemmcaa.msgFrames
open Go.ChangeShapes Go.WideShapes Go.ChangeAt Go.RowKit
set_option linter.unusedVariables false

theorem own : ownKnob Try.prog.godebug = none := by kernel_rfl
theorem laidOut : laidOutB Try.prog = true := by kernel_rfl
theorem bytes5 : Try.prog.bytesOf 5 = 1 := by kernel_rfl

theorem walk (P0 : PkG) (a0 : Option Addr) (n0 c0 : Nat) (a1 : Option Addr) (c1 n1 : Nat) (z1 : List Int) (w : World) (r0 : Rd8 w a0 n0 c0 P0.bs) (s0 : n0 ≤ 140737488351232) (r1 : RdI w .u8 a1 c1 z1) (l1 : z1.length = n1) (b1 : ∀ z ∈ z1, (Lit.int .u8 z).wf = true) (s1 : n1 * 1 ≤ 140737488351232) :
    Calls Try.prog 5 #[pkV P0 a0 n0 c0, .slice a1 n1 c1] w fun e w' => e = .returned (.bool true) ∧ Below w.heap.size w w' := by
  obtain ⟨bs, hbs⟩ := rd8_of r1 l1 b1
  exact frames_any P0 a0 n0 c0 a1 n1 c1 bs w r0 s0 hbs (by omega)

set_option maxRecDepth 100000 in
theorem lifted (os : Os) (started : os.Started) (H : Type) (enc : TypeId × Value → H) :
    ReturnsInHanded {} Try.checked os 5 .any (Rows.msgFramesSpec.pre6 enc Try.prog Try.f5 Rows.msgFramesRow.domain false) (Rows.msgFramesSpec.post enc Try.prog Try.f5 false true false false) := by
  refine returnsInHanded_of_change_sized (C := Try.checked) own started (by kernel_rfl) Try.func5
    (ChangeSpec.witness6 (enc := enc) (C := Try.checked) false ⟨#[], #[.agg #[.int .i64 0, .int .i64 0, .int .i64 0, .int .i64 0, .int .i64 0, .bool false, .slice none 0 0], .slice none 0 0], []⟩ 8 (by kernel_rfl) (by kernel_rfl) (by kernel_rfl) (by kernel_rfl)) ?_
  intro W base args ds gs before hval0 hW hcnd hsz0 _
  have hval : ∀ (j : Nat) t v, Try.f5.params[j]? = some t → args[j]? = some v → Value.okWide Try.prog W .any base t v := hval0
  have hsz : (DataW.weightsEach Try.prog (Try.f5.params.toList ++ Rows.msgFramesSpec.plain.varTypes Try.prog) (ds ++ gs)).all (· ≤ reachBytes) = true := hsz0
  have hW' := hW
  obtain ⟨p, q, hA0, hV, rfl, hfz, hnd⟩ := hW
  have hA : DataW.TrodAll enc Try.prog W 0 (fun _ => true) true Try.f5.params.toList args.toList ds p := hA0
  rw [Try.params5] at hA hval hsz
  obtain ⟨v0, vs0, d0, ds0, p0, q0, hargs, rfl, rfl, h0, r0⟩ := trodAll_cons hA
  obtain ⟨v1, vs1, d1, ds1, p1, q1, rfl, rfl, rfl, h1, r1⟩ := trodAll_cons r0
  obtain ⟨rfl, rfl, rfl⟩ := trodAll_nil r1
  obtain rfl : args = #[v0, v1] := by cases args; simp_all
  obtain ⟨rfl, rfl⟩ := trodVars_none hV
  have k0 := h0
  have lt0 : ∀ x ∈ p0, x.block < W.heap.size := by obtain ⟨m, hm⟩ := k0; exact DataW.trod_lt m _ _ _ hm
  obtain ⟨P0, a0, n0, c0, rfl, r0', s0⟩ := open_packet (hval 0 39 v0 rfl rfl) h0 (fun n hn => by have := List.all_eq_true.1 hsz _ (DataW.weights_mem_each (j := 0) (t := 39) (d := d0) rfl rfl n hn); simpa using this)
  obtain ⟨a1, n1, c1, rfl⟩ := okWide_slice Try.underlying22 (hval 1 22 v1 rfl rfl)
  have k1 := h1
  have lt1 : ∀ x ∈ p1, x.block < W.heap.size := by obtain ⟨m, hm⟩ := k1; exact DataW.trod_lt m _ _ _ hm
  obtain ⟨z1, r1', l1, b1, s1⟩ : ∃ zs, RdI W .u8 a1 c1 zs ∧ zs.length = n1 ∧ (∀ z ∈ zs, (Lit.int .u8 z).wf = true) ∧ n1 * 1 ≤ 140737488351232 := by
    obtain ⟨fuel, hf⟩ := h1
    rcases open_ints Try.underlying22 Try.underlying5 (by kernel_rfl) hf with ⟨hcs, _⟩ | ⟨x, l, c, zs, hcs, _, hl, hm, hz, hx, hcell, hwz⟩
    · simp [Value.cells] at hcs
      obtain ⟨rfl, rfl, rfl⟩ := hcs
      exact ⟨[], RdI.empty W .u8, rfl, by simp, by omega⟩
    · simp [Value.cells] at hcs
      obtain ⟨rfl, rfl, rfl⟩ := hcs
      have hd : d1 = .slice (lits .u8 (zs.take n1)) (lits .u8 (zs.drop n1)) := (Prod.mk.inj hx).1
      have hs := sized_slice hsz (j := 1) (t := 22) (e := 5) rfl (by rw [hd]; rfl) Try.underlying22
      have hz2 : zs.length = c1 := by simpa using hz
      rw [bytes5] at hs
      simp only [lits, List.length_map, List.length_take, List.length_drop, reachBytes] at hs
      exact ⟨zs.take n1, rdI_of_row hl hm hz2 hcell, by simp; omega, fun z h => hwz z (List.mem_of_mem_take h), by omega⟩
  clear hA0 hval0
  refine (walk P0 a0 n0 c0 a1 c1 n1 z1 W r0' s0 r1' l1 b1 s1).mono fun e W' ⟨he, bel⟩ => ?_
  subst he
  exact ⟨_, rfl, _, _, _, [], _, [], hW', trodAll_mk1 (shut_bool Try.underlying4 _), (trodAll_cons_mk (Below.trod laidOut (by kernel_rfl) (of_decide_eq_true (by kernel_rfl)) k0 bel lt0) (trodAll_cons_mk (Below.trod laidOut (by kernel_rfl) (of_decide_eq_true (by kernel_rfl)) k1 bel lt1) trodAll_mk0)), rfl, bel.frame _, fun h => by cases h⟩

theorem over : Rows.msgFramesRow.holds Try.pinned (OpenSpec.ofChange Rows.msgFramesSpec) :=
  OpenClaim.holds_of_wide 5 Try.f5 rfl rfl rfl rfl rfl rfl rfl ⟨rfl, rfl, rfl, rfl, rfl⟩ rfl rfl rfl rfl rfl (by kernel_rfl) Try.func5 (by kernel_rfl)
    (of_decide_eq_true (by kernel_rfl)) (by unfold Func.isWrapper; first | (rw [if_pos (by decide +kernel)]; kernel_rfl) | (rw [if_neg (by decide +kernel)]; exact ⟨rfl, rfl⟩))
    (fun os started H enc _ => lifted os started H enc)

theorem proved : Rows.MsgFramesSaid := over
#print axioms proved
end Go.Proofs.Ytgeoeaadeemmcaa.msgFrames
