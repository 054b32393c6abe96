/- The sum and the frame of any bytes, and the bytes of any frame, as the document answers: for all bytes and all frames the law's function returns true. Conditions: none. -/
import Derived.Test.YtdnebhhmjmcfjaaRows
import Derived.Test.YtdnebhhmjmcfjaaSl
import Derived.Test.YtdnebhhmjmcfjaaSg
import Derived.Test.YtdnebhhmjmcfjaaCm
import Derived.Test.YtdnebhhmjmcfjaaCr1
import Derived.Test.YtdnebhhmjmcfjaaCr2
import Derived.Test.YtdnebhhmjmcfjaaCr3
import Derived.Test.YtdnebhhmjmcfjaaCr4
import Derived.Test.YtdnebhhmjmcfjaaCr5
import Derived.Test.YtdnebhhmjmcfjaaCr6
import Derived.Test.YtdnebhhmjmcfjaaCr7
import Derived.Test.YtdnebhhmjmcfjaaRf1
import Derived.Test.YtdnebhhmjmcfjaaRf2
import Derived.Test.YtdnebhhmjmcfjaaFrS
import Derived.Test.YtdnebhhmjmcfjaaFrB
import Derived.Test.YtdnebhhmjmcfjaaFrG
import Derived.WalkKit
import Derived.ProofKit
import Derived.OpenShut
import Derived.ShutString
import Derived.ChangeOld
import Derived.SizedLaws
import Derived.Below
import Derived.Deep.QuietTactic
import Derived.BigQuiet
import Derived.Deep.RegionWith
import Derived.Deep.RegionHeld
import Derived.Deep.RegionHeldLaw
namespace Go.Proofs.Ytdnebhhmjmcfjaa.crcFrames
open Go.ChangeShapes Go.WideShapes Go.ChangeAt Go.RowKit
set_option linter.unusedVariables false

theorem own : ownKnob Try.prog.godebug = none := by kernel_rfl
theorem laidOut : laidOutB Try.prog = true := by kernel_rfl
theorem bytes5 : Try.prog.bytesOf 5 = 1 := by kernel_rfl

theorem walk (a0 : Option Addr) (c0 n0 : Nat) (z0 : List Int) (a1 : Option Addr) (c1 n1 : Nat) (z1 : List Int) (w : World) (r0 : RdI w .u8 a0 c0 z0) (l0 : z0.length = n0) (b0 : ∀ z ∈ z0, (Lit.int .u8 z).wf = true) (s0 : n0 * 1 ≤ 140737488351232) (r1 : RdI w .u8 a1 c1 z1) (l1 : z1.length = n1) (b1 : ∀ z ∈ z1, (Lit.int .u8 z).wf = true) (s1 : n1 * 1 ≤ 140737488351232) :
    Calls Try.prog 4 #[.slice a0 n0 c0, .slice a1 n1 c1] w fun e w' => e = .returned (.bool true) ∧ Below w.heap.size w w' := by
  obtain ⟨bs, h⟩ := rd8_of r0 l0 b0
  obtain ⟨fs, g⟩ := rd8_of r1 l1 b1
  by_cases h2 : n1 < 2
  · exact walkS a0 c0 n0 bs a1 c1 n1 fs w h (by omega) g (by omega) h2
  · by_cases hok : okN fs
    · exact walkG a0 c0 n0 bs a1 c1 n1 fs w h (by omega) g (by omega) (n1 - 2) (by omega) hok
    · exact walkB a0 c0 n0 bs a1 c1 n1 fs w h (by omega) g (by omega) (n1 - 2) (by omega) hok

set_option maxRecDepth 100000 in
theorem lifted (os : Os) (started : os.Started) (H : Type) (enc : TypeId × Value → H) :
    ReturnsInHanded {} Try.checked os 4 .any (Rows.crcFramesSpec.pre6 enc Try.prog Try.f4 Rows.crcFramesRow.domain false) (Rows.crcFramesSpec.post enc Try.prog Try.f4 false true false false) := by
  refine returnsInHanded_of_change_sized (C := Try.checked) own started (by kernel_rfl) Try.func4
    (ChangeSpec.witness6 (enc := enc) (C := Try.checked) false ⟨#[], #[.slice none 0 0, .slice none 0 0], []⟩ 8 (by kernel_rfl) (by kernel_rfl) (by kernel_rfl) (by kernel_rfl)) ?_
  intro W base args ds gs before hval0 hW hcnd hsz0 _
  have hval : ∀ (j : Nat) t v, Try.f4.params[j]? = some t → args[j]? = some v → Value.okWide Try.prog W .any base t v := hval0
  have hsz : (DataW.weightsEach Try.prog (Try.f4.params.toList ++ Rows.crcFramesSpec.plain.varTypes Try.prog) (ds ++ gs)).all (· ≤ reachBytes) = true := hsz0
  have hW' := hW
  obtain ⟨p, q, hA0, hV, rfl, hfz, hnd⟩ := hW
  have hA : DataW.TrodAll enc Try.prog W 0 (fun _ => true) true Try.f4.params.toList args.toList ds p := hA0
  rw [Try.params4] at hA hval hsz
  obtain ⟨v0, vs0, d0, ds0, p0, q0, hargs, rfl, rfl, h0, r0⟩ := trodAll_cons hA
  obtain ⟨v1, vs1, d1, ds1, p1, q1, rfl, rfl, rfl, h1, r1⟩ := trodAll_cons r0
  obtain ⟨rfl, rfl, rfl⟩ := trodAll_nil r1
  obtain rfl : args = #[v0, v1] := by cases args; simp_all
  obtain ⟨rfl, rfl⟩ := trodVars_none hV
  obtain ⟨a0, n0, c0, rfl⟩ := okWide_slice Try.underlying22 (hval 0 22 v0 rfl rfl)
  have k0 := h0
  have lt0 : ∀ x ∈ p0, x.block < W.heap.size := by obtain ⟨m, hm⟩ := k0; exact DataW.trod_lt m _ _ _ hm
  obtain ⟨z0, r0', l0, b0, s0⟩ : ∃ zs, RdI W .u8 a0 c0 zs ∧ zs.length = n0 ∧ (∀ z ∈ zs, (Lit.int .u8 z).wf = true) ∧ n0 * 1 ≤ 140737488351232 := by
    obtain ⟨fuel, hf⟩ := h0
    rcases open_ints Try.underlying22 Try.underlying5 (by kernel_rfl) hf with ⟨hcs, _⟩ | ⟨x, l, c, zs, hcs, _, hl, hm, hz, hx, hcell, hwz⟩
    · simp [Value.cells] at hcs
      obtain ⟨rfl, rfl, rfl⟩ := hcs
      exact ⟨[], RdI.empty W .u8, rfl, by simp, by omega⟩
    · simp [Value.cells] at hcs
      obtain ⟨rfl, rfl, rfl⟩ := hcs
      have hd : d0 = .slice (lits .u8 (zs.take n0)) (lits .u8 (zs.drop n0)) := (Prod.mk.inj hx).1
      have hs := sized_slice hsz (j := 0) (t := 22) (e := 5) rfl (by rw [hd]; rfl) Try.underlying22
      have hz2 : zs.length = c0 := by simpa using hz
      rw [bytes5] at hs
      simp only [lits, List.length_map, List.length_take, List.length_drop, reachBytes] at hs
      exact ⟨zs.take n0, rdI_of_row hl hm hz2 hcell, by simp; omega, fun z h => hwz z (List.mem_of_mem_take h), by omega⟩
  obtain ⟨a1, n1, c1, rfl⟩ := okWide_slice Try.underlying22 (hval 1 22 v1 rfl rfl)
  have k1 := h1
  have lt1 : ∀ x ∈ p1, x.block < W.heap.size := by obtain ⟨m, hm⟩ := k1; exact DataW.trod_lt m _ _ _ hm
  obtain ⟨z1, r1', l1, b1, s1⟩ : ∃ zs, RdI W .u8 a1 c1 zs ∧ zs.length = n1 ∧ (∀ z ∈ zs, (Lit.int .u8 z).wf = true) ∧ n1 * 1 ≤ 140737488351232 := by
    obtain ⟨fuel, hf⟩ := h1
    rcases open_ints Try.underlying22 Try.underlying5 (by kernel_rfl) hf with ⟨hcs, _⟩ | ⟨x, l, c, zs, hcs, _, hl, hm, hz, hx, hcell, hwz⟩
    · simp [Value.cells] at hcs
      obtain ⟨rfl, rfl, rfl⟩ := hcs
      exact ⟨[], RdI.empty W .u8, rfl, by simp, by omega⟩
    · simp [Value.cells] at hcs
      obtain ⟨rfl, rfl, rfl⟩ := hcs
      have hd : d1 = .slice (lits .u8 (zs.take n1)) (lits .u8 (zs.drop n1)) := (Prod.mk.inj hx).1
      have hs := sized_slice hsz (j := 1) (t := 22) (e := 5) rfl (by rw [hd]; rfl) Try.underlying22
      have hz2 : zs.length = c1 := by simpa using hz
      rw [bytes5] at hs
      simp only [lits, List.length_map, List.length_take, List.length_drop, reachBytes] at hs
      exact ⟨zs.take n1, rdI_of_row hl hm hz2 hcell, by simp; omega, fun z h => hwz z (List.mem_of_mem_take h), by omega⟩
  clear hA0 hval0
  refine (walk a0 c0 n0 z0 a1 c1 n1 z1 W r0' l0 b0 s0 r1' l1 b1 s1).mono fun e W' ⟨he, bel⟩ => ?_
  subst he
  exact ⟨_, rfl, _, _, _, [], _, [], hW', trodAll_mk1 (shut_bool Try.underlying4 _), (trodAll_cons_mk (Below.trod laidOut (by kernel_rfl) (of_decide_eq_true (by kernel_rfl)) k0 bel lt0) (trodAll_cons_mk (Below.trod laidOut (by kernel_rfl) (of_decide_eq_true (by kernel_rfl)) k1 bel lt1) trodAll_mk0)), rfl, bel.frame _, fun h => by cases h⟩

theorem over : Rows.crcFramesRow.holds Try.pinned (OpenSpec.ofChange Rows.crcFramesSpec) :=
  OpenClaim.holds_of_wide 4 Try.f4 rfl rfl rfl rfl rfl rfl rfl ⟨rfl, rfl, rfl, rfl, rfl⟩ rfl rfl rfl rfl rfl (by kernel_rfl) Try.func4 (by kernel_rfl)
    (of_decide_eq_true (by kernel_rfl)) (by unfold Func.isWrapper; first | (rw [if_pos (by decide +kernel)]; kernel_rfl) | (rw [if_neg (by decide +kernel)]; exact ⟨rfl, rfl⟩))
    (fun os started H enc _ => lifted os started H enc)

theorem proved : Rows.CrcFramesSaid := over
#print axioms proved
end Go.Proofs.Ytdnebhhmjmcfjaa.crcFrames
