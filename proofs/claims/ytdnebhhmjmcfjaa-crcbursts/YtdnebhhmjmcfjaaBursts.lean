/- Which bits are turned in any bytes, as the document answers, and the bytes stay: for all bytes, any place and any mask, the law's function returns true. Conditions: none. -/
import Derived.Test.YtdnebhhmjmcfjaaRows
import Derived.Test.YtdnebhhmjmcfjaaSl
import Derived.Test.YtdnebhhmjmcfjaaCm
import Derived.Test.YtdnebhhmjmcfjaaCr1
import Derived.Test.YtdnebhhmjmcfjaaCr2
import Derived.Test.YtdnebhhmjmcfjaaCr3
import Derived.Test.YtdnebhhmjmcfjaaCr4
import Derived.Test.YtdnebhhmjmcfjaaCr5
import Derived.Test.YtdnebhhmjmcfjaaCr6
import Derived.Test.YtdnebhhmjmcfjaaCr7
import Derived.Test.YtdnebhhmjmcfjaaRf1
import Derived.Test.YtdnebhhmjmcfjaaRf2
import Derived.Test.YtdnebhhmjmcfjaaRf3
import Derived.WalkKit
import Derived.ProofKit
import Derived.OpenShut
import Derived.ShutString
import Derived.ChangeOld
import Derived.SizedLaws
import Derived.Below
import Derived.Deep.QuietTactic
import Derived.BigQuiet
import Derived.Deep.RegionWith
import Derived.Deep.RegionHeld
namespace Go.Proofs.Ytdnebhhmjmcfjaa.crcBursts
open Go.ChangeShapes Go.WideShapes Go.ChangeAt Go.RowKit
set_option linter.unusedVariables false

theorem own : ownKnob Try.prog.godebug = none := by kernel_rfl
theorem laidOut : laidOutB Try.prog = true := by kernel_rfl
theorem bytes5 : Try.prog.bytesOf 5 = 1 := by kernel_rfl

set_option maxHeartbeats 1600000 in
theorem walkN (a0 : Option Addr) (c0 n0 : Nat) (bs : List Nat) (p : Int) (m : Nat) (w : World) (h : Rd8 w a0 n0 c0 bs) (hn : n0 ≤ 140737488351232) (hm : m < 65536) (hp : -9223372036854775808 ≤ p) (hp2 : p ≤ 9223372036854775807) :
    Calls Try.prog 5 #[.slice a0 n0 c0, .int .i64 p, .int .u16 (m : Int)] w fun e w' => e = .returned (.bool true) ∧ Below w.heap.size w w' := by
  have hl := h.len
  generalize hx : brN bs p m (L16 m) = xs
  have HX : Hid (brN bs p m (L16 m) = xs) := hx
  clear hx
  go_enter Try.func5, Try.ntmps5
  go_wp2_with (first
    | (at_builtin; refine wpList_append_rdI _ rfl (.tmp 9) (.tmp 10) 22 rfl w.heap.size 5 .u8 (.int .u8 0) 1 Try.underlying22 info5 rfl rfl rfl (OwnI.fresh w _ _ _ (Nat.le_refl _)) (h.alloc _).rd rfl (by rw [ci_length]; omega) (by omega) (by unfold maxLen; omega) (by simp) ?_; intro ao1 cap1 w1 ho1 hb1; have hB1 : Below w.heap.size w w1 := below_alloc hb1; have hO1 : Own8 w1 w.heap.size ao1 n0 cap1 bs := ⟨ho1, hl, h.byte⟩)
    | (go_at_call 11; refine (burst_to _ _ _ bs xs p m _ hO1.rd HX.out (by omega) hm hp hp2).mono ?_; rintro e w2 ⟨a2, c2, rfl, ho2, hb2⟩; have hB2 : Below w.heap.size w w2 := below_step hB1 hb2))
  have hS : Hid (∀ w', Below w2.heap.size w2 w' → (convert 22 9 (.slice a2 n0 c2)).run Try.prog w' = .ok (.string (strOfNums (ci xs))) w' ∧ (convert 22 9 (.slice ao1 n0 cap1)).run Try.prog w' = .ok (.string (strOfNums (ci bs))) w' ∧ (convert 22 9 (.slice a0 n0 c0)).run Try.prog w' = .ok (.string (strOfNums (ci bs))) w') :=
    fun w' hh => ⟨(ho2.below hh).rd.str, ((hO1.below hb2).below hh).rd.str, ((h.below hB2).below hh).str⟩
  first
    | go_region_held (fun w' => (convert 22 9 (.slice a2 n0 c2)).run Try.prog w' = .ok (.string (strOfNums (ci xs))) w' ∧ (convert 22 9 (.slice ao1 n0 cap1)).run Try.prog w' = .ok (.string (strOfNums (ci bs))) w' ∧ (convert 22 9 (.slice a0 n0 c0)).run Try.prog w' = .ok (.string (strOfNums (ci bs))) w')
      (first | exact hS.out _ (Below.refl _ _) | exact hS.out _ (Below.refl _ _).drew | exact hS.out _ hb24 | exact hS.out _ hb23)
      ((first
        | (go_at_call 10; refine (alive_any _).mono ?_; rintro e w3 ⟨rfl, hb3⟩; have hb23 : Below w2.heap.size w2 w3 := ⟨hb3.os, hb3.tape, hb3.output, hb3.size, hb3.block⟩)
        | (go_at_call 17; refine (refBurst_to _ _ _ bs xs p m _ ((h.below hB2).below hb23) HX.out (by omega) hm hp hp2).mono ?_; rintro e w4 ⟨a4, c4, rfl, ho4, hb4⟩; have hb24 : Below w2.heap.size w2 w4 := below_step hb23 hb4; have hx4 := ho4.rd.str)))
    | fail
  go_wp2
  go_ret
  exact ⟨rfl, below_step hB2 hb24⟩

theorem walk (a0 : Option Addr) (c0 n0 : Nat) (z0 : List Int) (a1 a2 : Int) (w : World) (r0 : RdI w .u8 a0 c0 z0) (l0 : z0.length = n0) (b0 : ∀ z ∈ z0, (Lit.int .u8 z).wf = true) (s0 : n0 * 1 ≤ 140737488351232) (w1 : (Lit.int .i64 a1).wf = true) (w2 : (Lit.int .u16 a2).wf = true) :
    Calls Try.prog 5 #[.slice a0 n0 c0, .int .i64 a1, .int .u16 a2] w fun e w' => e = .returned (.bool true) ∧ Below w.heap.size w w' := by
  obtain ⟨bs, h⟩ := rd8_of r0 l0 b0
  obtain ⟨m, rfl, hm⟩ := u16_of w2
  obtain ⟨hp, hp2⟩ := i64_of w1
  exact walkN a0 c0 n0 bs a1 m w h (by omega) hm hp hp2

set_option maxRecDepth 100000 in
theorem lifted (os : Os) (started : os.Started) (H : Type) (enc : TypeId × Value → H) :
    ReturnsInHanded {} Try.checked os 5 .any (Rows.crcBurstsSpec.pre6 enc Try.prog Try.f5 Rows.crcBurstsRow.domain false) (Rows.crcBurstsSpec.post enc Try.prog Try.f5 false true false false) := by
  refine returnsInHanded_of_change_sized (C := Try.checked) own started (by kernel_rfl) Try.func5
    (ChangeSpec.witness6 (enc := enc) (C := Try.checked) false ⟨#[], #[.slice none 0 0, .int .i64 0, .int .u16 0], []⟩ 8 (by kernel_rfl) (by kernel_rfl) (by kernel_rfl) (by kernel_rfl)) ?_
  intro W base args ds gs before hval0 hW hcnd hsz0 _
  have hval : ∀ (j : Nat) t v, Try.f5.params[j]? = some t → args[j]? = some v → Value.okWide Try.prog W .any base t v := hval0
  have hsz : (DataW.weightsEach Try.prog (Try.f5.params.toList ++ Rows.crcBurstsSpec.plain.varTypes Try.prog) (ds ++ gs)).all (· ≤ reachBytes) = true := hsz0
  have hW' := hW
  obtain ⟨p, q, hA0, hV, rfl, hfz, hnd⟩ := hW
  have hA : DataW.TrodAll enc Try.prog W 0 (fun _ => true) true Try.f5.params.toList args.toList ds p := hA0
  rw [Try.params5] at hA hval hsz
  obtain ⟨v0, vs0, d0, ds0, p0, q0, hargs, rfl, rfl, h0, r0⟩ := trodAll_cons hA
  obtain ⟨v1, vs1, d1, ds1, p1, q1, rfl, rfl, rfl, h1, r1⟩ := trodAll_cons r0
  obtain ⟨v2, vs2, d2, ds2, p2, q2, rfl, rfl, rfl, h2, r2⟩ := trodAll_cons r1
  obtain ⟨rfl, rfl, rfl⟩ := trodAll_nil r2
  obtain rfl : args = #[v0, v1, v2] := by cases args; simp_all
  obtain ⟨rfl, rfl⟩ := trodVars_none hV
  obtain ⟨a0, n0, c0, rfl⟩ := okWide_slice Try.underlying22 (hval 0 22 v0 rfl rfl)
  have k0 := h0
  have lt0 : ∀ x ∈ p0, x.block < W.heap.size := by obtain ⟨m, hm⟩ := k0; exact DataW.trod_lt m _ _ _ hm
  obtain ⟨z0, r0', l0, b0, s0⟩ : ∃ zs, RdI W .u8 a0 c0 zs ∧ zs.length = n0 ∧ (∀ z ∈ zs, (Lit.int .u8 z).wf = true) ∧ n0 * 1 ≤ 140737488351232 := by
    obtain ⟨fuel, hf⟩ := h0
    rcases open_ints Try.underlying22 Try.underlying5 (by kernel_rfl) hf with ⟨hcs, _⟩ | ⟨x, l, c, zs, hcs, _, hl, hm, hz, hx, hcell, hwz⟩
    · simp [Value.cells] at hcs
      obtain ⟨rfl, rfl, rfl⟩ := hcs
      exact ⟨[], RdI.empty W .u8, rfl, by simp, by omega⟩
    · simp [Value.cells] at hcs
      obtain ⟨rfl, rfl, rfl⟩ := hcs
      have hd : d0 = .slice (lits .u8 (zs.take n0)) (lits .u8 (zs.drop n0)) := (Prod.mk.inj hx).1
      have hs := sized_slice hsz (j := 0) (t := 22) (e := 5) rfl (by rw [hd]; rfl) Try.underlying22
      have hz2 : zs.length = c0 := by simpa using hz
      rw [bytes5] at hs
      simp only [lits, List.length_map, List.length_take, List.length_drop, reachBytes] at hs
      exact ⟨zs.take n0, rdI_of_row hl hm hz2 hcell, by simp; omega, fun z h => hwz z (List.mem_of_mem_take h), by omega⟩
  obtain ⟨a1, rfl, rfl, rfl, w1⟩ := open_int Try.underlying3 (hval 1 3 v1 rfl rfl) h1
  obtain ⟨a2, rfl, rfl, rfl, w2⟩ := open_int Try.underlying28 (hval 2 28 v2 rfl rfl) h2
  clear hA0 hval0
  refine (walk a0 c0 n0 z0 a1 a2 W r0' l0 b0 s0 w1 w2).mono fun e W' ⟨he, bel⟩ => ?_
  subst he
  exact ⟨_, rfl, _, _, _, [], _, [], hW', trodAll_mk1 (shut_bool Try.underlying4 _), (trodAll_cons_mk (Below.trod laidOut (by kernel_rfl) (of_decide_eq_true (by kernel_rfl)) k0 bel lt0) (trodAll_cons_mk (shut_int Try.underlying3 w1) (trodAll_cons_mk (shut_int Try.underlying28 w2) trodAll_mk0))), rfl, bel.frame _, fun h => by cases h⟩

theorem over : Rows.crcBurstsRow.holds Try.pinned (OpenSpec.ofChange Rows.crcBurstsSpec) :=
  OpenClaim.holds_of_wide 5 Try.f5 rfl rfl rfl rfl rfl rfl rfl ⟨rfl, rfl, rfl, rfl, rfl⟩ rfl rfl rfl rfl rfl (by kernel_rfl) Try.func5 (by kernel_rfl)
    (of_decide_eq_true (by kernel_rfl)) (by unfold Func.isWrapper; first | (rw [if_pos (by decide +kernel)]; kernel_rfl) | (rw [if_neg (by decide +kernel)]; exact ⟨rfl, rfl⟩))
    (fun os started H enc _ => lifted os started H enc)

theorem proved : Rows.CrcBurstsSaid := over
#print axioms proved
end Go.Proofs.Ytdnebhhmjmcfjaa.crcBursts
