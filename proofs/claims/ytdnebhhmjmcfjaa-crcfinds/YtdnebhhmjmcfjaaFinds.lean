/- No burst is overlooked: for all bytes, any place and any mask, the law's function returns true: a frame in which some bits within sixteen side by side were turned is no frame, and turned twice it is as it was. Conditions: none. -/
import Derived.Test.YtdnebhhmjmcfjaaRows
import Derived.Test.YtdnebhhmjmcfjaaSl
import Derived.Test.YtdnebhhmjmcfjaaCm
import Derived.Test.YtdnebhhmjmcfjaaCr1
import Derived.Test.YtdnebhhmjmcfjaaCr2
import Derived.Test.YtdnebhhmjmcfjaaCr3
import Derived.Test.YtdnebhhmjmcfjaaCr4
import Derived.Test.YtdnebhhmjmcfjaaCr5
import Derived.Test.YtdnebhhmjmcfjaaCr6
import Derived.Test.YtdnebhhmjmcfjaaCr7
import Derived.WalkKit
import Derived.ProofKit
import Derived.OpenShut
import Derived.ShutString
import Derived.ChangeOld
import Derived.SizedLaws
import Derived.Below
import Derived.Deep.QuietTactic
import Derived.BigQuiet
import Derived.Deep.RegionWith
import Derived.Deep.RegionHeld
namespace Go.Proofs.Ytdnebhhmjmcfjaa.crcFinds
open Go.ChangeShapes Go.WideShapes Go.ChangeAt Go.RowKit
set_option linter.unusedVariables false

theorem own : ownKnob Try.prog.godebug = none := by kernel_rfl
theorem laidOut : laidOutB Try.prog = true := by kernel_rfl
theorem bytes5 : Try.prog.bytesOf 5 = 1 := by kernel_rfl

set_option maxHeartbeats 800000 in
theorem walkL (a0 : Option Addr) (c0 n0 : Nat) (p m : Int) (w : World) (h3 : 3000 < n0) :
    Calls Try.prog 6 #[.slice a0 n0 c0, .int .i64 p, .int .u16 m] w fun e w' => e = .returned (.bool true) ∧ Below w.heap.size w w' := by
  go_enter Try.func6, Try.ntmps6
  go_wp2_with (go_at_call 10; refine (alive_any _).mono ?_; rintro e w1 ⟨rfl, hb1⟩)
  go_ret
  exact ⟨rfl, hb1⟩

set_option maxHeartbeats 1600000 in
theorem walkA (a0 : Option Addr) (c0 n0 : Nat) (bs : List Nat) (p : Int) (m : Nat) (w : World) (h : Rd8 w a0 n0 c0 bs) (h3 : n0 ≤ 3000) (hm : m < 65536) (hp : -9223372036854775808 ≤ p) (hp2 : p ≤ 9223372036854775807) (hx : brN (sealN bs) p m (L16 m) = sealN bs) :
    Calls Try.prog 6 #[.slice a0 n0 c0, .int .i64 p, .int .u16 (m : Int)] w fun e w' => e = .returned (.bool true) ∧ Below w.heap.size w w' := by
  have hl := h.len
  go_enter Try.func6, Try.ntmps6
  go_wp2_with (first
    | (go_at_call 10; refine (alive_any _).mono ?_; rintro e w1 ⟨rfl, hb1⟩)
    | (go_at_call 15; refine (seal_any _ _ _ bs _ (h.below hb1) (by omega)).mono ?_; rintro e w2 ⟨a2, c2, rfl, ho2, hb2⟩; have hB2 : Below w.heap.size w w2 := below_step hb1 hb2)
    | (go_at_call 11; refine (burst_to _ _ _ (sealN bs) (sealN bs) p m _ ho2.rd hx (by omega) hm hp hp2).mono ?_; rintro e w3 ⟨a3, c3, rfl, ho3, hb3⟩; have hB3 : Below w.heap.size w w3 := below_step hB2 hb3))
  have hS : Hid (∀ w', Below w3.heap.size w3 w' → (convert 22 9 (.slice a2 (n0 + 2) c2)).run Try.prog w' = .ok (.string (strOfNums (ci (sealN bs)))) w') :=
    fun w' h => ((ho2.below hb3).below h).rd.str
  first
    | go_region_held (fun w' => (convert 22 9 (.slice a2 (n0 + 2) c2)).run Try.prog w' = .ok (.string (strOfNums (ci (sealN bs)))) w')
      (first | exact hS.out _ (Below.refl _ _) | exact hS.out _ (Below.refl _ _).drew | exact hS.out _ ⟨hb4.os, hb4.tape, hb4.output, hb4.size, hb4.block⟩)
      ((go_at_call 11; refine (burst_to _ _ _ (sealN bs) (sealN bs) p m _ (ho3.rd.heap (w' := w3.drew) rfl) hx (by omega) hm hp hp2).mono ?_; rintro e w4 ⟨a4, c4, rfl, ho4, hb4⟩; have hx4 := ho4.rd.str))
    | fail
  have hb34 : Below w3.heap.size w3 w4 := ⟨hb4.os, hb4.tape, hb4.output, hb4.size, hb4.block⟩
  have hB4 : Below w.heap.size w w4 := below_step hB3 hb34
  have hx2 := (ho2.below (below_step hb3 hb34)).rd.str
  have hx3 := (ho3.below hb34).rd.str
  go_wp2_with (go_at_call 9; refine (open_seal _ n0 _ bs _ (ho3.below hb34).rd hl (by omega)).mono ?_; rintro e w5 ⟨a5, c5, rfl, ho5, hb5⟩; have hy2 := (ho2.below (below_step (below_step hb3 hb34) hb5)).rd.str; have hy3 := ((ho3.below hb34).below hb5).rd.str; have hy5 := ho5.rd.str; have hy0 := (h.below (below_step hB4 hb5)).str)
  go_ret
  exact ⟨rfl, below_step hB4 hb5⟩

set_option maxHeartbeats 1600000 in
theorem walkB (a0 : Option Addr) (c0 n0 : Nat) (bs xs : List Nat) (p : Int) (m : Nat) (w : World) (h : Rd8 w a0 n0 c0 bs) (h3 : n0 ≤ 3000) (hm : m < 65536) (hp : -9223372036854775808 ≤ p) (hp2 : p ≤ 9223372036854775807) (hx : brN (sealN bs) p m (L16 m) = xs) (htw : brN xs p m (L16 m) = sealN bs) (hbad : ¬ okN xs) (hne : xs ≠ sealN bs) (hxb : ∀ b ∈ xs, b < 256) :
    Calls Try.prog 6 #[.slice a0 n0 c0, .int .i64 p, .int .u16 (m : Int)] w fun e w' => e = .returned (.bool true) ∧ Below w.heap.size w w' := by
  have hl := h.len
  have hns := str_ne hxb (sealN_bytes h.byte) hne
  have HB : Hid (¬ okN xs) := hbad
  clear hbad hne hxb
  go_enter Try.func6, Try.ntmps6
  go_wp2_with (first
    | (go_at_call 10; refine (alive_any _).mono ?_; rintro e w1 ⟨rfl, hb1⟩)
    | (go_at_call 15; refine (seal_any _ _ _ bs _ (h.below hb1) (by omega)).mono ?_; rintro e w2 ⟨a2, c2, rfl, ho2, hb2⟩; have hB2 : Below w.heap.size w w2 := below_step hb1 hb2)
    | (go_at_call 11; refine (burst_to _ _ _ (sealN bs) xs p m _ ho2.rd hx (by omega) hm hp hp2).mono ?_; rintro e w3 ⟨a3, c3, rfl, ho3, hb3⟩; have hB3 : Below w.heap.size w w3 := below_step hB2 hb3))
  have hS : Hid (∀ w', Below w3.heap.size w3 w' → (convert 22 9 (.slice a2 (n0 + 2) c2)).run Try.prog w' = .ok (.string (strOfNums (ci (sealN bs)))) w') :=
    fun w' h => ((ho2.below hb3).below h).rd.str
  first
    | go_region_held (fun w' => (convert 22 9 (.slice a2 (n0 + 2) c2)).run Try.prog w' = .ok (.string (strOfNums (ci (sealN bs)))) w')
      (first | exact hS.out _ (Below.refl _ _) | exact hS.out _ (Below.refl _ _).drew | exact hS.out _ ⟨hb4.os, hb4.tape, hb4.output, hb4.size, hb4.block⟩)
      ((go_at_call 11; refine (burst_to _ _ _ xs (sealN bs) p m _ (ho3.rd.heap (w' := w3.drew) rfl) htw (by omega) hm hp hp2).mono ?_; rintro e w4 ⟨a4, c4, rfl, ho4, hb4⟩; have hx4 := ho4.rd.str))
    | fail
  have hb34 : Below w3.heap.size w3 w4 := ⟨hb4.os, hb4.tape, hb4.output, hb4.size, hb4.block⟩
  have hB4 : Below w.heap.size w w4 := below_step hB3 hb34
  go_wp2_with (go_at_call 9; refine (open_bad _ n0 _ _ xs _ (ho3.below hb34).rd rfl (by omega) HB.out).mono ?_; rintro e w5 ⟨rfl, hb5⟩; have hy2 := (ho2.below (below_step (below_step hb3 hb34) hb5)).rd.str; have hy3 := ((ho3.below hb34).below hb5).rd.str)
  go_ret
  exact ⟨rfl, below_step hB4 hb5⟩

theorem walk (a0 : Option Addr) (c0 n0 : Nat) (z0 : List Int) (a1 a2 : Int) (w : World) (r0 : RdI w .u8 a0 c0 z0) (l0 : z0.length = n0) (b0 : ∀ z ∈ z0, (Lit.int .u8 z).wf = true) (s0 : n0 * 1 ≤ 140737488351232) (w1 : (Lit.int .i64 a1).wf = true) (w2 : (Lit.int .u16 a2).wf = true) :
    Calls Try.prog 6 #[.slice a0 n0 c0, .int .i64 a1, .int .u16 a2] w fun e w' => e = .returned (.bool true) ∧ Below w.heap.size w w' := by
  obtain ⟨bs, h⟩ := rd8_of r0 l0 b0
  obtain ⟨m, rfl, hm⟩ := u16_of w2
  obtain ⟨hp, hp2⟩ := i64_of w1
  have hl := h.len
  by_cases h3 : 3000 < n0
  · exact walkL a0 c0 n0 a1 m w h3
  · have hL := isLen m hm
    have htw := brN_twice (sealN_bytes h.byte) (p := a1) hL
    have hb2 := brN_bytes (sealN_bytes h.byte) a1 m (L16 m)
    by_cases hin : 0 ≤ a1 ∧ a1 + L16 m ≤ 8 * (sealN bs).length
    · by_cases hm0 : m = 0
      · subst hm0
        have e := brN_zero (sealN bs) a1 (L16 0) hL
        exact walkA a0 c0 n0 bs a1 0 w h (by omega) hm hp hp2 e
      · have hf := finds (sealN_bytes h.byte) (by rw [sealN_length]; omega) (sealN_ok bs) hL hm0 hin
        exact walkB a0 c0 n0 bs _ a1 m w h (by omega) hm hp hp2 rfl htw hf.1 hf.2 hb2
    · exact walkA a0 c0 n0 bs a1 m w h (by omega) hm hp hp2 (brN_out hin)

set_option maxRecDepth 100000 in
theorem lifted (os : Os) (started : os.Started) (H : Type) (enc : TypeId × Value → H) :
    ReturnsInHanded {} Try.checked os 6 .any (Rows.crcFindsSpec.pre6 enc Try.prog Try.f6 Rows.crcFindsRow.domain false) (Rows.crcFindsSpec.post enc Try.prog Try.f6 false true false false) := by
  refine returnsInHanded_of_change_sized (C := Try.checked) own started (by kernel_rfl) Try.func6
    (ChangeSpec.witness6 (enc := enc) (C := Try.checked) false ⟨#[], #[.slice none 0 0, .int .i64 0, .int .u16 0], []⟩ 8 (by kernel_rfl) (by kernel_rfl) (by kernel_rfl) (by kernel_rfl)) ?_
  intro W base args ds gs before hval0 hW hcnd hsz0 _
  have hval : ∀ (j : Nat) t v, Try.f6.params[j]? = some t → args[j]? = some v → Value.okWide Try.prog W .any base t v := hval0
  have hsz : (DataW.weightsEach Try.prog (Try.f6.params.toList ++ Rows.crcFindsSpec.plain.varTypes Try.prog) (ds ++ gs)).all (· ≤ reachBytes) = true := hsz0
  have hW' := hW
  obtain ⟨p, q, hA0, hV, rfl, hfz, hnd⟩ := hW
  have hA : DataW.TrodAll enc Try.prog W 0 (fun _ => true) true Try.f6.params.toList args.toList ds p := hA0
  rw [Try.params6] at hA hval hsz
  obtain ⟨v0, vs0, d0, ds0, p0, q0, hargs, rfl, rfl, h0, r0⟩ := trodAll_cons hA
  obtain ⟨v1, vs1, d1, ds1, p1, q1, rfl, rfl, rfl, h1, r1⟩ := trodAll_cons r0
  obtain ⟨v2, vs2, d2, ds2, p2, q2, rfl, rfl, rfl, h2, r2⟩ := trodAll_cons r1
  obtain ⟨rfl, rfl, rfl⟩ := trodAll_nil r2
  obtain rfl : args = #[v0, v1, v2] := by cases args; simp_all
  obtain ⟨rfl, rfl⟩ := trodVars_none hV
  obtain ⟨a0, n0, c0, rfl⟩ := okWide_slice Try.underlying22 (hval 0 22 v0 rfl rfl)
  have k0 := h0
  have lt0 : ∀ x ∈ p0, x.block < W.heap.size := by obtain ⟨m, hm⟩ := k0; exact DataW.trod_lt m _ _ _ hm
  obtain ⟨z0, r0', l0, b0, s0⟩ : ∃ zs, RdI W .u8 a0 c0 zs ∧ zs.length = n0 ∧ (∀ z ∈ zs, (Lit.int .u8 z).wf = true) ∧ n0 * 1 ≤ 140737488351232 := by
    obtain ⟨fuel, hf⟩ := h0
    rcases open_ints Try.underlying22 Try.underlying5 (by kernel_rfl) hf with ⟨hcs, _⟩ | ⟨x, l, c, zs, hcs, _, hl, hm, hz, hx, hcell, hwz⟩
    · simp [Value.cells] at hcs
      obtain ⟨rfl, rfl, rfl⟩ := hcs
      exact ⟨[], RdI.empty W .u8, rfl, by simp, by omega⟩
    · simp [Value.cells] at hcs
      obtain ⟨rfl, rfl, rfl⟩ := hcs
      have hd : d0 = .slice (lits .u8 (zs.take n0)) (lits .u8 (zs.drop n0)) := (Prod.mk.inj hx).1
      have hs := sized_slice hsz (j := 0) (t := 22) (e := 5) rfl (by rw [hd]; rfl) Try.underlying22
      have hz2 : zs.length = c0 := by simpa using hz
      rw [bytes5] at hs
      simp only [lits, List.length_map, List.length_take, List.length_drop, reachBytes] at hs
      exact ⟨zs.take n0, rdI_of_row hl hm hz2 hcell, by simp; omega, fun z h => hwz z (List.mem_of_mem_take h), by omega⟩
  obtain ⟨a1, rfl, rfl, rfl, w1⟩ := open_int Try.underlying3 (hval 1 3 v1 rfl rfl) h1
  obtain ⟨a2, rfl, rfl, rfl, w2⟩ := open_int Try.underlying28 (hval 2 28 v2 rfl rfl) h2
  clear hA0 hval0
  refine (walk a0 c0 n0 z0 a1 a2 W r0' l0 b0 s0 w1 w2).mono fun e W' ⟨he, bel⟩ => ?_
  subst he
  exact ⟨_, rfl, _, _, _, [], _, [], hW', trodAll_mk1 (shut_bool Try.underlying4 _), (trodAll_cons_mk (Below.trod laidOut (by kernel_rfl) (of_decide_eq_true (by kernel_rfl)) k0 bel lt0) (trodAll_cons_mk (shut_int Try.underlying3 w1) (trodAll_cons_mk (shut_int Try.underlying28 w2) trodAll_mk0))), rfl, bel.frame _, fun h => by cases h⟩

theorem over : Rows.crcFindsRow.holds Try.pinned (OpenSpec.ofChange Rows.crcFindsSpec) :=
  OpenClaim.holds_of_wide 6 Try.f6 rfl rfl rfl rfl rfl rfl rfl ⟨rfl, rfl, rfl, rfl, rfl⟩ rfl rfl rfl rfl rfl (by kernel_rfl) Try.func6 (by kernel_rfl)
    (of_decide_eq_true (by kernel_rfl)) (by unfold Func.isWrapper; first | (rw [if_pos (by decide +kernel)]; kernel_rfl) | (rw [if_neg (by decide +kernel)]; exact ⟨rfl, rfl⟩))
    (fun os started H enc _ => lifted os started H enc)

theorem proved : Rows.CrcFindsSaid := over
#print axioms proved
end Go.Proofs.Ytdnebhhmjmcfjaa.crcFinds
