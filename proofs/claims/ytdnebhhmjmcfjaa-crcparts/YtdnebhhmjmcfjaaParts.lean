/- However bytes are cut the sum is the same, what is sealed is opened, and the sum of a frame, its own sum and all, is the same for all bytes: for all parts the law's function returns true. Conditions: none. -/
import Derived.Test.YtdnebhhmjmcfjaaRows
import Derived.Test.YtdnebhhmjmcfjaaSl
import Derived.Test.YtdnebhhmjmcfjaaCm
import Derived.Test.YtdnebhhmjmcfjaaCr1
import Derived.Test.YtdnebhhmjmcfjaaCr2
import Derived.Test.YtdnebhhmjmcfjaaCr3
import Derived.Test.YtdnebhhmjmcfjaaCr4
import Derived.Test.YtdnebhhmjmcfjaaCr5
import Derived.Test.YtdnebhhmjmcfjaaCr6
import Derived.Test.YtdnebhhmjmcfjaaCr7
import Derived.Test.YtdnebhhmjmcfjaaPo
import Derived.WalkKit
import Derived.ProofKit
import Derived.OpenShut
import Derived.ShutString
import Derived.ChangeOld
import Derived.SizedLaws
import Derived.Below
import Derived.Deep.QuietTactic
import Derived.BigQuiet
import Derived.Deep.RegionWith
import Derived.Deep.RegionHeld
import Derived.Deep.RegionHeldLaw
namespace Go.Proofs.Ytdnebhhmjmcfjaa.crcParts
open Go.ChangeShapes Go.WideShapes Go.ChangeAt Go.RowKit
set_option linter.unusedVariables false

theorem own : ownKnob Try.prog.godebug = none := by kernel_rfl
theorem laidOut : laidOutB Try.prog = true := by kernel_rfl

theorem all_bytes {w : World} {ps : List Pt} (hp : ∀ p ∈ ps, Rd8 w p.ao p.n p.cap p.bs) : ∀ b ∈ ps.flatMap Pt.bs, b < 256 := by
  intro x hx
  obtain ⟨p, h, hx⟩ := List.mem_flatMap.1 hx
  exact (hp p h).byte x hx

set_option maxHeartbeats 1600000 in
theorem walk (a0 : Option Addr) (c0 n0 : Nat) (ps : List Pt) (w : World) (hrd : RdS w a0 c0 (ps.map Pt.val)) (hn : ps.length = n0) (hp : ∀ p ∈ ps, Rd8 w p.ao p.n p.cap p.bs) :
    Calls Try.prog 7 #[.slice a0 n0 c0] w fun e w' => e = .returned (.bool true) ∧ Below w.heap.size w w' := by
  have hle := hrd.le
  have hmx := hrd.mx
  simp only [List.length_map, maxLen] at hle hmx
  have HP : Hid (∀ p ∈ ps, Rd8 w p.ao p.n p.cap p.bs) := hp
  have HA : Hid (∀ b ∈ ps.flatMap Pt.bs, b < 256) := all_bytes hp
  clear hp
  go_enter Try.func7, Try.ntmps7
  go_wp2_with (go_at_call 10; refine (alive_any _).mono ?_; rintro e w1 ⟨rfl, hb1⟩)
  go_loopw [3, 13] (fun t i wr => ∃ (k m : Nat) (a : Option Addr) (c : Nat), k ≤ n0 ∧ i = .int .i64 k ∧ t = .slice a m c ∧ Own8 wr w.heap.size a m c ((ps.take k).flatMap Pt.bs) ∧ Below w.heap.size w wr ∧ m ≤ 7000) (fun _ i _ => n0 - (intOf i).toNat)
  case atStart => exact ⟨0, 0, _, _, Nat.zero_le _, rfl, rfl, ⟨OwnI.fresh w1 _ _ _ hb1.size, rfl, by simp⟩, hb1.alloc hb1.size _, by omega⟩
  case round =>
    obtain ⟨k, m, a, c, hk, rfl, rfl, ho, hbel, hm7⟩ := hrel
    have hsz := hbel.size
    by_cases hlt : k < n0
    · have hk2 : k < ps.length := by omega
      obtain ⟨b, off, rfl, _, hc⟩ := (hrd.below hbel).at (t := k) (by simpa using hk2)
      have hc1 : wr.cell? ⟨b, off + k, none⟩ = some (.slice ps[k].ao ps[k].n ps[k].cap) := by rw [hc k (by simpa using hk2)]; simp [Pt.val]
      have h8 := (HP.out ps[k] (List.getElem_mem _)).below hbel
      have HF : Hid ((ps.take (k + 1)).flatMap Pt.bs = (ps.take k).flatMap Pt.bs ++ ps[k].bs) := flat_snoc ps k hk2
      clear hc
      generalize ps[k] = p at *
      by_cases h1 : 2000 < p.n
      · go_wp2
        go_ret
        exact ⟨rfl, hbel⟩
      · by_cases h2 : 5000 < m
        · go_wp2
          go_ret
          exact ⟨rfl, hbel⟩
        · have hol := ho.len
          have h8l := h8.len
          go_wp2_with (at_builtin; refine wpList_append_rdI _ rfl (.tmp 25) (.tmp 26) 22 rfl w.heap.size 5 .u8 (.int .u8 0) 1 Try.underlying22 info5 rfl rfl rfl ho.own h8.rd (by rw [ci_length]; exact hol) (by rw [ci_length]; exact h8l) (by omega) (by unfold maxLen; omega) hsz ?_; intro ao2 cap2 w2 ho2 hb2)
          have hO2 : Own8 w2 w.heap.size ao2 (m + p.n) cap2 ((ps.take (k + 1)).flatMap Pt.bs) := by
            rw [HF.out]
            refine ⟨by rw [ci_append]; exact ho2, by rw [List.length_append]; omega, fun x hx => ?_⟩
            rcases List.mem_append.1 hx with hx | hx
            · exact ho.byte x hx
            · exact h8.byte x hx
          go_roundw
          case rel => exact ⟨k + 1, m + p.n, _, _, by omega, by go_num, rfl, hO2, hbel.trans hb2, by omega⟩
          case measure => simp [intOf]; omega
    · rw [List.take_of_length_le (by omega)] at ho
      have hol := ho.len
      go_wp2_with (first
        | (go_at_call_of 15 (Value.slice none 0 0); refine (seal_any _ _ _ [] _ (Rd8.empty _) (by omega)).mono ?_; rintro e w6 ⟨a6, c6, rfl, ho6, hb6⟩; have hB6 : Below w.heap.size w w6 := below_step hB5 (below_alloc (hb6.mono (by simp))))
        | (go_at_call 15; refine (seal_any _ _ _ _ _ (((ho.below hb34).rd.alloc _)) (by omega)).mono ?_; rintro e w5 ⟨a5, c5, rfl, ho5, hb5⟩; have hB5 : Below w.heap.size w w5 := below_step hB4 (below_alloc (hb5.mono (by simp))))
        | (go_at_call 15; refine (seal_any _ _ _ _ _ ho.rd (by omega)).mono ?_; rintro e w3 ⟨a3, c3, rfl, ho3, hb3⟩)
        | (go_at_call 9; refine (open_seal _ _ _ _ _ ho3.rd hol (by omega)).mono ?_; rintro e w4 ⟨a4, c4, rfl, ho4, hb4⟩; have hb34 : Below wr.heap.size wr w4 := below_step hb3 hb4; have hB4 : Below w.heap.size w w4 := below_step hbel hb34)
        | (go_at_call_of 13 (Value.slice a0 n0 c0); refine (of_any _ _ _ ps _ (hrd.below hB4) hn (fun p hp => (HP.out p hp).below hB4)).mono ?_; rintro e w' ⟨rfl, hw⟩; subst w')
        | (go_at_call_of 13 (Value.slice (some ⟨w4.heap.size, 0, none⟩) 1 1); refine (of_one _ _ _ _ _ (ho.below hb34).rd _).mono ?_; rintro e w' ⟨rfl, hw⟩; subst w'; have hx4 := (ho4.rd.alloc (.cells #[.slice a m c] 22)).str; have hx := ((ho.below hb34).rd.alloc (.cells #[.slice a m c] 22)).str)
        | (go_at_call_of 13 (Value.slice (some ⟨w5.heap.size, 0, none⟩) 1 1); refine (of_one _ _ _ _ _ ho5.rd _).mono ?_; rw [ofN_sealN HA.out]; rintro e w' ⟨rfl, hw⟩; subst w')
        | (go_at_call_of 13 (Value.slice (some ⟨w6.heap.size, 0, none⟩) 1 1); refine (of_one _ _ _ _ _ ho6.rd _).mono ?_; rw [ofN_sealN (bs := []) (by simp)]; rintro e w' ⟨rfl, hw⟩; subst w'))
      go_ret
      exact ⟨rfl, hB6.alloc hB6.size _⟩

set_option maxRecDepth 100000 in
theorem lifted (os : Os) (started : os.Started) (H : Type) (enc : TypeId × Value → H) :
    ReturnsInHanded {} Try.checked os 7 .any (Rows.crcPartsSpec.pre6 enc Try.prog Try.f7 Rows.crcPartsRow.domain false) (Rows.crcPartsSpec.post enc Try.prog Try.f7 false true false false) := by
  refine returnsInHanded_of_change_sized (C := Try.checked) own started (by kernel_rfl) Try.func7
    (ChangeSpec.witness6 (enc := enc) (C := Try.checked) false ⟨#[], #[.slice none 0 0], []⟩ 8 (by kernel_rfl) (by kernel_rfl) (by kernel_rfl) (by kernel_rfl)) ?_
  intro W base args ds gs before hval0 hW hcnd hsz0 _
  have hval : ∀ (j : Nat) t v, Try.f7.params[j]? = some t → args[j]? = some v → Value.okWide Try.prog W .any base t v := hval0
  have hsz : (DataW.weightsEach Try.prog (Try.f7.params.toList ++ Rows.crcPartsSpec.plain.varTypes Try.prog) (ds ++ gs)).all (· ≤ reachBytes) = true := hsz0
  have hW' := hW
  obtain ⟨p, q, hA0, hV, rfl, hfz, hnd⟩ := hW
  have hA : DataW.TrodAll enc Try.prog W 0 (fun _ => true) true Try.f7.params.toList args.toList ds p := hA0
  rw [Try.params7] at hA hval hsz
  obtain ⟨v0, vs0, d0, ds0, p0, q0, hargs, rfl, rfl, h0, r0⟩ := trodAll_cons hA
  obtain ⟨rfl, rfl, rfl⟩ := trodAll_nil r0
  obtain rfl : args = #[v0] := by cases args; simp_all
  obtain ⟨rfl, rfl⟩ := trodVars_none hV
  obtain ⟨a0, n0, c0, rfl⟩ := okWide_slice Try.underlying36 (hval 0 36 v0 rfl rfl)
  have k0 := h0
  have lt0 : ∀ x ∈ p0, x.block < W.heap.size := by obtain ⟨m, hm⟩ := k0; exact DataW.trod_lt m _ _ _ hm
  obtain ⟨q0', r0', l0, b0⟩ : ∃ ps : List Pt, RdS W a0 c0 (ps.map Pt.val) ∧ ps.length = n0 ∧ ∀ p ∈ ps, Rd8 W p.ao p.n p.cap p.bs := by
    obtain ⟨fuel, hf⟩ := h0
    obtain ⟨a, l, c, ps, hcs, h1, h2, h3⟩ := parts_of hf
    simp [Value.cells] at hcs
    obtain ⟨rfl, rfl, rfl⟩ := hcs
    exact ⟨ps, h1, h2, h3⟩
  clear hA0 hval0
  refine (walk a0 c0 n0 q0' W r0' l0 b0).mono fun e W' ⟨he, bel⟩ => ?_
  subst he
  exact ⟨_, rfl, _, _, _, [], _, [], hW', trodAll_mk1 (shut_bool Try.underlying4 _), (trodAll_cons_mk (Below.trod laidOut (by kernel_rfl) (of_decide_eq_true (by kernel_rfl)) k0 bel lt0) trodAll_mk0), rfl, bel.frame _, fun h => by cases h⟩

theorem over : Rows.crcPartsRow.holds Try.pinned (OpenSpec.ofChange Rows.crcPartsSpec) :=
  OpenClaim.holds_of_wide 7 Try.f7 rfl rfl rfl rfl rfl rfl rfl ⟨rfl, rfl, rfl, rfl, rfl⟩ rfl rfl rfl rfl rfl (by kernel_rfl) Try.func7 (by kernel_rfl)
    (of_decide_eq_true (by kernel_rfl)) (by unfold Func.isWrapper; first | (rw [if_pos (by decide +kernel)]; kernel_rfl) | (rw [if_neg (by decide +kernel)]; exact ⟨rfl, rfl⟩))
    (fun os started H enc _ => lifted os started H enc)

theorem proved : Rows.CrcPartsSaid := over
#print axioms proved
end Go.Proofs.Ytdnebhhmjmcfjaa.crcParts
