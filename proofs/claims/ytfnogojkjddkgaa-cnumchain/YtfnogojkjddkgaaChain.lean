/- Proved: for every three pairs of words, the law CnumChain returns true: of two numbers that aren't the same just one is ahead, none is ahead of itself, the same stand alike to a third, and what is ahead of one that is ahead of another is ahead of that. Conditions: none. -/
import Derived.Test.YtfnogojkjddkgaaRows
import Derived.Test.YtfnogojkjddkgaaRef
import Derived.Test.YtfnogojkjddkgaaArr
import Derived.WalkKit
import Derived.ProofKit
import Derived.OpenShut
import Derived.Deep.QuietTactic
import Derived.BigQuiet
import Derived.Deep.RegionWith
namespace Go.Proofs.Ytfnogojkjddkgaa.cnumChain
open Go.ChangeShapes Go.WideShapes Go.ChangeAt Go.RowKit

theorem own : ownKnob Try.prog.godebug = none := by kernel_rfl
theorem cells22 : Try.prog.cellsOf 22 = 1 := by kernel_rfl
theorem cells37 : Try.prog.cellsOf 37 = 2 := by kernel_rfl

theorem less_iff (a b c d : Nat) : lessB a b c d = decide (rankI a < rankI c ∨ (rankI a = rankI c ∧ rankI b < rankI d)) := by
  unfold lessB
  by_cases h : rankI a = rankI c
  · simp [h]
  · have h' : (rankI a != rankI c) = true := by simp [h]
    simp [h, h']

theorem rank_form (a c : Nat) (ha : a < 18446744073709551616) (hc : c < 18446744073709551616) : rankI a = rankI c ↔ (formN a : Int) = (formN c : Int) := by
  rw [rankI_eq a ha, rankI_eq c hc]
  constructor
  · intro h
    rw [rkN_inj _ _ (formN_lt a ha) (formN_lt c hc) (by omega)]
  · intro h
    rw [show formN a = formN c by omega]

theorem same_iff (a b c d : Nat) (ha : a < 18446744073709551616) (hb : b < 18446744073709551616) (hc : c < 18446744073709551616) (hd : d < 18446744073709551616) : sameB a b c d = decide (rankI a = rankI c ∧ rankI b = rankI d) := by
  have e1 := rank_form a c ha hc
  have e2 := rank_form b d hb hd
  unfold sameB
  simp only [e1, e2]
  by_cases h1 : (formN a : Int) = (formN c : Int) <;> by_cases h2 : (formN b : Int) = (formN d : Int) <;> simp [h1, h2]

set_option maxRecDepth 100000 in
set_option maxHeartbeats 2000000 in
theorem walkN (a0 a1 b0 b1 c0 c1 : Nat) (v1 v2 v3 v4 v5 : Bool) (w : World)
    (h1 : lessB a0 a1 b0 b1 = v1) (h2 : lessB b0 b1 a0 a1 = v2) (h3 : sameB a0 a1 b0 b1 = v3) (h4 : lessB a0 a1 c0 c1 = v4) (h5 : lessB b0 b1 c0 c1 = v5) (h6 : lessB a0 a1 a0 a1 = false)
    (f1 : v3 = true → v1 = false ∧ v2 = false ∧ v4 = v5) (f2 : v3 = false → v1 = !v2) (f3 : v1 = true → v5 = true → v4 = true) :
    Calls Try.prog 7 #[.agg #[.int .u64 (a0 : Int), .int .u64 (a1 : Int)], .agg #[.int .u64 (b0 : Int), .int .u64 (b1 : Int)], .agg #[.int .u64 (c0 : Int), .int .u64 (c1 : Int)]] w fun e w' => e = .returned (.bool true) ∧ Grown w w' := by
  cases v1 <;> cases v2 <;> cases v3 <;> cases v4 <;> cases v5 <;> first | exact absurd (f1 rfl) (by decide) | exact absurd (f2 rfl) (by decide) | exact absurd (f3 rfl rfl) (by decide) | skip
  all_goals
    clear f1 f2 f3
    go_enter Try.func7, Try.ntmps7
    go_wp2_with (go_at_call 11; refine (alive_any _).mono ?_; rintro e w' ⟨rfl, rfl⟩)
    go_quiet ((go_at_call 14; refine (of_any _ _ _).mono ?_; rintro e w' ⟨rfl, rfl⟩; exact ⟨rfl, _, rfl⟩))
    go_wp2_with (first | (go_at_call 21; refine (less_any _ _ _ _ _).mono ?_; rintro e w' ⟨rfl, rfl⟩) | (go_at_call 12; refine (same_any _ _ _ _ _).mono ?_; rintro e w' ⟨rfl, rfl⟩))
    go_ret
    exact ⟨rfl, by repeat (first | exact Grown.refl _ | apply grown_drewN | apply Grown.alloc)⟩

theorem walk (a0 b0 a1 b1 a2 b2 : Int) (w0 : (Lit.int .u64 a0).wf = true) (x0 : (Lit.int .u64 b0).wf = true) (w1 : (Lit.int .u64 a1).wf = true) (x1 : (Lit.int .u64 b1).wf = true) (w2 : (Lit.int .u64 a2).wf = true) (x2 : (Lit.int .u64 b2).wf = true) (w : World) :
    Calls Try.prog 7 #[.agg #[.int .u64 a0, .int .u64 b0], .agg #[.int .u64 a1, .int .u64 b1], .agg #[.int .u64 a2, .int .u64 b2]] w fun e w' => e = .returned (.bool true) ∧ Grown w w' := by
  obtain ⟨p, rfl, hp⟩ := nat_of w0
  obtain ⟨q, rfl, hq⟩ := nat_of x0
  obtain ⟨r, rfl, hr⟩ := nat_of w1
  obtain ⟨s, rfl, hs⟩ := nat_of x1
  obtain ⟨t, rfl, ht⟩ := nat_of w2
  obtain ⟨u, rfl, hu⟩ := nat_of x2
  refine walkN p q r s t u _ _ _ _ _ w rfl rfl rfl rfl rfl ?_ ?_ ?_ ?_
  · rw [less_iff]; simp
  · rw [same_iff p q r s hp hq hr hs, less_iff, less_iff, less_iff, less_iff]
    simp only [decide_eq_true_eq, decide_eq_false_iff_not, decide_eq_decide]
    omega
  · rw [same_iff p q r s hp hq hr hs, less_iff, less_iff]
    intro h
    have h' := of_decide_eq_false h
    rw [← decide_not, decide_eq_decide]
    omega
  · rw [less_iff, less_iff, less_iff]
    simp only [decide_eq_true_eq]
    omega

set_option maxRecDepth 100000 in
theorem lifted (os : Os) (started : os.Started) (H : Type) (enc : TypeId × Value → H) :
    ReturnsInHanded {} Try.checked os 7 .any (Rows.cnumChainSpec.pre6 enc Try.prog Try.f7 Rows.cnumChainRow.domain false) (Rows.cnumChainSpec.post enc Try.prog Try.f7 false true false false) := by
  refine returnsInHanded_of_change (C := Try.checked) own started (by kernel_rfl) Try.func7
    (ChangeSpec.witness6 (enc := enc) (C := Try.checked) false ⟨#[], #[.agg #[.int .u64 0, .int .u64 0], .agg #[.int .u64 0, .int .u64 0], .agg #[.int .u64 0, .int .u64 0]], []⟩ 8 (by kernel_rfl) (by kernel_rfl) (by kernel_rfl) (by kernel_rfl)) ?_
  intro W base args ds gs before hval0 hW hcnd _
  have hval : ∀ (j : Nat) t v, Try.f7.params[j]? = some t → args[j]? = some v → Value.okWide Try.prog W .any base t v := hval0
  have hW' := hW
  obtain ⟨p, q, hA0, hV, rfl, hfz, hnd⟩ := hW
  have hA : DataW.TrodAll enc Try.prog W 0 (fun _ => true) true Try.f7.params.toList args.toList ds p := hA0
  rw [Try.params7] at hA hval
  obtain ⟨v0, vs0, d0, ds0, p0, q0, hargs, rfl, rfl, h0, r0⟩ := trodAll_cons hA
  obtain ⟨v1, vs1, d1, ds1, p1, q1, rfl, rfl, rfl, h1, r1⟩ := trodAll_cons r0
  obtain ⟨v2, vs2, d2, ds2, p2, q2, rfl, rfl, rfl, h2, r2⟩ := trodAll_cons r1
  obtain ⟨rfl, rfl, rfl⟩ := trodAll_nil r2
  obtain rfl : args = #[v0, v1, v2] := by cases args; simp_all
  obtain ⟨rfl, rfl⟩ := trodVars_none hV
  obtain ⟨a0, b0, rfl, rfl, rfl, w0, x0⟩ := open_words2 Try.underlying37 Try.underlying22 cells22 cells37 (hval 0 37 v0 rfl rfl) h0
  obtain ⟨a1, b1, rfl, rfl, rfl, w1, x1⟩ := open_words2 Try.underlying37 Try.underlying22 cells22 cells37 (hval 1 37 v1 rfl rfl) h1
  obtain ⟨a2, b2, rfl, rfl, rfl, w2, x2⟩ := open_words2 Try.underlying37 Try.underlying22 cells22 cells37 (hval 2 37 v2 rfl rfl) h2
  clear hA0 hval0
  simp only [List.append_nil] at hW'
  refine (walk a0 b0 a1 b1 a2 b2 w0 x0 w1 x1 w2 x2 W).mono fun e W' ⟨he, hg⟩ => ?_
  subst he
  exact ⟨_, rfl, post_of_same (pa := []) (pv := []) hW' (fun _ _ _ => (trodAll_cons_mk (shut_bool Try.underlying4 _) trodAll_mk0)) (fun sp _ => (trodAll_cons_mk (shut_words2 Try.underlying37 Try.underlying22 cells22 cells37 w0 x0) (trodAll_cons_mk (shut_words2 Try.underlying37 Try.underlying22 cells22 cells37 w1 x1) (trodAll_cons_mk (shut_words2 Try.underlying37 Try.underlying22 cells22 cells37 w2 x2) trodAll_mk0)))) (fun _ _ => rfl) rfl
    (hg.frame _) hg.2.1 (ok_one (by kernel_rfl) rfl (okWide_bool_mk Try.underlying4 _))⟩

theorem over : Rows.cnumChainRow.holds Try.pinned (OpenSpec.ofChange Rows.cnumChainSpec) :=
  OpenClaim.holds_of_wide 7 Try.f7 rfl rfl rfl rfl rfl rfl rfl ⟨rfl, rfl, rfl, rfl, rfl⟩ rfl rfl rfl rfl rfl (by kernel_rfl) Try.func7 (by kernel_rfl)
    (of_decide_eq_true (by kernel_rfl)) (by unfold Func.isWrapper; first | (rw [if_pos (by decide +kernel)]; kernel_rfl) | (rw [if_neg (by decide +kernel)]; exact ⟨rfl, rfl⟩))
    (fun os started H enc _ => lifted os started H enc)

theorem proved : Rows.CnumChainSaid := over
#print axioms proved
end Go.Proofs.Ytfnogojkjddkgaa.cnumChain
