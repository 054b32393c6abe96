/- Proved: for every two pairs of words, the law CnumOrder returns true: which of the two numbers is ahead is as the document's answer tells it. Conditions: none. -/
import Derived.Test.YtfnogojkjddkgaaRows
import Derived.Test.YtfnogojkjddkgaaRef
import Derived.Test.YtfnogojkjddkgaaArr
import Derived.WalkKit
import Derived.ProofKit
import Derived.OpenShut
import Derived.Deep.QuietTactic
import Derived.BigQuiet
import Derived.Deep.RegionWith
namespace Go.Proofs.Ytfnogojkjddkgaa.cnumOrder
open Go.ChangeShapes Go.WideShapes Go.ChangeAt Go.RowKit

theorem own : ownKnob Try.prog.godebug = none := by kernel_rfl
theorem cells22 : Try.prog.cellsOf 22 = 1 := by kernel_rfl
theorem cells37 : Try.prog.cellsOf 37 = 2 := by kernel_rfl

theorem refAhead_is (a b : Nat) (v : Bool) (ha : a < 18446744073709551616) (hb : b < 18446744073709551616) (h : decide (rankI a < rankI b) = v) (w : World) :
    Calls Try.prog 22 #[.int .u64 (a : Int), .int .u64 (b : Int)] w fun e w' => e = .returned (.bool v) ∧ w' = w := by
  subst h; exact refAhead_any a b ha hb w

theorem less_is (a b c d : Nat) (v : Bool) (h : lessB a b c d = v) (w : World) :
    Calls Try.prog 21 #[.complex .f64 a b, .complex .f64 c d] w fun e w' => e = .returned (.bool v) ∧ w' = w := by
  subst h; exact less_any a b c d w

theorem less_ahead (a0 a1 b0 b1 : Nat) (ha0 : a0 < 18446744073709551616) (hb0 : b0 < 18446744073709551616) :
    lessB a0 a1 b0 b1 = (decide (rankI a0 < rankI b0) || (((formN a0 : Int) == (formN b0 : Int)) && decide (rankI a1 < rankI b1))) := by
  have ra := rankI_eq a0 ha0
  have rb := rankI_eq b0 hb0
  have la := formN_lt a0 ha0
  have lb := formN_lt b0 hb0
  unfold lessB
  by_cases h : formN a0 = formN b0
  · have e : rankI a0 = rankI b0 := by rw [ra, rb, h]
    simp [e, h]
  · have e : rankI a0 ≠ rankI b0 := by
      intro x
      exact h (rkN_inj _ _ la lb (by rw [ra, rb] at x; omega))
    have h' : ¬ (formN a0 : Int) = (formN b0 : Int) := by omega
    simp [e, h']

set_option maxRecDepth 100000 in
set_option maxHeartbeats 1000000 in
theorem walkN (a0 a1 b0 b1 : Nat) (v1 v2 v3 v4 : Bool) (ha0 : a0 < 18446744073709551616) (ha1 : a1 < 18446744073709551616) (hb0 : b0 < 18446744073709551616) (hb1 : b1 < 18446744073709551616) (w : World)
   (h1 : decide (rankI a0 < rankI b0) = v1) (h2 : ((formN a0 : Int) == (formN b0 : Int)) = v2) (h3 : decide (rankI a1 < rankI b1) = v3) (h4 : lessB a0 a1 b0 b1 = v4) (hv : v4 = (v1 || (v2 && v3))) :
    Calls Try.prog 5 #[.agg #[.int .u64 (a0 : Int), .int .u64 (a1 : Int)], .agg #[.int .u64 (b0 : Int), .int .u64 (b1 : Int)]] w fun e w' => e = .returned (.bool true) ∧ Grown w w' := by
  cases v1 <;> cases v2 <;> cases v3 <;> cases v4 <;> first | exact absurd hv (by decide) | skip
  all_goals
    clear hv
    go_enter Try.func5, Try.ntmps5
    go_wp2
    go_quiet ((go_at_call 14; exact Calls.quiet_of_same (of_any _ _ _)))
    go_wp2
    go_quiet ((go_at_call 20; refine (refForm_any _ ?_ _).mono ?_; assumption; rintro e w' ⟨rfl, rfl⟩; exact ⟨rfl, _, rfl⟩))
    go_wp2
    go_quiet ((first | (go_at_call 11; refine (alive_any _).mono ?_; rintro e w' ⟨rfl, rfl⟩; exact ⟨rfl, _, rfl⟩) | (go_at_call 21; refine (less_is _ _ _ _ _ h4 _).mono ?_; rintro e w' ⟨rfl, rfl⟩; exact ⟨rfl, _, rfl⟩) | (go_at_call_of 22 (Value.int IntKind.u64 (a0 : Int)); refine (refAhead_is a0 b0 _ ha0 hb0 h1 _).mono ?_; rintro e w' ⟨rfl, rfl⟩; exact ⟨rfl, _, rfl⟩) | (go_at_call_of 22 (Value.int IntKind.u64 (a1 : Int)); refine (refAhead_is a1 b1 _ ha1 hb1 h3 _).mono ?_; rintro e w' ⟨rfl, rfl⟩; exact ⟨rfl, _, rfl⟩)))
    go_wp2
    go_ret
    exact ⟨rfl, by repeat (first | exact Grown.refl _ | apply grown_drewN | apply Grown.alloc)⟩

theorem walk (a0 b0 a1 b1 : Int) (w0 : (Lit.int .u64 a0).wf = true) (x0 : (Lit.int .u64 b0).wf = true) (w1 : (Lit.int .u64 a1).wf = true) (x1 : (Lit.int .u64 b1).wf = true) (w : World) :
    Calls Try.prog 5 #[.agg #[.int .u64 a0, .int .u64 b0], .agg #[.int .u64 a1, .int .u64 b1]] w fun e w' => e = .returned (.bool true) ∧ Grown w w' := by
  obtain ⟨p, rfl, hp⟩ := nat_of w0
  obtain ⟨q, rfl, hq⟩ := nat_of x0
  obtain ⟨r, rfl, hr⟩ := nat_of w1
  obtain ⟨s, rfl, hs⟩ := nat_of x1
  exact walkN p q r s _ _ _ _ hp hq hr hs w rfl rfl rfl rfl (less_ahead p q r s hp hr)

set_option maxRecDepth 100000 in
theorem lifted (os : Os) (started : os.Started) (H : Type) (enc : TypeId × Value → H) :
    ReturnsInHanded {} Try.checked os 5 .any (Rows.cnumOrderSpec.pre6 enc Try.prog Try.f5 Rows.cnumOrderRow.domain false) (Rows.cnumOrderSpec.post enc Try.prog Try.f5 false true false false) := by
  refine returnsInHanded_of_change (C := Try.checked) own started (by kernel_rfl) Try.func5
    (ChangeSpec.witness6 (enc := enc) (C := Try.checked) false ⟨#[], #[.agg #[.int .u64 0, .int .u64 0], .agg #[.int .u64 0, .int .u64 0]], []⟩ 8 (by kernel_rfl) (by kernel_rfl) (by kernel_rfl) (by kernel_rfl)) ?_
  intro W base args ds gs before hval0 hW hcnd _
  have hval : ∀ (j : Nat) t v, Try.f5.params[j]? = some t → args[j]? = some v → Value.okWide Try.prog W .any base t v := hval0
  have hW' := hW
  obtain ⟨p, q, hA0, hV, rfl, hfz, hnd⟩ := hW
  have hA : DataW.TrodAll enc Try.prog W 0 (fun _ => true) true Try.f5.params.toList args.toList ds p := hA0
  rw [Try.params5] at hA hval
  obtain ⟨v0, vs0, d0, ds0, p0, q0, hargs, rfl, rfl, h0, r0⟩ := trodAll_cons hA
  obtain ⟨v1, vs1, d1, ds1, p1, q1, rfl, rfl, rfl, h1, r1⟩ := trodAll_cons r0
  obtain ⟨rfl, rfl, rfl⟩ := trodAll_nil r1
  obtain rfl : args = #[v0, v1] := by cases args; simp_all
  obtain ⟨rfl, rfl⟩ := trodVars_none hV
  obtain ⟨a0, b0, rfl, rfl, rfl, w0, x0⟩ := open_words2 Try.underlying37 Try.underlying22 cells22 cells37 (hval 0 37 v0 rfl rfl) h0
  obtain ⟨a1, b1, rfl, rfl, rfl, w1, x1⟩ := open_words2 Try.underlying37 Try.underlying22 cells22 cells37 (hval 1 37 v1 rfl rfl) h1
  clear hA0 hval0
  simp only [List.append_nil] at hW'
  refine (walk a0 b0 a1 b1 w0 x0 w1 x1 W).mono fun e W' ⟨he, hg⟩ => ?_
  subst he
  exact ⟨_, rfl, post_of_same (pa := []) (pv := []) hW' (fun _ _ _ => (trodAll_cons_mk (shut_bool Try.underlying4 _) trodAll_mk0)) (fun sp _ => (trodAll_cons_mk (shut_words2 Try.underlying37 Try.underlying22 cells22 cells37 w0 x0) (trodAll_cons_mk (shut_words2 Try.underlying37 Try.underlying22 cells22 cells37 w1 x1) trodAll_mk0))) (fun _ _ => rfl) rfl
    (hg.frame _) hg.2.1 (ok_one (by kernel_rfl) rfl (okWide_bool_mk Try.underlying4 _))⟩

theorem over : Rows.cnumOrderRow.holds Try.pinned (OpenSpec.ofChange Rows.cnumOrderSpec) :=
  OpenClaim.holds_of_wide 5 Try.f5 rfl rfl rfl rfl rfl rfl rfl ⟨rfl, rfl, rfl, rfl, rfl⟩ rfl rfl rfl rfl rfl (by kernel_rfl) Try.func5 (by kernel_rfl)
    (of_decide_eq_true (by kernel_rfl)) (by unfold Func.isWrapper; first | (rw [if_pos (by decide +kernel)]; kernel_rfl) | (rw [if_neg (by decide +kernel)]; exact ⟨rfl, rfl⟩))
    (fun os started H enc _ => lifted os started H enc)

theorem proved : Rows.CnumOrderSaid := over
#print axioms proved
end Go.Proofs.Ytfnogojkjddkgaa.cnumOrder
