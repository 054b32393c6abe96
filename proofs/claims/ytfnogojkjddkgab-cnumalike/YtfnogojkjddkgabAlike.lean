/- Proved: for every two pairs of words, the law CnumAlike returns true: the same are the same both ways, and of two numbers that are the same, turned they are the same, both are whole or neither, none is ahead of the other, and the one in its one form is the other. Conditions: none. -/
import Derived.Test.YtfnogojkjddkgabRows
import Derived.Test.YtfnogojkjddkgabRef
import Derived.Test.YtfnogojkjddkgabArr
import Derived.WalkKit
import Derived.ProofKit
import Derived.OpenShut
import Derived.Deep.QuietTactic
import Derived.BigQuiet
import Derived.Deep.RegionWith
namespace Go.Proofs.Ytfnogojkjddkgab.cnumAlike
open Go.ChangeShapes Go.WideShapes Go.ChangeAt Go.RowKit

theorem own : ownKnob Try.prog.godebug = none := by kernel_rfl
theorem cells22 : Try.prog.cellsOf 22 = 1 := by kernel_rfl
theorem cells23 : Try.prog.cellsOf 23 = 2 := by kernel_rfl

set_option maxHeartbeats 400000 in
theorem clean_any (a b : Nat) (w : World) :
    Calls Try.prog 10 #[.complex .f64 a b] w fun e w' => e = .returned (.complex .f64 (formN a) (formN b)) ∧ w' = w := by
  go_enter Try.func10, Try.ntmps10
  go_wp2_with (first | (go_at_call 11; refine (bits_any _ _ _).mono ?_; rintro e w' ⟨rfl, rfl⟩) | (go_at_call 5; refine (of_any _ _ _).mono ?_; rintro e w' ⟨rfl, rfl⟩))
  go_ret
  exact ⟨rfl, rfl⟩

theorem form_form (a : Nat) : formN (formN a) = formN a := by
  have h := nanB_form a
  have e : ∀ b : Nat, formN b = if nanB b then 9221120237041090561 else b := fun _ => rfl
  rw [e (formN a), h]
  cases g : nanB a
  · rfl
  · have := formN_nan a (by rw [nanB_form]; exact g)
    rw [if_pos rfl, this]

theorem same_forms {a b c d : Nat} (h : sameB a b c d = true) : formN a = formN c ∧ formN b = formN d := by
  unfold sameB at h
  simp at h
  omega

theorem forms_same {a b c d : Nat} (h : formN a = formN c ∧ formN b = formN d) : sameB a b c d = true := by
  unfold sameB
  simp [h.1, h.2]

set_option maxRecDepth 100000 in
set_option maxHeartbeats 2000000 in
theorem walk_no (a0 a1 b0 b1 : Nat) (w : World) (h1 : sameB a0 a1 b0 b1 = false) (h2 : sameB b0 b1 a0 a1 = false) (h3 : sameB a0 a1 a0 a1 = true) :
    Calls Try.prog 3 #[.agg #[.int .u64 (a0 : Int), .int .u64 (a1 : Int)], .agg #[.int .u64 (b0 : Int), .int .u64 (b1 : Int)]] w fun e w' => e = .returned (.bool true) ∧ Grown w w' := by
  go_enter Try.func3, Try.ntmps3
  go_wp2_with (go_at_call 4; refine (alive_any _).mono ?_; rintro e w' ⟨rfl, rfl⟩)
  go_quiet ((go_at_call 5; refine (of_any _ _ _).mono ?_; rintro e w' ⟨rfl, rfl⟩; exact ⟨rfl, _, rfl⟩))
  go_wp2_with (go_at_call 6; refine (same_any _ _ _ _ _).mono ?_; rintro e w' ⟨rfl, rfl⟩)
  go_ret
  exact ⟨rfl, by repeat (first | exact Grown.refl _ | apply grown_drewN | apply Grown.alloc)⟩

set_option maxRecDepth 100000 in
set_option maxHeartbeats 2000000 in
theorem walk_yes (a0 a1 b0 b1 : Nat) (w : World) (h1 : sameB a0 a1 b0 b1 = true) (h2 : sameB b0 b1 a0 a1 = true) (h3 : sameB a0 a1 a0 a1 = true)
    (h4 : sameB (Op.negFloat .f64 a1) a0 (Op.negFloat .f64 b1) b0 = true) (h5 : finB a0 = finB b0) (h6 : finB a1 = finB b1) (h7 : lessB a0 a1 b0 b1 = false) (h8 : sameB (formN a0) (formN a1) b0 b1 = true) :
    Calls Try.prog 3 #[.agg #[.int .u64 (a0 : Int), .int .u64 (a1 : Int)], .agg #[.int .u64 (b0 : Int), .int .u64 (b1 : Int)]] w fun e w' => e = .returned (.bool true) ∧ Grown w w' := by
  go_enter Try.func3, Try.ntmps3
  go_wp2_with (go_at_call 4; refine (alive_any _).mono ?_; rintro e w' ⟨rfl, rfl⟩)
  go_quiet ((go_at_call 5; refine (of_any _ _ _).mono ?_; rintro e w' ⟨rfl, rfl⟩; exact ⟨rfl, _, rfl⟩))
  go_wp2_with (first | (go_at_call 6; refine (same_any _ _ _ _ _).mono ?_; rintro e w' ⟨rfl, rfl⟩) | (go_at_call 7; refine (turn_any _ _ _).mono ?_; rintro e w' ⟨rfl, rfl⟩) | (go_at_call 8; refine (whole_any _ _ _).mono ?_; rintro e w' ⟨rfl, rfl⟩) | (go_at_call 9; refine (less_any _ _ _ _ _).mono ?_; rintro e w' ⟨rfl, rfl⟩) | (go_at_call 10; refine (clean_any _ _ _).mono ?_; rintro e w' ⟨rfl, rfl⟩))
  go_ret
  exact ⟨rfl, by repeat (first | exact Grown.refl _ | apply grown_drewN | apply Grown.alloc)⟩

theorem walk (a0 b0 a1 b1 : Int) (w0 : (Lit.int .u64 a0).wf = true) (x0 : (Lit.int .u64 b0).wf = true) (w1 : (Lit.int .u64 a1).wf = true) (x1 : (Lit.int .u64 b1).wf = true) (w : World) :
    Calls Try.prog 3 #[.agg #[.int .u64 a0, .int .u64 b0], .agg #[.int .u64 a1, .int .u64 b1]] w fun e w' => e = .returned (.bool true) ∧ Grown w w' := by
  obtain ⟨p, rfl, hp⟩ := nat_of w0
  obtain ⟨q, rfl, hq⟩ := nat_of x0
  obtain ⟨r, rfl, hr⟩ := nat_of w1
  obtain ⟨s, rfl, hs⟩ := nat_of x1
  have h3 : sameB p q p q = true := forms_same ⟨rfl, rfl⟩
  have h2 : sameB r s p q = sameB p q r s := by
    unfold sameB
    rw [Bool.eq_iff_iff]; simp; omega
  cases h1 : sameB p q r s
  · exact walk_no p q r s w h1 (by rw [h2, h1]) h3
  · obtain ⟨e1, e2⟩ := same_forms h1
    refine walk_yes p q r s w h1 (by rw [h2, h1]) h3 ?_ ?_ ?_ ?_ ?_
    · exact forms_same ⟨formN_neg_congr q s hq hs e2, e1⟩
    · exact finB_form p r hp hr e1
    · exact finB_form q s hq hs e2
    · unfold lessB
      rw [rankI_eq p hp, rankI_eq q hq, rankI_eq r hr, rankI_eq s hs, e1, e2]
      simp
    · exact forms_same ⟨by rw [form_form]; exact e1, by rw [form_form]; exact e2⟩

set_option maxRecDepth 100000 in
theorem lifted (os : Os) (started : os.Started) (H : Type) (enc : TypeId × Value → H) :
    ReturnsInHanded {} Try.checked os 3 .any (Rows.cnumAlikeSpec.pre6 enc Try.prog Try.f3 Rows.cnumAlikeRow.domain false) (Rows.cnumAlikeSpec.post enc Try.prog Try.f3 false true false false) := by
  refine returnsInHanded_of_change (C := Try.checked) own started (by kernel_rfl) Try.func3
    (ChangeSpec.witness6 (enc := enc) (C := Try.checked) false ⟨#[], #[.agg #[.int .u64 0, .int .u64 0], .agg #[.int .u64 0, .int .u64 0]], []⟩ 8 (by kernel_rfl) (by kernel_rfl) (by kernel_rfl) (by kernel_rfl)) ?_
  intro W base args ds gs before hval0 hW hcnd _
  have hval : ∀ (j : Nat) t v, Try.f3.params[j]? = some t → args[j]? = some v → Value.okWide Try.prog W .any base t v := hval0
  have hW' := hW
  obtain ⟨p, q, hA0, hV, rfl, hfz, hnd⟩ := hW
  have hA : DataW.TrodAll enc Try.prog W 0 (fun _ => true) true Try.f3.params.toList args.toList ds p := hA0
  rw [Try.params3] at hA hval
  obtain ⟨v0, vs0, d0, ds0, p0, q0, hargs, rfl, rfl, h0, r0⟩ := trodAll_cons hA
  obtain ⟨v1, vs1, d1, ds1, p1, q1, rfl, rfl, rfl, h1, r1⟩ := trodAll_cons r0
  obtain ⟨rfl, rfl, rfl⟩ := trodAll_nil r1
  obtain rfl : args = #[v0, v1] := by cases args; simp_all
  obtain ⟨rfl, rfl⟩ := trodVars_none hV
  obtain ⟨a0, b0, rfl, rfl, rfl, w0, x0⟩ := open_words2 Try.underlying23 Try.underlying22 cells22 cells23 (hval 0 23 v0 rfl rfl) h0
  obtain ⟨a1, b1, rfl, rfl, rfl, w1, x1⟩ := open_words2 Try.underlying23 Try.underlying22 cells22 cells23 (hval 1 23 v1 rfl rfl) h1
  clear hA0 hval0
  simp only [List.append_nil] at hW'
  refine (walk a0 b0 a1 b1 w0 x0 w1 x1 W).mono fun e W' ⟨he, hg⟩ => ?_
  subst he
  exact ⟨_, rfl, post_of_same (pa := []) (pv := []) hW' (fun _ _ _ => (trodAll_cons_mk (shut_bool Try.underlying4 _) trodAll_mk0)) (fun sp _ => (trodAll_cons_mk (shut_words2 Try.underlying23 Try.underlying22 cells22 cells23 w0 x0) (trodAll_cons_mk (shut_words2 Try.underlying23 Try.underlying22 cells22 cells23 w1 x1) trodAll_mk0))) (fun _ _ => rfl) rfl
    (hg.frame _) hg.2.1 (ok_one (by kernel_rfl) rfl (okWide_bool_mk Try.underlying4 _))⟩

theorem over : Rows.cnumAlikeRow.holds Try.pinned (OpenSpec.ofChange Rows.cnumAlikeSpec) :=
  OpenClaim.holds_of_wide 3 Try.f3 rfl rfl rfl rfl rfl rfl rfl ⟨rfl, rfl, rfl, rfl, rfl⟩ rfl rfl rfl rfl rfl (by kernel_rfl) Try.func3 (by kernel_rfl)
    (of_decide_eq_true (by kernel_rfl)) (by unfold Func.isWrapper; first | (rw [if_pos (by decide +kernel)]; kernel_rfl) | (rw [if_neg (by decide +kernel)]; exact ⟨rfl, rfl⟩))
    (fun os started H enc _ => lifted os started H enc)

theorem proved : Rows.CnumAlikeSaid := over
#print axioms proved
end Go.Proofs.Ytfnogojkjddkgab.cnumAlike
