import Derived.Test.YtemldmjpanmdbaaGreatDoorP36
import Derived.RangeFuncLeaves
set_option linter.unusedVariables false
namespace Go.Proofs.YtemldmjpanmdbaaGreatDoor.Ev
open Go.RowKit
section
variable {E : Env} {ρ ρ' : Ren} {B : Nat} {w w' : World} {S S' : St} {V : Hp} {K : CallF} {Y : YieldF} {N : Nat}
theorem results_spec (hE : EnvOk E) {fn : Func} {a : Act} {τ : Tmps} {vs : List Value} (hG : GS E.P B ρ S V w) (ht : TRel E.P ρ τ a) (h : (cRes E fn.results.toList).f τ S = some vs) :
    ∃ v, (results fn a.tmps).run E.P w = .ok v w ∧ VR E.P ρ (oneOf S vs).1 v := by
  obtain ⟨vs', h1, h2⟩ := res_spec hE hG ht h
  have hl := VRL_length h2
  refine ⟨if h : vs'.toArray.size = 1 then vs'.toArray[0] else .tuple vs'.toArray, ?_, ?_⟩
  · rw [results_eq, Array.mapM_eq_mapM_toList]
    simp [Sem.run_map, h1, Result.andThen]
  · match vs, h2, hl with
    | [v], h2, hl =>
      obtain ⟨v', m, rfl, h3, h4⟩ := h2
      cases h4
      exact h3
    | [], h2, hl => cases h2; simp [oneOf, VR]; exact VRA_iff.2 rfl
    | u :: v :: l, h2, hl =>
      have : ¬ vs'.toArray.size = 1 := by simp at hl ⊢; omega
      rw [dif_neg this]
      simp only [oneOf, VR]
      exact ⟨_, rfl, VRA_iff.2 (by simpa using h2)⟩
theorem oneOf_st (S : St) (vs : List Value) : (oneOf S vs).2 = S := by
  match vs with
  | [v] => rfl
  | [] => rfl
  | _ :: _ :: _ => rfl
/-- Functions. -/
theorem func_all (hE : EnvOk E) (hN : NmOk E) (hK : KOk E K) (hY : YOk E Y) (gK : KGe K) (gY : YGe Y) (hm : E.P.follows .mixedOrders = true) {f : FuncId} {args : List Value} {q : Value × St} (hq : (cFunc E f).f K Y args S = some q) :
    Ge S q.2 ∧ ∀ B ρ V w (args' : Array Value), GS E.P B ρ S V w → VRL E.P ρ args args'.toList → Fsh ρ S.nx q.2.nx → Wf S → B ≤ w.heap.size → ∀ n, CallsIn Fence.wide n E.P f args' w (RetR E B ρ S V w q) := by
  unfold cFunc at hq
  split at hq
  case h_1 => cases hq
  rename_i fn hfn
  obtain ⟨h1, h2⟩ := cond_some.1 hfn
  have hP := hE.fn f fn (blt_iff.1 h1) h2
  split at hq
  case h_1 => cases hq
  rename_i c hc
  cases hn : Nat.ble fn.ntmps 256 <;> simp only [hn, cond_true, cond_false] at hq
  · cases hq
  have hn := ble_iff.1 hn
  obtain ⟨h3, hq⟩ := iff_some.1 hq
  have h3 := ble_iff.1 h3
  obtain ⟨p, h4, hq⟩ := ob_some.1 hq
  obtain ⟨h5, hq⟩ := iff_some.1 hq
  obtain ⟨S1, h6, hq⟩ := ob_some.1 hq
  obtain ⟨vs, h7, hq⟩ := ob_some.1 hq
  cases hq
  obtain ⟨g1, g2⟩ := cCode_ok hE hN hK hY gK gY hm hn 300 c none _ S p h4
  have nx1 := takeAll_nx h6
  rw [oneOf_st]
  refine ⟨g1.trans (takeAll_ge h6), fun B ρ V w args' hG ha hf hwf hB n => ?_⟩
  have hsz : args'.size = args.length := by have := VRL_length ha; simpa using this
  refine callsIn_of_wp_marks hP hc trivial ?_ rfl
  refine g2 B ρ V w { tmps := args' ++ Array.replicate (fn.ntmps - args'.size) undef, defers := [] } none n _ hG ⟨args0_trel ha (by omega), by simp; omega, rfl⟩ rfl (hf.fst (by omega)) hwf hB fun ρ' w' a' G1 N1 F1 => ?_
  have key : LeavesInM Fence.wide n E.P fn a'.tmps (RetR E B ρ S V w (oneOf S1 vs)) a'.defers .returning w' := by
    refine takeAll_spec h6 G1 F1.m fun w2 G2 N2 => ?_
    obtain ⟨v, k1, k2⟩ := results_spec hE G2 F1.t h7
    refine ⟨v, k1, v, ρ', rfl, k2, ?_, ?_⟩
    · rw [oneOf_st]; exact G2
    · rw [oneOf_st]; exact N1.trans N2
  obtain ⟨e, fr, S2⟩ := p
  cases e with
  | normal => exact key
  | ret => exact key
  | _ => cases h5
end
end Go.Proofs.YtemldmjpanmdbaaGreatDoor.Ev
