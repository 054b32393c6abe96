import Derived.Test.YtemldmjpanmdbaaGreatDoorP35
import Derived.RangeFuncLeaves
set_option linter.unusedVariables false
namespace Go.Proofs.YtemldmjpanmdbaaGreatDoor.Ev
open Go.RowKit
section
variable {E : Env} {ρ ρ' : Ren} {B : Nat} {w w' : World} {S S' : St} {V : Hp} {K : CallF} {Y : YieldF} {N : Nat}
theorem args0_get : ∀ {l : List Value} {i : Nat} {τ : Tr Value TD} {k : Nat}, i + l.length ≤ 256 → tmpsOf (args0 i τ l) k = if i ≤ k ∧ k < i + l.length then l[k - i]? else tmpsOf τ k
  | [], i, τ, k, _ => by rw [if_neg (fun h => by simp at h; omega)]; rfl
  | v :: l, i, τ, k, h => by
    simp only [List.length_cons] at h
    show tmpsOf (args0 (Nat.add i 1) (Tr.set TD τ i (some v)) l) k = _
    rw [args0_get (show i + 1 + l.length ≤ 256 by omega), tmpsOf_set (by omega)]
    simp only [List.length_cons]
    show (if i + 1 ≤ k ∧ k < i + 1 + l.length then l[k - (i + 1)]? else _) = _
    by_cases h1 : k = i
    · subst h1
      rw [if_neg (by omega), if_pos rfl, if_pos (by omega)]; simp
    · by_cases h2 : i + 1 ≤ k ∧ k < i + 1 + l.length
      · rw [if_pos h2, if_pos (by omega), show k - i = (k - (i + 1)) + 1 by omega]; rfl
      · rw [if_neg h2, if_neg h1, if_neg (by omega)]
theorem emp_tmps (k : Nat) : tmpsOf (Tr.emp TD) k = none := by
  rw [tmpsOf_eq, Tr.get_emp]; simp
/-- A frame's slots at a call. -/
theorem args0_trel {P : Program} {l : List Value} {c : Array Value} {m : Nat} (h : VRL P ρ l c.toList) (hl : l.length ≤ 256) :
    TRel P ρ (tmpsOf (args0 0 (Tr.emp TD) l)) { tmps := c ++ Array.replicate m undef, defers := [] } := fun t v hv => by
  rw [args0_get (by omega), emp_tmps] at hv
  split at hv
  · obtain ⟨v', h1, h2⟩ := VRL_get h t v (by simpa using hv)
    refine ⟨v', ?_, h2⟩
    have h1 : c[t]? = some v' := by simpa using h1
    have : t < c.size := by
      rcases Nat.lt_or_ge t c.size with h | h
      · exact h
      · rw [Array.getElem?_eq_none h] at h1; cases h1
    show (c ++ Array.replicate m undef)[t]? = some v'
    rw [Array.getElem?_append_left this, h1]
  · cases hv
/-- The marks' blocks are shut. -/
theorem takeAll_ge : ∀ {ms : List Nat} {S S' : St}, takeAll ms S = some S' → Ge S S'
  | [], S, S', h => by cases h; exact .refl _
  | m :: ms, S, S', h => by
    obtain ⟨o, h1, h⟩ := ob_some.1 (show ob (rdO S m) _ = some S' from h)
    split at h
    · exact (putO_ge h1).trans (takeAll_ge h)
    · cases h
theorem takeAll_nx : ∀ {ms : List Nat} {S S' : St}, takeAll ms S = some S' → S'.nx = S.nx
  | [], S, S', h => by cases h; rfl
  | m :: ms, S, S', h => by
    obtain ⟨o, h1, h⟩ := ob_some.1 (show ob (rdO S m) _ = some S' from h)
    split at h
    · exact takeAll_nx (S := putO S m dead) h
    · cases h
theorem takeAll_spec {P : Program} {F : Fence} {n : Nat} {fn : Func} {tmps : Array Value} {R : Ending → World → Prop} : ∀ {ms : List Nat} {ds : List Deferred} {S S' : St} {w : World}, takeAll ms S = some S' → GS P B ρ S V w → MRel ρ ms ds →
    (∀ w', GS P B ρ S' V w' → Nx B ρ ρ S.nx S'.nx w w' → ∃ v, (results fn tmps).run P w' = .ok v w' ∧ R (.returned v) w') → LeavesInM F n P fn tmps R ds .returning w
  | [], ds, S, S', w, h, hG, hm, hk => by
    cases h
    cases hm
    exact hk w hG (Nx.refl _ _ _ _)
  | m :: ms, ds, S, S', w, h, hG, hm, hk => by
    obtain ⟨o, h1, h⟩ := ob_some.1 (show ob (rdO S m) _ = some S' from h)
    obtain ⟨p, ds', g1, rfl, g2⟩ := hm
    split at h
    case h_2 => cases h
    obtain ⟨p', h2, dd, _, h3, rfl⟩ := hG.at_ m _ (ov_of h1) rfl
    rw [g1] at h2; cases h2
    obtain ⟨k1, k2, k3⟩ := putO_spec (o1 := dead) (ob1 := .deferred none) hG h1 rfl g1 h3 (by intro a b c e; cases e) trivial
    refine ⟨by simp, .inl ⟨p.b, _, rfl, ?_, takeAll_spec h k2 g2 fun w' a1 a2 => hk w' a1 (k3.trans a2)⟩⟩
    simp [Instr.takeDeferred, getObj, Sem.run_bind, Sem.run, h3, Result.andThen, k1]
/-- A variable of the results. -/
theorem load_res (hE : EnvOk E) {t : TypeId} {x : Arg Value} {τ : Tmps} {q : Value × St} {c : Value} (h : GS E.P B ρ S V w) (hq : (cLoad E t x).f τ S = some q) (hx : ∀ v, x.f τ = some v → VR E.P ρ v c) :
    ∃ a v', c = .pointer (some a) ∧ (loadVar t a).run E.P w = .ok v' w ∧ VR E.P ρ q.1 v' := by
  unfold cLoad at hq
  cases hd : E.dg t with
  | none => rw [hd] at hq; cases hq
  | some d =>
    obtain ⟨i, hi, hu, hs, _, _⟩ := hE.ty t d hd
    rw [hd] at hq
    simp only at hq
    cases hag : isAggD d.und <;> rw [hag] at hq <;> simp only [cond_true, cond_false] at hq
    · obtain ⟨v, h1, hq⟩ := ob_some.1 hq
      obtain ⟨a, h2, hq⟩ := ob_some.1 hq
      obtain ⟨u, h3, hq⟩ := ob_some.1 hq
      cases hq
      obtain ⟨p, hp, rfl⟩ := VR_ptr h2 (hx v h1)
      obtain ⟨p', v', hp', hc, hv⟩ := rdC_spec h h3
      rw [hp] at hp'; cases hp'
      refine ⟨_, v', rfl, ?_, hv⟩
      simp [loadVar, run_isAgg hu, hag, hc]
    · obtain ⟨v, h1, hq⟩ := ob_some.1 hq
      obtain ⟨a, h2, hq⟩ := ob_some.1 hq
      obtain ⟨l, h3, hq⟩ := ob_some.1 hq
      cases hq
      obtain ⟨p, hp, rfl⟩ := VR_ptr h2 (hx v h1)
      obtain ⟨p', l', hp', hl, hlen, _, hc⟩ := rdCs_spec h h3
      rw [hp] at hp'; cases hp'
      refine ⟨_, .agg l'.toArray, rfl, ?_, ?_⟩
      · have hrun := run_loadCells_list (P := E.P) (w := w) ⟨p.b, p.s + a.off, none⟩ l' (fun j v hj => by
          have := hc j v hj
          unfold Addr.add
          split
          · rename_i h0; subst h0; simpa using this
          · simpa using this)
        rw [hlen] at hrun
        simp [loadVar, run_isAgg hu, hag, run_sizeOf hi, hs, hrun]
      · simp only [VR]; exact ⟨_, rfl, VRA_iff.2 (by simpa using hl)⟩
/-- What a function answers. -/
def resF (tmps : Array Value) : ResultVar → Sem Value
  | .tmp t => pure (tmps.getD t undef)
  | .cell a t => do loadVar t (← asAddr (tmps.getD a undef))
theorem results_eq (fn : Func) (tmps : Array Value) : results fn tmps = (do let vs ← fn.results.mapM (resF tmps); pure (if h : vs.size = 1 then vs[0] else .tuple vs)) := rfl
theorem res_spec (hE : EnvOk E) {a : Act} {τ : Tmps} (hG : GS E.P B ρ S V w) (ht : TRel E.P ρ τ a) : ∀ {l : List ResultVar} {vs : List Value}, (cRes E l).f τ S = some vs →
    ∃ vs', (l.mapM (resF a.tmps)).run E.P w = .ok vs' w ∧ VRL E.P ρ vs vs'
  | [], vs, h => by cases h; exact ⟨[], rfl, rfl⟩
  | .tmp t :: l, vs, h => by
    obtain ⟨v, h1, h⟩ := ob_some.1 (show ob (τ t) _ = some vs from h)
    obtain ⟨us, h2, h⟩ := ob_some.1 h
    cases h
    obtain ⟨vs', k1, k2⟩ := res_spec hE hG ht h2
    obtain ⟨v', k3, k4⟩ := ht t v h1
    exact ⟨v' :: vs', by simp [List.mapM_cons, resF, k3, k1, Result.andThen], v', vs', rfl, k4, k2⟩
  | .cell x t :: l, vs, h => by
    obtain ⟨p, h1, h⟩ := ob_some.1 (show ob ((cLoad E t (Bx.mk fun ρ => ρ x)).f τ S) _ = some vs from h)
    obtain ⟨us, h2, h⟩ := ob_some.1 h
    cases h
    obtain ⟨vs', k1, k2⟩ := res_spec hE hG ht h2
    by_cases hx : ∃ v, τ x = some v
    · obtain ⟨v, hx⟩ := hx
      obtain ⟨v', k3, k4⟩ := ht x v hx
      obtain ⟨ad, u, rfl, k5, k6⟩ := load_res hE (c := v') hG h1 fun v1 hv1 => by
        have hv1 : τ x = some v1 := hv1
        rw [hx] at hv1; cases hv1; exact k4
      exact ⟨u :: vs', by simp [List.mapM_cons, Sem.run_bind, resF, k3, k1, k5, asAddr, Result.andThen], u, vs', rfl, k6, k2⟩
    · exfalso
      have hx : τ x = none := by
        cases h : τ x with
        | none => rfl
        | some v => exact absurd ⟨v, h⟩ hx
      unfold cLoad at h1
      cases hd : E.dg t with
      | none => rw [hd] at h1; cases h1
      | some d =>
        rw [hd] at h1
        simp only at h1
        cases hag : isAggD d.und <;> rw [hag] at h1 <;> simp only [cond_true, cond_false] at h1 <;> (obtain ⟨v, h1, _⟩ := ob_some.1 h1; rw [show τ x = some v from h1] at hx; cases hx)
end
end Go.Proofs.YtemldmjpanmdbaaGreatDoor.Ev
