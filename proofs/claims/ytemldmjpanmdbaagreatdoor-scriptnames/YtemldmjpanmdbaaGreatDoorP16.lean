import Derived.Test.YtemldmjpanmdbaaGreatDoorP15
set_option linter.unusedVariables false
namespace Go.Proofs.YtemldmjpanmdbaaGreatDoor.Ev
open Go.RowKit
/-- Nothing goes away. -/
structure Ge (S S' : St) : Prop where
  nx : S.nx ≤ S'.nx
  dom : ∀ r, rdO S' r = none → rdO S r = none
  wf : (∀ r, S.nx ≤ r → rdO S r = none) → ∀ r, S'.nx ≤ r → rdO S' r = none
theorem Ge.refl (S : St) : Ge S S := ⟨Nat.le_refl _, fun _ h => h, fun h => h⟩
theorem Ge.trans {a b c : St} (h : Ge a b) (k : Ge b c) : Ge a c := ⟨Nat.le_trans h.nx k.nx, fun r hr => h.dom r (k.dom r hr), fun x => k.wf (h.wf x)⟩
theorem upd_none {V : Hp} {r k : Nat} {o : AO} (h : upd V r o k = none) : V k = none := by
  unfold upd at h
  split at h
  · cases h
  · exact h
theorem newO_ge {S : St} {o : AO} {p : Nat × St} (h : newO S o = some p) : Ge S p.2 := by
  obtain ⟨_, _, h1, h2⟩ := newO_spec h
  exact ⟨by rw [h1]; omega, fun r hr => upd_none (by rw [← h2]; exact hr), fun hw r hr => by rw [h1] at hr; rw [h2, upd, if_neg (by omega)]; exact hw r (by omega)⟩
theorem newRow_ge {S : St} {t : TypeId} {l : List Value} {p : Nat × St} (h : newRow S t l = some p) : Ge S p.2 := by
  obtain ⟨row, _, h⟩ := ob_some.1 (show ob (rowOf t l) _ = some p from h)
  exact newO_ge h
theorem putO_ge {S : St} {r : Nat} {o o' : AO} (hr : rdO S r = some o') : Ge S (putO S r o) :=
  ⟨Nat.le_refl _, fun k hk => upd_none (by rw [rdO_putO o (rdO_lt hr)] at hk; exact hk), fun hw k hk => by
    rw [rdO_putO o (rdO_lt hr), upd]
    by_cases hkr : k = r
    · subst hkr; rw [hw k hk] at hr; cases hr
    · rw [if_neg hkr]; exact hw k hk⟩
theorem wrCs_ge {E : Env} {S S' : St} {r x : Nat} {l : List Value} (h : wrCs E S r x l = some S') : Ge S S' := by
  unfold wrCs at h
  obtain ⟨row, h1, h⟩ := ob_some.1 h
  obtain ⟨_, h⟩ := iff_some.1 h
  obtain ⟨c, _, h⟩ := ob_some.1 h
  cases h
  exact putO_ge (rdR_some.1 h1)
theorem val_ge {S : St} {v : Option Value} {q : Value × St} (h : val v S = some q) : Ge S q.2 := by
  obtain ⟨u, _, rfl⟩ := val_some h
  exact .refl _
/-- A box made where a test goes through. -/
theorem condB {γ : Type} {b : Bool} {g : Tmps → St → Option γ} {τ : Tmps} {S : St} {q : γ} (h : (cond b (Bx.mk g) (Bx.mk fun _ _ => none)).f τ S = some q) : b = true ∧ g τ S = some q := by
  cases b
  · cases h
  · exact ⟨rfl, h⟩
def KGe (K : CallF) : Prop := ∀ f args S q, K f args S = some q → Ge S q.2
def YGe (Y : YieldF) : Prop := ∀ l args S q, Y l args S = some q → Ge S q.2
section
variable {E : Env} {S S' : St} {K : CallF} {Y : YieldF}
theorem load_ge {t : TypeId} {x : Arg Value} {τ : Tmps} {q : Value × St} (hq : (cLoad E t x).f τ S = some q) : q.2 = S := by
  unfold cLoad at hq
  split at hq
  · cases hq
  · rename_i d _
    cases hd : isAggD d.und <;> rw [hd] at hq
    · obtain ⟨a, _, hq⟩ := ob_some.1 (show ob (x.f τ) _ = some q from hq)
      obtain ⟨b, _, hq⟩ := ob_some.1 hq
      obtain ⟨c, _, hq⟩ := ob_some.1 hq
      cases hq; rfl
    · obtain ⟨a, _, hq⟩ := ob_some.1 (show ob (x.f τ) _ = some q from hq)
      obtain ⟨b, _, hq⟩ := ob_some.1 hq
      obtain ⟨c, _, hq⟩ := ob_some.1 hq
      cases hq; rfl
theorem store_ge {t : TypeId} {x y : Arg Value} {τ : Tmps} {q : Value × St} (hq : (cStore E t x y).f τ S = some q) : Ge S q.2 := by
  unfold cStore at hq
  split at hq
  · cases hq
  · obtain ⟨a, _, hq⟩ := ob_some.1 (show ob (x.f τ) _ = some q from hq)
    obtain ⟨b, _, hq⟩ := ob_some.1 hq
    obtain ⟨c, _, hq⟩ := ob_some.1 hq
    obtain ⟨_, hq⟩ := iff_some.1 hq
    obtain ⟨s, h1, hq⟩ := ob_some.1 hq
    cases hq
    exact wrCs_ge h1
theorem build_same {t : TypeId} {ps : Arg (List (Nat × Value))} {τ : Tmps} {q : Value × St} (hq : (cBuild E t ps).f τ S = some q) : q.2 = S := by
  unfold cBuild at hq
  repeat' split at hq
  all_goals first
    | (cases hq; done)
    | (obtain ⟨a, _, hq⟩ := ob_some.1 (show ob (ps.f τ) _ = some q from hq)
       obtain ⟨b, _, hq⟩ := ob_some.1 hq
       cases hq; rfl)
theorem buildSlice_ge {t : TypeId} {n : Nat} {ps : Arg (List (Nat × Value))} {τ : Tmps} {q : Value × St} (hq : (cBuildSlice E t n ps).f τ S = some q) : Ge S q.2 := by
  unfold cBuildSlice at hq
  repeat' split at hq
  · obtain ⟨_, hq⟩ := condB hq
    obtain ⟨a, _, hq⟩ := ob_some.1 (show ob (ps.f τ) _ = some q from hq)
    obtain ⟨b, _, hq⟩ := ob_some.1 hq
    obtain ⟨p, h1, hq⟩ := ob_some.1 hq
    cases hq
    exact newRow_ge h1
  all_goals cases hq
end
end Go.Proofs.YtemldmjpanmdbaaGreatDoor.Ev
