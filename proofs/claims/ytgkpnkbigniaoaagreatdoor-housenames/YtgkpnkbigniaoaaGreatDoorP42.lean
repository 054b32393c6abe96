import Derived.Test.YtgkpnkbigniaoaaGreatDoorP41
set_option linter.unusedVariables false
namespace Go.Proofs.YtgkpnkbigniaoaaGreatDoor.Ev
open Go.RowKit
/-! ### Some calls told ahead -/
/-- What is told answers for some calls, the functions themselves for the others. -/
def bothO (E : Env) (o : CallF) (m : FuncId → Nat → Bool) (n : Nat) : CallF × YieldF :=
  Nat.rec (motive := fun _ => CallF × YieldF) (fun _ _ _ => none, fun _ _ _ => none)
    (fun _ r => (fun f args S => cond (m f S.nx) (o f args S) ((cFunc E f).f r.1 r.2 args S), yieldF E r.1 r.2)) n
def callO (E : Env) (o : CallF) (m : FuncId → Nat → Bool) (n : Nat) : CallF := (bothO E o m n).1
theorem bothO_ok {E : Env} (hE : EnvOk E) (hN : NmOk E) (hm : E.P.follows .mixedOrders = true) {o : CallF} {m : FuncId → Nat → Bool} (ho : KOk E o) (go : KGe o) :
    ∀ n, KOk E (bothO E o m n).1 ∧ YOk E (bothO E o m n).2 ∧ KGe (bothO E o m n).1 ∧ YGe (bothO E o m n).2
  | 0 => by
    refine ⟨?_, ?_, ?_, ?_⟩ <;> (intro a b S q h; cases h)
  | n + 1 => by
    obtain ⟨h1, h2, h3, h4⟩ := bothO_ok hE hN hm (m := m) ho go n
    have hq : ∀ {f args S q}, (bothO E o m (n + 1)).1 f args S = some q → o f args S = some q ∨ (cFunc E f).f (bothO E o m n).1 (bothO E o m n).2 args S = some q := fun {f args S q} h => by
      have h : cond (m f S.nx) (o f args S) ((cFunc E f).f (bothO E o m n).1 (bothO E o m n).2 args S) = some q := h
      cases hb : m f S.nx <;> rw [hb] at h
      · exact .inr h
      · exact .inl h
    refine ⟨fun f a S q h => ?_, fun l a S q h => (yield_all hE hN h1 h2 h3 h4 hm (show yieldF E (bothO E o m n).1 (bothO E o m n).2 l a S = some q from h)).2,
      fun f a S q h => ?_, fun l a S q h => (yield_all hE hN h1 h2 h3 h4 hm (show yieldF E (bothO E o m n).1 (bothO E o m n).2 l a S = some q from h)).1⟩
    · rcases hq h with h | h
      · exact ho f a S q h
      · exact (func_all hE hN h1 h2 h3 h4 hm h).2
    · rcases hq h with h | h
      · exact go f a S q h
      · exact (func_all hE hN h1 h2 h3 h4 hm h).1
/-- A call: its function, what it is given, what lies there ahead of it and behind it, its answer. -/
structure Ent where
  f : FuncId
  args : List Value
  a : Hl
  b : Hl
  v : Value
def argsEq : List Value → List Value → Bool
  | [], [] => true
  | x :: l, y :: m => cond (vEq 8 x y) (argsEq l m) false
  | _, _ => false
theorem argsEq_eq : ∀ {l m : List Value}, argsEq l m = true → l = m
  | [], [], _ => rfl
  | x :: l, y :: m, h => by
    have h : cond (vEq 8 x y) (argsEq l m) false = true := h
    cases h1 : vEq 8 x y <;> rw [h1] at h
    · cases h
    · rw [vEq_eq 8 _ _ h1, argsEq_eq (l := l) (m := m) h]
  | [], _ :: _, h => by cases h
  | _ :: _, [], h => by cases h
def Ent.run (e : Ent) : CallF := fun f args S => iff' (Nat.beq f e.f && argsEq args e.args && emptyFrom HD S.h S.nx) (iff' (subS S e.a) (some (e.v, e.b.st)))
/-- So it is: the reckoner says so. -/
def Ent.ok (K : CallF) (e : Ent) : Bool := match K e.f e.args e.a.st with
  | some q => cond (vEq 8 q.1 e.v) (subS q.2 e.b) false
  | none => false
theorem ent_iff {K : CallF} {e : Ent} (h : e.ok K = true) : ∃ S, K e.f e.args e.a.st = some (e.v, S) ∧ subS S e.b = true := by
  unfold Ent.ok at h
  split at h
  · rename_i q hq
    cases h1 : vEq 8 q.1 e.v <;> rw [h1] at h
    · cases h
    · exact ⟨q.2, by rw [hq, ← vEq_eq 8 _ _ h1], h⟩
  · cases h
theorem ent_KOk {E : Env} {K : CallF} (hK : KOk E K) (gK : KGe K) {e : Ent} (he : e.ok K = true) : KOk E e.run ∧ KGe e.run := by
  obtain ⟨S1, h1, h2⟩ := ent_iff he
  have key : ∀ {f args S q}, e.run f args S = some q → f = e.f ∧ args = e.args ∧ Wf S ∧ subS S e.a = true ∧ q = (e.v, e.b.st) := fun {f args S q} h => by
    obtain ⟨h3, h⟩ := iff_some.1 (show iff' _ _ = some q from h)
    obtain ⟨h4, h⟩ := iff_some.1 h
    obtain ⟨h5, h6, h7⟩ := and3.1 h3
    cases h
    exact ⟨Nat.eq_of_beq_eq_true h5, argsEq_eq h6, wf_of h7, h4, rfl⟩
  refine ⟨fun f args S q h B ρ V w args' hG ha hf _ hB n => ?_, fun f args S q h => ?_⟩
  · obtain ⟨rfl, rfl, hw, hs, rfl⟩ := key h
    obtain ⟨g1, g2⟩ := weak_ge hs hw
    have gS := gK _ _ _ _ h1
    have hn0 : S.nx = e.a.nx := (subS_iff hs).1
    have hn1 : S1.nx = e.b.nx := (subS_iff h2).1
    have hf : Fsh ρ S.nx e.b.nx := hf
    refine CallsIn.mono (hK _ _ _ _ h1 B ρ V w args' (hG.weak hs hw) ha (show Fsh ρ e.a.nx S1.nx by rw [← hn0, hn1]; exact hf) g2 hB n) ?_
    rintro r w' ⟨v', ρ', rfl, h3, h4, h5⟩
    have h4 : GS E.P B ρ' S1 V w' := h4
    have h5 : Nx B ρ ρ' e.a.nx S1.nx w w' := h5
    rw [← hn0, hn1] at h5
    exact ⟨v', ρ', rfl, h3, h4.weak h2 (gS.wf g2), h5⟩
  · obtain ⟨rfl, rfl, hw, hs, rfl⟩ := key h
    obtain ⟨g1, g2⟩ := weak_ge hs hw
    have gS := gK _ _ _ _ h1
    exact g1.trans (gS.trans (weak_ge h2 (gS.wf g2)).1)
/-- Many calls, and one function's answers. -/
def told (g : FuncId) (s : List Value → Option Value) : List Ent → CallF
  | [] => fun f args S => iff' (Nat.beq f g) (ob (s args) fun v => some (v, S))
  | e :: l => fun f args S => cond (Nat.beq f e.f && Nat.beq S.nx e.a.nx) (e.run f args S) (told g s l f args S)
def isTold (g : FuncId) : List Ent → FuncId → Nat → Bool
  | [] => fun f _ => Nat.beq f g
  | e :: l => fun f nx => cond (Nat.beq f e.f && Nat.beq nx e.a.nx) true (isTold g l f nx)
theorem told_ok {E : Env} {g : FuncId} {s : List Value → Option Value} (hs : SumOk E.P g s) {K : CallF} (hK : KOk E K) (gK : KGe K) : ∀ {l : List Ent}, (∀ e ∈ l, e.ok K = true) → KOk E (told g s l) ∧ KGe (told g s l)
  | [], _ => by
    have hq : ∀ {f args S q}, told g s [] f args S = some q → f = g ∧ ∃ v, s args = some v ∧ q = (v, S) := fun {f args S q} h => by
      obtain ⟨h1, h⟩ := iff_some.1 (show iff' (Nat.beq f g) _ = some q from h)
      obtain ⟨v, k1, k2⟩ := ob_some.1 h
      cases k2
      exact ⟨Nat.eq_of_beq_eq_true h1, v, k1, rfl⟩
    refine ⟨fun f a S q h => ?_, fun f a S q h => ?_⟩
    · obtain ⟨rfl, v, k1, rfl⟩ := hq h
      intro B ρ V w args' hG ha hf hwf hB n
      have he : args' = a.toArray := by
        apply Array.ext'
        simpa using (VRL_flat 8 _ _ (hs.flat _ _ k1).1).1 ha
      subst he
      refine CallsIn.mono (callsIn_wide.2 (hs.calls _ _ k1 w)) ?_
      rintro e w' ⟨rfl, rfl⟩
      exact ⟨v, ρ, rfl, flat_VR (hs.flat _ _ k1).2, hG, Nx.refl _ _ _ _⟩
    · obtain ⟨rfl, v, k1, rfl⟩ := hq h
      exact .refl _
  | e :: l, he => by
    obtain ⟨h1, h2⟩ := told_ok hs hK gK (l := l) fun x hx => he x (by simp [hx])
    obtain ⟨h3, h4⟩ := ent_KOk hK gK (he e (by simp))
    have hq : ∀ {f args S q}, told g s (e :: l) f args S = some q → e.run f args S = some q ∨ told g s l f args S = some q := fun {f args S q} h => by
      have h : cond (Nat.beq f e.f && Nat.beq S.nx e.a.nx) (e.run f args S) (told g s l f args S) = some q := h
      cases hb : (Nat.beq f e.f && Nat.beq S.nx e.a.nx) <;> rw [hb] at h
      · exact .inr h
      · exact .inl h
    refine ⟨fun f a S q h => ?_, fun f a S q h => ?_⟩
    · rcases hq h with h | h
      · exact h3 f a S q h
      · exact h1 f a S q h
    · rcases hq h with h | h
      · exact h4 f a S q h
      · exact h2 f a S q h
theorem callO_calls {P : Program} (hN : nmOk P = true) (hm : P.follows .mixedOrders = true) {g : FuncId} {s : List Value → Option Value} (hs : SumOk P g s) {k : Nat} {l : List Ent} (hl : ∀ e ∈ l, e.ok (callX (envOf P) g s k) = true) {n : Nat} {f : FuncId} {v : Value} {S : St}
    (hv : flat v = true) (h : callO (envOf P) (told g s l) (isTold g l) n f [] St0 = some (v, S)) (w : World) : Calls P f #[] w fun e w' => e = .returned v ∧ Below w.heap.size w w' := by
  obtain ⟨hK, _, gK, _⟩ := bothX_ok (envOf_ok P) (envOf_nm hN) hm hs k
  obtain ⟨tK, tG⟩ := told_ok hs hK gK hl
  obtain ⟨oK, _, _, _⟩ := bothO_ok (envOf_ok P) (envOf_nm hN) hm (m := isTold g l) tK tG n
  have := oK f [] St0 (v, S) h w.heap.size (fun _ => none) (fun _ => none) w #[] (G_none P _ w) rfl (fun _ _ _ => rfl) (fun r _ => rdO_St0 r) (Nat.le_refl _) 0
  refine Calls.mono (callsIn_wide.1 this) ?_
  rintro e w' ⟨v', ρ', rfl, h1, h2, h3⟩
  rw [(VR_flat 8 v v' hv).1 h1]
  exact ⟨rfl, h3.bel⟩
end Go.Proofs.YtgkpnkbigniaoaaGreatDoor.Ev
