import Derived.Test.YtemldmjpanmdbaaGreatDoorP39
set_option linter.unusedVariables false
namespace Go.Proofs.YtemldmjpanmdbaaGreatDoor.Ev
open Go.RowKit
/-- A function's answer is known: numbers in, a number out, nothing is made. -/
structure SumOk (P : Program) (g : FuncId) (s : List Value → Option Value) : Prop where
  flat : ∀ args v, s args = some v → args.all (flatN 8) = true ∧ Ev.flat v = true
  calls : ∀ args v, s args = some v → ∀ w, Calls P g args.toArray w fun e w' => e = .returned v ∧ w' = w
/-- With one function's answers known. -/
def bothX (E : Env) (g : FuncId) (s : List Value → Option Value) (n : Nat) : CallF × YieldF :=
  Nat.rec (motive := fun _ => CallF × YieldF) (fun _ _ _ => none, fun _ _ _ => none)
    (fun _ r => (fun f args S => cond (Nat.beq f g) (ob (s args) fun v => some (v, S)) ((cFunc E f).f r.1 r.2 args S), yieldF E r.1 r.2)) n
def callX (E : Env) (g : FuncId) (s : List Value → Option Value) (n : Nat) : CallF := (bothX E g s n).1
theorem bothX_ok {E : Env} (hE : EnvOk E) (hN : NmOk E) (hm : E.P.follows .mixedOrders = true) {g : FuncId} {s : List Value → Option Value} (hs : SumOk E.P g s) :
    ∀ n, KOk E (bothX E g s n).1 ∧ YOk E (bothX E g s n).2 ∧ KGe (bothX E g s n).1 ∧ YGe (bothX E g s n).2
  | 0 => by
    refine ⟨?_, ?_, ?_, ?_⟩ <;> (intro a b S q h; cases h)
  | n + 1 => by
    obtain ⟨h1, h2, h3, h4⟩ := bothX_ok hE hN hm hs n
    have hq : ∀ {f args S q}, (bothX E g s (n + 1)).1 f args S = some q → (f = g ∧ ∃ v, s args = some v ∧ q = (v, S)) ∨ (cFunc E f).f (bothX E g s n).1 (bothX E g s n).2 args S = some q := fun {f args S q} h => by
      have h : cond (Nat.beq f g) (ob (s args) fun v => some (v, S)) ((cFunc E f).f (bothX E g s n).1 (bothX E g s n).2 args S) = some q := h
      cases hb : Nat.beq f g <;> rw [hb] at h
      · exact .inr h
      · obtain ⟨v, k1, k2⟩ := ob_some.1 h
        cases k2
        exact .inl ⟨Nat.eq_of_beq_eq_true hb, v, k1, rfl⟩
    refine ⟨fun f a S q h => ?_, fun l a S q h => (yield_all hE hN h1 h2 h3 h4 hm (show yieldF E (bothX E g s n).1 (bothX E g s n).2 l a S = some q from h)).2,
      fun f a S q h => ?_, fun l a S q h => (yield_all hE hN h1 h2 h3 h4 hm (show yieldF E (bothX E g s n).1 (bothX E g s n).2 l a S = some q from h)).1⟩
    · rcases hq h with ⟨rfl, v, k1, rfl⟩ | h
      · intro B ρ V w args' hG ha hf hwf hB n
        have he : args' = a.toArray := by
          apply Array.ext'
          simpa using (VRL_flat 8 _ _ (hs.flat _ _ k1).1).1 ha
        subst he
        refine CallsIn.mono (callsIn_wide.2 (hs.calls _ _ k1 w)) ?_
        rintro e w' ⟨rfl, rfl⟩
        exact ⟨v, ρ, rfl, flat_VR (hs.flat _ _ k1).2, hG, Nx.refl _ _ _ _⟩
      · exact (func_all hE hN h1 h2 h3 h4 hm h).2
    · rcases hq h with ⟨rfl, v, k1, rfl⟩ | h
      · exact .refl _
      · exact (func_all hE hN h1 h2 h3 h4 hm h).1
theorem callX_calls {P : Program} (hN : nmOk P = true) (hm : P.follows .mixedOrders = true) {g : FuncId} {s : List Value → Option Value} (hs : SumOk P g s) {n : Nat} {f : FuncId} {v : Value} {S : St} (hv : flat v = true)
    (h : callX (envOf P) g s n f [] St0 = some (v, S)) (w : World) : Calls P f #[] w fun e w' => e = .returned v ∧ Below w.heap.size w w' := by
  obtain ⟨hK, _, _, _⟩ := bothX_ok (envOf_ok P) (envOf_nm hN) hm hs n
  have := hK f [] St0 (v, S) h w.heap.size (fun _ => none) (fun _ => none) w #[] (G_none P _ w) rfl (fun _ _ _ => rfl) (fun r _ => rdO_St0 r) (Nat.le_refl _) 0
  refine Calls.mono (callsIn_wide.1 this) ?_
  rintro e w' ⟨v', ρ', rfl, h1, h2, h3⟩
  rw [(VR_flat 8 v v' hv).1 h1]
  exact ⟨rfl, h3.bel⟩
/-- It answers true. -/
def isTrue : Option (Value × St) → Bool
  | some (.bool b, _) => b
  | _ => false
theorem isTrue_some {x : Option (Value × St)} (h : isTrue x = true) : ∃ S, x = some (.bool true, S) := by
  unfold isTrue at h
  split at h
  · rename_i b S
    subst h
    exact ⟨S, rfl⟩
  · cases h
end Go.Proofs.YtemldmjpanmdbaaGreatDoor.Ev
