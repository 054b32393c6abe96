import Derived.Test.YtemldmjpanmdbaaGreatDoorP38
set_option linter.unusedVariables false
namespace Go.Proofs.YtemldmjpanmdbaaGreatDoor.Ev
open Go.RowKit
theorem both_ok {E : Env} (hE : EnvOk E) (hN : NmOk E) (hm : E.P.follows .mixedOrders = true) : ∀ n, KOk E (both E n).1 ∧ YOk E (both E n).2 ∧ KGe (both E n).1 ∧ YGe (both E n).2
  | 0 => by
    refine ⟨?_, ?_, ?_, ?_⟩ <;> (intro a b S q h; cases h)
  | n + 1 => by
    obtain ⟨h1, h2, h3, h4⟩ := both_ok hE hN hm n
    refine ⟨fun f a S q h => (func_all hE hN h1 h2 h3 h4 hm (show (cFunc E f).f (both E n).1 (both E n).2 a S = some q from h)).2, fun l a S q h => (yield_all hE hN h1 h2 h3 h4 hm (show yieldF E (both E n).1 (both E n).2 l a S = some q from h)).2,
      fun f a S q h => (func_all hE hN h1 h2 h3 h4 hm (show (cFunc E f).f (both E n).1 (both E n).2 a S = some q from h)).1, fun l a S q h => (yield_all hE hN h1 h2 h3 h4 hm (show yieldF E (both E n).1 (both E n).2 l a S = some q from h)).1⟩
/-- The program, made ready. -/
abbrev envOf (P : Program) : Env := ⟨P, mkTy P, mkFn P⟩
theorem info_of {P : Program} {t : TypeId} {i : TypeInfo} (h : P.types[t]? = some i) : P.info? t = some i := by
  have : t < P.types.size := by
    rcases Nat.lt_or_ge t P.types.size with h' | h'
    · exact h'
    · rw [Array.getElem?_eq_none h'] at h; cases h
  show Tables.info? P.toTables t = some i
  unfold Tables.info?
  rw [if_pos this]; exact h
theorem envOf_ok (P : Program) : EnvOk (envOf P) := by
  refine ⟨fun t d h => ?_, fun f g hf h => ?_⟩
  · obtain ⟨ht, h⟩ := cond_some.1 (show cond (Nat.blt t 512) (Tr.get 9 (mkTy P) t) none = some d from h)
    have ht := blt_iff.1 ht
    unfold mkTy at h
    rw [Tr.get_ofF _ 9 0 t ht, Nat.zero_add] at h
    obtain ⟨i, h1, h⟩ := ob_some.1 (show ob (Tr.get 9 (Tr.ofL 9 P.types.toList) t) _ = some d from h)
    obtain ⟨de, h2, h⟩ := ob_some.1 h
    rw [Tr.get_ofL 9 _ t ht] at h1
    have h1 : P.types[t]? = some i := by simpa using h1
    cases h
    refine ⟨i, info_of h1, ?_, rfl, rfl, fun z hz => ?_⟩
    · unfold Program.underlying
      rw [info_of h1]
      cases hd : i.desc with
      | named nm u =>
        rw [hd] at h2
        obtain ⟨hu, h2⟩ := cond_some.1 h2
        obtain ⟨j, h3, h2⟩ := ob_some.1 h2
        rw [Tr.get_ofL 9 _ u (blt_iff.1 hu)] at h3
        have h3 : P.types[u]? = some j := by simpa using h3
        cases h2
        obtain ⟨ds, st, sz, bt, hp, al, fal, zr⟩ := i
        simp only at hd
        subst hd
        simp [info_of h3]
      | _ =>
        rw [hd] at h2
        cases h2
        obtain ⟨ds, st, sz, bt, hp, al, fal, zr⟩ := i
        simp only at hd
        subst hd
        rfl
    · dsimp only at hz
      cases hzr : i.zero with
      | none => rw [hzr] at hz; cases hz
      | some z' =>
        rw [hzr] at hz
        obtain ⟨h3, h4⟩ := cond_some.1 hz
        cases h4
        exact ⟨rfl, h3⟩
  · have h : Tr.get 9 (Tr.ofL 9 P.funcs.toList) f = some g := h
    rw [Tr.get_ofL 9 _ f hf] at h
    simpa using h
/-- No function is called so: by a look at all names. -/
def nmOk (P : Program) : Bool := P.funcs.toList.all fun g => !(g.body.isSome) || !(g.name == "runtime.NumGoroutine")
theorem envOf_nm {P : Program} (h : nmOk P = true) : NmOk (envOf P) := fun f g hf hb => by
  unfold nmOk at h
  rw [List.all_eq_true] at h
  have := h g (by
    have : P.funcs.toList[f]? = some g := by simpa using hf
    exact List.mem_of_getElem? this)
  simpa [hb] using this
/-- From nothing on. -/
def St0 : St := { h := Tr.emp HD, nx := 0 }
theorem rdO_St0 (r : Nat) : rdO St0 r = none := by
  rw [rdO_eq]
  show (if r < 4096 then Tr.get HD (Tr.emp HD) r else none) = none
  rw [Tr.get_emp]; simp
theorem G_none (P : Program) (B : Nat) (w : World) : GS P B (fun _ => none) St0 (fun _ => none) w := by
  have h0 : ∀ r o, ov (rdO St0) (fun _ => none) r = some o → False := fun r o h => by simp [ov, rdO_St0] at h
  exact ⟨fun r o h => (h0 r o h).elim, fun r p h => (nomatch (show (none : Option Pl) = some p from h)), fun r r' o o' p p' _ h => (h0 r o h).elim⟩
/-- What the reckoner says of a call without arguments: it is so in every world, and what is there stays. -/
theorem callN_calls {P : Program} (hN : nmOk P = true) (hm : P.follows .mixedOrders = true) {n : Nat} {f : FuncId} {v : Value} {S : St} (hv : flat v = true) (h : callN (envOf P) n f [] St0 = some (v, S)) (w : World) :
    Calls P f #[] w fun e w' => e = .returned v ∧ Below w.heap.size w w' := by
  obtain ⟨hK, _, _, _⟩ := both_ok (envOf_ok P) (envOf_nm hN) hm n
  have := hK f [] St0 (v, S) h w.heap.size (fun _ => none) (fun _ => none) w #[] (G_none P _ w) rfl (fun _ _ _ => rfl) (fun r _ => rdO_St0 r) (Nat.le_refl _) 0
  refine Calls.mono (callsIn_wide.1 this) ?_
  rintro e w' ⟨v', ρ', rfl, h1, h2, h3⟩
  rw [(VR_flat 8 v v' hv).1 h1]
  exact ⟨rfl, h3.bel⟩
end Go.Proofs.YtemldmjpanmdbaaGreatDoor.Ev
