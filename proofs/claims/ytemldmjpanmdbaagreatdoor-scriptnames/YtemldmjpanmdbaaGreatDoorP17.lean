import Derived.Test.YtemldmjpanmdbaaGreatDoorP16
set_option linter.unusedVariables false
namespace Go.Proofs.YtemldmjpanmdbaaGreatDoor.Ev
open Go.RowKit
section
variable {E : Env} {S S' : St} {K : CallF} {Y : YieldF}
theorem condN {γ : Type} {b : Bool} {g : Tmps → St → Option γ} {τ : Tmps} {S : St} {q : γ} (h : (cond b (Bx.mk fun _ _ => none) (Bx.mk g)).f τ S = some q) : g τ S = some q := by
  cases b
  · exact h
  · cases h
theorem slice_same {t : TypeId} {x : Arg Value} {lo hi mx : Arg (Option Value)} {τ : Tmps} {q : Value × St} (hq : (cSlice E t x lo hi mx).f τ S = some q) : q.2 = S := by
  unfold cSlice at hq
  repeat' split at hq
  · obtain ⟨xv, _, hq⟩ := ob_some.1 (show ob (x.f τ) _ = some q from hq)
    obtain ⟨_, _, hq⟩ := ob_some.1 hq
    obtain ⟨_, _, hq⟩ := ob_some.1 hq
    obtain ⟨_, _, hq⟩ := ob_some.1 hq
    obtain ⟨_, hq⟩ := iff_some.1 hq
    match xv, hq with
    | .slice a len cap, hq =>
      obtain ⟨_, _, hq⟩ := ob_some.1 hq
      obtain ⟨_, _, hq⟩ := ob_some.1 hq
      obtain ⟨_, _, hq⟩ := ob_some.1 hq
      obtain ⟨_, hq⟩ := iff_some.1 hq
      cases a with
      | none => cases hq; rfl
      | some a => obtain ⟨u, _, rfl⟩ := val_some hq; rfl
  · cases hq
  · obtain ⟨xv, _, hq⟩ := ob_some.1 (show ob (x.f τ) _ = some q from hq)
    obtain ⟨_, _, hq⟩ := ob_some.1 hq
    obtain ⟨_, _, hq⟩ := ob_some.1 hq
    obtain ⟨_, _, hq⟩ := ob_some.1 hq
    obtain ⟨_, _, hq⟩ := ob_some.1 hq
    obtain ⟨_, hq⟩ := iff_some.1 hq
    obtain ⟨_, _, hq⟩ := ob_some.1 hq
    obtain ⟨_, _, hq⟩ := ob_some.1 hq
    obtain ⟨_, _, hq⟩ := ob_some.1 hq
    obtain ⟨_, hq⟩ := iff_some.1 hq
    cases hq; rfl
  all_goals cases hq
theorem append_ge {elem : TypeId} {size bytes : Nat} {s x : Value} {q : Value × St} (hq : aAppend E S elem size bytes s x = some q) : Ge S q.2 := by
  unfold aAppend at hq
  match s, hq with
  | .slice base sLen sCap, hq =>
    obtain ⟨n, _, hq⟩ := ob_some.1 hq
    obtain ⟨new, _, hq⟩ := ob_some.1 hq
    cases hc : Nat.ble (Nat.add sLen n) sCap
    · simp only [hc, cond_false] at hq
      obtain ⟨_, hq⟩ := iff_some.1 hq
      match base, hq with
      | none, hq =>
        obtain ⟨_, hq⟩ := iff_some.1 hq
        obtain ⟨p, h1, hq⟩ := ob_some.1 hq
        cases hq
        exact newRow_ge h1
      | some ⟨r, off, none⟩, hq =>
        obtain ⟨row, h1, hq⟩ := ob_some.1 hq
        obtain ⟨_, hq⟩ := iff_some.1 hq
        obtain ⟨row', _, hq⟩ := ob_some.1 hq
        obtain ⟨p, h2, hq⟩ := ob_some.1 hq
        cases hq
        exact newO_ge h2
      | some ⟨r, off, some 0⟩, hq =>
        obtain ⟨row, h1, hq⟩ := ob_some.1 hq
        obtain ⟨_, hq⟩ := iff_some.1 hq
        obtain ⟨row', _, hq⟩ := ob_some.1 hq
        obtain ⟨p, h2, hq⟩ := ob_some.1 hq
        cases hq
        exact (putO_ge (rdR_some.1 h1)).trans (newO_ge h2)
      | some ⟨r, off, some (k + 1)⟩, hq => cases hq
    · simp only [hc, cond_true] at hq
      match base, hq with
      | none, hq => cases hq; exact .refl _
      | some ⟨r, off, none⟩, hq =>
        obtain ⟨s, h1, hq⟩ := ob_some.1 hq
        cases hq
        exact wrCs_ge h1
      | some ⟨r, off, some 0⟩, hq =>
        obtain ⟨s, h1, hq⟩ := ob_some.1 hq
        cases hq
        exact wrCs_ge h1
      | some ⟨r, off, some (k + 1)⟩, hq =>
        obtain ⟨_, hq⟩ := iff_some.1 hq
        cases hq; exact .refl _
theorem copy_ge {size : Nat} {s x : Value} {q : Value × St} (hq : aCopy E S size s x = some q) : Ge S q.2 := by
  unfold aCopy at hq
  match s, hq with
  | .slice base sLen sCap, hq =>
    obtain ⟨n, _, hq⟩ := ob_some.1 hq
    obtain ⟨new, _, hq⟩ := ob_some.1 hq
    match base, hq with
    | none, hq => cases hq; exact .refl _
    | some ⟨r, off, none⟩, hq => obtain ⟨s, h1, hq⟩ := ob_some.1 hq; cases hq; exact wrCs_ge h1
    | some ⟨r, off, some 0⟩, hq => obtain ⟨s, h1, hq⟩ := ob_some.1 hq; cases hq; exact wrCs_ge h1
    | some ⟨r, off, some (k + 1)⟩, hq => cases hq
theorem otherB_same {b : Builtin} {ts : Array TypeId} {ty : TypeId} {cs : Array Bool} {args : Arg (List Value)} {τ : Tmps} {q : Value × St}
    (hq : (cond (okB b) (Bx.mk fun ρ S => ob (args.f ρ) fun l => cond (l.all flat) (ob (pureOf E.P (builtin b ts ty cs l.toArray)) fun x => match x with | .value v => iff' (flat v) (some (v, S)) | _ => none) (val (ivB b l) S)) (Bx.mk fun _ _ => none)).f τ S = some q) : q.2 = S := by
  obtain ⟨_, hq⟩ := condB hq
  obtain ⟨l, _, hq⟩ := ob_some.1 hq
  cases k1 : l.all flat <;> rw [k1] at hq
  · obtain ⟨v, h2, rfl⟩ := val_some hq; rfl
  · obtain ⟨x, _, hq⟩ := ob_some.1 (show ob _ _ = some q from hq)
    cases x with
    | value v => obtain ⟨_, hq⟩ := iff_some.1 hq; cases hq; rfl
    | _ => cases hq
theorem builtin_ge {b : Builtin} {ts : Array TypeId} {ty : TypeId} {cs : Array Bool} {args : Arg (List Value)} {τ : Tmps} {q : Value × St} (hq : (cBuiltin E b ts ty cs args).f τ S = some q) : Ge S q.2 ∧ (okB b = true → q.2 = S) := by
  unfold cBuiltin at hq
  split at hq
  · split at hq
    · obtain ⟨l, _, hq⟩ := ob_some.1 (condN hq)
      match l, hq with
      | [s, x], hq => exact ⟨append_ge hq, fun h => by cases h⟩
    · cases hq
  · split at hq
    · obtain ⟨l, _, hq⟩ := ob_some.1 (show ob (args.f τ) _ = some q from hq)
      match l, hq with
      | [s, x], hq => exact ⟨copy_ge hq, fun h => by cases h⟩
    · cases hq
  · refine ⟨?_, fun h => by cases h⟩
    split at hq
    · obtain ⟨_, hq⟩ := condB hq
      obtain ⟨l, _, hq⟩ := ob_some.1 hq
      split at hq
      · cases hq; exact .refl _
      · cases hq; exact .refl _
      · split at hq
        · cases hq
        · obtain ⟨s, h1, hq⟩ := ob_some.1 hq
          cases hq
          exact wrCs_ge h1
      · cases hq
    · cases hq
  · obtain ⟨l, _, hq⟩ := ob_some.1 (show ob (args.f τ) _ = some q from hq)
    split at hq
    · cases hq; exact ⟨.refl _, fun _ => rfl⟩
    · cases hq
  · obtain ⟨l, _, hq⟩ := ob_some.1 (show ob (args.f τ) _ = some q from hq)
    split at hq
    · obtain ⟨m, _, hq⟩ := ob_some.1 hq
      cases hq; exact ⟨.refl _, fun _ => rfl⟩
    · cases hq; exact ⟨.refl _, fun _ => rfl⟩
    · cases hq
  · have := otherB_same hq
    exact ⟨by rw [this]; exact .refl _, fun _ => this⟩
end
end Go.Proofs.YtemldmjpanmdbaaGreatDoor.Ev
