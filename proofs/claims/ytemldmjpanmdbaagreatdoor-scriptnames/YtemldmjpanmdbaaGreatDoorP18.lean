import Derived.Test.YtemldmjpanmdbaaGreatDoorP17
set_option linter.unusedVariables false
namespace Go.Proofs.YtemldmjpanmdbaaGreatDoor.Ev
open Go.RowKit
section
variable {E : Env} {S S' : St} {K : CallF} {Y : YieldF}
theorem funcCall_ge (hK : KGe K) {f : FuncId} {args : List Value} {q : Value × St} (hq : (cFuncCall E f).f K args S = some q) : Ge S q.2 := by
  unfold cFuncCall at hq
  split at hq
  · split at hq
    · exact hK _ _ _ _ hq
    · obtain ⟨_, hq⟩ := iff_some.1 (show iff' (args.all flat) _ = some q from hq)
      obtain ⟨x, _, hq⟩ := ob_some.1 hq
      cases x with
      | value v => obtain ⟨_, hq⟩ := iff_some.1 hq; cases hq; exact .refl _
      | _ => cases hq
  · cases hq
theorem call_ge (hK : KGe K) (hY : YGe Y) {c : Call} {t : TypeId} {τ : Tmps} {q : Value × St} (hq : (cCall E c t).f K Y τ S = some q) : Ge S q.2 := by
  unfold cCall at hq
  split at hq
  · exact (builtin_ge hq).1
  · obtain ⟨l, _, hq⟩ := ob_some.1 (show ob ((opds E c.args.toList).f τ) _ = some q from hq)
    exact funcCall_ge hK hq
  · rename_i x _ _
    obtain ⟨v, _, hq⟩ := ob_some.1 (show ob ((opd E x).f τ) _ = some q from hq)
    obtain ⟨l, _, hq⟩ := ob_some.1 hq
    match v, hq with
    | .func (.func f) fi ca, hq => exact funcCall_ge hK hq
    | .func (.yield y) fi ca, hq =>
      have hq : Y y l S = some q := by
        revert hq
        obtain ⟨fi⟩ := fi
        obtain ⟨ca⟩ := ca
        cases fi <;> cases ca <;> intro hq <;> first | exact hq | cases hq
      exact hY _ _ _ _ hq
  · cases hq
/-- Every operation: nothing goes away; and what neither makes nor does anything leaves all as it is. -/
theorem oper_ge (hK : KGe K) (hY : YGe Y) {o : Oper} {τ : Tmps} {q : Value × St} (hq : (cOper E o).f K Y τ S = some q) : Ge S q.2 ∧ (isMaker o = false → isEff o = false → q.2 = S) := by
  obtain ⟨dst, op, type, pos, after, guard⟩ := o
  have sm : q.2 = S → Ge S q.2 ∧ (isMaker ⟨dst, op, type, pos, after, guard⟩ = false → isEff ⟨dst, op, type, pos, after, guard⟩ = false → q.2 = S) := fun h => ⟨by rw [h]; exact .refl _, fun _ _ => h⟩
  cases op with
  | move x => obtain ⟨u, _, rfl⟩ := val_some (show val ((opd E x).f τ) S = some q from hq); exact sm rfl
  | assign x => obtain ⟨u, _, rfl⟩ := val_some (show val ((opd E x).f τ) S = some q from hq); exact sm rfl
  | pick c x y =>
    obtain ⟨u, h1, hq⟩ := ob_some.1 (show ob ((opd E c).f τ) _ = some q from hq)
    cases u with
    | bool t =>
      cases t
      · obtain ⟨u, h2, rfl⟩ := val_some (show val ((opd E y).f τ) S = some q from hq); exact sm rfl
      · obtain ⟨u, h2, rfl⟩ := val_some (show val ((opd E x).f τ) S = some q from hq); exact sm rfl
    | _ => cases hq
  | alloc t =>
    refine ⟨?_, fun h => by cases h⟩
    simp only [cOper] at hq
    split at hq
    · obtain ⟨p, h1, hq⟩ := ob_some.1 hq; cases hq; exact newRow_ge h1
    · cases hq
  | box t x =>
    refine ⟨?_, fun h => by cases h⟩
    obtain ⟨z, h0, hq⟩ := ob_some.1 (show ob ((opd E x).f τ) _ = some q from hq)
    obtain ⟨p, h1, hq⟩ := ob_some.1 hq
    cases hq
    exact newRow_ge h1
  | build t ps => exact sm (build_same hq)
  | buildSlice t n ps => exact ⟨buildSlice_ge hq, fun h => by cases h⟩
  | load t x => exact sm (load_ge hq)
  | store t x y => exact ⟨store_ge hq, fun _ h => by cases h⟩
  | nilCheck x =>
    obtain ⟨v, h0, hq⟩ := ob_some.1 (show ob ((opd E x).f τ) _ = some q from hq)
    split at hq <;> first | (cases hq; exact sm rfl) | cases hq
  | binOp op t x y yt =>
    obtain ⟨u, h1, hq⟩ := ob_some.1 (show ob ((opd E x).f τ) _ = some q from hq)
    obtain ⟨v, h2, hq⟩ := ob_some.1 hq
    obtain ⟨r, h3, hq⟩ := ob_some.1 hq
    cases hq
    exact sm rfl
  | unOp op t x =>
    obtain ⟨u, h1, hq⟩ := ob_some.1 (show ob ((opd E x).f τ) _ = some q from hq)
    obtain ⟨h2, hq⟩ := iff_some.1 hq
    obtain ⟨v, h3, hq⟩ := ob_some.1 hq
    obtain ⟨h4, hq⟩ := iff_some.1 hq
    cases hq
    exact sm rfl
  | convert s d x =>
    simp only [cOper] at hq
    split at hq
    · obtain ⟨u, h1, hq⟩ := ob_some.1 hq
      obtain ⟨v, h2, hq⟩ := ob_some.1 hq
      cases hq
      exact sm rfl
    · cases hq
  | makeFunc fn first captured =>
    cases fn with
    | func f =>
      obtain ⟨x, h1, hq⟩ := ob_some.1 (show ob ((opds E first.toList).f τ) _ = some q from hq)
      obtain ⟨y, h2, hq⟩ := ob_some.1 hq
      cases hq
      exact sm rfl
    | _ => cases hq
  | makeMap t r =>
    refine ⟨?_, fun h => by cases h⟩
    cases r with
    | none =>
      obtain ⟨p, h1, hq⟩ := ob_some.1 (show ob (newO S (.inr (.map #[] 0))) _ = some q from hq)
      cases hq
      exact newO_ge h1
    | some r => cases hq
  | makeSlice t l c =>
    refine ⟨?_, fun h => by cases h⟩
    simp only [cOper] at hq
    split at hq
    · split at hq
      · rename_i u0 size z bytes hde
        cases hc : (Nat.beq z.cells.size size && Nat.blt 0 size) <;> rw [hc] at hq
        · cases hq
        · obtain ⟨lv, h1, hq⟩ := ob_some.1 hq
          obtain ⟨ln, h2, hq⟩ := ob_some.1 hq
          obtain ⟨cv, h3, hq⟩ := ob_some.1 hq
          obtain ⟨cn, h4, hq⟩ := ob_some.1 hq
          obtain ⟨h5, hq⟩ := iff_some.1 hq
          obtain ⟨p, h6, hq⟩ := ob_some.1 hq
          cases hq
          exact newRow_ge h6
      · cases hq
    · cases hq
  | slice t x lo hi mx => exact sm (slice_same hq)
  | fieldAddr s x f =>
    simp only [cOper] at hq
    split at hq
    · split at hq
      · split at hq
        · rename_i d hdf
          cases hc : Nat.blt 0 d.size <;> rw [hc] at hq
          · cases hq
          · obtain ⟨u, h1, hq⟩ := ob_some.1 hq
            obtain ⟨ad, h2, hq⟩ := ob_some.1 hq
            cases hq
            exact sm rfl
        · cases hq
      · cases hq
    · cases hq
  | field t x f =>
    simp only [cOper] at hq
    split at hq
    · split at hq
      · split at hq
        · obtain ⟨u, h1, hq⟩ := ob_some.1 hq
          cases u with
          | agg cs => obtain ⟨v, h2, rfl⟩ := val_some hq; exact sm rfl
          | _ => cases hq
        · cases hq
      · cases hq
    · cases hq
  | indexAddr t x i =>
    simp only [cOper] at hq
    split at hq
    · split at hq
      · obtain ⟨u, h1, hq⟩ := ob_some.1 hq
        obtain ⟨ad, h2, hq⟩ := ob_some.1 hq
        obtain ⟨iv, h3, hq⟩ := ob_some.1 hq
        obtain ⟨n, h4, hq⟩ := ob_some.1 hq
        obtain ⟨h5, hq⟩ := iff_some.1 hq
        cases hq
        exact sm rfl
      · cases hq
    · split at hq
      · obtain ⟨u, h1, hq⟩ := ob_some.1 hq
        obtain ⟨iv, h3, hq⟩ := ob_some.1 hq
        obtain ⟨n, h4, hq⟩ := ob_some.1 hq
        split at hq
        · obtain ⟨h5, hq⟩ := iff_some.1 hq
          cases hq
          exact sm rfl
        · cases hq
      · cases hq
    · cases hq
  | index t x i =>
    simp only [cOper] at hq
    split at hq
    · split at hq
      · obtain ⟨u, h1, hq⟩ := ob_some.1 hq
        obtain ⟨iv, h3, hq⟩ := ob_some.1 hq
        obtain ⟨n, h4, hq⟩ := ob_some.1 hq
        cases u with
        | agg cs =>
          obtain ⟨h5, hq⟩ := iff_some.1 hq
          obtain ⟨v, h2, rfl⟩ := val_some hq
          exact sm rfl
        | _ => cases hq
      · cases hq
    · cases hq
  | lookup t x k ok =>
    simp only [cOper] at hq
    split at hq
    · split at hq
      · obtain ⟨xv, h1, hq⟩ := ob_some.1 hq
        obtain ⟨kv, h2, hq⟩ := ob_some.1 hq
        obtain ⟨m, h3, hq⟩ := ob_some.1 hq
        obtain ⟨f, h4, hq⟩ := ob_some.1 hq
        cases f with
        | none => cases hq; exact sm rfl
        | some f => cases hq; exact sm rfl
      · cases hq
    · cases hq
  | mapUpdate t m k x =>
    refine ⟨?_, fun _ h => by cases h⟩
    simp only [cOper] at hq
    split at hq
    · obtain ⟨mv, h1, hq⟩ := ob_some.1 hq
      obtain ⟨kv, h2, hq⟩ := ob_some.1 hq
      obtain ⟨xv, h3, hq⟩ := ob_some.1 hq
      split at hq
      · obtain ⟨ms, h4, hq⟩ := ob_some.1 hq
        obtain ⟨f, h5, hq⟩ := ob_some.1 hq
        cases f with
        | some f => cases hq
        | none =>
          cases hq
          obtain ⟨o, h6, _⟩ := ob_some.1 h4
          exact putO_ge h6
      · cases hq
    · cases hq
  | range t x =>
    refine ⟨?_, fun _ h => by cases h⟩
    simp only [cOper] at hq
    split at hq
    · obtain ⟨xv, h1, hq⟩ := ob_some.1 hq
      split at hq
      · obtain ⟨p, h2, hq⟩ := ob_some.1 hq
        cases hq
        exact newO_ge h2
      · obtain ⟨ms, h4, hq⟩ := ob_some.1 hq
        obtain ⟨p, h2, hq⟩ := ob_some.1 hq
        cases hq
        exact newO_ge h2
      · cases hq
    · cases hq
  | next it isS =>
    refine ⟨?_, fun _ h => by cases h⟩
    cases isS with
    | true => cases hq
    | false =>
      obtain ⟨iv, h1, hq⟩ := ob_some.1 (show ob ((opd E it).f τ) _ = some q from hq)
      obtain ⟨ad, h2, hq⟩ := ob_some.1 hq
      obtain ⟨h3, hq⟩ := iff_some.1 hq
      obtain ⟨o, h4, hq⟩ := ob_some.1 hq
      split at hq
      · cases hq; exact .refl _
      · obtain ⟨ms, h5, hq⟩ := ob_some.1 hq
        obtain ⟨h6, hq⟩ := iff_some.1 hq
        cases hq; exact .refl _
      · cases hq
  | extract t i =>
    obtain ⟨u, h1, hq⟩ := ob_some.1 (show ob ((opd E t).f τ) _ = some q from hq)
    cases u with
    | tuple vs => obtain ⟨v, h2, rfl⟩ := val_some hq; exact sm rfl
    | _ => cases hq
  | call c =>
    have hq : (cCall E c type).f K Y τ S = some q := hq
    refine ⟨call_ge hK hY hq, fun _ he => ?_⟩
    obtain ⟨callee, cargs, cts⟩ := c
    cases callee with
    | builtin b =>
      have hb : okB b = true := by simpa [isEff] using he
      exact (builtin_ge (show (cBuiltin E b cts type _ (opds E cargs.toList)).f τ S = some q from hq)).2 hb
    | _ => cases he
  | _ => cases hq
end
end Go.Proofs.YtemldmjpanmdbaaGreatDoor.Ev
