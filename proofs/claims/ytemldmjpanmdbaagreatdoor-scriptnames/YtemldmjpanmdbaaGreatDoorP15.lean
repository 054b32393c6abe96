import Derived.Test.YtemldmjpanmdbaaGreatDoorP14
set_option linter.unusedVariables false
namespace Go.Proofs.YtemldmjpanmdbaaGreatDoor.Ev
open Go.RowKit
/-- The widest fence, within a round or not. -/
abbrev Fw (rd : Option Nat) : Fence := { Fence.wide with round := rd }
/-- Nothing lies at a number that is not given out. -/
def Wf (S : St) : Prop := ∀ r, S.nx ≤ r → rdO S r = none
/-- A call has come back with what the reckoner says. -/
def RetR (E : Env) (B : Nat) (ρ : Ren) (S : St) (V : Hp) (w : World) (q : Value × St) : Ending → World → Prop :=
  fun e w' => ∃ v' ρ', e = .returned v' ∧ VR E.P ρ' q.1 v' ∧ GS E.P B ρ' q.2 V w' ∧ Nx B ρ ρ' S.nx q.2.nx w w'
def KOk (E : Env) (K : CallF) : Prop := ∀ f args S q, K f args S = some q → ∀ B ρ V w (args' : Array Value), GS E.P B ρ S V w → VRL E.P ρ args args'.toList → Fsh ρ S.nx q.2.nx → Wf S → B ≤ w.heap.size →
  ∀ n, CallsIn Fence.wide n E.P f args' w (RetR E B ρ S V w q)
def YOk (E : Env) (Y : YieldF) : Prop := ∀ l args S q, Y l args S = some q → ∀ B ρ V w (args' : Array Value) p, GS E.P B ρ S V w → VRL E.P ρ args args'.toList → Fsh ρ S.nx q.2.nx → Wf S → B ≤ w.heap.size → ρ l = some p →
  ∀ n, ∃ f tmps as bd, (Instr.yield p.b args').run E.P w = .ok (.round p.b f tmps as bd) w ∧ RoundIn Fence.wide n E.P p.b f tmps as bd w (RetR E B ρ S V w q)
/-- No function is called so. -/
def NmOk (E : Env) : Prop := ∀ (f : FuncId) (g : Func), E.P.funcs[f]? = some g → g.body.isSome → (g.name == "runtime.NumGoroutine") = false
section
variable {E : Env} {ρ ρ' : Ren} {B : Nat} {w w' : World} {S S' : St} {V : Hp} {K : CallF} {Y : YieldF} {n : Nat} {rd : Option Nat}
theorem callsIn_fw {f : FuncId} {args : Array Value} {R : Ending → World → Prop} {P : Program} (h : CallsIn Fence.wide n P f args w R) : CallsIn (Fw rd) n P f args w R := h
theorem roundIn_fw {l : Nat} {f : FuncId} {tmps : Array Value} {as bd : Code} {R : Ending → World → Prop} {P : Program} (h : RoundIn Fence.wide n P l f tmps as bd w R) : RoundIn (Fw rd) n P l f tmps as bd w R := h
/-- A call of a function by its number. -/
theorem funcCall_wp (hE : EnvOk E) (hN : NmOk E) (hK : KOk E K) {f : FuncId} {args : List Value} {args' : Array Value} {q : Value × St} {o : Oper} {a : Act} {K' : Act → World → Prop} {Q : Exit → Act → World → Prop}
    (hq : (cFuncCall E f).f K args S = some q) (h : GS E.P B ρ S V w) (ha : VRL E.P ρ args args'.toList) (hf : Fsh ρ S.nx q.2.nx) (hwf : Wf S) (hB : B ≤ w.heap.size)
    (hk : ∀ ρ' w' v', VR E.P ρ' q.1 v' → GS E.P B ρ' q.2 V w' → Nx B ρ ρ' S.nx q.2.nx w w' → K' (a.put o.dst v') w') :
    o.uponIn (Fw rd) n E.P a K' Q ((callFunc f args').run E.P w) := by
  unfold cFuncCall at hq
  split at hq
  · rename_i fn hfn
    obtain ⟨h1, h2⟩ := cond_some.1 hfn
    have hP := hE.fn f fn (blt_iff.1 h1) h2
    split at hq
    · rename_i c hc
      have hr : (callFunc f args').run E.P w = .ok (.enter f args') w := by
        have := hN f fn hP (by rw [hc]; rfl)
        have this : fn.name ≠ "runtime.NumGoroutine" := by simpa using this
        simp [callFunc, program, Sem.run, hP, this, hc]
      rw [hr, Oper.uponIn_enter]
      refine ⟨by simp [Fence.wide], CallsIn.mono (callsIn_fw (hK f args S q hq B ρ V w args' h ha hf hwf hB _)) ?_⟩
      rintro e w' ⟨v', ρ', rfl, h3, h4, h5⟩
      exact hk _ _ _ h3 h4 h5
    · obtain ⟨h3, hq⟩ := iff_some.1 (show iff' (args.all flat) _ = some q from hq)
      obtain ⟨x, h4, hq⟩ := ob_some.1 hq
      have he := (VRL_flat 8 _ _ h3).1 ha
      have he : args' = args.toArray := by apply Array.ext'; simpa using he
      subst he
      cases x with
      | value v =>
        obtain ⟨h5, hq⟩ := iff_some.1 hq
        cases hq
        rw [pureOf_run (w := w) _ _ h4, Oper.uponIn_value]
        exact hk ρ w v (flat_VR h5) h (Nx.refl _ _ _ _)
      | _ => cases hq
  · cases hq
theorem oper_wp (hE : EnvOk E) (hN : NmOk E) (hK : KOk E K) (hY : YOk E Y) {o : Oper} {τ : Tmps} {a : Act} {q : Value × St} {K' : Act → World → Prop} {Q : Exit → Act → World → Prop}
    (hq : (cOper E o).f K Y τ S = some q) (h : GS E.P B ρ S V w) (ht : TRel E.P ρ τ a) (hf : Fsh ρ S.nx q.2.nx) (hwf : Wf S) (hB : B ≤ w.heap.size)
    (hk : ∀ ρ' w' v', VR E.P ρ' q.1 v' → GS E.P B ρ' q.2 V w' → Nx B ρ ρ' S.nx q.2.nx w w' → K' (a.put o.dst v') w') :
    o.wpIn (Fw rd) n E.P a w K' Q := by
  have hd : ∀ c, o.op ≠ .defer c := by
    intro c hc
    obtain ⟨dst, op, type, pos, after, guard⟩ := o
    cases hc
    cases hq
  refine ⟨fun _ _ => trivial, ?_⟩
  rw [Oper.semAt_eq _ _ _ hd]
  by_cases hc : ∀ c, o.op = .call c → ∃ b, c.callee = .builtin b
  · obtain ⟨ρ', w', x, h1, h2, h3, h4⟩ := oper_spec hE hq h ht (fun hlt => hf _ (Nat.le_refl _) hlt) hB hc
    rw [h1]
    rcases h2 with ⟨v', rfl, h2⟩ | ⟨rfl, h2⟩
    · exact hk _ _ _ h2 h3 h4
    · exact hk _ _ _ (by rw [h2]; exact flat_VR rfl) h3 h4
  · obtain ⟨dst, op, type, pos, after, guard⟩ := o
    have hc : ∃ c, op = .call c ∧ ∀ b, c.callee ≠ .builtin b := by
      have ⟨c, hc⟩ := Classical.not_forall.1 hc
      have ⟨h1, h2⟩ := Classical.not_imp.1 hc
      exact ⟨c, h1, fun b hb => h2 ⟨b, hb⟩⟩
    obtain ⟨c, rfl, hcb⟩ := hc
    have hq : (cCall E c type).f K Y τ S = some q := hq
    obtain ⟨callee, cargs, cts⟩ := c
    have hargs : ∀ {l : List Value}, (opds E cargs.toList).f τ = some l → VRL E.P ρ l (cargs.map a.eval).toList := fun hl => by
      simpa using opds_spec ht hl
    cases callee with
    | builtin b => exact absurd rfl (hcb b)
    | invoke r m => cases hq
    | value x =>
      have viaV : ∀ {fv : Value} {l : List Value}, VR E.P ρ fv (a.eval x) → (opds E cargs.toList).f τ = some l →
          (match fv with
            | .func (.func f) first captured => (cFuncCall E f).f K (first.toList ++ l ++ captured.toList) S
            | .func (.yield y) #[] #[] => Y y l S
            | _ => none) = some q → Oper.uponIn (Fw rd) n E.P { dst := dst, op := .call { callee := .value x, args := cargs, argTypes := cts }, type := type, pos := pos, after := after, guard := guard } a K' Q
              ((execOp a.eval { dst := dst, op := .call { callee := .value x, args := cargs, argTypes := cts }, type := type, pos := pos, after := after, guard := guard }).run E.P w) := by
        intro fv l h1 h2 h3
        match fv, h1, h3 with
        | .func (.func f) first captured, h1, h3 =>
          simp only [VR] at h1
          obtain ⟨f', c', he, g1, g2⟩ := h1
          have : (execOp a.eval { dst := dst, op := .call { callee := .value x, args := cargs, argTypes := cts }, type := type, pos := pos, after := after, guard := guard }).run E.P w = (callFunc f (f' ++ cargs.map a.eval ++ c')).run E.P w := by
            simp [execOp, resolve, he, Deferred.ofValue, invoke]
          rw [this]
          refine funcCall_wp hE hN hK h3 h ?_ hf hwf hB hk
          simp only [Array.toList_append]
          exact VRL_append (VRL_append (VRA_iff.1 g1) (hargs h2)) (VRA_iff.1 g2)
        | .func (.yield y) fi ca, h1, h3 =>
          have h3 : Y y l S = some q := by
            revert h3
            obtain ⟨fi⟩ := fi
            obtain ⟨ca⟩ := ca
            cases fi <;> cases ca <;> intro h3 <;> first | exact h3 | cases h3
          simp only [VR] at h1
          obtain ⟨_, _, p, hp, he⟩ := h1
          obtain ⟨f, tm, as, bd, r1, r2⟩ := hY y l S q h3 B ρ V w (cargs.map a.eval) p h (hargs h2) hf hwf hB hp (n - 1)
          have : (execOp a.eval { dst := dst, op := .call { callee := .value x, args := cargs, argTypes := cts }, type := type, pos := pos, after := after, guard := guard }).run E.P w = (Instr.yield p.b (cargs.map a.eval)).run E.P w := by
            simp [execOp, resolve, he, Deferred.ofValue, invoke]
          rw [this, r1, Oper.uponIn_round]
          refine ⟨by simp [Fence.wide], RoundIn.mono (roundIn_fw r2) ?_⟩
          rintro e w' ⟨v', ρ', rfl, h3, h4, h5⟩
          exact hk _ _ _ h3 h4 h5
      by_cases hx : ∃ f, x = .func f
      · obtain ⟨f, rfl⟩ := hx
        obtain ⟨l, h1, hq⟩ := ob_some.1 (show ob ((opds E cargs.toList).f τ) _ = some q from hq)
        refine viaV (fv := .func (.func f) #[] #[]) (opd_spec (x := .func f) ht rfl) h1 ?_
        simpa using hq
      · have hq : ob ((opd E x).f τ) (fun v => ob ((opds E cargs.toList).f τ) fun l => match v with
            | .func (.func f) first captured => (cFuncCall E f).f K (first.toList ++ l ++ captured.toList) S
            | .func (.yield y) #[] #[] => Y y l S
            | _ => none) = some q := by
          cases x with
          | func f => exact absurd ⟨f, rfl⟩ hx
          | _ => exact hq
        obtain ⟨v, h1, hq⟩ := ob_some.1 hq
        obtain ⟨l, h2, hq⟩ := ob_some.1 hq
        exact viaV (opd_spec ht h1) h2 hq
end
end Go.Proofs.YtemldmjpanmdbaaGreatDoor.Ev
