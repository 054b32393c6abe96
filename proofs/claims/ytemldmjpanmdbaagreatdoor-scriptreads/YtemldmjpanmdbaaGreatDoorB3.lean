/- The reckoner: calls; nothing goes away; one operation of a region. No walk. -/
import Derived.Test.YtemldmjpanmdbaaGreatDoorB2
import Derived.TacticsIn
set_option linter.unusedVariables false
namespace Go.Proofs.YtemldmjpanmdbaaGreatDoor.Ev
open Go.RowKit
/-- The widest fence, within a round or not. -/
abbrev Fw (rd : Option Nat) : Fence := { Fence.wide with round := rd }
/-- Nothing lies at a number that is not given out. -/
def Wf (S : St) : Prop := ∀ r, S.nx ≤ r → rdO S r = none
/-- A call has come back with what the reckoner says. -/
def RetR (E : Env) (B : Nat) (ρ : Ren) (S : St) (V : Hp) (w : World) (q : Value × St) : Ending → World → Prop :=
  fun e w' => ∃ v' ρ', e = .returned v' ∧ VR E.P ρ' q.1 v' ∧ GS E.P B ρ' q.2 V w' ∧ Nx B ρ ρ' S.nx q.2.nx w w'
def KOk (E : Env) (K : CallF) : Prop := ∀ f args S q, K f args S = some q → ∀ B ρ V w (args' : Array Value), GS E.P B ρ S V w → VRL E.P ρ args args'.toList → Fsh ρ S.nx q.2.nx → Wf S → B ≤ w.heap.size →
  ∀ n, CallsIn Fence.wide n E.P f args' w (RetR E B ρ S V w q)
def YOk (E : Env) (Y : YieldF) : Prop := ∀ l args S q, Y l args S = some q → ∀ B ρ V w (args' : Array Value) p, GS E.P B ρ S V w → VRL E.P ρ args args'.toList → Fsh ρ S.nx q.2.nx → Wf S → B ≤ w.heap.size → ρ l = some p →
  ∀ n, ∃ f tmps as bd, (Instr.yield p.b args').run E.P w = .ok (.round p.b f tmps as bd) w ∧ RoundIn Fence.wide n E.P p.b f tmps as bd w (RetR E B ρ S V w q)
/-- No function is called so. -/
def NmOk (E : Env) : Prop := ∀ (f : FuncId) (g : Func), E.P.funcs[f]? = some g → g.body.isSome → (g.name == "runtime.NumGoroutine") = false
section
variable {E : Env} {ρ ρ' : Ren} {B : Nat} {w w' : World} {S S' : St} {V : Hp} {K : CallF} {Y : YieldF} {n : Nat} {rd : Option Nat}
theorem callsIn_fw {f : FuncId} {args : Array Value} {R : Ending → World → Prop} {P : Program} (h : CallsIn Fence.wide n P f args w R) : CallsIn (Fw rd) n P f args w R := h
theorem roundIn_fw {l : Nat} {f : FuncId} {tmps : Array Value} {as bd : Code} {R : Ending → World → Prop} {P : Program} (h : RoundIn Fence.wide n P l f tmps as bd w R) : RoundIn (Fw rd) n P l f tmps as bd w R := h
/-- A call of a function by its number. -/
theorem funcCall_wp (hE : EnvOk E) (hN : NmOk E) (hK : KOk E K) {f : FuncId} {args : List Value} {args' : Array Value} {q : Value × St} {o : Oper} {a : Act} {K' : Act → World → Prop} {Q : Exit → Act → World → Prop}
    (hq : (cFuncCall E f).f K args S = some q) (h : GS E.P B ρ S V w) (ha : VRL E.P ρ args args'.toList) (hf : Fsh ρ S.nx q.2.nx) (hwf : Wf S) (hB : B ≤ w.heap.size)
    (hk : ∀ ρ' w' v', VR E.P ρ' q.1 v' → GS E.P B ρ' q.2 V w' → Nx B ρ ρ' S.nx q.2.nx w w' → K' (a.put o.dst v') w') :
    o.uponIn (Fw rd) n E.P a K' Q ((callFunc f args').run E.P w) := by
  unfold cFuncCall at hq
  split at hq
  · rename_i fn hfn
    obtain ⟨h1, h2⟩ := cond_some.1 hfn
    have hP := hE.fn f fn (blt_iff.1 h1) h2
    split at hq
    · rename_i c hc
      have hr : (callFunc f args').run E.P w = .ok (.enter f args') w := by
        have := hN f fn hP (by rw [hc]; rfl)
        have this : fn.name ≠ "runtime.NumGoroutine" := by simpa using this
        simp [callFunc, program, Sem.run, hP, this, hc]
      rw [hr, Oper.uponIn_enter]
      refine ⟨by simp [Fence.wide], CallsIn.mono (callsIn_fw (hK f args S q hq B ρ V w args' h ha hf hwf hB _)) ?_⟩
      rintro e w' ⟨v', ρ', rfl, h3, h4, h5⟩
      exact hk _ _ _ h3 h4 h5
    · obtain ⟨h3, hq⟩ := iff_some.1 (show iff' (args.all flat) _ = some q from hq)
      obtain ⟨x, h4, hq⟩ := ob_some.1 hq
      have he := (VRL_flat 8 _ _ h3).1 ha
      have he : args' = args.toArray := by apply Array.ext'; simpa using he
      subst he
      cases x with
      | value v =>
        obtain ⟨h5, hq⟩ := iff_some.1 hq
        cases hq
        rw [pureOf_run (w := w) _ _ h4, Oper.uponIn_value]
        exact hk ρ w v (flat_VR h5) h (Nx.refl _ _ _ _)
      | _ => cases hq
  · cases hq
theorem oper_wp (hE : EnvOk E) (hN : NmOk E) (hK : KOk E K) (hY : YOk E Y) {o : Oper} {τ : Tmps} {a : Act} {q : Value × St} {K' : Act → World → Prop} {Q : Exit → Act → World → Prop}
    (hq : (cOper E o).f K Y τ S = some q) (h : GS E.P B ρ S V w) (ht : TRel E.P ρ τ a) (hf : Fsh ρ S.nx q.2.nx) (hwf : Wf S) (hB : B ≤ w.heap.size)
    (hk : ∀ ρ' w' v', VR E.P ρ' q.1 v' → GS E.P B ρ' q.2 V w' → Nx B ρ ρ' S.nx q.2.nx w w' → K' (a.put o.dst v') w') :
    o.wpIn (Fw rd) n E.P a w K' Q := by
  have hd : ∀ c, o.op ≠ .defer c := by
    intro c hc
    obtain ⟨dst, op, type, pos, after, guard⟩ := o
    cases hc
    cases hq
  refine ⟨fun _ _ => trivial, ?_⟩
  rw [Oper.semAt_eq _ _ _ hd]
  by_cases hc : ∀ c, o.op = .call c → ∃ b, c.callee = .builtin b
  · obtain ⟨ρ', w', x, h1, h2, h3, h4⟩ := oper_spec hE hq h ht (fun hlt => hf _ (Nat.le_refl _) hlt) hB hc
    rw [h1]
    rcases h2 with ⟨v', rfl, h2⟩ | ⟨rfl, h2⟩
    · exact hk _ _ _ h2 h3 h4
    · exact hk _ _ _ (by rw [h2]; exact flat_VR rfl) h3 h4
  · obtain ⟨dst, op, type, pos, after, guard⟩ := o
    have hc : ∃ c, op = .call c ∧ ∀ b, c.callee ≠ .builtin b := by
      have ⟨c, hc⟩ := Classical.not_forall.1 hc
      have ⟨h1, h2⟩ := Classical.not_imp.1 hc
      exact ⟨c, h1, fun b hb => h2 ⟨b, hb⟩⟩
    obtain ⟨c, rfl, hcb⟩ := hc
    have hq : (cCall E c type).f K Y τ S = some q := hq
    obtain ⟨callee, cargs, cts⟩ := c
    have hargs : ∀ {l : List Value}, (opds E cargs.toList).f τ = some l → VRL E.P ρ l (cargs.map a.eval).toList := fun hl => by
      simpa using opds_spec ht hl
    cases callee with
    | builtin b => exact absurd rfl (hcb b)
    | invoke r m => cases hq
    | value x =>
      have viaV : ∀ {fv : Value} {l : List Value}, VR E.P ρ fv (a.eval x) → (opds E cargs.toList).f τ = some l →
          (match fv with
            | .func (.func f) first captured => (cFuncCall E f).f K (first.toList ++ l ++ captured.toList) S
            | .func (.yield y) #[] #[] => Y y l S
            | _ => none) = some q → Oper.uponIn (Fw rd) n E.P { dst := dst, op := .call { callee := .value x, args := cargs, argTypes := cts }, type := type, pos := pos, after := after, guard := guard } a K' Q
              ((execOp a.eval { dst := dst, op := .call { callee := .value x, args := cargs, argTypes := cts }, type := type, pos := pos, after := after, guard := guard }).run E.P w) := by
        intro fv l h1 h2 h3
        match fv, h1, h3 with
        | .func (.func f) first captured, h1, h3 =>
          simp only [VR] at h1
          obtain ⟨f', c', he, g1, g2⟩ := h1
          have : (execOp a.eval { dst := dst, op := .call { callee := .value x, args := cargs, argTypes := cts }, type := type, pos := pos, after := after, guard := guard }).run E.P w = (callFunc f (f' ++ cargs.map a.eval ++ c')).run E.P w := by
            simp [execOp, resolve, he, Deferred.ofValue, invoke]
          rw [this]
          refine funcCall_wp hE hN hK h3 h ?_ hf hwf hB hk
          simp only [Array.toList_append]
          exact VRL_append (VRL_append (VRA_iff.1 g1) (hargs h2)) (VRA_iff.1 g2)
        | .func (.yield y) fi ca, h1, h3 =>
          have h3 : Y y l S = some q := by
            revert h3
            obtain ⟨fi⟩ := fi
            obtain ⟨ca⟩ := ca
            cases fi <;> cases ca <;> intro h3 <;> first | exact h3 | cases h3
          simp only [VR] at h1
          obtain ⟨_, _, p, hp, he⟩ := h1
          obtain ⟨f, tm, as, bd, r1, r2⟩ := hY y l S q h3 B ρ V w (cargs.map a.eval) p h (hargs h2) hf hwf hB hp (n - 1)
          have : (execOp a.eval { dst := dst, op := .call { callee := .value x, args := cargs, argTypes := cts }, type := type, pos := pos, after := after, guard := guard }).run E.P w = (Instr.yield p.b (cargs.map a.eval)).run E.P w := by
            simp [execOp, resolve, he, Deferred.ofValue, invoke]
          rw [this, r1, Oper.uponIn_round]
          refine ⟨by simp [Fence.wide], RoundIn.mono (roundIn_fw r2) ?_⟩
          rintro e w' ⟨v', ρ', rfl, h3, h4, h5⟩
          exact hk _ _ _ h3 h4 h5
      by_cases hx : ∃ f, x = .func f
      · obtain ⟨f, rfl⟩ := hx
        obtain ⟨l, h1, hq⟩ := ob_some.1 (show ob ((opds E cargs.toList).f τ) _ = some q from hq)
        refine viaV (fv := .func (.func f) #[] #[]) (opd_spec (x := .func f) ht rfl) h1 ?_
        simpa using hq
      · have hq : ob ((opd E x).f τ) (fun v => ob ((opds E cargs.toList).f τ) fun l => match v with
            | .func (.func f) first captured => (cFuncCall E f).f K (first.toList ++ l ++ captured.toList) S
            | .func (.yield y) #[] #[] => Y y l S
            | _ => none) = some q := by
          cases x with
          | func f => exact absurd ⟨f, rfl⟩ hx
          | _ => exact hq
        obtain ⟨v, h1, hq⟩ := ob_some.1 hq
        obtain ⟨l, h2, hq⟩ := ob_some.1 hq
        exact viaV (opd_spec ht h1) h2 hq
end
end Go.Proofs.YtemldmjpanmdbaaGreatDoor.Ev

namespace Go.Proofs.YtemldmjpanmdbaaGreatDoor.Ev
open Go.RowKit
/-- Nothing goes away. -/
structure Ge (S S' : St) : Prop where
  nx : S.nx ≤ S'.nx
  dom : ∀ r, rdO S' r = none → rdO S r = none
  wf : (∀ r, S.nx ≤ r → rdO S r = none) → ∀ r, S'.nx ≤ r → rdO S' r = none
theorem Ge.refl (S : St) : Ge S S := ⟨Nat.le_refl _, fun _ h => h, fun h => h⟩
theorem Ge.trans {a b c : St} (h : Ge a b) (k : Ge b c) : Ge a c := ⟨Nat.le_trans h.nx k.nx, fun r hr => h.dom r (k.dom r hr), fun x => k.wf (h.wf x)⟩
theorem upd_none {V : Hp} {r k : Nat} {o : AO} (h : upd V r o k = none) : V k = none := by
  unfold upd at h
  split at h
  · cases h
  · exact h
theorem newO_ge {S : St} {o : AO} {p : Nat × St} (h : newO S o = some p) : Ge S p.2 := by
  obtain ⟨_, _, h1, h2⟩ := newO_spec h
  exact ⟨by rw [h1]; omega, fun r hr => upd_none (by rw [← h2]; exact hr), fun hw r hr => by rw [h1] at hr; rw [h2, upd, if_neg (by omega)]; exact hw r (by omega)⟩
theorem newRow_ge {S : St} {t : TypeId} {l : List Value} {p : Nat × St} (h : newRow S t l = some p) : Ge S p.2 := by
  obtain ⟨row, _, h⟩ := ob_some.1 (show ob (rowOf t l) _ = some p from h)
  exact newO_ge h
theorem putO_ge {S : St} {r : Nat} {o o' : AO} (hr : rdO S r = some o') : Ge S (putO S r o) :=
  ⟨Nat.le_refl _, fun k hk => upd_none (by rw [rdO_putO o (rdO_lt hr)] at hk; exact hk), fun hw k hk => by
    rw [rdO_putO o (rdO_lt hr), upd]
    by_cases hkr : k = r
    · subst hkr; rw [hw k hk] at hr; cases hr
    · rw [if_neg hkr]; exact hw k hk⟩
theorem wrCs_ge {E : Env} {S S' : St} {r x : Nat} {l : List Value} (h : wrCs E S r x l = some S') : Ge S S' := by
  unfold wrCs at h
  obtain ⟨row, h1, h⟩ := ob_some.1 h
  obtain ⟨_, h⟩ := iff_some.1 h
  obtain ⟨c, _, h⟩ := ob_some.1 h
  cases h
  exact putO_ge (rdR_some.1 h1)
theorem val_ge {S : St} {v : Option Value} {q : Value × St} (h : val v S = some q) : Ge S q.2 := by
  obtain ⟨u, _, rfl⟩ := val_some h
  exact .refl _
/-- A box made where a test goes through. -/
theorem condB {γ : Type} {b : Bool} {g : Tmps → St → Option γ} {τ : Tmps} {S : St} {q : γ} (h : (cond b (Bx.mk g) (Bx.mk fun _ _ => none)).f τ S = some q) : b = true ∧ g τ S = some q := by
  cases b
  · cases h
  · exact ⟨rfl, h⟩
def KGe (K : CallF) : Prop := ∀ f args S q, K f args S = some q → Ge S q.2
def YGe (Y : YieldF) : Prop := ∀ l args S q, Y l args S = some q → Ge S q.2
section
variable {E : Env} {S S' : St} {K : CallF} {Y : YieldF}
theorem load_ge {t : TypeId} {x : Arg Value} {τ : Tmps} {q : Value × St} (hq : (cLoad E t x).f τ S = some q) : q.2 = S := by
  unfold cLoad at hq
  split at hq
  · cases hq
  · rename_i d _
    cases hd : isAggD d.und <;> rw [hd] at hq
    · obtain ⟨a, _, hq⟩ := ob_some.1 (show ob (x.f τ) _ = some q from hq)
      obtain ⟨b, _, hq⟩ := ob_some.1 hq
      obtain ⟨c, _, hq⟩ := ob_some.1 hq
      cases hq; rfl
    · obtain ⟨a, _, hq⟩ := ob_some.1 (show ob (x.f τ) _ = some q from hq)
      obtain ⟨b, _, hq⟩ := ob_some.1 hq
      obtain ⟨c, _, hq⟩ := ob_some.1 hq
      cases hq; rfl
theorem store_ge {t : TypeId} {x y : Arg Value} {τ : Tmps} {q : Value × St} (hq : (cStore E t x y).f τ S = some q) : Ge S q.2 := by
  unfold cStore at hq
  split at hq
  · cases hq
  · obtain ⟨a, _, hq⟩ := ob_some.1 (show ob (x.f τ) _ = some q from hq)
    obtain ⟨b, _, hq⟩ := ob_some.1 hq
    obtain ⟨c, _, hq⟩ := ob_some.1 hq
    obtain ⟨_, hq⟩ := iff_some.1 hq
    obtain ⟨s, h1, hq⟩ := ob_some.1 hq
    cases hq
    exact wrCs_ge h1
theorem build_same {t : TypeId} {ps : Arg (List (Nat × Value))} {τ : Tmps} {q : Value × St} (hq : (cBuild E t ps).f τ S = some q) : q.2 = S := by
  unfold cBuild at hq
  repeat' split at hq
  all_goals first
    | (cases hq; done)
    | (obtain ⟨a, _, hq⟩ := ob_some.1 (show ob (ps.f τ) _ = some q from hq)
       obtain ⟨b, _, hq⟩ := ob_some.1 hq
       cases hq; rfl)
theorem buildSlice_ge {t : TypeId} {n : Nat} {ps : Arg (List (Nat × Value))} {τ : Tmps} {q : Value × St} (hq : (cBuildSlice E t n ps).f τ S = some q) : Ge S q.2 := by
  unfold cBuildSlice at hq
  repeat' split at hq
  · obtain ⟨_, hq⟩ := condB hq
    obtain ⟨a, _, hq⟩ := ob_some.1 (show ob (ps.f τ) _ = some q from hq)
    obtain ⟨b, _, hq⟩ := ob_some.1 hq
    obtain ⟨p, h1, hq⟩ := ob_some.1 hq
    cases hq
    exact newRow_ge h1
  all_goals cases hq
end
end Go.Proofs.YtemldmjpanmdbaaGreatDoor.Ev

namespace Go.Proofs.YtemldmjpanmdbaaGreatDoor.Ev
open Go.RowKit
section
variable {E : Env} {S S' : St} {K : CallF} {Y : YieldF}
theorem condN {γ : Type} {b : Bool} {g : Tmps → St → Option γ} {τ : Tmps} {S : St} {q : γ} (h : (cond b (Bx.mk fun _ _ => none) (Bx.mk g)).f τ S = some q) : g τ S = some q := by
  cases b
  · exact h
  · cases h
theorem slice_same {t : TypeId} {x : Arg Value} {lo hi mx : Arg (Option Value)} {τ : Tmps} {q : Value × St} (hq : (cSlice E t x lo hi mx).f τ S = some q) : q.2 = S := by
  unfold cSlice at hq
  repeat' split at hq
  · obtain ⟨xv, _, hq⟩ := ob_some.1 (show ob (x.f τ) _ = some q from hq)
    obtain ⟨_, _, hq⟩ := ob_some.1 hq
    obtain ⟨_, _, hq⟩ := ob_some.1 hq
    obtain ⟨_, _, hq⟩ := ob_some.1 hq
    obtain ⟨_, hq⟩ := iff_some.1 hq
    match xv, hq with
    | .slice a len cap, hq =>
      obtain ⟨_, _, hq⟩ := ob_some.1 hq
      obtain ⟨_, _, hq⟩ := ob_some.1 hq
      obtain ⟨_, _, hq⟩ := ob_some.1 hq
      obtain ⟨_, hq⟩ := iff_some.1 hq
      cases a with
      | none => cases hq; rfl
      | some a => obtain ⟨u, _, rfl⟩ := val_some hq; rfl
  · cases hq
  · obtain ⟨xv, _, hq⟩ := ob_some.1 (show ob (x.f τ) _ = some q from hq)
    obtain ⟨_, _, hq⟩ := ob_some.1 hq
    obtain ⟨_, _, hq⟩ := ob_some.1 hq
    obtain ⟨_, _, hq⟩ := ob_some.1 hq
    obtain ⟨_, _, hq⟩ := ob_some.1 hq
    obtain ⟨_, hq⟩ := iff_some.1 hq
    obtain ⟨_, _, hq⟩ := ob_some.1 hq
    obtain ⟨_, _, hq⟩ := ob_some.1 hq
    obtain ⟨_, _, hq⟩ := ob_some.1 hq
    obtain ⟨_, hq⟩ := iff_some.1 hq
    cases hq; rfl
  all_goals cases hq
theorem append_ge {elem : TypeId} {size bytes : Nat} {s x : Value} {q : Value × St} (hq : aAppend E S elem size bytes s x = some q) : Ge S q.2 := by
  unfold aAppend at hq
  match s, hq with
  | .slice base sLen sCap, hq =>
    obtain ⟨n, _, hq⟩ := ob_some.1 hq
    obtain ⟨new, _, hq⟩ := ob_some.1 hq
    cases hc : Nat.ble (Nat.add sLen n) sCap
    · simp only [hc, cond_false] at hq
      obtain ⟨_, hq⟩ := iff_some.1 hq
      match base, hq with
      | none, hq =>
        obtain ⟨_, hq⟩ := iff_some.1 hq
        obtain ⟨p, h1, hq⟩ := ob_some.1 hq
        cases hq
        exact newRow_ge h1
      | some ⟨r, off, none⟩, hq =>
        obtain ⟨row, h1, hq⟩ := ob_some.1 hq
        obtain ⟨_, hq⟩ := iff_some.1 hq
        obtain ⟨row', _, hq⟩ := ob_some.1 hq
        obtain ⟨p, h2, hq⟩ := ob_some.1 hq
        cases hq
        exact newO_ge h2
      | some ⟨r, off, some 0⟩, hq =>
        obtain ⟨row, h1, hq⟩ := ob_some.1 hq
        obtain ⟨_, hq⟩ := iff_some.1 hq
        obtain ⟨row', _, hq⟩ := ob_some.1 hq
        obtain ⟨p, h2, hq⟩ := ob_some.1 hq
        cases hq
        exact (putO_ge (rdR_some.1 h1)).trans (newO_ge h2)
      | some ⟨r, off, some (k + 1)⟩, hq => cases hq
    · simp only [hc, cond_true] at hq
      match base, hq with
      | none, hq => cases hq; exact .refl _
      | some ⟨r, off, none⟩, hq =>
        obtain ⟨s, h1, hq⟩ := ob_some.1 hq
        cases hq
        exact wrCs_ge h1
      | some ⟨r, off, some 0⟩, hq =>
        obtain ⟨s, h1, hq⟩ := ob_some.1 hq
        cases hq
        exact wrCs_ge h1
      | some ⟨r, off, some (k + 1)⟩, hq =>
        obtain ⟨_, hq⟩ := iff_some.1 hq
        cases hq; exact .refl _
theorem copy_ge {size : Nat} {s x : Value} {q : Value × St} (hq : aCopy E S size s x = some q) : Ge S q.2 := by
  unfold aCopy at hq
  match s, hq with
  | .slice base sLen sCap, hq =>
    obtain ⟨n, _, hq⟩ := ob_some.1 hq
    obtain ⟨new, _, hq⟩ := ob_some.1 hq
    match base, hq with
    | none, hq => cases hq; exact .refl _
    | some ⟨r, off, none⟩, hq => obtain ⟨s, h1, hq⟩ := ob_some.1 hq; cases hq; exact wrCs_ge h1
    | some ⟨r, off, some 0⟩, hq => obtain ⟨s, h1, hq⟩ := ob_some.1 hq; cases hq; exact wrCs_ge h1
    | some ⟨r, off, some (k + 1)⟩, hq => cases hq
theorem otherB_same {b : Builtin} {ts : Array TypeId} {ty : TypeId} {cs : Array Bool} {args : Arg (List Value)} {τ : Tmps} {q : Value × St}
    (hq : (cond (okB b) (Bx.mk fun ρ S => ob (args.f ρ) fun l => cond (l.all flat) (ob (pureOf E.P (builtin b ts ty cs l.toArray)) fun x => match x with | .value v => iff' (flat v) (some (v, S)) | _ => none) (val (ivB b l) S)) (Bx.mk fun _ _ => none)).f τ S = some q) : q.2 = S := by
  obtain ⟨_, hq⟩ := condB hq
  obtain ⟨l, _, hq⟩ := ob_some.1 hq
  cases k1 : l.all flat <;> rw [k1] at hq
  · obtain ⟨v, h2, rfl⟩ := val_some hq; rfl
  · obtain ⟨x, _, hq⟩ := ob_some.1 (show ob _ _ = some q from hq)
    cases x with
    | value v => obtain ⟨_, hq⟩ := iff_some.1 hq; cases hq; rfl
    | _ => cases hq
theorem builtin_ge {b : Builtin} {ts : Array TypeId} {ty : TypeId} {cs : Array Bool} {args : Arg (List Value)} {τ : Tmps} {q : Value × St} (hq : (cBuiltin E b ts ty cs args).f τ S = some q) : Ge S q.2 ∧ (okB b = true → q.2 = S) := by
  unfold cBuiltin at hq
  split at hq
  · split at hq
    · obtain ⟨l, _, hq⟩ := ob_some.1 (condN hq)
      match l, hq with
      | [s, x], hq => exact ⟨append_ge hq, fun h => by cases h⟩
    · cases hq
  · split at hq
    · obtain ⟨l, _, hq⟩ := ob_some.1 (show ob (args.f τ) _ = some q from hq)
      match l, hq with
      | [s, x], hq => exact ⟨copy_ge hq, fun h => by cases h⟩
    · cases hq
  · refine ⟨?_, fun h => by cases h⟩
    split at hq
    · obtain ⟨_, hq⟩ := condB hq
      obtain ⟨l, _, hq⟩ := ob_some.1 hq
      split at hq
      · cases hq; exact .refl _
      · cases hq; exact .refl _
      · split at hq
        · cases hq
        · obtain ⟨s, h1, hq⟩ := ob_some.1 hq
          cases hq
          exact wrCs_ge h1
      · cases hq
    · cases hq
  · obtain ⟨l, _, hq⟩ := ob_some.1 (show ob (args.f τ) _ = some q from hq)
    split at hq
    · cases hq; exact ⟨.refl _, fun _ => rfl⟩
    · cases hq
  · obtain ⟨l, _, hq⟩ := ob_some.1 (show ob (args.f τ) _ = some q from hq)
    split at hq
    · obtain ⟨m, _, hq⟩ := ob_some.1 hq
      cases hq; exact ⟨.refl _, fun _ => rfl⟩
    · cases hq; exact ⟨.refl _, fun _ => rfl⟩
    · cases hq
  · have := otherB_same hq
    exact ⟨by rw [this]; exact .refl _, fun _ => this⟩
end
end Go.Proofs.YtemldmjpanmdbaaGreatDoor.Ev

namespace Go.Proofs.YtemldmjpanmdbaaGreatDoor.Ev
open Go.RowKit
section
variable {E : Env} {S S' : St} {K : CallF} {Y : YieldF}
theorem funcCall_ge (hK : KGe K) {f : FuncId} {args : List Value} {q : Value × St} (hq : (cFuncCall E f).f K args S = some q) : Ge S q.2 := by
  unfold cFuncCall at hq
  split at hq
  · split at hq
    · exact hK _ _ _ _ hq
    · obtain ⟨_, hq⟩ := iff_some.1 (show iff' (args.all flat) _ = some q from hq)
      obtain ⟨x, _, hq⟩ := ob_some.1 hq
      cases x with
      | value v => obtain ⟨_, hq⟩ := iff_some.1 hq; cases hq; exact .refl _
      | _ => cases hq
  · cases hq
theorem call_ge (hK : KGe K) (hY : YGe Y) {c : Call} {t : TypeId} {τ : Tmps} {q : Value × St} (hq : (cCall E c t).f K Y τ S = some q) : Ge S q.2 := by
  unfold cCall at hq
  split at hq
  · exact (builtin_ge hq).1
  · obtain ⟨l, _, hq⟩ := ob_some.1 (show ob ((opds E c.args.toList).f τ) _ = some q from hq)
    exact funcCall_ge hK hq
  · rename_i x _ _
    obtain ⟨v, _, hq⟩ := ob_some.1 (show ob ((opd E x).f τ) _ = some q from hq)
    obtain ⟨l, _, hq⟩ := ob_some.1 hq
    match v, hq with
    | .func (.func f) fi ca, hq => exact funcCall_ge hK hq
    | .func (.yield y) fi ca, hq =>
      have hq : Y y l S = some q := by
        revert hq
        obtain ⟨fi⟩ := fi
        obtain ⟨ca⟩ := ca
        cases fi <;> cases ca <;> intro hq <;> first | exact hq | cases hq
      exact hY _ _ _ _ hq
  · cases hq
/-- Every operation: nothing goes away; and what neither makes nor does anything leaves all as it is. -/
theorem oper_ge (hK : KGe K) (hY : YGe Y) {o : Oper} {τ : Tmps} {q : Value × St} (hq : (cOper E o).f K Y τ S = some q) : Ge S q.2 ∧ (isMaker o = false → isEff o = false → q.2 = S) := by
  obtain ⟨dst, op, type, pos, after, guard⟩ := o
  have sm : q.2 = S → Ge S q.2 ∧ (isMaker ⟨dst, op, type, pos, after, guard⟩ = false → isEff ⟨dst, op, type, pos, after, guard⟩ = false → q.2 = S) := fun h => ⟨by rw [h]; exact .refl _, fun _ _ => h⟩
  cases op with
  | move x => obtain ⟨u, _, rfl⟩ := val_some (show val ((opd E x).f τ) S = some q from hq); exact sm rfl
  | assign x => obtain ⟨u, _, rfl⟩ := val_some (show val ((opd E x).f τ) S = some q from hq); exact sm rfl
  | pick c x y =>
    obtain ⟨u, h1, hq⟩ := ob_some.1 (show ob ((opd E c).f τ) _ = some q from hq)
    cases u with
    | bool t =>
      cases t
      · obtain ⟨u, h2, rfl⟩ := val_some (show val ((opd E y).f τ) S = some q from hq); exact sm rfl
      · obtain ⟨u, h2, rfl⟩ := val_some (show val ((opd E x).f τ) S = some q from hq); exact sm rfl
    | _ => cases hq
  | alloc t =>
    refine ⟨?_, fun h => by cases h⟩
    simp only [cOper] at hq
    split at hq
    · obtain ⟨p, h1, hq⟩ := ob_some.1 hq; cases hq; exact newRow_ge h1
    · cases hq
  | box t x =>
    refine ⟨?_, fun h => by cases h⟩
    obtain ⟨z, h0, hq⟩ := ob_some.1 (show ob ((opd E x).f τ) _ = some q from hq)
    obtain ⟨p, h1, hq⟩ := ob_some.1 hq
    cases hq
    exact newRow_ge h1
  | build t ps => exact sm (build_same hq)
  | buildSlice t n ps => exact ⟨buildSlice_ge hq, fun h => by cases h⟩
  | load t x => exact sm (load_ge hq)
  | store t x y => exact ⟨store_ge hq, fun _ h => by cases h⟩
  | nilCheck x =>
    obtain ⟨v, h0, hq⟩ := ob_some.1 (show ob ((opd E x).f τ) _ = some q from hq)
    split at hq <;> first | (cases hq; exact sm rfl) | cases hq
  | binOp op t x y yt =>
    obtain ⟨u, h1, hq⟩ := ob_some.1 (show ob ((opd E x).f τ) _ = some q from hq)
    obtain ⟨v, h2, hq⟩ := ob_some.1 hq
    obtain ⟨r, h3, hq⟩ := ob_some.1 hq
    cases hq
    exact sm rfl
  | unOp op t x =>
    obtain ⟨u, h1, hq⟩ := ob_some.1 (show ob ((opd E x).f τ) _ = some q from hq)
    obtain ⟨h2, hq⟩ := iff_some.1 hq
    obtain ⟨v, h3, hq⟩ := ob_some.1 hq
    obtain ⟨h4, hq⟩ := iff_some.1 hq
    cases hq
    exact sm rfl
  | convert s d x =>
    simp only [cOper] at hq
    split at hq
    · obtain ⟨u, h1, hq⟩ := ob_some.1 hq
      obtain ⟨v, h2, hq⟩ := ob_some.1 hq
      cases hq
      exact sm rfl
    · cases hq
  | makeFunc fn first captured =>
    cases fn with
    | func f =>
      obtain ⟨x, h1, hq⟩ := ob_some.1 (show ob ((opds E first.toList).f τ) _ = some q from hq)
      obtain ⟨y, h2, hq⟩ := ob_some.1 hq
      cases hq
      exact sm rfl
    | _ => cases hq
  | makeMap t r =>
    refine ⟨?_, fun h => by cases h⟩
    cases r with
    | none =>
      obtain ⟨p, h1, hq⟩ := ob_some.1 (show ob (newO S (.inr (.map #[] 0))) _ = some q from hq)
      cases hq
      exact newO_ge h1
    | some r => cases hq
  | makeSlice t l c =>
    refine ⟨?_, fun h => by cases h⟩
    simp only [cOper] at hq
    split at hq
    · split at hq
      · rename_i u0 size z bytes hde
        cases hc : (Nat.beq z.cells.size size && Nat.blt 0 size) <;> rw [hc] at hq
        · cases hq
        · obtain ⟨lv, h1, hq⟩ := ob_some.1 hq
          obtain ⟨ln, h2, hq⟩ := ob_some.1 hq
          obtain ⟨cv, h3, hq⟩ := ob_some.1 hq
          obtain ⟨cn, h4, hq⟩ := ob_some.1 hq
          obtain ⟨h5, hq⟩ := iff_some.1 hq
          obtain ⟨p, h6, hq⟩ := ob_some.1 hq
          cases hq
          exact newRow_ge h6
      · cases hq
    · cases hq
  | slice t x lo hi mx => exact sm (slice_same hq)
  | fieldAddr s x f =>
    simp only [cOper] at hq
    split at hq
    · split at hq
      · split at hq
        · rename_i d hdf
          cases hc : Nat.blt 0 d.size <;> rw [hc] at hq
          · cases hq
          · obtain ⟨u, h1, hq⟩ := ob_some.1 hq
            obtain ⟨ad, h2, hq⟩ := ob_some.1 hq
            cases hq
            exact sm rfl
        · cases hq
      · cases hq
    · cases hq
  | field t x f =>
    simp only [cOper] at hq
    split at hq
    · split at hq
      · split at hq
        · obtain ⟨u, h1, hq⟩ := ob_some.1 hq
          cases u with
          | agg cs => obtain ⟨v, h2, rfl⟩ := val_some hq; exact sm rfl
          | _ => cases hq
        · cases hq
      · cases hq
    · cases hq
  | indexAddr t x i =>
    simp only [cOper] at hq
    split at hq
    · split at hq
      · obtain ⟨u, h1, hq⟩ := ob_some.1 hq
        obtain ⟨ad, h2, hq⟩ := ob_some.1 hq
        obtain ⟨iv, h3, hq⟩ := ob_some.1 hq
        obtain ⟨n, h4, hq⟩ := ob_some.1 hq
        obtain ⟨h5, hq⟩ := iff_some.1 hq
        cases hq
        exact sm rfl
      · cases hq
    · split at hq
      · obtain ⟨u, h1, hq⟩ := ob_some.1 hq
        obtain ⟨iv, h3, hq⟩ := ob_some.1 hq
        obtain ⟨n, h4, hq⟩ := ob_some.1 hq
        split at hq
        · obtain ⟨h5, hq⟩ := iff_some.1 hq
          cases hq
          exact sm rfl
        · cases hq
      · cases hq
    · cases hq
  | index t x i =>
    simp only [cOper] at hq
    split at hq
    · split at hq
      · obtain ⟨u, h1, hq⟩ := ob_some.1 hq
        obtain ⟨iv, h3, hq⟩ := ob_some.1 hq
        obtain ⟨n, h4, hq⟩ := ob_some.1 hq
        cases u with
        | agg cs =>
          obtain ⟨h5, hq⟩ := iff_some.1 hq
          obtain ⟨v, h2, rfl⟩ := val_some hq
          exact sm rfl
        | _ => cases hq
      · cases hq
    · cases hq
  | lookup t x k ok =>
    simp only [cOper] at hq
    split at hq
    · split at hq
      · obtain ⟨xv, h1, hq⟩ := ob_some.1 hq
        obtain ⟨kv, h2, hq⟩ := ob_some.1 hq
        obtain ⟨m, h3, hq⟩ := ob_some.1 hq
        obtain ⟨f, h4, hq⟩ := ob_some.1 hq
        cases f with
        | none => cases hq; exact sm rfl
        | some f => cases hq; exact sm rfl
      · cases hq
    · cases hq
  | mapUpdate t m k x =>
    refine ⟨?_, fun _ h => by cases h⟩
    simp only [cOper] at hq
    split at hq
    · obtain ⟨mv, h1, hq⟩ := ob_some.1 hq
      obtain ⟨kv, h2, hq⟩ := ob_some.1 hq
      obtain ⟨xv, h3, hq⟩ := ob_some.1 hq
      split at hq
      · obtain ⟨ms, h4, hq⟩ := ob_some.1 hq
        obtain ⟨f, h5, hq⟩ := ob_some.1 hq
        cases f with
        | some f => cases hq
        | none =>
          cases hq
          obtain ⟨o, h6, _⟩ := ob_some.1 h4
          exact putO_ge h6
      · cases hq
    · cases hq
  | range t x =>
    refine ⟨?_, fun _ h => by cases h⟩
    simp only [cOper] at hq
    split at hq
    · obtain ⟨xv, h1, hq⟩ := ob_some.1 hq
      split at hq
      · obtain ⟨p, h2, hq⟩ := ob_some.1 hq
        cases hq
        exact newO_ge h2
      · obtain ⟨ms, h4, hq⟩ := ob_some.1 hq
        obtain ⟨p, h2, hq⟩ := ob_some.1 hq
        cases hq
        exact newO_ge h2
      · cases hq
    · cases hq
  | next it isS =>
    refine ⟨?_, fun _ h => by cases h⟩
    cases isS with
    | true => cases hq
    | false =>
      obtain ⟨iv, h1, hq⟩ := ob_some.1 (show ob ((opd E it).f τ) _ = some q from hq)
      obtain ⟨ad, h2, hq⟩ := ob_some.1 hq
      obtain ⟨h3, hq⟩ := iff_some.1 hq
      obtain ⟨o, h4, hq⟩ := ob_some.1 hq
      split at hq
      · cases hq; exact .refl _
      · obtain ⟨ms, h5, hq⟩ := ob_some.1 hq
        obtain ⟨h6, hq⟩ := iff_some.1 hq
        cases hq; exact .refl _
      · cases hq
  | extract t i =>
    obtain ⟨u, h1, hq⟩ := ob_some.1 (show ob ((opd E t).f τ) _ = some q from hq)
    cases u with
    | tuple vs => obtain ⟨v, h2, rfl⟩ := val_some hq; exact sm rfl
    | _ => cases hq
  | call c =>
    have hq : (cCall E c type).f K Y τ S = some q := hq
    refine ⟨call_ge hK hY hq, fun _ he => ?_⟩
    obtain ⟨callee, cargs, cts⟩ := c
    cases callee with
    | builtin b =>
      have hb : okB b = true := by simpa [isEff] using he
      exact (builtin_ge (show (cBuiltin E b cts type _ (opds E cargs.toList)).f τ S = some q from hq)).2 hb
    | _ => cases he
  | _ => cases hq
end
end Go.Proofs.YtemldmjpanmdbaaGreatDoor.Ev

namespace Go.Proofs.YtemldmjpanmdbaaGreatDoor.Ev
open Go.RowKit
section
variable {E : Env} {ρ ρ' : Ren} {B : Nat} {w w' : World} {S S' : St} {V : Hp} {K : CallF} {Y : YieldF} {n : Nat} {rd : Option Nat}
theorem size_put (a : Act) (d : Option Tmp) (v : Value) : (a.put d v).tmps.size = a.tmps.size := by cases d <;> simp [Act.put]
theorem defers_put (a : Act) (d : Option Tmp) (v : Value) : (a.put d v).defers = a.defers := by cases d <;> rfl
theorem TRel.put {P : Program} {τ : Tmps} {a : Act} {d : Option Tmp} {v v' : Value} (h : TRel P ρ τ a) (hd : ∀ k, d = some k → k < a.tmps.size) (hv : VR P ρ v v') : TRel P ρ (putT d v τ) (a.put d v') := by
  cases d with
  | none => exact h
  | some d =>
    intro t u hu
    simp only [putT] at hu
    cases hb : Nat.beq t d <;> rw [hb] at hu
    · obtain ⟨u', h1, h2⟩ := h t u hu
      have hne : d ≠ t := fun e => by rw [← e, Nat.beq_refl] at hb; cases hb
      exact ⟨u', by simp [Act.put, Array.getElem?_setIfInBounds_ne hne, h1], h2⟩
    · cases hu
      have e := Nat.eq_of_beq_eq_true hb
      subst e
      have := hd t rfl
      exact ⟨v', by simp [Act.put, this], hv⟩
/-- Whether an operation is wanted. -/
theorem wanted_spec {P : Program} {ops : List Oper} {o : Oper} {τ : Tmps} {a : Act} {b : Bool} (ht : TRel P ρ τ a) (h : (cWanted ops o).f τ = some b) : Region.wanted o (yielded ops.toArray a.tmps) = b := by
  unfold cWanted at h
  unfold Region.wanted
  split at h
  · rename_i hg
    rw [hg]; cases h; rfl
  · rename_i j want hg
    rw [hg]
    split at h
    · cases h
    · rename_i d hd
      obtain ⟨oj, h1, h2⟩ := ob_some.1 hd
      obtain ⟨v, h3, h⟩ := ob_some.1 (show ob (τ d) _ = some b from h)
      obtain ⟨v', h4, h5⟩ := ht d v h3
      have hy : ∀ r, (match v' with | .bool b => some b | _ => none) = r → yielded ops.toArray a.tmps j = r := by
        intro r hr
        unfold yielded
        have : ((ops.toArray[j]?).bind (·.dst)).bind (a.tmps[·]?) = some v' := by simp [h1, h2, h4]
        rw [this]
        cases v' <;> exact hr
      cases v with
      | bool c =>
        simp only [VR] at h5
        subst h5
        cases h
        show (yielded ops.toArray a.tmps j == some want) = _
        rw [hy _ rfl]
        cases c <;> cases want <;> rfl
      | tuple cs =>
        simp only [VR] at h5
        obtain ⟨cs', h5, _⟩ := h5
        subst h5
        cases h
        show (yielded ops.toArray a.tmps j == some want) = _
        rw [hy _ rfl]
        rfl
      | _ => cases h
theorem op1_ge (hK : KGe K) (hY : YGe Y) {ops : List Oper} {o : Oper} {τ : Tmps} {q : Value × St} (hq : (cOp1 E ops o).f K Y τ S = some q) : Ge S q.2 ∧ (isMaker o = false → isEff o = false → q.2 = S) := by
  unfold cOp1 at hq
  split at hq
  · exact oper_ge hK hY hq
  · obtain ⟨b, h1, hq⟩ := ob_some.1 (show ob ((cWanted ops o).f τ) _ = some q from hq)
    cases b
    · cases hq; exact ⟨.refl _, fun _ _ => rfl⟩
    · exact oper_ge hK hY hq
/-- One operation of a region. -/
def opIn (F : Fence) (n : Nat) (P : Program) (ops : Array Oper) (Q : Exit → Act → World → Prop) (o : Oper) (K : Act → World → Prop) (a : Act) (w : World) : Prop :=
  if Region.wanted o (yielded ops a.tmps) then o.wpIn F n P a w K Q else (∀ f, o.about P w a.eval = some f → F.fn f) ∧ K (a.put o.dst undef) w
theorem op1_wp (hE : EnvOk E) (hN : NmOk E) (hK : KOk E K) (hY : YOk E Y) {ops : List Oper} {o : Oper} {τ : Tmps} {a : Act} {q : Value × St} {K' : Act → World → Prop} {Q : Exit → Act → World → Prop}
    (hq : (cOp1 E ops o).f K Y τ S = some q) (h : GS E.P B ρ S V w) (ht : TRel E.P ρ τ a) (hf : Fsh ρ S.nx q.2.nx) (hwf : Wf S) (hB : B ≤ w.heap.size)
    (hk : ∀ ρ' w' v', VR E.P ρ' q.1 v' → GS E.P B ρ' q.2 V w' → Nx B ρ ρ' S.nx q.2.nx w w' → K' (a.put o.dst v') w') : opIn (Fw rd) n E.P ops.toArray Q o K' a w := by
  unfold cOp1 at hq
  unfold opIn
  split at hq
  · rename_i hg
    have : Region.wanted o (yielded ops.toArray a.tmps) = true := by simp [Region.wanted, hg]
    rw [if_pos this]
    exact oper_wp hE hN hK hY hq h ht hf hwf hB hk
  · obtain ⟨b, h1, hq⟩ := ob_some.1 (show ob ((cWanted ops o).f τ) _ = some q from hq)
    rw [wanted_spec ht h1]
    cases b
    · cases hq
      rw [if_neg (by simp)]
      exact ⟨fun _ _ => trivial, hk ρ w undef (flat_VR rfl) h (Nx.refl _ _ _ _)⟩
    · rw [if_pos rfl]
      exact oper_wp hE hN hK hY hq h ht hf hwf hB hk
theorem seq_ge (hK : KGe K) (hY : YGe Y) {ops : List Oper} : ∀ {l : List Oper} {τ : Tmps} {S : St} {p : Tmps × St}, (cSeq E ops l).f K Y τ S = some p → Ge S p.2
  | [], τ, S, p, hq => by cases hq; exact .refl _
  | o :: l, τ, S, p, hq => by
    obtain ⟨q, h1, hq⟩ := ob_some.1 (show ob ((cOp1 E ops o).f K Y τ S) _ = some p from hq)
    exact (op1_ge hK hY h1).1.trans (seq_ge hK hY hq)
/-- Operations one behind the other. -/
theorem seq_wp (hE : EnvOk E) (hN : NmOk E) (hK : KOk E K) (hY : YOk E Y) (gK : KGe K) (gY : YGe Y) {ops : List Oper} {Q : Exit → Act → World → Prop} : ∀ {l : List Oper} {τ : Tmps} {S : St} {p : Tmps × St} {ρ : Ren} {a : Act} {w : World},
    (cSeq E ops l).f K Y τ S = some p → GS E.P B ρ S V w → TRel E.P ρ τ a → Fsh ρ S.nx p.2.nx → Wf S → B ≤ w.heap.size → (∀ o ∈ l, ∀ d, o.dst = some d → d < a.tmps.size) →
    (∀ ρ' w' a', GS E.P B ρ' p.2 V w' → Nx B ρ ρ' S.nx p.2.nx w w' → TRel E.P ρ' p.1 a' → a'.tmps.size = a.tmps.size → a'.defers = a.defers → Q .normal a' w') → wpListIn (Fw rd) n E.P ops.toArray Q l a w
  | [], τ, S, p, ρ, a, w, hq, h, ht, hf, hwf, hB, hd, hk => by
    cases hq
    exact hk ρ w a h (Nx.refl _ _ _ _) ht rfl rfl
  | o :: l, τ, S, p, ρ, a, w, hq, h, ht, hf, hwf, hB, hd, hk => by
    obtain ⟨q, h1, hq⟩ := ob_some.1 (show ob ((cOp1 E ops o).f K Y τ S) _ = some p from hq)
    have g1 := seq_ge gK gY hq
    refine op1_wp hE hN hK hY h1 h ht (hf.fst g1.nx) hwf hB fun ρ1 w1 v' hv hG hN1 => ?_
    refine seq_wp hE hN hK hY gK gY hq hG ((ht.mono hN1.le).put (hd o (by simp)) hv) (hf.snd hN1) ((op1_ge gK gY h1).1.wf hwf) (Nat.le_trans hB hN1.bel.size) (fun o' ho d hdd => ?_) fun ρ2 w2 a2 k1 k2 k3 k4 k5 => hk ρ2 w2 a2 k1 (hN1.trans k2) k3 (by rw [k4, size_put]) (by rw [k5, defers_put])
    rw [size_put]
    exact hd o' (by simp [ho]) d hdd
end
end Go.Proofs.YtemldmjpanmdbaaGreatDoor.Ev

namespace Go.Proofs.YtemldmjpanmdbaaGreatDoor.Ev
section
variable {E : Env} {S S' : St} {K : CallF} {Y : YieldF} {τ τ' : Tmps}
theorem condL {α : Type} {b : Bool} {g h : Bx (Tmps → St → α)} (hg : g.f τ S = g.f τ' S) (hh : h.f τ S = h.f τ' S) : (cond b g h).f τ S = (cond b g h).f τ' S := by cases b <;> assumption
theorem load_l {t : TypeId} {x : Arg Value} (hx : x.f τ = x.f τ') : (cLoad E t x).f τ S = (cLoad E t x).f τ' S := by
  unfold cLoad
  split
  · rfl
  · exact condL (by simp only [hx]) (by simp only [hx])
theorem store_l {t : TypeId} {x y : Arg Value} (hx : x.f τ = x.f τ') (hy : y.f τ = y.f τ') : (cStore E t x y).f τ S = (cStore E t x y).f τ' S := by
  unfold cStore
  split
  · rfl
  · simp only [hx, hy]
theorem build_l {t : TypeId} {x : Arg (List (Nat × Value))} (hx : x.f τ = x.f τ') : (cBuild E t x).f τ S = (cBuild E t x).f τ' S := by
  unfold cBuild
  repeat' split
  all_goals first | rfl | simp only [hx]
theorem buildSlice_l {t : TypeId} {n : Nat} {x : Arg (List (Nat × Value))} (hx : x.f τ = x.f τ') : (cBuildSlice E t n x).f τ S = (cBuildSlice E t n x).f τ' S := by
  unfold cBuildSlice
  repeat' split
  all_goals first | rfl | exact condL (by simp only [hx]) rfl
theorem slice_l {t : TypeId} {x : Arg Value} {lo hi mx : Arg (Option Value)} (hx : x.f τ = x.f τ') (h1 : lo.f τ = lo.f τ') (h2 : hi.f τ = hi.f τ') (h3 : mx.f τ = mx.f τ') : (cSlice E t x lo hi mx).f τ S = (cSlice E t x lo hi mx).f τ' S := by
  unfold cSlice
  repeat' split
  all_goals first | rfl | simp only [hx, h1, h2, h3]
theorem builtin_l {b : Builtin} {ts : Array TypeId} {ty : TypeId} {cs : Array Bool} {x : Arg (List Value)} (hx : x.f τ = x.f τ') : (cBuiltin E b ts ty cs x).f τ S = (cBuiltin E b ts ty cs x).f τ' S := by
  unfold cBuiltin
  split
  · split
    · exact condL rfl (by simp only [hx])
    · rfl
  · split
    · simp only [hx]
    · rfl
  · split
    · exact condL (by simp only [hx]) rfl
    · rfl
  · simp only [hx]
  · simp only [hx]
  · exact condL (by simp only [hx]) rfl
theorem opd_l {x : Operand} (h : ∀ t, x = .tmp t → τ t = τ' t) : (opd E x).f τ = (opd E x).f τ' := by
  cases x with
  | tmp t => exact h t rfl
  | const v => simp only [opd]; cases flat v <;> rfl
  | _ => rfl
theorem opds_l : ∀ {l : List Operand}, (∀ x ∈ l, (opd E x).f τ = (opd E x).f τ') → (opds E l).f τ = (opds E l).f τ'
  | [], _ => rfl
  | x :: l, h => by simp only [opds]; rw [h x (by simp), opds_l fun y hy => h y (by simp [hy])]
theorem opdp_l : ∀ {l : List (Nat × Operand)}, (∀ x ∈ l, (opd E x.2).f τ = (opd E x.2).f τ') → (opdp E l).f τ = (opdp E l).f τ'
  | [], _ => rfl
  | x :: l, h => by simp only [opdp]; rw [h x (by simp), opdp_l fun y hy => h y (by simp [hy])]
theorem opdo_l {x : Option Operand} (h : ∀ y, x = some y → (opd E y).f τ = (opd E y).f τ') : (opdo E x).f τ = (opdo E x).f τ' := by
  cases x with
  | none => rfl
  | some y => simp only [opdo]; rw [h y rfl]
/-- What an operation answers hangs on what it looks at. -/
theorem oper_l {o : Oper} (h : ∀ x ∈ o.op.operands.toList, (opd E x).f τ = (opd E x).f τ') : (cOper E o).f K Y τ S = (cOper E o).f K Y τ' S := by
  obtain ⟨dst, op, type, pos, after, guard⟩ := o
  cases op with
  | move x => have h1 := h x (by simp [Op.operands]); simp only [cOper, h1]
  | assign x => have h1 := h x (by simp [Op.operands]); simp only [cOper, h1]
  | pick c x y =>
    have h0 := h c (by simp [Op.operands]); have h1 := h x (by simp [Op.operands]); have h2 := h y (by simp [Op.operands]); simp only [cOper, h0, h1, h2]
  | alloc t => simp only [cOper]; split <;> rfl
  | box t x => have h1 := h x (by simp [Op.operands]); simp only [cOper, h1]
  | build t ps => exact build_l (opdp_l fun x hx => h x.2 (by simp only [Op.operands]; exact List.mem_map_of_mem hx))
  | buildSlice t n ps => exact buildSlice_l (opdp_l fun x hx => h x.2 (by simp only [Op.operands]; exact List.mem_map_of_mem hx))
  | load t x => exact load_l (h x (by simp [Op.operands]))
  | store t x y => exact store_l (h x (by simp [Op.operands])) (h y (by simp [Op.operands]))
  | nilCheck x => have h1 := h x (by simp [Op.operands]); simp only [cOper, h1]
  | binOp op t x y yt => have h1 := h x (by simp [Op.operands]); have h2 := h y (by simp [Op.operands]); simp only [cOper, h1, h2]
  | unOp op t x => have h1 := h x (by simp [Op.operands]); simp only [cOper, h1]
  | convert s d x =>
    have h1 := h x (by simp [Op.operands])
    simp only [cOper]
    split
    · simp only [h1]
    · rfl
  | makeFunc fn first captured =>
    cases fn with
    | func f =>
      have h1 := opds_l (τ := τ) (τ' := τ') (E := E) (l := first.toList) fun x hx => h x (by simp only [Op.operands]; simp; exact .inl (by simpa using hx))
      have h2 := opds_l (τ := τ) (τ' := τ') (E := E) (l := captured.toList) fun x hx => h x (by simp only [Op.operands]; simp; exact .inr (by simpa using hx))
      simp only [cOper, h1, h2]
    | _ => rfl
  | makeMap t r => cases r <;> rfl
  | makeSlice t l c =>
    have h1 := h l (by simp [Op.operands])
    have h2 := h c (by simp [Op.operands])
    simp only [cOper]
    split
    · split
      · rename_i z size bytes _
        cases (Nat.beq _ _ && Nat.blt 0 _) <;> simp only [cond_true, cond_false, h1, h2]
      · rfl
    · rfl
  | slice t x lo hi mx =>
    refine slice_l (h x (by simp [Op.operands])) (opdo_l fun y hy => h y ?_) (opdo_l fun y hy => h y ?_) (opdo_l fun y hy => h y ?_) <;> simp [Op.operands, hy]
  | fieldAddr s x f =>
    have h1 := h x (by simp [Op.operands])
    simp only [cOper]
    split
    · split
      · split
        · rename_i d _
          cases Nat.blt 0 d.size <;> simp only [cond_true, cond_false, h1]
        · rfl
      · rfl
    · rfl
  | field t x f =>
    have h1 := h x (by simp [Op.operands])
    simp only [cOper]
    split
    · split
      · split
        · simp only [h1]
        · rfl
      · rfl
    · rfl
  | indexAddr t x i =>
    have h1 := h x (by simp [Op.operands])
    have h2 := h i (by simp [Op.operands])
    simp only [cOper]
    split
    · split
      · simp only [h1, h2]
      · rfl
    · split
      · simp only [h1, h2]
      · rfl
    · rfl
  | index t x i =>
    have h1 := h x (by simp [Op.operands])
    have h2 := h i (by simp [Op.operands])
    simp only [cOper]
    split
    · split
      · simp only [h1, h2]
      · rfl
    · rfl
  | lookup t x k ok =>
    have h1 := h x (by simp [Op.operands])
    have h2 := h k (by simp [Op.operands])
    simp only [cOper]
    split
    · split
      · simp only [h1, h2]
      · rfl
    · rfl
  | mapUpdate t m k x =>
    have h0 := h m (by simp [Op.operands])
    have h1 := h x (by simp [Op.operands])
    have h2 := h k (by simp [Op.operands])
    simp only [cOper]
    split
    · simp only [h0, h1, h2]
    · rfl
  | range t x =>
    have h1 := h x (by simp [Op.operands])
    simp only [cOper]
    split
    · simp only [h1]
    · rfl
  | next it isS =>
    have h1 := h it (by simp [Op.operands])
    cases isS
    · simp only [cOper, h1]
    · rfl
  | extract t i => have h1 := h t (by simp [Op.operands]); simp only [cOper, h1]
  | call c =>
    obtain ⟨callee, cargs, cts⟩ := c
    have ha := opds_l (τ := τ) (τ' := τ') (E := E) (l := cargs.toList) fun x hx => h x (by simp only [Op.operands, Call.operands]; cases callee <;> simp_all)
    cases callee with
    | builtin b => exact builtin_l ha
    | invoke r m => rfl
    | value x =>
      have h1 := h x (by simp [Op.operands, Call.operands])
      show (cCall E _ type).f K Y τ S = (cCall E _ type).f K Y τ' S
      cases x with
      | func f => show ob ((opds E cargs.toList).f τ) _ = ob ((opds E cargs.toList).f τ') _; rw [ha]
      | tmp t => show ob ((opd E (.tmp t)).f τ) _ = ob ((opd E (.tmp t)).f τ') _; rw [h1, ha]
      | const t => show ob ((opd E (.const t)).f τ) _ = ob ((opd E (.const t)).f τ') _; rw [h1, ha]
      | global t => rfl
  | _ => rfl
end
end Go.Proofs.YtemldmjpanmdbaaGreatDoor.Ev

namespace Go.Proofs.YtemldmjpanmdbaaGreatDoor.Ev
theorem ob_s {α β : Type} (v : α) (f : α → Option β) : ob (some v) f = f v := rfl
theorem iff_t {β : Type} (x : Option β) : iff' true x = x := rfl
section
variable {E : Env} {S S' : St} {K : CallF} {Y : YieldF} {τ τ' : Tmps}
theorem wanted_l {ops : List Oper} {o : Oper} (h : ∀ t ∈ looks ops o, τ t = τ' t) : (cWanted ops o).f τ = (cWanted ops o).f τ' := by
  unfold cWanted
  split
  · rfl
  · rename_i j want hg
    split
    · rfl
    · rename_i d hd
      simp only
      rw [h d (by simp [looks, hg, hd])]
theorem op1_l {ops : List Oper} {o : Oper} (h : ∀ t ∈ looks ops o, τ t = τ' t) : (cOp1 E ops o).f K Y τ S = (cOp1 E ops o).f K Y τ' S := by
  have h1 : ∀ S, (cOper E o).f K Y τ S = (cOper E o).f K Y τ' S := fun S => oper_l fun x hx => opd_l fun t ht => h t (by
    subst ht
    unfold looks
    exact List.mem_append_left _ (List.mem_filterMap.2 ⟨.tmp t, hx, rfl⟩))
  unfold cOp1
  split
  · exact h1 S
  · show ob ((cWanted ops o).f τ) _ = ob ((cWanted ops o).f τ') _
    rw [wanted_l h]
    cases (cWanted ops o).f τ' with
    | none => rfl
    | some b => cases b <;> first | rfl | exact h1 S
/-- Values that read alike are one. -/
theorem vEq_eq : ∀ (n : Nat) (a b : Value), vEq n a b = true → a = b := by
  have hl : ∀ n, (∀ a b, vEq n a b = true → a = b) → ∀ l m, vEq.vEqL n l m = true → l = m := by
    intro n ih l
    induction l with
    | nil => intro m h; cases m <;> first | rfl | (simp [vEq.vEqL] at h)
    | cons x l il =>
      intro m h
      cases m with
      | nil => simp [vEq.vEqL] at h
      | cons y m => simp only [vEq.vEqL, Bool.and_eq_true] at h; rw [ih _ _ h.1, il _ h.2]
  intro n
  induction n with
  | zero =>
    intro a b h
    unfold vEq at h
    split at h <;> simp_all
  | succ n ih =>
    intro a b h
    unfold vEq at h
    split at h
    all_goals first
      | (simp_all; done)
      | (rename_i hh
         cases hh
         have := hl n ih _ _ h
         congr 1
         exact Array.ext' this)
/-- What neither loads, makes nor does anything answers the same everywhere. -/
theorem pure_any {o : Oper} {q : Value × St} (hl : isLoad o = false) (hm : isMaker o = false) (he : isEff o = false) (hq : (cOper E o).f K Y τ S = some q) : ∀ K Y S2, (cOper E o).f K Y τ S2 = some (q.1, S2) := by
  intro K2 Y2 S2
  obtain ⟨dst, op, type, pos, after, guard⟩ := o
  cases op with
  | move x => obtain ⟨u, h1, rfl⟩ := val_some (show val ((opd E x).f τ) S = some q from hq); simp only [cOper, h1, val, ob_s]
  | assign x => obtain ⟨u, h1, rfl⟩ := val_some (show val ((opd E x).f τ) S = some q from hq); simp only [cOper, h1, val, ob_s]
  | pick c x y =>
    obtain ⟨u, h1, hq⟩ := ob_some.1 (show ob ((opd E c).f τ) _ = some q from hq)
    cases u with
    | bool t =>
      cases t
      · obtain ⟨u, h2, rfl⟩ := val_some (show val ((opd E y).f τ) S = some q from hq); simp only [cOper, h1, h2, val, ob_s, cond_false]
      · obtain ⟨u, h2, rfl⟩ := val_some (show val ((opd E x).f τ) S = some q from hq); simp only [cOper, h1, h2, val, ob_s, cond_true]
    | _ => cases hq
  | build t ps =>
    have hq : (cBuild E t (opdp E ps.toList)).f τ S = some q := hq
    show (cBuild E t (opdp E ps.toList)).f τ S2 = some (q.1, S2)
    unfold cBuild at hq ⊢
    repeat' split at hq
    all_goals first
      | (cases hq; done)
      | (obtain ⟨a, h1, hq⟩ := ob_some.1 (show ob ((opdp E ps.toList).f τ) _ = some q from hq)
         obtain ⟨b, h2, hq⟩ := ob_some.1 hq
         cases hq
         simp only [*, ob_s])
  | nilCheck x =>
    obtain ⟨v, h0, hq⟩ := ob_some.1 (show ob ((opd E x).f τ) _ = some q from hq)
    simp only [cOper, h0, ob_s]
    split at hq <;> first | (cases hq; rfl) | cases hq
  | binOp op t x y yt =>
    obtain ⟨u, h1, hq⟩ := ob_some.1 (show ob ((opd E x).f τ) _ = some q from hq)
    obtain ⟨v, h2, hq⟩ := ob_some.1 hq
    obtain ⟨r, h3, hq⟩ := ob_some.1 hq
    cases hq
    simp only [cOper, h1, h2, ob_s]
    rw [h3]; rfl
  | unOp op t x =>
    obtain ⟨u, h1, hq⟩ := ob_some.1 (show ob ((opd E x).f τ) _ = some q from hq)
    obtain ⟨h2, hq⟩ := iff_some.1 hq
    obtain ⟨v, h3, hq⟩ := ob_some.1 hq
    obtain ⟨h4, hq⟩ := iff_some.1 hq
    cases hq
    simp only [cOper, h1, h2, h3, h4, ob_s, iff_t]
  | convert s d x =>
    simp only [cOper] at hq ⊢
    split at hq
    · rename_i hs hd
      obtain ⟨u, h1, hq⟩ := ob_some.1 hq
      obtain ⟨v, h2, hq⟩ := ob_some.1 hq
      cases hq
      simp only [h1, ob_s]
      rw [h2]; rfl
    · cases hq
  | makeFunc fn first captured =>
    cases fn with
    | func f =>
      obtain ⟨x, h1, hq⟩ := ob_some.1 (show ob ((opds E first.toList).f τ) _ = some q from hq)
      obtain ⟨y, h2, hq⟩ := ob_some.1 hq
      cases hq
      simp only [cOper, h1, h2, ob_s]
    | _ => cases hq
  | makeMap t r => cases hm
  | fieldAddr s x f =>
    simp only [cOper] at hq ⊢
    split at hq
    · split at hq
      · split at hq
        · rename_i hd _ _ hf _ d hdf
          cases hc : Nat.blt 0 d.size <;> rw [hc] at hq
          · cases hq
          · obtain ⟨u, h1, hq⟩ := ob_some.1 hq
            obtain ⟨ad, h2, hq⟩ := ob_some.1 hq
            cases hq
            simp only [h1, h2, ob_s, cond_true]
        · cases hq
      · cases hq
    · cases hq
  | field t x f =>
    simp only [cOper] at hq ⊢
    split at hq
    · split at hq
      · split at hq
        · rename_i hd _ _ hf _ d hdf
          obtain ⟨u, h1, hq⟩ := ob_some.1 hq
          cases u with
          | agg cs => obtain ⟨v, h2, rfl⟩ := val_some hq; simp only [h1, h2, ob_s, val]
          | _ => cases hq
        · cases hq
      · cases hq
    · cases hq
  | indexAddr t x i =>
    simp only [cOper] at hq ⊢
    split at hq
    · rename_i hd
      split at hq
      · rename_i d hde
        obtain ⟨u, h1, hq⟩ := ob_some.1 hq
        obtain ⟨ad, h2, hq⟩ := ob_some.1 hq
        obtain ⟨iv, h3, hq⟩ := ob_some.1 hq
        obtain ⟨n, h4, hq⟩ := ob_some.1 hq
        obtain ⟨h5, hq⟩ := iff_some.1 hq
        cases hq
        simp only [h1, h2, h3, h4, h5, ob_s, iff_t]
      · cases hq
    · rename_i hd
      split at hq
      · rename_i d hde
        obtain ⟨u, h1, hq⟩ := ob_some.1 hq
        obtain ⟨iv, h3, hq⟩ := ob_some.1 hq
        obtain ⟨n, h4, hq⟩ := ob_some.1 hq
        simp only [h1, h3, h4, ob_s]
        split at hq
        · obtain ⟨h5, hq⟩ := iff_some.1 hq
          cases hq
          simp only [h5, iff_t]
        · cases hq
      · cases hq
    · cases hq
  | index t x i =>
    simp only [cOper] at hq ⊢
    split at hq
    · rename_i hd
      split at hq
      · rename_i d hde
        obtain ⟨u, h1, hq⟩ := ob_some.1 hq
        obtain ⟨iv, h3, hq⟩ := ob_some.1 hq
        obtain ⟨n, h4, hq⟩ := ob_some.1 hq
        cases u with
        | agg cs =>
          obtain ⟨h5, hq⟩ := iff_some.1 hq
          obtain ⟨v, h2, rfl⟩ := val_some hq
          simp only [h1, h3, h4, h5, h2, ob_s, iff_t, val]
        | _ => cases hq
      · cases hq
    · cases hq
  | extract t i =>
    obtain ⟨u, h1, hq⟩ := ob_some.1 (show ob ((opd E t).f τ) _ = some q from hq)
    cases u with
    | tuple vs => obtain ⟨v, h2, rfl⟩ := val_some hq; simp only [cOper, h1, h2, ob_s, val]
    | _ => cases hq
  | call c =>
    obtain ⟨callee, cargs, cts⟩ := c
    cases callee with
    | builtin b =>
      have hb : okB b = true := by simpa [isEff] using he
      have hn : b ≠ .len := by rintro rfl; simp [isLoad] at hl
      have hq : (cBuiltin E b cts type (cargs.map fun | .const _ => true | _ => false) (opds E cargs.toList)).f τ S = some q := hq
      show (cBuiltin E b cts type (cargs.map fun | .const _ => true | _ => false) (opds E cargs.toList)).f τ S2 = some (q.1, S2)
      have hc : cBuiltin E b cts type (cargs.map fun | .const _ => true | _ => false) (opds E cargs.toList) = (Bx.mk fun ρ S => ob ((opds E cargs.toList).f ρ) fun l => cond (l.all flat) (ob (pureOf E.P (builtin b cts type (cargs.map fun | .const _ => true | _ => false) l.toArray)) fun x => match x with | .value v => iff' (flat v) (some (v, S)) | _ => none) (val (ivB b l) S)) := by
        unfold cBuiltin
        cases b <;> first | (cases hb; done) | exact absurd rfl hn | rfl
      rw [hc] at hq ⊢
      obtain ⟨l, h1, hq⟩ := ob_some.1 (show ob ((opds E cargs.toList).f τ) _ = some q from hq)
      cases h2 : l.all flat <;> rw [h2] at hq
      · obtain ⟨v, h3, rfl⟩ := val_some hq
        simp only [h1, h2, h3, ob_s, cond_false, val]
      · obtain ⟨x, h3, hq⟩ := ob_some.1 (show ob _ _ = some q from hq)
        cases x with
        | value v =>
          obtain ⟨h4, hq⟩ := iff_some.1 hq
          cases hq
          simp only [h1, h2, h3, h4, ob_s, iff_t, cond_true]
        | _ => cases hq
    | _ => cases he
  | _ => first | (cases hm; done) | (cases he; done) | (cases hl; done) | (cases hq; done)
end
end Go.Proofs.YtemldmjpanmdbaaGreatDoor.Ev

namespace Go.Proofs.YtemldmjpanmdbaaGreatDoor.Ev
/-- A heap with one thing more. -/
def mkS (h : Tr AO HD) (n : Nat) (ob : AO) : St := { h := Tr.set HD h n (some ob), nx := n + 1 }
theorem rdO_mkS {h : Tr AO HD} {n : Nat} {o : AO} (hn : n < 4096) : rdO (mkS h n o) = upd (rdO ⟨h, n⟩) n o := rdO_set h (n + 1) n o hn n
theorem newO_any {S : St} {o : AO} {p : Nat × St} (h : newO S o = some p) : p = (S.nx, mkS S.h S.nx o) ∧ S.nx < 4096 ∧ ∀ h', newO ⟨h', S.nx⟩ o = some (S.nx, mkS h' S.nx o) := by
  obtain ⟨h1, h2⟩ := iff_some.1 h
  cases h2
  exact ⟨rfl, blt_iff.1 h1, fun h' => iff_some.2 ⟨h1, rfl⟩⟩
theorem newRow_any {S : St} {t : TypeId} {l : List Value} {p : Nat × St} (h : newRow S t l = some p) : ∃ ob, p = (S.nx, mkS S.h S.nx ob) ∧ S.nx < 4096 ∧ ∀ h', newRow ⟨h', S.nx⟩ t l = some (S.nx, mkS h' S.nx ob) := by
  obtain ⟨row, h1, h2⟩ := ob_some.1 (show ob (rowOf t l) _ = some p from h)
  obtain ⟨h3, h4, h5⟩ := newO_any h2
  refine ⟨.inl row, h3, h4, fun h' => ?_⟩
  show ob (rowOf t l) _ = _
  rw [h1]
  exact h5 h'
section
variable {E : Env} {S S' : St} {K : CallF} {Y : YieldF} {τ τ' : Tmps}
/-- A maker hangs on the number alone. -/
theorem maker_any {o : Oper} {q : Value × St} (hm : isMaker o = true) (hq : (cOper E o).f K Y τ S = some q) :
    ∃ ob, q.2 = mkS S.h S.nx ob ∧ S.nx < 4096 ∧ ∀ K Y h', (cOper E o).f K Y τ ⟨h', S.nx⟩ = some (q.1, mkS h' S.nx ob) := by
  obtain ⟨dst, op, type, pos, after, guard⟩ := o
  cases op with
  | alloc t =>
    simp only [cOper] at hq ⊢
    split at hq
    · rename_i hd
      obtain ⟨p, h1, hq⟩ := ob_some.1 hq
      cases hq
      obtain ⟨x, rfl, h2, h3⟩ := newRow_any h1
      refine ⟨x, rfl, h2, fun _ _ h' => ?_⟩
      simp only [h3, ob_s]
    · cases hq
  | box t x =>
    obtain ⟨z, h0, hq⟩ := ob_some.1 (show ob ((opd E x).f τ) _ = some q from hq)
    obtain ⟨p, h1, hq⟩ := ob_some.1 hq
    cases hq
    obtain ⟨x, rfl, h2, h3⟩ := newRow_any h1
    refine ⟨x, rfl, h2, fun _ _ h' => ?_⟩
    simp only [cOper, h0, h3, ob_s]
  | buildSlice t n ps =>
    have hq : (cBuildSlice E t n (opdp E ps.toList)).f τ S = some q := hq
    show ∃ ob, q.2 = mkS S.h S.nx ob ∧ S.nx < 4096 ∧ ∀ (K : CallF) (Y : YieldF) h', (cBuildSlice E t n (opdp E ps.toList)).f τ ⟨h', S.nx⟩ = some (q.1, mkS h' S.nx ob)
    unfold cBuildSlice at hq ⊢
    split at hq
    · rename_i hd
      split at hq
      · rename_i hde
        obtain ⟨hc, hq⟩ := condB hq
        obtain ⟨a, h1, hq⟩ := ob_some.1 hq
        obtain ⟨b, h2, hq⟩ := ob_some.1 hq
        obtain ⟨p, h3, hq⟩ := ob_some.1 hq
        cases hq
        obtain ⟨x, rfl, h4, h5⟩ := newRow_any h3
        refine ⟨x, rfl, h4, fun _ _ h' => ?_⟩
        simp only [hc, cond_true, h1, h2, h5, ob_s]
      · cases hq
    · cases hq
  | makeMap t r =>
    cases r with
    | none =>
      obtain ⟨p, h1, hq⟩ := ob_some.1 (show ob (newO S (.inr (.map #[] 0))) _ = some q from hq)
      cases hq
      obtain ⟨rfl, h2, h3⟩ := newO_any h1
      exact ⟨_, rfl, h2, fun _ _ h' => by simp only [cOper, h3, ob_s]⟩
    | some r => cases hq
  | makeSlice t l c =>
    simp only [cOper] at hq ⊢
    split at hq
    · rename_i hd
      split at hq
      · rename_i u0 size z bytes hde
        cases hc : (Nat.beq z.cells.size size && Nat.blt 0 size) <;> rw [hc] at hq
        · cases hq
        · obtain ⟨lv, h1, hq⟩ := ob_some.1 hq
          obtain ⟨ln, h2, hq⟩ := ob_some.1 hq
          obtain ⟨cv, h3, hq⟩ := ob_some.1 hq
          obtain ⟨cn, h4, hq⟩ := ob_some.1 hq
          obtain ⟨h5, hq⟩ := iff_some.1 hq
          obtain ⟨p, h6, hq⟩ := ob_some.1 hq
          cases hq
          obtain ⟨x, rfl, h7, h8⟩ := newRow_any h6
          refine ⟨x, rfl, h7, fun _ _ h' => ?_⟩
          simp only [cond_true, h1, h2, h3, h4, h5, h8, ob_s, iff_t]
      · cases hq
    · cases hq
  | _ => cases hm
theorem op1_pure {ops : List Oper} {o : Oper} {q : Value × St} (hl : isLoad o = false) (hm : isMaker o = false) (he : isEff o = false) (hq : (cOp1 E ops o).f K Y τ S = some q) : ∀ S2, (cOp1 E ops o).f K Y τ S2 = some (q.1, S2) := by
  intro S2
  unfold cOp1 at hq ⊢
  split at hq
  · exact pure_any hl hm he hq K Y S2
  · obtain ⟨b, h1, hq⟩ := ob_some.1 (show ob ((cWanted ops o).f τ) _ = some q from hq)
    dsimp only
    rw [h1]
    cases b
    · cases hq; rfl
    · exact pure_any hl hm he hq K Y S2
theorem op1_maker {ops : List Oper} {o : Oper} {q : Value × St} (hm : isMaker o = true) (hq : (cOp1 E ops o).f K Y τ S = some q) :
    (q.2 = S ∧ ∀ S2, (cOp1 E ops o).f K Y τ S2 = some (q.1, S2)) ∨ ∃ ob, q.2 = mkS S.h S.nx ob ∧ S.nx < 4096 ∧ ∀ h', (cOp1 E ops o).f K Y τ ⟨h', S.nx⟩ = some (q.1, mkS h' S.nx ob) := by
  unfold cOp1 at hq ⊢
  split at hq
  · obtain ⟨x, h1, h2, h3⟩ := maker_any hm hq
    exact .inr ⟨x, h1, h2, fun h' => h3 K Y h'⟩
  · obtain ⟨b, h1, hq⟩ := ob_some.1 (show ob ((cWanted ops o).f τ) _ = some q from hq)
    dsimp only
    rw [h1]
    cases b
    · cases hq; exact .inl ⟨rfl, fun _ => rfl⟩
    · obtain ⟨x, h1, h2, h3⟩ := maker_any hm hq
      exact .inr ⟨x, h1, h2, fun h' => h3 K Y h'⟩
end
end Go.Proofs.YtemldmjpanmdbaaGreatDoor.Ev
