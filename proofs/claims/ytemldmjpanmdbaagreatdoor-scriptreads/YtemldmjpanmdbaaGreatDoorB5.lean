/- The reckoner: functions, rounds, calls with arguments. No walk. -/
import Derived.Test.YtemldmjpanmdbaaGreatDoorB4
import Derived.RangeFuncIn
import Derived.RangeFuncLeaves
set_option linter.unusedVariables false
namespace Go.Proofs.YtemldmjpanmdbaaGreatDoor.Ev
open Go.RowKit
section
variable {P : Program} {b : Frame} {a : Act} {k : List Item} {cs : List Frame} {w : World}
theorem stepR_scope {c : Code} : step P (lone (b.atR a (.code (.scope c) :: k)) cs w) = .next (lone (b.atR a (.code c :: .inScope c :: k)) cs w) := step_lone_go (by simp [stepG, stepG.exec, Frame.atR])
theorem stepR_inScope {c : Code} : step P (lone (b.atR a (.inScope c :: k)) cs w) = .next (lone (b.atR a k) cs w) := step_lone_go (by simp [stepG, stepG.exec, Frame.atR])
/-- A scope by so many jumps. -/
def jumpsIn (F : Fence) (n : Nat) (P : Program) (c : Code) (Q : Exit → Act → World → Prop) : Nat → Code → Act → World → Prop
  | 0, _, _, _ => False
  | m + 1, r, a, w => r.wpIn F n P (fun e a w => match e with
    | .goto l => (match findLabel c l with | some rest => jumpsIn F n P c Q m rest a w | none => Q (.goto l) a w)
    | e => Q e a w) a w
theorem wpIn_scope_jumpsN {F : Fence} {n : Nat} {Q : Exit → Act → World → Prop} {c : Code} (m : Nat) (h : jumpsIn F n P c Q m c a w) : (Code.scope c).wpIn F n P Q a w := by
  intro b k cs hro hb hr
  have key : ∀ m r a w, jumpsIn F n P c Q m r a w → ∃ e a' w', Q e a' w' ∧ ArrivesIn (Machine.fenced P F) P (lone (b.atR a (.code r :: .inScope c :: k)) cs w) b k cs e a' w' := by
    intro m
    induction m with
    | zero => intro r a w h; exact h.elim
    | succ m ih =>
      intro r a w h
      obtain ⟨e, a₁, w₁, hq, harr⟩ := h b (.inScope c :: k) cs hro hb hr
      cases e with
      | normal => exact ⟨.normal, a₁, w₁, hq, StepsIn.trans harr (.one (fenced_calm hb hr rfl) stepR_inScope)⟩
      | exit id => exact ⟨.exit id, a₁, w₁, hq, fun k' hk => harr.1 k' (by simp [exitTo, hk]), fun h1 h2 => harr.2 h1 (by simp [exitTo, h2])⟩
      | goto l =>
        cases hf : findLabel c l with
        | some rest =>
          simp only [hf] at hq
          obtain ⟨e₂, a₂, w₂, hq₂, harr₂⟩ := ih rest a₁ w₁ hq
          exact ⟨e₂, a₂, w₂, hq₂, .of_steps (harr.1 _ (by simp [gotoIn, hf])) harr₂⟩
        | none =>
          simp only [hf] at hq
          exact ⟨.goto l, a₁, w₁, hq, fun k' hk => harr.1 k' (by simp [gotoIn, hf, hk]), fun h1 h2 => harr.2 h1 (by simp [gotoIn, hf, h2])⟩
      | ret => exact ⟨_, a₁, w₁, hq, harr⟩
      | panic ch => exact ⟨_, a₁, w₁, hq, harr⟩
      | outgrown => exact ⟨_, a₁, w₁, hq, harr⟩
  obtain ⟨e, a', w', hq, harr⟩ := key m c a w h
  exact ⟨e, a', w', hq, .of_steps (.one (fenced_calm hb hr rfl) stepR_scope) harr⟩
end
section
variable {E : Env} {K : CallF} {Y : YieldF} {N : Nat}
theorem scope_jumps {b : Code} {g : Code → CodeF} (hg : ∀ c, CodeOk E N K Y c (g c)) : ∀ (m : Nat) (r : Code) rd fr S q, (scopeF g b m r).f K Y rd fr S = some q → Ge S q.2.2 ∧ ∀ B ρ V w a rd' n (Q : Exit → Act → World → Prop), GS E.P B ρ S V w → FRel E ρ N fr a → RdR ρ rd rd' → Fsh ρ S.nx q.2.2.nx → Wf S → B ≤ w.heap.size →
    (∀ ρ' w' a', GS E.P B ρ' q.2.2 V w' → Nx B ρ ρ' S.nx q.2.2.nx w w' → FRel E ρ' N q.2.1 a' → Q q.1 a' w') → jumpsIn (Fw rd') n E.P b Q m r a w
  | 0, r, rd, fr, S, q, hq => by cases hq
  | m + 1, r, rd, fr, S, q, hq => by
    obtain ⟨p, h1, hq⟩ := ob_some.1 (show ob ((g r).f K Y rd fr S) _ = some q from hq)
    obtain ⟨g1, g2⟩ := hg r rd fr S p h1
    obtain ⟨e, fr1, S1⟩ := p
    cases e with
    | goto l =>
      dsimp only at hq
      cases hf : findLabel b l with
      | some rest =>
        rw [hf] at hq
        have hq : (scopeF g b m rest).f K Y rd fr1 S1 = some q := hq
        obtain ⟨k1, k2⟩ := scope_jumps hg m rest rd fr1 S1 q hq
        refine ⟨g1.trans k1, fun B ρ V w a rd' n Q hG hF hr hff hwf hB hk => ?_⟩
        refine g2 B ρ V w a rd' n _ hG hF hr (hff.fst k1.nx) hwf hB fun ρ1 w1 a1 hG1 hN1 hF1 => ?_
        simp only [hf]
        exact k2 B ρ1 V w1 a1 rd' n Q hG1 hF1 (hr.mono hN1.le) (hff.snd hN1) (g1.wf hwf) (Nat.le_trans hB hN1.bel.size) fun ρ2 w2 a2 hG2 hN2 hF2 => hk ρ2 w2 a2 hG2 (hN1.trans hN2) hF2
      | none =>
        rw [hf] at hq
        cases hq
        refine ⟨g1, fun B ρ V w a rd' n Q hG hF hr hff hwf hB hk => ?_⟩
        refine g2 B ρ V w a rd' n _ hG hF hr hff hwf hB fun ρ1 w1 a1 hG1 hN1 hF1 => ?_
        simp only [hf]
        exact hk ρ1 w1 a1 hG1 hN1 hF1
    | _ =>
      cases hq
      exact ⟨g1, fun B ρ V w a rd' n Q hG hF hr hff hwf hB hk => g2 B ρ V w a rd' n _ hG hF hr hff hwf hB fun ρ1 w1 a1 hG1 hN1 hF1 => hk ρ1 w1 a1 hG1 hN1 hF1⟩
theorem code_scope {b : Code} {g : Code → CodeF} (hg : ∀ c, CodeOk E N K Y c (g c)) (m : Nat) : CodeOk E N K Y (.scope b) (scopeF g b m b) := fun rd fr S q hq =>
  let ⟨g1, g2⟩ := scope_jumps hg m b rd fr S q hq
  ⟨g1, fun B ρ V w a rd' n Q hG hF hr hf hwf hB hk => wpIn_scope_jumpsN m (g2 B ρ V w a rd' n Q hG hF hr hf hwf hB hk)⟩
end
end Go.Proofs.YtemldmjpanmdbaaGreatDoor.Ev

namespace Go.Proofs.YtemldmjpanmdbaaGreatDoor.Ev
open Go.RowKit
section
variable {E : Env} {ρ ρ' : Ren} {B : Nat} {w w' : World} {S S' : St} {V : Hp} {K : CallF} {Y : YieldF} {N : Nat}
theorem loopOf_some {l : Nat} {r : Loop} : loopOf S l = some r ↔ rdO S l = some (.inr (.loop r)) := by
  unfold loopOf
  constructor
  · intro h
    obtain ⟨o, h1, h⟩ := ob_some.1 h
    rw [h1]
    split at h
    · cases h; rfl
    · cases h
  · intro h
    exact ob_some.2 ⟨_, h, rfl⟩
/-- A loop's record, as it lies. -/
theorem loop_at {l : Nat} {r : Loop} {P : Program} (h : GS P B ρ S V w) (hl : loopOf S l = some r) : ∃ p r', ρ l = some p ∧ w.heap[p.b]? = some (.loop r') ∧ LR P ρ r r' := by
  obtain ⟨p, h1, r', h2, h3⟩ := h.at_ l _ (ov_of (loopOf_some.1 hl)) rfl
  exact ⟨p, r', h1, h2, h3⟩
theorem run_getLoop {P : Program} {b : Nat} {r : Loop} (h : w.heap[b]? = some (.loop r)) : (Instr.getLoop b).run P w = .ok r w := by
  simp [Instr.getLoop, getObj, Sem.run, h, Result.andThen]
/-- A loop's record turns. -/
theorem loop_put {P : Program} {l : Nat} {r r1 : Loop} {p : Pl} {r' r1' : Loop} (h : GS P B ρ S V w) (hl : loopOf S l = some r) (hp : ρ l = some p) (hr : w.heap[p.b]? = some (.loop r')) (h1 : LR P ρ r1 r1') :
    ∃ w1, (setObj p.b (.loop r1')).run P w = .ok () w1 ∧ GS P B ρ (putO S l (.inr (.loop r1))) V w1 ∧ Nx B ρ ρ S.nx S.nx w w1 := by
  have := putO_spec (o1 := .inr (.loop r1)) (ob1 := .loop r1') h (loopOf_some.1 hl) rfl hp hr (by intro a b c e; cases e) ⟨r1', set_same (P := P) (h.plc l p hp).2, h1⟩
  exact ⟨_, this.1, this.2.1, this.2.2⟩
theorem listOf_get {τ : Tr Value TD} {N t : Nat} {v : Value} (h : (listOf τ N)[t]? = some v) : t < N ∧ v = (Tr.get TD τ t).getD unk := by
  unfold listOf at h
  simp only [List.getElem?_toArray, List.getElem?_map, Option.map_eq_some_iff] at h
  obtain ⟨x, h1, h2⟩ := h
  obtain ⟨h3, h4⟩ := List.getElem?_eq_some_iff.1 h1
  simp at h3 h4
  subst h4
  exact ⟨h3, h2.symm⟩
theorem listOf_size (τ : Tr Value TD) (N : Nat) : (listOf τ N).size = N := by simp [listOf]
end
end Go.Proofs.YtemldmjpanmdbaaGreatDoor.Ev

namespace Go.Proofs.YtemldmjpanmdbaaGreatDoor.Ev
open Go.RowKit
section
variable {E : Env} {ρ ρ' : Ren} {B : Nat} {w w' : World} {S S' : St} {V : Hp} {K : CallF} {Y : YieldF} {N : Nat}
theorem run_endLoop {P : Program} {b : Nat} {r : Loop} {w1 : World} (h : w.heap[b]? = some (.loop r)) (hs : r.state ≠ .busy) (h1 : (setObj b (.loop { r with state := .exhausted })).run P w = .ok () w1) :
    (Instr.endLoop b).run P w = .ok r.pending w1 := by
  have : (r.state == LoopState.busy) = false := by
    cases hr : r.state <;> first | rfl | exact absurd hr hs
  simp [Instr.endLoop, run_getLoop h, hs, h1, Result.andThen]
/-- The block of deferred calls of an outermost loop, or that of the round that it is in. -/
theorem defers_spec {P : Program} {rd rd' : Option Nat} {e : Nat × List Nat × St} {fn : FuncId} {ps : Array Tmp} {assign body : Code} {tmps : Array Value}
    (hq : (match rd with
      | some l => ob (loopOf S l) fun r => some (r.defers, [], S)
      | none => ob (newO S (.inr (.deferred (some [])))) fun p => some (p.1, [p.1], p.2)) = some e)
    (h : GS P B ρ S V w) (hr : RdR ρ rd rd') (hf : Fsh ρ S.nx e.2.2.nx) (hB : B ≤ w.heap.size) :
    Ge S e.2.2 ∧ ∃ ρ' w' q mk, GS P B ρ' e.2.2 V w' ∧ Nx B ρ ρ' S.nx e.2.2.nx w w' ∧ ρ' e.1 = some q ∧ MRel ρ' e.2.1 mk ∧
      (∀ ms ds, MRel ρ' ms ds → MRel ρ' (e.2.1 ++ ms) (mk ++ ds)) ∧
      (Instr.enterLoop fn tmps ps assign body rd').run P w = ((newObj (.loop { state := .ready, pending := none, fn, tmps, params := ps, assign, body, defers := q.b })).run P w').andThen fun l w => .ok (l, mk) w := by
  cases rd with
  | some l =>
    obtain ⟨r, h1, hq⟩ := ob_some.1 hq
    cases hq
    obtain ⟨p, r', h2, h3, h4⟩ := loop_at h h1
    obtain ⟨q, h5, h6⟩ := h4.defers
    obtain ⟨p', h7, h8⟩ := hr
    rw [h2] at h7; cases h7
    subst h8
    refine ⟨.refl _, ρ, w, q, [], h, Nx.refl _ _ _ _, h5, rfl, fun ms ds k => k, ?_⟩
    simp [Instr.enterLoop, Sem.run_bind, run_getLoop h3, Result.andThen, h6]
  | none =>
    obtain ⟨p, h1, hq⟩ := ob_some.1 hq
    cases hq
    cases hr
    obtain ⟨g1, g2, g3, g4⟩ := newO_spec h1
    obtain ⟨ρ', k1, k2, k3⟩ := h.newO (n := 0) (t := 0) h1 (hf _ (Nat.le_refl _) (by show S.nx < p.2.nx; omega)) hB (o' := .deferred (some [])) fun ρ' _ => ⟨some [], rfl, get_alloc_new w _, rfl⟩
    refine ⟨newO_ge h1, ρ', _, _, [{ target := .collected w.heap.size, args := #[] }], k2, k3, k1, ⟨_, [], k1, rfl, rfl⟩, fun ms ds k => ⟨_, ds, k1, rfl, k⟩, ?_⟩
    simp [Instr.enterLoop, Sem.run_bind, Result.andThen, newObj]
    rfl
theorem code_range (hE : EnvOk E) (hN : NmOk E) (hK : KOk E K) (gK : KGe K) (hN256 : N ≤ 256) {fn : FuncId} {g : Operand} {ps : Array Tmp} {assign body : Code} {m : Nat} :
    CodeOk E N K Y (.rangeFunc g ps assign body) (cCode E fn N (m + 1) (.rangeFunc g ps assign body)) := fun rd fr S q hq => by
  have hq : (cRange E fn N g ps assign body).f K rd fr S = some q := hq
  obtain ⟨e, h1, hq⟩ := ob_some.1 hq
  obtain ⟨l, h2, hq⟩ := ob_some.1 hq
  obtain ⟨v, h3, hq⟩ := ob_some.1 hq
  split at hq
  case h_2 => cases hq
  rename_i f first captured
  obtain ⟨fnf, h4, hq⟩ := ob_some.1 hq
  obtain ⟨h5, hq⟩ := iff_some.1 hq
  obtain ⟨p, h6, hq⟩ := ob_some.1 hq
  obtain ⟨r, h7, hq⟩ := ob_some.1 hq
  obtain ⟨h8, hq⟩ := iff_some.1 hq
  obtain ⟨h4a, h4b⟩ := cond_some.1 h4
  have hP := hE.fn f fnf (blt_iff.1 h4a) h4b
  have hq2 : q.2.1 = { fr with marks := e.2.1 ++ fr.marks } ∧ q.2.2 = putO p.2 l.1 (.inr (.loop { r with state := .exhausted })) ∧
      (r.pending = none ∧ q.1 = .normal ∨ ∃ c, r.pending = some c ∧ ((∃ id, c = .exit id ∧ q.1 = .exit id) ∨ (∃ id, c = .goto id ∧ q.1 = .goto id) ∨ (c = .ret ∧ q.1 = .ret))) := by
    dsimp only at hq
    split at hq <;> first | (cases hq; done) | (rename_i hp; cases hq; refine ⟨rfl, rfl, ?_⟩; simp [hp])
  have ge : Ge S q.2.2 := by
    refine Ge.trans ?_ (.trans (newO_ge h2) (.trans (gK _ _ _ _ h6) ?_))
    · cases rd with
      | some l => obtain ⟨r, _, h⟩ := ob_some.1 h1; cases h; exact .refl _
      | none => obtain ⟨p, h, h'⟩ := ob_some.1 h1; cases h'; exact newO_ge h
    · rw [hq2.2.1]; exact putO_ge (loopOf_some.1 h7)
  refine ⟨ge, fun B ρ V w a rd' n Q hG hF hr hf hwf hB hk => wpIn_rangeFunc fun fn' _ => ?_⟩
  obtain ⟨l1, e1, l2, g1⟩ := newO_spec h2
  have gp := gK _ _ _ _ h6
  have nx3 : q.2.2.nx = p.2.nx := by rw [hq2.2.1]; rfl
  have nx4 := gp.nx
  obtain ⟨ge0, ρ1, w1, q1, mk, G1, N1, hq1, M1, M2, run1⟩ := defers_spec (fn := fn') (ps := ps) (assign := assign) (body := body) (tmps := a.tmps) h1 hG hr (hf.fst (by omega)) hB
  have F1 := hf.snd (n' := e.2.2.nx) N1
  obtain ⟨W, runW, ρ2, k1, G2, N2⟩ : ∃ W, (newObj (.loop { state := .ready, pending := none, fn := fn', tmps := a.tmps, params := ps, assign := assign, body := body, defers := q1.b })).run E.P w1 = .ok w1.heap.size W ∧ ∃ ρ2 : Ren, ρ2 l.1 = some ⟨w1.heap.size, 0, 0, 0⟩ ∧ GS E.P B ρ2 l.2 V W ∧ Nx B ρ1 ρ2 e.2.2.nx l.2.nx w1 W := by
    refine ⟨_, by simp [newObj, Sem.run]; rfl, ?_⟩
    exact G1.newO (n := 0) (t := 0) h2 (F1 _ (Nat.le_refl _) (by omega)) (Nat.le_trans hB N1.bel.size)
      (o' := .loop { state := .ready, pending := none, fn := fn', tmps := a.tmps, params := ps, assign, body, defers := q1.b }) fun ρ' hle =>
        ⟨_, get_alloc_new w1 _, rfl, rfl, by rw [listOf_size]; exact hF.n, rfl, rfl, rfl, fun t v hv => by
          obtain ⟨ht, hv⟩ := listOf_get hv
          subst hv
          cases hx : Tr.get TD fr.τ t with
          | none => exact ⟨a.tmps[t]'(by rw [hF.n]; exact ht), by simp [hF.n, ht], trivial⟩
          | some v =>
            obtain ⟨v', u1, u2⟩ := hF.t t v (by rw [tmpsOf_eq, if_pos (by omega)]; exact hx)
            exact ⟨v', u1, VR_mono (Ren.le_trans N1.le hle) _ _ u2⟩, ⟨q1, hle _ _ hq1, rfl⟩⟩
  have hv := opd_spec hF.t h3
  simp only [VR] at hv
  obtain ⟨f', c', he, v1, v2⟩ := hv
  have k0 := k1
  have N12 := N1.trans N2
  have F2 := hf.snd (n' := l.2.nx) N12
  have wf2 : Wf l.2 := (newO_ge h2).wf (ge0.wf hwf)
  have hname := hN f fnf hP h5
  have hname : fnf.name ≠ "runtime.NumGoroutine" := by simpa using hname
  refine ⟨w1.heap.size, mk, W, { target := .fn (.func f) c', args := f' ++ #[.func (.yield w1.heap.size) #[] #[]] }, W, f, f' ++ #[.func (.yield w1.heap.size) #[] #[]] ++ c', W, ?_, ?_, fun _ _ => trivial, ?_, fun h => by simp [Fence.wide] at h, ?_⟩
  · rw [show (Fw rd').round = rd' from rfl, run1, runW]; rfl
  · have hev : ∀ v, a.eval (.const v) = v := fun _ => rfl
    simp [resolve, he, Deferred.ofValue, hev]
  · obtain ⟨c, hc⟩ := Option.isSome_iff_exists.1 h5
    simp [invoke, callFunc, program, Sem.run, hP, hname, hc]
  · have hargs : VRL E.P ρ2 (first.toList ++ [Value.func (.yield l.1) #[] #[]] ++ captured.toList) (f' ++ #[Value.func (.yield w1.heap.size) #[] #[]] ++ c').toList := by
      simp only [Array.toList_append]
      refine VRL_append (VRL_append ((VRL_mono N12.le _ _ (VRA_iff.1 v1))) ?_) (VRL_mono N12.le _ _ (VRA_iff.1 v2))
      exact ⟨_, [], rfl, by simp only [VR]; exact ⟨by first | trivial | rfl, by first | trivial | rfl, _, k1, rfl⟩, rfl⟩
    have F3 : Fsh ρ2 l.2.nx p.2.nx := F2.fst (by rw [nx3]; exact Nat.le_refl _)
    have hB2 : B ≤ W.heap.size := Nat.le_trans hB N12.bel.size
    have hcall := hK f _ l.2 p h6 B ρ2 V W _ G2 hargs F3 wf2 hB2 (n - 1)
    refine CallsIn.mono (callsIn_fw hcall) ?_
    · rintro e3 w3 ⟨v3, ρ3, rfl, _, G3, N3⟩
      have N123 := N12.trans N3
      obtain ⟨pl, r3, b1, b2, b3⟩ := loop_at G3 h7
      rw [N3.le _ _ k1] at b1; cases b1
      have hb : r3.state ≠ .busy := by rw [b3.state]; intro e; rw [e] at h8; exact absurd h8 (by decide)
      obtain ⟨w4, c1, c2, c3⟩ := loop_put (r1 := { r with state := .exhausted }) (r1' := { r3 with state := .exhausted }) G3 h7 (N3.le _ _ k1) b2 ⟨rfl, b3.pending, b3.size, b3.params, b3.assign, b3.body, b3.tmps, b3.defers⟩
      refine ⟨r3.pending, w4, run_endLoop b2 hb c1, ?_⟩
      have N4 : Nx B ρ ρ3 S.nx q.2.2.nx w w4 := by rw [nx3]; exact N123.trans c3
      have G4 : GS E.P B ρ3 q.2.2 V w4 := by rw [hq2.2.1]; exact c2
      have F4 : FRel E ρ3 N q.2.1 { a with defers := mk ++ a.defers } := by
        rw [hq2.1]
        exact ⟨fun t v hv => hF.t.mono N4.le t v hv, hF.n, MRel.mono (Ren.le_trans N2.le N3.le) (M2 _ _ (hF.m.mono N1.le))⟩
      have := hk ρ3 w4 _ G4 N4 F4
      rw [b3.pending]
      rcases hq2.2.2 with ⟨d1, d2⟩ | ⟨c, d1, d2⟩
      · rw [d1]; rw [d2] at this; exact this
      · rw [d1]
        rcases d2 with ⟨id, rfl, d3⟩ | ⟨id, rfl, d3⟩ | ⟨rfl, d3⟩ <;> rw [d3] at this
        · exact wpIn_exit this
        · exact wpIn_goto this
        · exact wpIn_ret this
end
end Go.Proofs.YtemldmjpanmdbaaGreatDoor.Ev

namespace Go.Proofs.YtemldmjpanmdbaaGreatDoor.Ev
open Go.RowKit
section
variable {E : Env} {K : CallF} {Y : YieldF} {N : Nat}
theorem cCode_ok (hE : EnvOk E) (hN : NmOk E) (hK : KOk E K) (hY : YOk E Y) (gK : KGe K) (gY : YGe Y) (hm : E.P.follows .mixedOrders = true) (hN256 : N ≤ 256) {fn : FuncId} :
    ∀ (m : Nat) (c : Code), CodeOk E N K Y c (cCode E fn N m c)
  | 0, c => fun rd fr S q hq => by cases hq
  | m + 1, c => by
    have ih := fun c => cCode_ok hE hN hK hY gK gY hm hN256 (fn := fn) m c
    cases c with
    | skip => exact code_skip
    | label l => exact code_label
    | region id A draw => exact code_region hE hN hK hY gK gY hm
    | seq a b => exact code_seq (ih a) (ih b)
    | cond x a b => exact code_cond (ih a) (ih b)
    | block id b => exact code_block (ih b)
    | loop b => exact code_loop (ih b) 5000
    | scope b => exact code_scope ih 5000
    | exit id => exact code_exit
    | goto l => exact code_goto
    | ret => exact code_ret
    | rangeFunc g ps a b => exact code_range hE hN hK gK hN256
    | refuse s => exact fun rd fr S q hq => by cases hq
end
end Go.Proofs.YtemldmjpanmdbaaGreatDoor.Ev

namespace Go.Proofs.YtemldmjpanmdbaaGreatDoor.Ev
open Go.RowKit
section
variable {E : Env} {ρ ρ' : Ren} {B : Nat} {w w' : World} {S S' : St} {V : Hp} {K : CallF} {Y : YieldF} {N : Nat}
theorem args0_get : ∀ {l : List Value} {i : Nat} {τ : Tr Value TD} {k : Nat}, i + l.length ≤ 256 → tmpsOf (args0 i τ l) k = if i ≤ k ∧ k < i + l.length then l[k - i]? else tmpsOf τ k
  | [], i, τ, k, _ => by rw [if_neg (fun h => by simp at h; omega)]; rfl
  | v :: l, i, τ, k, h => by
    simp only [List.length_cons] at h
    show tmpsOf (args0 (Nat.add i 1) (Tr.set TD τ i (some v)) l) k = _
    rw [args0_get (show i + 1 + l.length ≤ 256 by omega), tmpsOf_set (by omega)]
    simp only [List.length_cons]
    show (if i + 1 ≤ k ∧ k < i + 1 + l.length then l[k - (i + 1)]? else _) = _
    by_cases h1 : k = i
    · subst h1
      rw [if_neg (by omega), if_pos rfl, if_pos (by omega)]; simp
    · by_cases h2 : i + 1 ≤ k ∧ k < i + 1 + l.length
      · rw [if_pos h2, if_pos (by omega), show k - i = (k - (i + 1)) + 1 by omega]; rfl
      · rw [if_neg h2, if_neg h1, if_neg (by omega)]
theorem emp_tmps (k : Nat) : tmpsOf (Tr.emp TD) k = none := by
  rw [tmpsOf_eq, Tr.get_emp]; simp
/-- A frame's slots at a call. -/
theorem args0_trel {P : Program} {l : List Value} {c : Array Value} {m : Nat} (h : VRL P ρ l c.toList) (hl : l.length ≤ 256) :
    TRel P ρ (tmpsOf (args0 0 (Tr.emp TD) l)) { tmps := c ++ Array.replicate m undef, defers := [] } := fun t v hv => by
  rw [args0_get (by omega), emp_tmps] at hv
  split at hv
  · obtain ⟨v', h1, h2⟩ := VRL_get h t v (by simpa using hv)
    refine ⟨v', ?_, h2⟩
    have h1 : c[t]? = some v' := by simpa using h1
    have : t < c.size := by
      rcases Nat.lt_or_ge t c.size with h | h
      · exact h
      · rw [Array.getElem?_eq_none h] at h1; cases h1
    show (c ++ Array.replicate m undef)[t]? = some v'
    rw [Array.getElem?_append_left this, h1]
  · cases hv
/-- The marks' blocks are shut. -/
theorem takeAll_ge : ∀ {ms : List Nat} {S S' : St}, takeAll ms S = some S' → Ge S S'
  | [], S, S', h => by cases h; exact .refl _
  | m :: ms, S, S', h => by
    obtain ⟨o, h1, h⟩ := ob_some.1 (show ob (rdO S m) _ = some S' from h)
    split at h
    · exact (putO_ge h1).trans (takeAll_ge h)
    · cases h
theorem takeAll_nx : ∀ {ms : List Nat} {S S' : St}, takeAll ms S = some S' → S'.nx = S.nx
  | [], S, S', h => by cases h; rfl
  | m :: ms, S, S', h => by
    obtain ⟨o, h1, h⟩ := ob_some.1 (show ob (rdO S m) _ = some S' from h)
    split at h
    · exact takeAll_nx (S := putO S m dead) h
    · cases h
theorem takeAll_spec {P : Program} {F : Fence} {n : Nat} {fn : Func} {tmps : Array Value} {R : Ending → World → Prop} : ∀ {ms : List Nat} {ds : List Deferred} {S S' : St} {w : World}, takeAll ms S = some S' → GS P B ρ S V w → MRel ρ ms ds →
    (∀ w', GS P B ρ S' V w' → Nx B ρ ρ S.nx S'.nx w w' → ∃ v, (results fn tmps).run P w' = .ok v w' ∧ R (.returned v) w') → LeavesInM F n P fn tmps R ds .returning w
  | [], ds, S, S', w, h, hG, hm, hk => by
    cases h
    cases hm
    exact hk w hG (Nx.refl _ _ _ _)
  | m :: ms, ds, S, S', w, h, hG, hm, hk => by
    obtain ⟨o, h1, h⟩ := ob_some.1 (show ob (rdO S m) _ = some S' from h)
    obtain ⟨p, ds', g1, rfl, g2⟩ := hm
    split at h
    case h_2 => cases h
    obtain ⟨p', h2, dd, _, h3, rfl⟩ := hG.at_ m _ (ov_of h1) rfl
    rw [g1] at h2; cases h2
    obtain ⟨k1, k2, k3⟩ := putO_spec (o1 := dead) (ob1 := .deferred none) hG h1 rfl g1 h3 (by intro a b c e; cases e) trivial
    refine ⟨by simp, .inl ⟨p.b, _, rfl, ?_, takeAll_spec h k2 g2 fun w' a1 a2 => hk w' a1 (k3.trans a2)⟩⟩
    simp [Instr.takeDeferred, getObj, Sem.run_bind, Sem.run, h3, Result.andThen, k1]
/-- A variable of the results. -/
theorem load_res (hE : EnvOk E) {t : TypeId} {x : Arg Value} {τ : Tmps} {q : Value × St} {c : Value} (h : GS E.P B ρ S V w) (hq : (cLoad E t x).f τ S = some q) (hx : ∀ v, x.f τ = some v → VR E.P ρ v c) :
    ∃ a v', c = .pointer (some a) ∧ (loadVar t a).run E.P w = .ok v' w ∧ VR E.P ρ q.1 v' := by
  unfold cLoad at hq
  cases hd : E.dg t with
  | none => rw [hd] at hq; cases hq
  | some d =>
    obtain ⟨i, hi, hu, hs, _, _⟩ := hE.ty t d hd
    rw [hd] at hq
    simp only at hq
    cases hag : isAggD d.und <;> rw [hag] at hq <;> simp only [cond_true, cond_false] at hq
    · obtain ⟨v, h1, hq⟩ := ob_some.1 hq
      obtain ⟨a, h2, hq⟩ := ob_some.1 hq
      obtain ⟨u, h3, hq⟩ := ob_some.1 hq
      cases hq
      obtain ⟨p, hp, rfl⟩ := VR_ptr h2 (hx v h1)
      obtain ⟨p', v', hp', hc, hv⟩ := rdC_spec h h3
      rw [hp] at hp'; cases hp'
      refine ⟨_, v', rfl, ?_, hv⟩
      simp [loadVar, run_isAgg hu, hag, hc]
    · obtain ⟨v, h1, hq⟩ := ob_some.1 hq
      obtain ⟨a, h2, hq⟩ := ob_some.1 hq
      obtain ⟨l, h3, hq⟩ := ob_some.1 hq
      cases hq
      obtain ⟨p, hp, rfl⟩ := VR_ptr h2 (hx v h1)
      obtain ⟨p', l', hp', hl, hlen, _, hc⟩ := rdCs_spec h h3
      rw [hp] at hp'; cases hp'
      refine ⟨_, .agg l'.toArray, rfl, ?_, ?_⟩
      · have hrun := run_loadCells_list (P := E.P) (w := w) ⟨p.b, p.s + a.off, none⟩ l' (fun j v hj => by
          have := hc j v hj
          unfold Addr.add
          split
          · rename_i h0; subst h0; simpa using this
          · simpa using this)
        rw [hlen] at hrun
        simp [loadVar, run_isAgg hu, hag, run_sizeOf hi, hs, hrun]
      · simp only [VR]; exact ⟨_, rfl, VRA_iff.2 (by simpa using hl)⟩
/-- What a function answers. -/
def resF (tmps : Array Value) : ResultVar → Sem Value
  | .tmp t => pure (tmps.getD t undef)
  | .cell a t => do loadVar t (← asAddr (tmps.getD a undef))
theorem results_eq (fn : Func) (tmps : Array Value) : results fn tmps = (do let vs ← fn.results.mapM (resF tmps); pure (if h : vs.size = 1 then vs[0] else .tuple vs)) := rfl
theorem res_spec (hE : EnvOk E) {a : Act} {τ : Tmps} (hG : GS E.P B ρ S V w) (ht : TRel E.P ρ τ a) : ∀ {l : List ResultVar} {vs : List Value}, (cRes E l).f τ S = some vs →
    ∃ vs', (l.mapM (resF a.tmps)).run E.P w = .ok vs' w ∧ VRL E.P ρ vs vs'
  | [], vs, h => by cases h; exact ⟨[], rfl, rfl⟩
  | .tmp t :: l, vs, h => by
    obtain ⟨v, h1, h⟩ := ob_some.1 (show ob (τ t) _ = some vs from h)
    obtain ⟨us, h2, h⟩ := ob_some.1 h
    cases h
    obtain ⟨vs', k1, k2⟩ := res_spec hE hG ht h2
    obtain ⟨v', k3, k4⟩ := ht t v h1
    exact ⟨v' :: vs', by simp [List.mapM_cons, resF, k3, k1, Result.andThen], v', vs', rfl, k4, k2⟩
  | .cell x t :: l, vs, h => by
    obtain ⟨p, h1, h⟩ := ob_some.1 (show ob ((cLoad E t (Bx.mk fun ρ => ρ x)).f τ S) _ = some vs from h)
    obtain ⟨us, h2, h⟩ := ob_some.1 h
    cases h
    obtain ⟨vs', k1, k2⟩ := res_spec hE hG ht h2
    by_cases hx : ∃ v, τ x = some v
    · obtain ⟨v, hx⟩ := hx
      obtain ⟨v', k3, k4⟩ := ht x v hx
      obtain ⟨ad, u, rfl, k5, k6⟩ := load_res hE (c := v') hG h1 fun v1 hv1 => by
        have hv1 : τ x = some v1 := hv1
        rw [hx] at hv1; cases hv1; exact k4
      exact ⟨u :: vs', by simp [List.mapM_cons, Sem.run_bind, resF, k3, k1, k5, asAddr, Result.andThen], u, vs', rfl, k6, k2⟩
    · exfalso
      have hx : τ x = none := by
        cases h : τ x with
        | none => rfl
        | some v => exact absurd ⟨v, h⟩ hx
      unfold cLoad at h1
      cases hd : E.dg t with
      | none => rw [hd] at h1; cases h1
      | some d =>
        rw [hd] at h1
        simp only at h1
        cases hag : isAggD d.und <;> rw [hag] at h1 <;> simp only [cond_true, cond_false] at h1 <;> (obtain ⟨v, h1, _⟩ := ob_some.1 h1; rw [show τ x = some v from h1] at hx; cases hx)
end
end Go.Proofs.YtemldmjpanmdbaaGreatDoor.Ev

namespace Go.Proofs.YtemldmjpanmdbaaGreatDoor.Ev
open Go.RowKit
section
variable {E : Env} {ρ ρ' : Ren} {B : Nat} {w w' : World} {S S' : St} {V : Hp} {K : CallF} {Y : YieldF} {N : Nat}
theorem results_spec (hE : EnvOk E) {fn : Func} {a : Act} {τ : Tmps} {vs : List Value} (hG : GS E.P B ρ S V w) (ht : TRel E.P ρ τ a) (h : (cRes E fn.results.toList).f τ S = some vs) :
    ∃ v, (results fn a.tmps).run E.P w = .ok v w ∧ VR E.P ρ (oneOf S vs).1 v := by
  obtain ⟨vs', h1, h2⟩ := res_spec hE hG ht h
  have hl := VRL_length h2
  refine ⟨if h : vs'.toArray.size = 1 then vs'.toArray[0] else .tuple vs'.toArray, ?_, ?_⟩
  · rw [results_eq, Array.mapM_eq_mapM_toList]
    simp [Sem.run_map, h1, Result.andThen]
  · match vs, h2, hl with
    | [v], h2, hl =>
      obtain ⟨v', m, rfl, h3, h4⟩ := h2
      cases h4
      exact h3
    | [], h2, hl => cases h2; simp [oneOf, VR]; exact VRA_iff.2 rfl
    | u :: v :: l, h2, hl =>
      have : ¬ vs'.toArray.size = 1 := by simp at hl ⊢; omega
      rw [dif_neg this]
      simp only [oneOf, VR]
      exact ⟨_, rfl, VRA_iff.2 (by simpa using h2)⟩
theorem oneOf_st (S : St) (vs : List Value) : (oneOf S vs).2 = S := by
  match vs with
  | [v] => rfl
  | [] => rfl
  | _ :: _ :: _ => rfl
/-- Functions. -/
theorem func_all (hE : EnvOk E) (hN : NmOk E) (hK : KOk E K) (hY : YOk E Y) (gK : KGe K) (gY : YGe Y) (hm : E.P.follows .mixedOrders = true) {f : FuncId} {args : List Value} {q : Value × St} (hq : (cFunc E f).f K Y args S = some q) :
    Ge S q.2 ∧ ∀ B ρ V w (args' : Array Value), GS E.P B ρ S V w → VRL E.P ρ args args'.toList → Fsh ρ S.nx q.2.nx → Wf S → B ≤ w.heap.size → ∀ n, CallsIn Fence.wide n E.P f args' w (RetR E B ρ S V w q) := by
  unfold cFunc at hq
  split at hq
  case h_1 => cases hq
  rename_i fn hfn
  obtain ⟨h1, h2⟩ := cond_some.1 hfn
  have hP := hE.fn f fn (blt_iff.1 h1) h2
  split at hq
  case h_1 => cases hq
  rename_i c hc
  cases hn : Nat.ble fn.ntmps 256 <;> simp only [hn, cond_true, cond_false] at hq
  · cases hq
  have hn := ble_iff.1 hn
  obtain ⟨h3, hq⟩ := iff_some.1 hq
  have h3 := ble_iff.1 h3
  obtain ⟨p, h4, hq⟩ := ob_some.1 hq
  obtain ⟨h5, hq⟩ := iff_some.1 hq
  obtain ⟨S1, h6, hq⟩ := ob_some.1 hq
  obtain ⟨vs, h7, hq⟩ := ob_some.1 hq
  cases hq
  obtain ⟨g1, g2⟩ := cCode_ok hE hN hK hY gK gY hm hn 300 c none _ S p h4
  have nx1 := takeAll_nx h6
  rw [oneOf_st]
  refine ⟨g1.trans (takeAll_ge h6), fun B ρ V w args' hG ha hf hwf hB n => ?_⟩
  have hsz : args'.size = args.length := by have := VRL_length ha; simpa using this
  refine callsIn_of_wp_marks hP hc trivial ?_ rfl
  refine g2 B ρ V w { tmps := args' ++ Array.replicate (fn.ntmps - args'.size) undef, defers := [] } none n _ hG ⟨args0_trel ha (by omega), by simp; omega, rfl⟩ rfl (hf.fst (by omega)) hwf hB fun ρ' w' a' G1 N1 F1 => ?_
  have key : LeavesInM Fence.wide n E.P fn a'.tmps (RetR E B ρ S V w (oneOf S1 vs)) a'.defers .returning w' := by
    refine takeAll_spec h6 G1 F1.m fun w2 G2 N2 => ?_
    obtain ⟨v, k1, k2⟩ := results_spec hE G2 F1.t h7
    refine ⟨v, k1, v, ρ', rfl, k2, ?_, ?_⟩
    · rw [oneOf_st]; exact G2
    · rw [oneOf_st]; exact N1.trans N2
  obtain ⟨e, fr, S2⟩ := p
  cases e with
  | normal => exact key
  | ret => exact key
  | _ => cases h5
end
end Go.Proofs.YtemldmjpanmdbaaGreatDoor.Ev

namespace Go.Proofs.YtemldmjpanmdbaaGreatDoor.Ev
open Go.RowKit
section
variable {E : Env} {ρ ρ' : Ren} {B : Nat} {w w' : World} {S S' : St} {V : Hp} {K : CallF} {Y : YieldF} {N : Nat}
/-- The slots of a round: the record's, then what yield was given. -/
theorem setAll_trel {P : Program} : ∀ {ts : List Tmp} {vs : List Value} {c : List Value} {τ : Tr Value TD} {tm : Array Value} {ds : List Deferred}, VRL P ρ vs c → TRel P ρ (tmpsOf τ) { tmps := tm, defers := ds } → tm.size ≤ 256 → (∀ t ∈ ts, t < tm.size) →
    TRel P ρ (tmpsOf (setAll τ ts vs)) { tmps := (ts.zip c).foldl (fun tm (t, a) => tm.setIfInBounds t a) tm, defers := ds }
  | [], vs, c, τ, tm, ds, hv, ht, _, _ => by simpa [setAll] using ht
  | t :: ts, [], c, τ, tm, ds, hv, ht, _, _ => by cases hv; simpa [setAll] using ht
  | t :: ts, v :: vs, c, τ, tm, ds, hv, ht, hs, hl => by
    obtain ⟨v', m, rfl, h1, h2⟩ := hv
    have htt := hl t (by simp)
    simp only [setAll, List.zip_cons_cons, List.foldl_cons]
    refine setAll_trel h2 (fun k u hu => ?_) (by simpa using hs) fun x hx => by simpa using hl x (by simp [hx])
    rw [tmpsOf_set (Nat.lt_of_lt_of_le htt hs)] at hu
    by_cases hk : k = t
    · subst hk
      rw [if_pos rfl] at hu; cases hu
      exact ⟨v', by simp [htt], h1⟩
    · rw [if_neg hk] at hu
      obtain ⟨u', g1, g2⟩ := ht k u hu
      exact ⟨u', by rw [← g1]; exact Array.getElem?_setIfInBounds_ne (Ne.symm hk), g2⟩
theorem foldl_set_size : ∀ (l : List (Tmp × Value)) (tm : Array Value), (l.foldl (fun tm (t, a) => tm.setIfInBounds t a) tm).size = tm.size
  | [], _ => rfl
  | (t, a) :: l, tm => by simp only [List.foldl_cons]; rw [foldl_set_size l]; simp
theorem args0_rec {P : Program} {l : List Value} {tm : Array Value} {ds : List Deferred} (h : ∀ (t : Nat) v, l[t]? = some v → ∃ v', tm[t]? = some v' ∧ VR P ρ v v') (hl : l.length ≤ 256) :
    TRel P ρ (tmpsOf (args0 0 (Tr.emp TD) l)) { tmps := tm, defers := ds } := fun t v hv => by
  rw [args0_get (by omega), emp_tmps] at hv
  split at hv
  · exact h t v (by simpa using hv)
  · cases hv
theorem run_beginRound {P : Program} {b : Nat} {r : Loop} {w1 : World} (h : w.heap[b]? = some (.loop r)) (hs : r.state = .ready) (h1 : (setObj b (.loop { r with state := .busy })).run P w = .ok () w1) :
    (Instr.beginRound b).run P w = .ok () w1 := by
  simp [Instr.beginRound, run_getLoop h, hs, h1, Result.andThen]
theorem run_endRound {P : Program} {b : Nat} {r : Loop} {w1 : World} {j : Option Code} (h : w.heap[b]? = some (.loop r)) (h1 : (setObj b (.loop { r with state := if j.isNone then .ready else .done, pending := j })).run P w = .ok () w1) :
    (Instr.endRound b j).run P w = .ok (.bool j.isNone) w1 := by
  simp only [Instr.endRound, Sem.run_bind, run_getLoop h, Result.andThen, h1]
  rfl
theorem run_yield {P : Program} {b : Nat} {r : Loop} {args : Array Value} (h : w.heap[b]? = some (.loop r)) (hs : args.size = r.params.size) :
    (Instr.yield b args).run P w = .ok (.round b r.fn ((r.params.zip args).foldl (fun tmps (t, a) => tmps.setIfInBounds t a) r.tmps) r.assign r.body) w := by
  simp [Instr.yield, run_getLoop h, hs, Result.andThen]
theorem yield_all (hE : EnvOk E) (hN : NmOk E) (hK : KOk E K) (hY : YOk E Y) (gK : KGe K) (gY : YGe Y) (hm : E.P.follows .mixedOrders = true) {l : Nat} {args : List Value} {q : Value × St} (hq : yieldF E K Y l args S = some q) :
    Ge S q.2 ∧ ∀ B ρ V w (args' : Array Value) p, GS E.P B ρ S V w → VRL E.P ρ args args'.toList → Fsh ρ S.nx q.2.nx → Wf S → B ≤ w.heap.size → ρ l = some p →
      ∀ n, ∃ f tmps as bd, (Instr.yield p.b args').run E.P w = .ok (.round p.b f tmps as bd) w ∧ RoundIn Fence.wide n E.P p.b f tmps as bd w (RetR E B ρ S V w q) := by
  unfold yieldF at hq
  obtain ⟨r, h1, hq⟩ := ob_some.1 hq
  obtain ⟨h2, hq⟩ := iff_some.1 hq
  obtain ⟨nu, h3, hq⟩ := ob_some.1 hq
  cases h3
  obtain ⟨p, h4, hq⟩ := ob_some.1 hq
  simp only [Bool.and_eq_true, List.all_eq_true] at h2
  obtain ⟨⟨h2a, h2b⟩, h2c⟩ := h2
  have h2a : args.length = r.params.size := Nat.eq_of_beq_eq_true h2a
  have h2b := ble_iff.1 h2b
  have h2c : ∀ t ∈ r.params.toList, t < r.tmps.size := fun t ht => blt_iff.1 (h2c t ht)
  obtain ⟨e, fr1, S1⟩ := p
  cases e with
  | normal => ?_
  | _ => cases hq
  obtain ⟨r2, h5, hq⟩ := ob_some.1 hq
  obtain ⟨h6, hq⟩ := iff_some.1 hq
  obtain ⟨⟨e2, fr2, S2⟩, h7, hq⟩ := ob_some.1 hq
  obtain ⟨r3, h8, hq⟩ := ob_some.1 hq
  have h6 : r2.state = .ready := by
    cases hs : r2.state <;> rw [hs] at h6 <;> first | rfl | cases h6
  obtain ⟨g1, g2⟩ := cCode_ok hE hN hK hY gK gY hm h2b 300 r.assign (some l) _ S _ h4
  obtain ⟨g3, g4⟩ := cCode_ok hE hN hK hY gK gY hm h2b 300 r.body (some l) _ _ _ h7
  have gput : Ge S1 (putO S1 l (.inr (.loop { r2 with state := .busy }))) := putO_ge (loopOf_some.1 h5)
  have hq2 : ∃ j : Option Code, q = (.bool j.isNone, putO S2 l (.inr (.loop { r3 with state := if j.isNone then .ready else .done, pending := j }))) ∧
      (e2 = .normal ∧ j = none ∨ e2 = .ret ∧ j = some .ret ∨ (∃ id, e2 = .exit id ∧ j = some (.exit id)) ∨ (∃ id, e2 = .goto id ∧ j = some (.goto id))) := by
    have e1 : (if (none : Option Code).isNone = true then LoopState.ready else LoopState.done) = LoopState.ready := rfl
    have e3 : ∀ c : Code, (if (some c).isNone = true then LoopState.ready else LoopState.done) = LoopState.done := fun _ => rfl
    dsimp only at hq
    cases e2 with
    | normal => refine ⟨none, ?_, .inl ⟨rfl, rfl⟩⟩; rw [e1]; exact (Option.some.inj hq).symm
    | ret => refine ⟨some .ret, ?_, .inr (.inl ⟨rfl, rfl⟩)⟩; rw [e3]; exact (Option.some.inj hq).symm
    | exit id => refine ⟨some (.exit id), ?_, .inr (.inr (.inl ⟨id, rfl, rfl⟩))⟩; rw [e3]; exact (Option.some.inj hq).symm
    | goto id => refine ⟨some (.goto id), ?_, .inr (.inr (.inr ⟨id, rfl, rfl⟩))⟩; rw [e3]; exact (Option.some.inj hq).symm
    | _ => cases hq
  clear hq
  obtain ⟨j, rfl, hj⟩ := hq2
  have nx1 : S1.nx ≤ S2.nx := g3.nx
  have g1 : Ge S S1 := g1
  have g3 : Ge (putO S1 l (.inr (.loop { r2 with state := .busy }))) S2 := g3
  have gAll : Ge S (putO S2 l (.inr (.loop { r3 with state := if j.isNone then .ready else .done, pending := j }))) := g1.trans (gput.trans (g3.trans (putO_ge (loopOf_some.1 h8))))
  refine ⟨gAll, fun B ρ V w args' p hG ha hf hwf hB hp n => ?_⟩
  have hf : Fsh ρ S.nx S2.nx := hf
  obtain ⟨pl, r', b1, b2, b3⟩ := loop_at hG h1
  rw [hp] at b1; cases b1
  have hsz : args'.size = args.length := by have := VRL_length ha; simpa using this
  refine ⟨r'.fn, _, r'.assign, r'.body, run_yield b2 (by rw [b3.params]; omega), roundIn_of_wpIn trivial ?_⟩
  rw [b3.assign, b3.body, b3.params]
  have F0 : FRel E ρ r.tmps.size { τ := setAll (args0 0 (Tr.emp TD) r.tmps.toList) r.params.toList args, marks := [] } { tmps := (r.params.zip args').foldl (fun tmps (t, a) => tmps.setIfInBounds t a) r'.tmps, defers := [] } := by
    have hz : (r.params.zip args').foldl (fun tmps (t, a) => tmps.setIfInBounds t a) r'.tmps = (r.params.toList.zip args'.toList).foldl (fun tmps (t, a) => tmps.setIfInBounds t a) r'.tmps := by
      rw [← Array.foldl_toList, Array.toList_zip]
    rw [hz]
    refine ⟨setAll_trel ha (args0_rec (fun t v hv => b3.tmps t v (by simpa using hv)) (by simpa using h2b)) (by rw [b3.size]; exact h2b) (by rw [b3.size]; exact h2c), ?_, rfl⟩
    rw [← b3.size]
    exact foldl_set_size _ _
  refine g2 B ρ V w _ (some p.b) n _ hG F0 ⟨p, hp, rfl⟩ (hf.fst nx1) hwf hB fun ρ1 w1 a1 G1 N1 F1 => ?_
  obtain ⟨p1, r2', c1, c2, c3⟩ := loop_at G1 h5
  have hp1 := N1.le _ _ hp
  rw [hp1] at c1; cases c1
  obtain ⟨w2, d1, d2, d3⟩ := loop_put (r1 := { r2 with state := .busy }) (r1' := { r2' with state := .busy }) G1 h5 hp1 c2 ⟨rfl, c3.pending, c3.size, c3.params, c3.assign, c3.body, c3.tmps, c3.defers⟩
  refine ⟨w2, run_beginRound c2 (by rw [c3.state]; exact h6) d1, ?_⟩
  have N2 : Nx B ρ ρ1 S.nx S1.nx w w2 := N1.trans d3
  refine g4 B ρ1 V w2 a1 (some p.b) n _ d2 F1 ⟨p, hp1, rfl⟩ (hf.snd N2) (gput.wf (g1.wf hwf)) (Nat.le_trans hB N2.bel.size) fun ρ3 w3 a3 G3 N3 F3 => ?_
  obtain ⟨p3, r3', k1, k2, k3⟩ := loop_at G3 h8
  have hp3 := N3.le _ _ hp1
  rw [hp3] at k1; cases k1
  obtain ⟨w4, m1, m2, m3⟩ := loop_put (r1 := { r3 with state := if j.isNone then .ready else .done, pending := j }) (r1' := { r3' with state := if j.isNone then .ready else .done, pending := j }) G3 h8 hp3 k2 ⟨rfl, rfl, k3.size, k3.params, k3.assign, k3.body, k3.tmps, k3.defers⟩
  have N4 : Nx B ρ ρ3 S.nx S2.nx w w4 := N2.trans (N3.trans m3)
  have key : ∃ v w', (Instr.endRound p.b j).run E.P w3 = .ok v w' ∧ RetR E B ρ S V w (.bool j.isNone, putO S2 l (.inr (.loop { r3 with state := if j.isNone then .ready else .done, pending := j }))) (.returned v) w' :=
    ⟨_, w4, run_endRound k2 m1, _, ρ3, rfl, flat_VR rfl, m2, N4⟩
  rcases hj with ⟨rfl, rfl⟩ | ⟨rfl, rfl⟩ | ⟨id, rfl, rfl⟩ | ⟨id, rfl, rfl⟩ <;> exact key
end
end Go.Proofs.YtemldmjpanmdbaaGreatDoor.Ev

namespace Go.Proofs.YtemldmjpanmdbaaGreatDoor.Ev
open Go.RowKit
theorem both_ok {E : Env} (hE : EnvOk E) (hN : NmOk E) (hm : E.P.follows .mixedOrders = true) : ∀ n, KOk E (both E n).1 ∧ YOk E (both E n).2 ∧ KGe (both E n).1 ∧ YGe (both E n).2
  | 0 => by
    refine ⟨?_, ?_, ?_, ?_⟩ <;> (intro a b S q h; cases h)
  | n + 1 => by
    obtain ⟨h1, h2, h3, h4⟩ := both_ok hE hN hm n
    refine ⟨fun f a S q h => (func_all hE hN h1 h2 h3 h4 hm (show (cFunc E f).f (both E n).1 (both E n).2 a S = some q from h)).2, fun l a S q h => (yield_all hE hN h1 h2 h3 h4 hm (show yieldF E (both E n).1 (both E n).2 l a S = some q from h)).2,
      fun f a S q h => (func_all hE hN h1 h2 h3 h4 hm (show (cFunc E f).f (both E n).1 (both E n).2 a S = some q from h)).1, fun l a S q h => (yield_all hE hN h1 h2 h3 h4 hm (show yieldF E (both E n).1 (both E n).2 l a S = some q from h)).1⟩
/-- The program, made ready. -/
abbrev envOf (P : Program) : Env := ⟨P, mkTy P, mkFn P⟩
theorem info_of {P : Program} {t : TypeId} {i : TypeInfo} (h : P.types[t]? = some i) : P.info? t = some i := by
  have : t < P.types.size := by
    rcases Nat.lt_or_ge t P.types.size with h' | h'
    · exact h'
    · rw [Array.getElem?_eq_none h'] at h; cases h
  show Tables.info? P.toTables t = some i
  unfold Tables.info?
  rw [if_pos this]; exact h
theorem envOf_ok (P : Program) : EnvOk (envOf P) := by
  refine ⟨fun t d h => ?_, fun f g hf h => ?_⟩
  · obtain ⟨ht, h⟩ := cond_some.1 (show cond (Nat.blt t 512) (Tr.get 9 (mkTy P) t) none = some d from h)
    have ht := blt_iff.1 ht
    unfold mkTy at h
    rw [Tr.get_ofF _ 9 0 t ht, Nat.zero_add] at h
    obtain ⟨i, h1, h⟩ := ob_some.1 (show ob (Tr.get 9 (Tr.ofL 9 P.types.toList) t) _ = some d from h)
    obtain ⟨de, h2, h⟩ := ob_some.1 h
    rw [Tr.get_ofL 9 _ t ht] at h1
    have h1 : P.types[t]? = some i := by simpa using h1
    cases h
    refine ⟨i, info_of h1, ?_, rfl, rfl, fun z hz => ?_⟩
    · unfold Program.underlying
      rw [info_of h1]
      cases hd : i.desc with
      | named nm u =>
        rw [hd] at h2
        obtain ⟨hu, h2⟩ := cond_some.1 h2
        obtain ⟨j, h3, h2⟩ := ob_some.1 h2
        rw [Tr.get_ofL 9 _ u (blt_iff.1 hu)] at h3
        have h3 : P.types[u]? = some j := by simpa using h3
        cases h2
        obtain ⟨ds, st, sz, bt, hp, al, fal, zr⟩ := i
        simp only at hd
        subst hd
        simp [info_of h3]
      | _ =>
        rw [hd] at h2
        cases h2
        obtain ⟨ds, st, sz, bt, hp, al, fal, zr⟩ := i
        simp only at hd
        subst hd
        rfl
    · dsimp only at hz
      cases hzr : i.zero with
      | none => rw [hzr] at hz; cases hz
      | some z' =>
        rw [hzr] at hz
        obtain ⟨h3, h4⟩ := cond_some.1 hz
        cases h4
        exact ⟨rfl, h3⟩
  · have h : Tr.get 9 (Tr.ofL 9 P.funcs.toList) f = some g := h
    rw [Tr.get_ofL 9 _ f hf] at h
    simpa using h
/-- No function is called so: by a look at all names. -/
def nmOk (P : Program) : Bool := P.funcs.toList.all fun g => !(g.body.isSome) || !(g.name == "runtime.NumGoroutine")
theorem envOf_nm {P : Program} (h : nmOk P = true) : NmOk (envOf P) := fun f g hf hb => by
  unfold nmOk at h
  rw [List.all_eq_true] at h
  have := h g (by
    have : P.funcs.toList[f]? = some g := by simpa using hf
    exact List.mem_of_getElem? this)
  simpa [hb] using this
/-- From nothing on. -/
def St0 : St := { h := Tr.emp HD, nx := 0 }
theorem rdO_St0 (r : Nat) : rdO St0 r = none := by
  rw [rdO_eq]
  show (if r < 4096 then Tr.get HD (Tr.emp HD) r else none) = none
  rw [Tr.get_emp]; simp
theorem G_none (P : Program) (B : Nat) (w : World) : GS P B (fun _ => none) St0 (fun _ => none) w := by
  have h0 : ∀ r o, ov (rdO St0) (fun _ => none) r = some o → False := fun r o h => by simp [ov, rdO_St0] at h
  exact ⟨fun r o h => (h0 r o h).elim, fun r p h => (nomatch (show (none : Option Pl) = some p from h)), fun r r' o o' p p' _ h => (h0 r o h).elim⟩
/-- What the reckoner says of a call without arguments: it is so in every world, and what is there stays. -/
theorem callN_calls {P : Program} (hN : nmOk P = true) (hm : P.follows .mixedOrders = true) {n : Nat} {f : FuncId} {v : Value} {S : St} (hv : flat v = true) (h : callN (envOf P) n f [] St0 = some (v, S)) (w : World) :
    Calls P f #[] w fun e w' => e = .returned v ∧ Below w.heap.size w w' := by
  obtain ⟨hK, _, _, _⟩ := both_ok (envOf_ok P) (envOf_nm hN) hm n
  have := hK f [] St0 (v, S) h w.heap.size (fun _ => none) (fun _ => none) w #[] (G_none P _ w) rfl (fun _ _ _ => rfl) (fun r _ => rdO_St0 r) (Nat.le_refl _) 0
  refine Calls.mono (callsIn_wide.1 this) ?_
  rintro e w' ⟨v', ρ', rfl, h1, h2, h3⟩
  rw [(VR_flat 8 v v' hv).1 h1]
  exact ⟨rfl, h3.bel⟩
end Go.Proofs.YtemldmjpanmdbaaGreatDoor.Ev

namespace Go.Proofs.YtemldmjpanmdbaaGreatDoor.Ev
open Go.RowKit
/-- A function's answer is known: numbers in, a number out, nothing is made. -/
structure SumOk (P : Program) (g : FuncId) (s : List Value → Option Value) : Prop where
  flat : ∀ args v, s args = some v → args.all (flatN 8) = true ∧ Ev.flat v = true
  calls : ∀ args v, s args = some v → ∀ w, Calls P g args.toArray w fun e w' => e = .returned v ∧ w' = w
/-- With one function's answers known. -/
def bothX (E : Env) (g : FuncId) (s : List Value → Option Value) (n : Nat) : CallF × YieldF :=
  Nat.rec (motive := fun _ => CallF × YieldF) (fun _ _ _ => none, fun _ _ _ => none)
    (fun _ r => (fun f args S => cond (Nat.beq f g) (ob (s args) fun v => some (v, S)) ((cFunc E f).f r.1 r.2 args S), yieldF E r.1 r.2)) n
def callX (E : Env) (g : FuncId) (s : List Value → Option Value) (n : Nat) : CallF := (bothX E g s n).1
theorem bothX_ok {E : Env} (hE : EnvOk E) (hN : NmOk E) (hm : E.P.follows .mixedOrders = true) {g : FuncId} {s : List Value → Option Value} (hs : SumOk E.P g s) :
    ∀ n, KOk E (bothX E g s n).1 ∧ YOk E (bothX E g s n).2 ∧ KGe (bothX E g s n).1 ∧ YGe (bothX E g s n).2
  | 0 => by
    refine ⟨?_, ?_, ?_, ?_⟩ <;> (intro a b S q h; cases h)
  | n + 1 => by
    obtain ⟨h1, h2, h3, h4⟩ := bothX_ok hE hN hm hs n
    have hq : ∀ {f args S q}, (bothX E g s (n + 1)).1 f args S = some q → (f = g ∧ ∃ v, s args = some v ∧ q = (v, S)) ∨ (cFunc E f).f (bothX E g s n).1 (bothX E g s n).2 args S = some q := fun {f args S q} h => by
      have h : cond (Nat.beq f g) (ob (s args) fun v => some (v, S)) ((cFunc E f).f (bothX E g s n).1 (bothX E g s n).2 args S) = some q := h
      cases hb : Nat.beq f g <;> rw [hb] at h
      · exact .inr h
      · obtain ⟨v, k1, k2⟩ := ob_some.1 h
        cases k2
        exact .inl ⟨Nat.eq_of_beq_eq_true hb, v, k1, rfl⟩
    refine ⟨fun f a S q h => ?_, fun l a S q h => (yield_all hE hN h1 h2 h3 h4 hm (show yieldF E (bothX E g s n).1 (bothX E g s n).2 l a S = some q from h)).2,
      fun f a S q h => ?_, fun l a S q h => (yield_all hE hN h1 h2 h3 h4 hm (show yieldF E (bothX E g s n).1 (bothX E g s n).2 l a S = some q from h)).1⟩
    · rcases hq h with ⟨rfl, v, k1, rfl⟩ | h
      · intro B ρ V w args' hG ha hf hwf hB n
        have he : args' = a.toArray := by
          apply Array.ext'
          simpa using (VRL_flat 8 _ _ (hs.flat _ _ k1).1).1 ha
        subst he
        refine CallsIn.mono (callsIn_wide.2 (hs.calls _ _ k1 w)) ?_
        rintro e w' ⟨rfl, rfl⟩
        exact ⟨v, ρ, rfl, flat_VR (hs.flat _ _ k1).2, hG, Nx.refl _ _ _ _⟩
      · exact (func_all hE hN h1 h2 h3 h4 hm h).2
    · rcases hq h with ⟨rfl, v, k1, rfl⟩ | h
      · exact .refl _
      · exact (func_all hE hN h1 h2 h3 h4 hm h).1
theorem callX_calls {P : Program} (hN : nmOk P = true) (hm : P.follows .mixedOrders = true) {g : FuncId} {s : List Value → Option Value} (hs : SumOk P g s) {n : Nat} {f : FuncId} {v : Value} {S : St} (hv : flat v = true)
    (h : callX (envOf P) g s n f [] St0 = some (v, S)) (w : World) : Calls P f #[] w fun e w' => e = .returned v ∧ Below w.heap.size w w' := by
  obtain ⟨hK, _, _, _⟩ := bothX_ok (envOf_ok P) (envOf_nm hN) hm hs n
  have := hK f [] St0 (v, S) h w.heap.size (fun _ => none) (fun _ => none) w #[] (G_none P _ w) rfl (fun _ _ _ => rfl) (fun r _ => rdO_St0 r) (Nat.le_refl _) 0
  refine Calls.mono (callsIn_wide.1 this) ?_
  rintro e w' ⟨v', ρ', rfl, h1, h2, h3⟩
  rw [(VR_flat 8 v v' hv).1 h1]
  exact ⟨rfl, h3.bel⟩
/-- It answers true. -/
def isTrue : Option (Value × St) → Bool
  | some (.bool b, _) => b
  | _ => false
theorem isTrue_some {x : Option (Value × St)} (h : isTrue x = true) : ∃ S, x = some (.bool true, S) := by
  unfold isTrue at h
  split at h
  · rename_i b S
    subst h
    exact ⟨S, rfl⟩
  · cases h
end Go.Proofs.YtemldmjpanmdbaaGreatDoor.Ev

namespace Go.Proofs.YtemldmjpanmdbaaGreatDoor.Ev
open Go.RowKit
/-- What the reckoner says of a call with arguments that read alike, numbers known as ranges among them: it is so in every world, and what is there stays. -/
theorem callN_args {P : Program} (hN : nmOk P = true) (hm : P.follows .mixedOrders = true) {n : Nat} {f : FuncId} {as : List Value} {v : Value} {S : St} (h : callN (envOf P) n f as St0 = some (v, S)) (w : World)
    (as' : Array Value) (ha : VRL P (fun _ => none) as as'.toList) :
    Calls P f as' w fun e w' => (∃ v' ρ', e = .returned v' ∧ VR P ρ' v v') ∧ Below w.heap.size w w' := by
  obtain ⟨hK, _, _, _⟩ := both_ok (envOf_ok P) (envOf_nm hN) hm n
  have := hK f as St0 (v, S) h w.heap.size (fun _ => none) (fun _ => none) w as' (G_none P _ w) ha (fun _ _ _ => rfl) (fun r _ => rdO_St0 r) (Nat.le_refl _) 0
  refine Calls.mono (callsIn_wide.1 this) ?_
  rintro e w' ⟨v', ρ', rfl, h1, h2, h3⟩
  exact ⟨⟨v', ρ', rfl, h1⟩, h3.bel⟩
theorem rng_VR {P : Program} {ρ : Ren} {lo hi n : Nat} (hlo : lo < 65536) (h1 : lo ≤ n) (h2 : n ≤ hi) : VR P ρ (rng lo hi) (.int .i64 (.ofNat n)) := by
  show VR P ρ (.chan (some (lo + 65536 * hi + 1))) _
  simp only [VR]
  refine ⟨n, rfl, ?_, ?_⟩
  · rw [Nat.add_mul_mod_self_left, Nat.mod_eq_of_lt hlo]; exact h1
  · have : (lo + 65536 * hi) / 65536 = hi := by omega
    rw [this]; exact h2
end Go.Proofs.YtemldmjpanmdbaaGreatDoor.Ev
