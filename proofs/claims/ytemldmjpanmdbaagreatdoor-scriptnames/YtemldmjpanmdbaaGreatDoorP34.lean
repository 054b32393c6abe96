import Derived.Test.YtemldmjpanmdbaaGreatDoorP33
import Derived.RangeFuncIn
set_option linter.unusedVariables false
namespace Go.Proofs.YtemldmjpanmdbaaGreatDoor.Ev
open Go.RowKit
section
variable {E : Env} {ρ ρ' : Ren} {B : Nat} {w w' : World} {S S' : St} {V : Hp} {K : CallF} {Y : YieldF} {N : Nat}
theorem run_endLoop {P : Program} {b : Nat} {r : Loop} {w1 : World} (h : w.heap[b]? = some (.loop r)) (hs : r.state ≠ .busy) (h1 : (setObj b (.loop { r with state := .exhausted })).run P w = .ok () w1) :
    (Instr.endLoop b).run P w = .ok r.pending w1 := by
  have : (r.state == LoopState.busy) = false := by
    cases hr : r.state <;> first | rfl | exact absurd hr hs
  simp [Instr.endLoop, run_getLoop h, hs, h1, Result.andThen]
/-- The block of deferred calls of an outermost loop, or that of the round that it is in. -/
theorem defers_spec {P : Program} {rd rd' : Option Nat} {e : Nat × List Nat × St} {fn : FuncId} {ps : Array Tmp} {assign body : Code} {tmps : Array Value}
    (hq : (match rd with
      | some l => ob (loopOf S l) fun r => some (r.defers, [], S)
      | none => ob (newO S (.inr (.deferred (some [])))) fun p => some (p.1, [p.1], p.2)) = some e)
    (h : GS P B ρ S V w) (hr : RdR ρ rd rd') (hf : Fsh ρ S.nx e.2.2.nx) (hB : B ≤ w.heap.size) :
    Ge S e.2.2 ∧ ∃ ρ' w' q mk, GS P B ρ' e.2.2 V w' ∧ Nx B ρ ρ' S.nx e.2.2.nx w w' ∧ ρ' e.1 = some q ∧ MRel ρ' e.2.1 mk ∧
      (∀ ms ds, MRel ρ' ms ds → MRel ρ' (e.2.1 ++ ms) (mk ++ ds)) ∧
      (Instr.enterLoop fn tmps ps assign body rd').run P w = ((newObj (.loop { state := .ready, pending := none, fn, tmps, params := ps, assign, body, defers := q.b })).run P w').andThen fun l w => .ok (l, mk) w := by
  cases rd with
  | some l =>
    obtain ⟨r, h1, hq⟩ := ob_some.1 hq
    cases hq
    obtain ⟨p, r', h2, h3, h4⟩ := loop_at h h1
    obtain ⟨q, h5, h6⟩ := h4.defers
    obtain ⟨p', h7, h8⟩ := hr
    rw [h2] at h7; cases h7
    subst h8
    refine ⟨.refl _, ρ, w, q, [], h, Nx.refl _ _ _ _, h5, rfl, fun ms ds k => k, ?_⟩
    simp [Instr.enterLoop, Sem.run_bind, run_getLoop h3, Result.andThen, h6]
  | none =>
    obtain ⟨p, h1, hq⟩ := ob_some.1 hq
    cases hq
    cases hr
    obtain ⟨g1, g2, g3, g4⟩ := newO_spec h1
    obtain ⟨ρ', k1, k2, k3⟩ := h.newO (n := 0) (t := 0) h1 (hf _ (Nat.le_refl _) (by show S.nx < p.2.nx; omega)) hB (o' := .deferred (some [])) fun ρ' _ => ⟨some [], rfl, get_alloc_new w _, rfl⟩
    refine ⟨newO_ge h1, ρ', _, _, [{ target := .collected w.heap.size, args := #[] }], k2, k3, k1, ⟨_, [], k1, rfl, rfl⟩, fun ms ds k => ⟨_, ds, k1, rfl, k⟩, ?_⟩
    simp [Instr.enterLoop, Sem.run_bind, Result.andThen, newObj]
    rfl
theorem code_range (hE : EnvOk E) (hN : NmOk E) (hK : KOk E K) (gK : KGe K) (hN256 : N ≤ 256) {fn : FuncId} {g : Operand} {ps : Array Tmp} {assign body : Code} {m : Nat} :
    CodeOk E N K Y (.rangeFunc g ps assign body) (cCode E fn N (m + 1) (.rangeFunc g ps assign body)) := fun rd fr S q hq => by
  have hq : (cRange E fn N g ps assign body).f K rd fr S = some q := hq
  obtain ⟨e, h1, hq⟩ := ob_some.1 hq
  obtain ⟨l, h2, hq⟩ := ob_some.1 hq
  obtain ⟨v, h3, hq⟩ := ob_some.1 hq
  split at hq
  case h_2 => cases hq
  rename_i f first captured
  obtain ⟨fnf, h4, hq⟩ := ob_some.1 hq
  obtain ⟨h5, hq⟩ := iff_some.1 hq
  obtain ⟨p, h6, hq⟩ := ob_some.1 hq
  obtain ⟨r, h7, hq⟩ := ob_some.1 hq
  obtain ⟨h8, hq⟩ := iff_some.1 hq
  obtain ⟨h4a, h4b⟩ := cond_some.1 h4
  have hP := hE.fn f fnf (blt_iff.1 h4a) h4b
  have hq2 : q.2.1 = { fr with marks := e.2.1 ++ fr.marks } ∧ q.2.2 = putO p.2 l.1 (.inr (.loop { r with state := .exhausted })) ∧
      (r.pending = none ∧ q.1 = .normal ∨ ∃ c, r.pending = some c ∧ ((∃ id, c = .exit id ∧ q.1 = .exit id) ∨ (∃ id, c = .goto id ∧ q.1 = .goto id) ∨ (c = .ret ∧ q.1 = .ret))) := by
    dsimp only at hq
    split at hq <;> first | (cases hq; done) | (rename_i hp; cases hq; refine ⟨rfl, rfl, ?_⟩; simp [hp])
  have ge : Ge S q.2.2 := by
    refine Ge.trans ?_ (.trans (newO_ge h2) (.trans (gK _ _ _ _ h6) ?_))
    · cases rd with
      | some l => obtain ⟨r, _, h⟩ := ob_some.1 h1; cases h; exact .refl _
      | none => obtain ⟨p, h, h'⟩ := ob_some.1 h1; cases h'; exact newO_ge h
    · rw [hq2.2.1]; exact putO_ge (loopOf_some.1 h7)
  refine ⟨ge, fun B ρ V w a rd' n Q hG hF hr hf hwf hB hk => wpIn_rangeFunc fun fn' _ => ?_⟩
  obtain ⟨l1, e1, l2, g1⟩ := newO_spec h2
  have gp := gK _ _ _ _ h6
  have nx3 : q.2.2.nx = p.2.nx := by rw [hq2.2.1]; rfl
  have nx4 := gp.nx
  obtain ⟨ge0, ρ1, w1, q1, mk, G1, N1, hq1, M1, M2, run1⟩ := defers_spec (fn := fn') (ps := ps) (assign := assign) (body := body) (tmps := a.tmps) h1 hG hr (hf.fst (by omega)) hB
  have F1 := hf.snd (n' := e.2.2.nx) N1
  obtain ⟨W, runW, ρ2, k1, G2, N2⟩ : ∃ W, (newObj (.loop { state := .ready, pending := none, fn := fn', tmps := a.tmps, params := ps, assign := assign, body := body, defers := q1.b })).run E.P w1 = .ok w1.heap.size W ∧ ∃ ρ2 : Ren, ρ2 l.1 = some ⟨w1.heap.size, 0, 0, 0⟩ ∧ GS E.P B ρ2 l.2 V W ∧ Nx B ρ1 ρ2 e.2.2.nx l.2.nx w1 W := by
    refine ⟨_, by simp [newObj, Sem.run]; rfl, ?_⟩
    exact G1.newO (n := 0) (t := 0) h2 (F1 _ (Nat.le_refl _) (by omega)) (Nat.le_trans hB N1.bel.size)
      (o' := .loop { state := .ready, pending := none, fn := fn', tmps := a.tmps, params := ps, assign, body, defers := q1.b }) fun ρ' hle =>
        ⟨_, get_alloc_new w1 _, rfl, rfl, by rw [listOf_size]; exact hF.n, rfl, rfl, rfl, fun t v hv => by
          obtain ⟨ht, hv⟩ := listOf_get hv
          subst hv
          cases hx : Tr.get TD fr.τ t with
          | none => exact ⟨a.tmps[t]'(by rw [hF.n]; exact ht), by simp [hF.n, ht], trivial⟩
          | some v =>
            obtain ⟨v', u1, u2⟩ := hF.t t v (by rw [tmpsOf_eq, if_pos (by omega)]; exact hx)
            exact ⟨v', u1, VR_mono (Ren.le_trans N1.le hle) _ _ u2⟩, ⟨q1, hle _ _ hq1, rfl⟩⟩
  have hv := opd_spec hF.t h3
  simp only [VR] at hv
  obtain ⟨f', c', he, v1, v2⟩ := hv
  have k0 := k1
  have N12 := N1.trans N2
  have F2 := hf.snd (n' := l.2.nx) N12
  have wf2 : Wf l.2 := (newO_ge h2).wf (ge0.wf hwf)
  have hname := hN f fnf hP h5
  have hname : fnf.name ≠ "runtime.NumGoroutine" := by simpa using hname
  refine ⟨w1.heap.size, mk, W, { target := .fn (.func f) c', args := f' ++ #[.func (.yield w1.heap.size) #[] #[]] }, W, f, f' ++ #[.func (.yield w1.heap.size) #[] #[]] ++ c', W, ?_, ?_, fun _ _ => trivial, ?_, fun h => by simp [Fence.wide] at h, ?_⟩
  · rw [show (Fw rd').round = rd' from rfl, run1, runW]; rfl
  · have hev : ∀ v, a.eval (.const v) = v := fun _ => rfl
    simp [resolve, he, Deferred.ofValue, hev]
  · obtain ⟨c, hc⟩ := Option.isSome_iff_exists.1 h5
    simp [invoke, callFunc, program, Sem.run, hP, hname, hc]
  · have hargs : VRL E.P ρ2 (first.toList ++ [Value.func (.yield l.1) #[] #[]] ++ captured.toList) (f' ++ #[Value.func (.yield w1.heap.size) #[] #[]] ++ c').toList := by
      simp only [Array.toList_append]
      refine VRL_append (VRL_append ((VRL_mono N12.le _ _ (VRA_iff.1 v1))) ?_) (VRL_mono N12.le _ _ (VRA_iff.1 v2))
      exact ⟨_, [], rfl, by simp only [VR]; exact ⟨by first | trivial | rfl, by first | trivial | rfl, _, k1, rfl⟩, rfl⟩
    have F3 : Fsh ρ2 l.2.nx p.2.nx := F2.fst (by rw [nx3]; exact Nat.le_refl _)
    have hB2 : B ≤ W.heap.size := Nat.le_trans hB N12.bel.size
    have hcall := hK f _ l.2 p h6 B ρ2 V W _ G2 hargs F3 wf2 hB2 (n - 1)
    refine CallsIn.mono (callsIn_fw hcall) ?_
    · rintro e3 w3 ⟨v3, ρ3, rfl, _, G3, N3⟩
      have N123 := N12.trans N3
      obtain ⟨pl, r3, b1, b2, b3⟩ := loop_at G3 h7
      rw [N3.le _ _ k1] at b1; cases b1
      have hb : r3.state ≠ .busy := by rw [b3.state]; intro e; rw [e] at h8; exact absurd h8 (by decide)
      obtain ⟨w4, c1, c2, c3⟩ := loop_put (r1 := { r with state := .exhausted }) (r1' := { r3 with state := .exhausted }) G3 h7 (N3.le _ _ k1) b2 ⟨rfl, b3.pending, b3.size, b3.params, b3.assign, b3.body, b3.tmps, b3.defers⟩
      refine ⟨r3.pending, w4, run_endLoop b2 hb c1, ?_⟩
      have N4 : Nx B ρ ρ3 S.nx q.2.2.nx w w4 := by rw [nx3]; exact N123.trans c3
      have G4 : GS E.P B ρ3 q.2.2 V w4 := by rw [hq2.2.1]; exact c2
      have F4 : FRel E ρ3 N q.2.1 { a with defers := mk ++ a.defers } := by
        rw [hq2.1]
        exact ⟨fun t v hv => hF.t.mono N4.le t v hv, hF.n, MRel.mono (Ren.le_trans N2.le N3.le) (M2 _ _ (hF.m.mono N1.le))⟩
      have := hk ρ3 w4 _ G4 N4 F4
      rw [b3.pending]
      rcases hq2.2.2 with ⟨d1, d2⟩ | ⟨c, d1, d2⟩
      · rw [d1]; rw [d2] at this; exact this
      · rw [d1]
        rcases d2 with ⟨id, rfl, d3⟩ | ⟨id, rfl, d3⟩ | ⟨rfl, d3⟩ <;> rw [d3] at this
        · exact wpIn_exit this
        · exact wpIn_goto this
        · exact wpIn_ret this
end
end Go.Proofs.YtemldmjpanmdbaaGreatDoor.Ev
