import Derived.Test.YtemldmjpanmdbaaGreatDoorP37
set_option linter.unusedVariables false
namespace Go.Proofs.YtemldmjpanmdbaaGreatDoor.Ev
open Go.RowKit
section
variable {E : Env} {ρ ρ' : Ren} {B : Nat} {w w' : World} {S S' : St} {V : Hp} {K : CallF} {Y : YieldF} {N : Nat}
/-- The slots of a round: the record's, then what yield was given. -/
theorem setAll_trel {P : Program} : ∀ {ts : List Tmp} {vs : List Value} {c : List Value} {τ : Tr Value TD} {tm : Array Value} {ds : List Deferred}, VRL P ρ vs c → TRel P ρ (tmpsOf τ) { tmps := tm, defers := ds } → tm.size ≤ 256 → (∀ t ∈ ts, t < tm.size) →
    TRel P ρ (tmpsOf (setAll τ ts vs)) { tmps := (ts.zip c).foldl (fun tm (t, a) => tm.setIfInBounds t a) tm, defers := ds }
  | [], vs, c, τ, tm, ds, hv, ht, _, _ => by simpa [setAll] using ht
  | t :: ts, [], c, τ, tm, ds, hv, ht, _, _ => by cases hv; simpa [setAll] using ht
  | t :: ts, v :: vs, c, τ, tm, ds, hv, ht, hs, hl => by
    obtain ⟨v', m, rfl, h1, h2⟩ := hv
    have htt := hl t (by simp)
    simp only [setAll, List.zip_cons_cons, List.foldl_cons]
    refine setAll_trel h2 (fun k u hu => ?_) (by simpa using hs) fun x hx => by simpa using hl x (by simp [hx])
    rw [tmpsOf_set (Nat.lt_of_lt_of_le htt hs)] at hu
    by_cases hk : k = t
    · subst hk
      rw [if_pos rfl] at hu; cases hu
      exact ⟨v', by simp [htt], h1⟩
    · rw [if_neg hk] at hu
      obtain ⟨u', g1, g2⟩ := ht k u hu
      exact ⟨u', by rw [← g1]; exact Array.getElem?_setIfInBounds_ne (Ne.symm hk), g2⟩
theorem foldl_set_size : ∀ (l : List (Tmp × Value)) (tm : Array Value), (l.foldl (fun tm (t, a) => tm.setIfInBounds t a) tm).size = tm.size
  | [], _ => rfl
  | (t, a) :: l, tm => by simp only [List.foldl_cons]; rw [foldl_set_size l]; simp
theorem args0_rec {P : Program} {l : List Value} {tm : Array Value} {ds : List Deferred} (h : ∀ (t : Nat) v, l[t]? = some v → ∃ v', tm[t]? = some v' ∧ VR P ρ v v') (hl : l.length ≤ 256) :
    TRel P ρ (tmpsOf (args0 0 (Tr.emp TD) l)) { tmps := tm, defers := ds } := fun t v hv => by
  rw [args0_get (by omega), emp_tmps] at hv
  split at hv
  · exact h t v (by simpa using hv)
  · cases hv
theorem run_beginRound {P : Program} {b : Nat} {r : Loop} {w1 : World} (h : w.heap[b]? = some (.loop r)) (hs : r.state = .ready) (h1 : (setObj b (.loop { r with state := .busy })).run P w = .ok () w1) :
    (Instr.beginRound b).run P w = .ok () w1 := by
  simp [Instr.beginRound, run_getLoop h, hs, h1, Result.andThen]
theorem run_endRound {P : Program} {b : Nat} {r : Loop} {w1 : World} {j : Option Code} (h : w.heap[b]? = some (.loop r)) (h1 : (setObj b (.loop { r with state := if j.isNone then .ready else .done, pending := j })).run P w = .ok () w1) :
    (Instr.endRound b j).run P w = .ok (.bool j.isNone) w1 := by
  simp only [Instr.endRound, Sem.run_bind, run_getLoop h, Result.andThen, h1]
  rfl
theorem run_yield {P : Program} {b : Nat} {r : Loop} {args : Array Value} (h : w.heap[b]? = some (.loop r)) (hs : args.size = r.params.size) :
    (Instr.yield b args).run P w = .ok (.round b r.fn ((r.params.zip args).foldl (fun tmps (t, a) => tmps.setIfInBounds t a) r.tmps) r.assign r.body) w := by
  simp [Instr.yield, run_getLoop h, hs, Result.andThen]
theorem yield_all (hE : EnvOk E) (hN : NmOk E) (hK : KOk E K) (hY : YOk E Y) (gK : KGe K) (gY : YGe Y) (hm : E.P.follows .mixedOrders = true) {l : Nat} {args : List Value} {q : Value × St} (hq : yieldF E K Y l args S = some q) :
    Ge S q.2 ∧ ∀ B ρ V w (args' : Array Value) p, GS E.P B ρ S V w → VRL E.P ρ args args'.toList → Fsh ρ S.nx q.2.nx → Wf S → B ≤ w.heap.size → ρ l = some p →
      ∀ n, ∃ f tmps as bd, (Instr.yield p.b args').run E.P w = .ok (.round p.b f tmps as bd) w ∧ RoundIn Fence.wide n E.P p.b f tmps as bd w (RetR E B ρ S V w q) := by
  unfold yieldF at hq
  obtain ⟨r, h1, hq⟩ := ob_some.1 hq
  obtain ⟨h2, hq⟩ := iff_some.1 hq
  obtain ⟨nu, h3, hq⟩ := ob_some.1 hq
  cases h3
  obtain ⟨p, h4, hq⟩ := ob_some.1 hq
  simp only [Bool.and_eq_true, List.all_eq_true] at h2
  obtain ⟨⟨h2a, h2b⟩, h2c⟩ := h2
  have h2a : args.length = r.params.size := Nat.eq_of_beq_eq_true h2a
  have h2b := ble_iff.1 h2b
  have h2c : ∀ t ∈ r.params.toList, t < r.tmps.size := fun t ht => blt_iff.1 (h2c t ht)
  obtain ⟨e, fr1, S1⟩ := p
  cases e with
  | normal => ?_
  | _ => cases hq
  obtain ⟨r2, h5, hq⟩ := ob_some.1 hq
  obtain ⟨h6, hq⟩ := iff_some.1 hq
  obtain ⟨⟨e2, fr2, S2⟩, h7, hq⟩ := ob_some.1 hq
  obtain ⟨r3, h8, hq⟩ := ob_some.1 hq
  have h6 : r2.state = .ready := by
    cases hs : r2.state <;> rw [hs] at h6 <;> first | rfl | cases h6
  obtain ⟨g1, g2⟩ := cCode_ok hE hN hK hY gK gY hm h2b 300 r.assign (some l) _ S _ h4
  obtain ⟨g3, g4⟩ := cCode_ok hE hN hK hY gK gY hm h2b 300 r.body (some l) _ _ _ h7
  have gput : Ge S1 (putO S1 l (.inr (.loop { r2 with state := .busy }))) := putO_ge (loopOf_some.1 h5)
  have hq2 : ∃ j : Option Code, q = (.bool j.isNone, putO S2 l (.inr (.loop { r3 with state := if j.isNone then .ready else .done, pending := j }))) ∧
      (e2 = .normal ∧ j = none ∨ e2 = .ret ∧ j = some .ret ∨ (∃ id, e2 = .exit id ∧ j = some (.exit id)) ∨ (∃ id, e2 = .goto id ∧ j = some (.goto id))) := by
    have e1 : (if (none : Option Code).isNone = true then LoopState.ready else LoopState.done) = LoopState.ready := rfl
    have e3 : ∀ c : Code, (if (some c).isNone = true then LoopState.ready else LoopState.done) = LoopState.done := fun _ => rfl
    dsimp only at hq
    cases e2 with
    | normal => refine ⟨none, ?_, .inl ⟨rfl, rfl⟩⟩; rw [e1]; exact (Option.some.inj hq).symm
    | ret => refine ⟨some .ret, ?_, .inr (.inl ⟨rfl, rfl⟩)⟩; rw [e3]; exact (Option.some.inj hq).symm
    | exit id => refine ⟨some (.exit id), ?_, .inr (.inr (.inl ⟨id, rfl, rfl⟩))⟩; rw [e3]; exact (Option.some.inj hq).symm
    | goto id => refine ⟨some (.goto id), ?_, .inr (.inr (.inr ⟨id, rfl, rfl⟩))⟩; rw [e3]; exact (Option.some.inj hq).symm
    | _ => cases hq
  clear hq
  obtain ⟨j, rfl, hj⟩ := hq2
  have nx1 : S1.nx ≤ S2.nx := g3.nx
  have g1 : Ge S S1 := g1
  have g3 : Ge (putO S1 l (.inr (.loop { r2 with state := .busy }))) S2 := g3
  have gAll : Ge S (putO S2 l (.inr (.loop { r3 with state := if j.isNone then .ready else .done, pending := j }))) := g1.trans (gput.trans (g3.trans (putO_ge (loopOf_some.1 h8))))
  refine ⟨gAll, fun B ρ V w args' p hG ha hf hwf hB hp n => ?_⟩
  have hf : Fsh ρ S.nx S2.nx := hf
  obtain ⟨pl, r', b1, b2, b3⟩ := loop_at hG h1
  rw [hp] at b1; cases b1
  have hsz : args'.size = args.length := by have := VRL_length ha; simpa using this
  refine ⟨r'.fn, _, r'.assign, r'.body, run_yield b2 (by rw [b3.params]; omega), roundIn_of_wpIn trivial ?_⟩
  rw [b3.assign, b3.body, b3.params]
  have F0 : FRel E ρ r.tmps.size { τ := setAll (args0 0 (Tr.emp TD) r.tmps.toList) r.params.toList args, marks := [] } { tmps := (r.params.zip args').foldl (fun tmps (t, a) => tmps.setIfInBounds t a) r'.tmps, defers := [] } := by
    have hz : (r.params.zip args').foldl (fun tmps (t, a) => tmps.setIfInBounds t a) r'.tmps = (r.params.toList.zip args'.toList).foldl (fun tmps (t, a) => tmps.setIfInBounds t a) r'.tmps := by
      rw [← Array.foldl_toList, Array.toList_zip]
    rw [hz]
    refine ⟨setAll_trel ha (args0_rec (fun t v hv => b3.tmps t v (by simpa using hv)) (by simpa using h2b)) (by rw [b3.size]; exact h2b) (by rw [b3.size]; exact h2c), ?_, rfl⟩
    rw [← b3.size]
    exact foldl_set_size _ _
  refine g2 B ρ V w _ (some p.b) n _ hG F0 ⟨p, hp, rfl⟩ (hf.fst nx1) hwf hB fun ρ1 w1 a1 G1 N1 F1 => ?_
  obtain ⟨p1, r2', c1, c2, c3⟩ := loop_at G1 h5
  have hp1 := N1.le _ _ hp
  rw [hp1] at c1; cases c1
  obtain ⟨w2, d1, d2, d3⟩ := loop_put (r1 := { r2 with state := .busy }) (r1' := { r2' with state := .busy }) G1 h5 hp1 c2 ⟨rfl, c3.pending, c3.size, c3.params, c3.assign, c3.body, c3.tmps, c3.defers⟩
  refine ⟨w2, run_beginRound c2 (by rw [c3.state]; exact h6) d1, ?_⟩
  have N2 : Nx B ρ ρ1 S.nx S1.nx w w2 := N1.trans d3
  refine g4 B ρ1 V w2 a1 (some p.b) n _ d2 F1 ⟨p, hp1, rfl⟩ (hf.snd N2) (gput.wf (g1.wf hwf)) (Nat.le_trans hB N2.bel.size) fun ρ3 w3 a3 G3 N3 F3 => ?_
  obtain ⟨p3, r3', k1, k2, k3⟩ := loop_at G3 h8
  have hp3 := N3.le _ _ hp1
  rw [hp3] at k1; cases k1
  obtain ⟨w4, m1, m2, m3⟩ := loop_put (r1 := { r3 with state := if j.isNone then .ready else .done, pending := j }) (r1' := { r3' with state := if j.isNone then .ready else .done, pending := j }) G3 h8 hp3 k2 ⟨rfl, rfl, k3.size, k3.params, k3.assign, k3.body, k3.tmps, k3.defers⟩
  have N4 : Nx B ρ ρ3 S.nx S2.nx w w4 := N2.trans (N3.trans m3)
  have key : ∃ v w', (Instr.endRound p.b j).run E.P w3 = .ok v w' ∧ RetR E B ρ S V w (.bool j.isNone, putO S2 l (.inr (.loop { r3 with state := if j.isNone then .ready else .done, pending := j }))) (.returned v) w' :=
    ⟨_, w4, run_endRound k2 m1, _, ρ3, rfl, flat_VR rfl, m2, N4⟩
  rcases hj with ⟨rfl, rfl⟩ | ⟨rfl, rfl⟩ | ⟨id, rfl, rfl⟩ | ⟨id, rfl, rfl⟩ <;> exact key
end
end Go.Proofs.YtemldmjpanmdbaaGreatDoor.Ev
