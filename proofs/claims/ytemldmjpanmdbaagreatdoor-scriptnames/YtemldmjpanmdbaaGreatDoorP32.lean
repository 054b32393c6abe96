import Derived.Test.YtemldmjpanmdbaaGreatDoorP31
set_option linter.unusedVariables false
namespace Go.Proofs.YtemldmjpanmdbaaGreatDoor.Ev
open Go.RowKit
section
variable {P : Program} {b : Frame} {a : Act} {k : List Item} {cs : List Frame} {w : World}
theorem stepR_scope {c : Code} : step P (lone (b.atR a (.code (.scope c) :: k)) cs w) = .next (lone (b.atR a (.code c :: .inScope c :: k)) cs w) := step_lone_go (by simp [stepG, stepG.exec, Frame.atR])
theorem stepR_inScope {c : Code} : step P (lone (b.atR a (.inScope c :: k)) cs w) = .next (lone (b.atR a k) cs w) := step_lone_go (by simp [stepG, stepG.exec, Frame.atR])
/-- A scope by so many jumps. -/
def jumpsIn (F : Fence) (n : Nat) (P : Program) (c : Code) (Q : Exit → Act → World → Prop) : Nat → Code → Act → World → Prop
  | 0, _, _, _ => False
  | m + 1, r, a, w => r.wpIn F n P (fun e a w => match e with
    | .goto l => (match findLabel c l with | some rest => jumpsIn F n P c Q m rest a w | none => Q (.goto l) a w)
    | e => Q e a w) a w
theorem wpIn_scope_jumpsN {F : Fence} {n : Nat} {Q : Exit → Act → World → Prop} {c : Code} (m : Nat) (h : jumpsIn F n P c Q m c a w) : (Code.scope c).wpIn F n P Q a w := by
  intro b k cs hro hb hr
  have key : ∀ m r a w, jumpsIn F n P c Q m r a w → ∃ e a' w', Q e a' w' ∧ ArrivesIn (Machine.fenced P F) P (lone (b.atR a (.code r :: .inScope c :: k)) cs w) b k cs e a' w' := by
    intro m
    induction m with
    | zero => intro r a w h; exact h.elim
    | succ m ih =>
      intro r a w h
      obtain ⟨e, a₁, w₁, hq, harr⟩ := h b (.inScope c :: k) cs hro hb hr
      cases e with
      | normal => exact ⟨.normal, a₁, w₁, hq, StepsIn.trans harr (.one (fenced_calm hb hr rfl) stepR_inScope)⟩
      | exit id => exact ⟨.exit id, a₁, w₁, hq, fun k' hk => harr.1 k' (by simp [exitTo, hk]), fun h1 h2 => harr.2 h1 (by simp [exitTo, h2])⟩
      | goto l =>
        cases hf : findLabel c l with
        | some rest =>
          simp only [hf] at hq
          obtain ⟨e₂, a₂, w₂, hq₂, harr₂⟩ := ih rest a₁ w₁ hq
          exact ⟨e₂, a₂, w₂, hq₂, .of_steps (harr.1 _ (by simp [gotoIn, hf])) harr₂⟩
        | none =>
          simp only [hf] at hq
          exact ⟨.goto l, a₁, w₁, hq, fun k' hk => harr.1 k' (by simp [gotoIn, hf, hk]), fun h1 h2 => harr.2 h1 (by simp [gotoIn, hf, h2])⟩
      | ret => exact ⟨_, a₁, w₁, hq, harr⟩
      | panic ch => exact ⟨_, a₁, w₁, hq, harr⟩
      | outgrown => exact ⟨_, a₁, w₁, hq, harr⟩
  obtain ⟨e, a', w', hq, harr⟩ := key m c a w h
  exact ⟨e, a', w', hq, .of_steps (.one (fenced_calm hb hr rfl) stepR_scope) harr⟩
end
section
variable {E : Env} {K : CallF} {Y : YieldF} {N : Nat}
theorem scope_jumps {b : Code} {g : Code → CodeF} (hg : ∀ c, CodeOk E N K Y c (g c)) : ∀ (m : Nat) (r : Code) rd fr S q, (scopeF g b m r).f K Y rd fr S = some q → Ge S q.2.2 ∧ ∀ B ρ V w a rd' n (Q : Exit → Act → World → Prop), GS E.P B ρ S V w → FRel E ρ N fr a → RdR ρ rd rd' → Fsh ρ S.nx q.2.2.nx → Wf S → B ≤ w.heap.size →
    (∀ ρ' w' a', GS E.P B ρ' q.2.2 V w' → Nx B ρ ρ' S.nx q.2.2.nx w w' → FRel E ρ' N q.2.1 a' → Q q.1 a' w') → jumpsIn (Fw rd') n E.P b Q m r a w
  | 0, r, rd, fr, S, q, hq => by cases hq
  | m + 1, r, rd, fr, S, q, hq => by
    obtain ⟨p, h1, hq⟩ := ob_some.1 (show ob ((g r).f K Y rd fr S) _ = some q from hq)
    obtain ⟨g1, g2⟩ := hg r rd fr S p h1
    obtain ⟨e, fr1, S1⟩ := p
    cases e with
    | goto l =>
      dsimp only at hq
      cases hf : findLabel b l with
      | some rest =>
        rw [hf] at hq
        have hq : (scopeF g b m rest).f K Y rd fr1 S1 = some q := hq
        obtain ⟨k1, k2⟩ := scope_jumps hg m rest rd fr1 S1 q hq
        refine ⟨g1.trans k1, fun B ρ V w a rd' n Q hG hF hr hff hwf hB hk => ?_⟩
        refine g2 B ρ V w a rd' n _ hG hF hr (hff.fst k1.nx) hwf hB fun ρ1 w1 a1 hG1 hN1 hF1 => ?_
        simp only [hf]
        exact k2 B ρ1 V w1 a1 rd' n Q hG1 hF1 (hr.mono hN1.le) (hff.snd hN1) (g1.wf hwf) (Nat.le_trans hB hN1.bel.size) fun ρ2 w2 a2 hG2 hN2 hF2 => hk ρ2 w2 a2 hG2 (hN1.trans hN2) hF2
      | none =>
        rw [hf] at hq
        cases hq
        refine ⟨g1, fun B ρ V w a rd' n Q hG hF hr hff hwf hB hk => ?_⟩
        refine g2 B ρ V w a rd' n _ hG hF hr hff hwf hB fun ρ1 w1 a1 hG1 hN1 hF1 => ?_
        simp only [hf]
        exact hk ρ1 w1 a1 hG1 hN1 hF1
    | _ =>
      cases hq
      exact ⟨g1, fun B ρ V w a rd' n Q hG hF hr hff hwf hB hk => g2 B ρ V w a rd' n _ hG hF hr hff hwf hB fun ρ1 w1 a1 hG1 hN1 hF1 => hk ρ1 w1 a1 hG1 hN1 hF1⟩
theorem code_scope {b : Code} {g : Code → CodeF} (hg : ∀ c, CodeOk E N K Y c (g c)) (m : Nat) : CodeOk E N K Y (.scope b) (scopeF g b m b) := fun rd fr S q hq =>
  let ⟨g1, g2⟩ := scope_jumps hg m b rd fr S q hq
  ⟨g1, fun B ρ V w a rd' n Q hG hF hr hf hwf hB hk => wpIn_scope_jumpsN m (g2 B ρ V w a rd' n Q hG hF hr hf hwf hB hk)⟩
end
end Go.Proofs.YtemldmjpanmdbaaGreatDoor.Ev
