import Derived.Test.YtemldmjpanmdbaaGreatDoorP30
import Derived.LoopNIn
set_option linter.unusedVariables false
namespace Go.Proofs.YtemldmjpanmdbaaGreatDoor.Ev
open Go.RowKit
section
variable {E : Env} {K : CallF} {Y : YieldF} {N : Nat}
theorem loop_rounds {b : Code} {g : CodeF} (hg : CodeOk E N K Y b g) : ∀ (m : Nat) rd fr S q, (loopF g m).f K Y rd fr S = some q → Ge S q.2.2 ∧ ∀ B ρ V w a rd' n (Q : Exit → Act → World → Prop), GS E.P B ρ S V w → FRel E ρ N fr a → RdR ρ rd rd' → Fsh ρ S.nx q.2.2.nx → Wf S → B ≤ w.heap.size →
    (∀ ρ' w' a', GS E.P B ρ' q.2.2 V w' → Nx B ρ ρ' S.nx q.2.2.nx w w' → FRel E ρ' N q.2.1 a' → Q q.1 a' w') → Code.roundsIn (Fw rd') n E.P b Q m a w
  | 0, rd, fr, S, q, hq => by cases hq
  | m + 1, rd, fr, S, q, hq => by
    obtain ⟨p, h1, hq⟩ := ob_some.1 (show ob (g.f K Y rd fr S) _ = some q from hq)
    obtain ⟨g1, g2⟩ := hg rd fr S p h1
    obtain ⟨e, fr1, S1⟩ := p
    cases e with
    | normal =>
      have hq : (loopF g m).f K Y rd fr1 S1 = some q := hq
      obtain ⟨k1, k2⟩ := loop_rounds hg m rd fr1 S1 q hq
      refine ⟨g1.trans k1, fun B ρ V w a rd' n Q hG hF hr hf hwf hB hk => ?_⟩
      rw [roundsIn_succ]
      refine g2 B ρ V w a rd' n _ hG hF hr (hf.fst k1.nx) hwf hB fun ρ1 w1 a1 hG1 hN1 hF1 => ?_
      exact k2 B ρ1 V w1 a1 rd' n Q hG1 hF1 (hr.mono hN1.le) (hf.snd hN1) (g1.wf hwf) (Nat.le_trans hB hN1.bel.size) fun ρ2 w2 a2 hG2 hN2 hF2 => hk ρ2 w2 a2 hG2 (hN1.trans hN2) hF2
    | _ =>
      cases hq
      refine ⟨g1, fun B ρ V w a rd' n Q hG hF hr hf hwf hB hk => ?_⟩
      rw [roundsIn_succ]
      exact g2 B ρ V w a rd' n _ hG hF hr hf hwf hB fun ρ1 w1 a1 hG1 hN1 hF1 => hk ρ1 w1 a1 hG1 hN1 hF1
theorem code_loop {b : Code} {g : CodeF} (hg : CodeOk E N K Y b g) (m : Nat) : CodeOk E N K Y (.loop b) (loopF g m) := fun rd fr S q hq =>
  let ⟨g1, g2⟩ := loop_rounds hg m rd fr S q hq
  ⟨g1, fun B ρ V w a rd' n Q hG hF hr hf hwf hB hk => wpIn_loop_rounds m (g2 B ρ V w a rd' n Q hG hF hr hf hwf hB hk)⟩
end
end Go.Proofs.YtemldmjpanmdbaaGreatDoor.Ev
