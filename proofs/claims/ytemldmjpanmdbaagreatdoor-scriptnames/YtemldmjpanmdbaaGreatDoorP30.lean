import Derived.Test.YtemldmjpanmdbaaGreatDoorP29
set_option linter.unusedVariables false
namespace Go.Proofs.YtemldmjpanmdbaaGreatDoor.Ev
open Go.RowKit
section
variable {E : Env} {ρ ρ' : Ren} {B : Nat} {w w' : World} {S S' : St} {V : Hp} {K : CallF} {Y : YieldF} {n : Nat} {rd : Option Nat} {N : Nat}
theorem code_seq {a b : Code} {g h : CodeF} (hg : CodeOk E N K Y a g) (hh : CodeOk E N K Y b h) :
    CodeOk E N K Y (.seq a b) (Bx.mk fun K Y rd fr S => ob (g.f K Y rd fr S) fun p => match p.1 with | .normal => h.f K Y rd p.2.1 p.2.2 | _ => some p) := fun rd fr S q hq => by
  obtain ⟨p, h1, hq⟩ := ob_some.1 hq
  obtain ⟨g1, g2⟩ := hg rd fr S p h1
  obtain ⟨e, fr1, S1⟩ := p
  cases e with
  | normal =>
    have hq : h.f K Y rd fr1 S1 = some q := hq
    obtain ⟨k1, k2⟩ := hh rd fr1 S1 q hq
    refine ⟨g1.trans k1, fun B ρ V w a rd' n Q hG hF hr hf hwf hB hk => wpIn_seq (g2 B ρ V w a rd' n _ hG hF hr (hf.fst k1.nx) hwf hB fun ρ1 w1 a1 hG1 hN1 hF1 => ?_)⟩
    exact k2 B ρ1 V w1 a1 rd' n Q hG1 hF1 (hr.mono hN1.le) (hf.snd hN1) (g1.wf hwf) (Nat.le_trans hB hN1.bel.size) fun ρ2 w2 a2 hG2 hN2 hF2 => hk ρ2 w2 a2 hG2 (hN1.trans hN2) hF2
  | _ =>
    cases hq
    exact ⟨g1, fun B ρ V w a rd' n Q hG hF hr hf hwf hB hk => wpIn_seq (g2 B ρ V w a rd' n _ hG hF hr hf hwf hB fun ρ1 w1 a1 hG1 hN1 hF1 => hk ρ1 w1 a1 hG1 hN1 hF1)⟩
theorem code_cond {c : Operand} {a b : Code} {g h : CodeF} (hg : CodeOk E N K Y a g) (hh : CodeOk E N K Y b h) :
    CodeOk E N K Y (.cond c a b) (Bx.mk fun K Y rd fr S => ob ((opd E c).f (tmpsOf fr.τ)) fun v => match v with | .bool t => cond t (g.f K Y rd fr S) (h.f K Y rd fr S) | _ => none) := fun rd fr S q hq => by
  obtain ⟨v, h1, hq⟩ := ob_some.1 hq
  cases v with
  | bool t =>
    cases t
    · obtain ⟨k1, k2⟩ := hh rd fr S q hq
      refine ⟨k1, fun B ρ V w a rd' n Q hG hF hr hf hwf hB hk => ?_⟩
      have := opd_spec hF.t h1
      simp only [VR] at this
      exact wpIn_cond_false this (k2 B ρ V w a rd' n Q hG hF hr hf hwf hB hk)
    · obtain ⟨k1, k2⟩ := hg rd fr S q hq
      refine ⟨k1, fun B ρ V w a rd' n Q hG hF hr hf hwf hB hk => ?_⟩
      have := opd_spec hF.t h1
      simp only [VR] at this
      exact wpIn_cond_true this (k2 B ρ V w a rd' n Q hG hF hr hf hwf hB hk)
  | _ => cases hq
theorem code_block {id : Nat} {b : Code} {g : CodeF} (hg : CodeOk E N K Y b g) : CodeOk E N K Y (.block id b) (Bx.mk fun K Y rd fr S => inBlock id (g.f K Y rd fr S)) := fun rd fr S q hq => by
  obtain ⟨p, h1, hq⟩ := ob_some.1 (show ob (g.f K Y rd fr S) _ = some q from hq)
  obtain ⟨g1, g2⟩ := hg rd fr S p h1
  obtain ⟨e, fr1, S1⟩ := p
  cases e with
  | exit i =>
    dsimp only at hq
    cases hi : Nat.beq i id <;> rw [hi] at hq
    · simp only [cond_false] at hq
      rw [h1] at hq
      cases hq
      refine ⟨g1, fun B ρ V w a rd' n Q hG hF hr hf hwf hB hk => wpIn_block (g2 B ρ V w a rd' n _ hG hF hr hf hwf hB fun ρ1 w1 a1 hG1 hN1 hF1 => ?_)⟩
      have hne : i ≠ id := fun e => by rw [e, Nat.beq_refl] at hi; cases hi
      simp only [Exit.inBlock, hne, if_false]
      exact hk ρ1 w1 a1 hG1 hN1 hF1
    · simp only [cond_true] at hq
      cases hq
      refine ⟨g1, fun B ρ V w a rd' n Q hG hF hr hf hwf hB hk => wpIn_block (g2 B ρ V w a rd' n _ hG hF hr hf hwf hB fun ρ1 w1 a1 hG1 hN1 hF1 => ?_)⟩
      have := Nat.eq_of_beq_eq_true hi
      simp only [Exit.inBlock, this, if_true]
      exact hk ρ1 w1 a1 hG1 hN1 hF1
  | _ =>
    dsimp only at hq
    rw [h1] at hq
    cases hq
    exact ⟨g1, fun B ρ V w a rd' n Q hG hF hr hf hwf hB hk => wpIn_block (g2 B ρ V w a rd' n _ hG hF hr hf hwf hB fun ρ1 w1 a1 hG1 hN1 hF1 => hk ρ1 w1 a1 hG1 hN1 hF1)⟩
end
end Go.Proofs.YtemldmjpanmdbaaGreatDoor.Ev
