import Derived.Test.YtemldmjpanmdbaaGreatDoorP32
set_option linter.unusedVariables false
namespace Go.Proofs.YtemldmjpanmdbaaGreatDoor.Ev
open Go.RowKit
section
variable {E : Env} {ρ ρ' : Ren} {B : Nat} {w w' : World} {S S' : St} {V : Hp} {K : CallF} {Y : YieldF} {N : Nat}
theorem loopOf_some {l : Nat} {r : Loop} : loopOf S l = some r ↔ rdO S l = some (.inr (.loop r)) := by
  unfold loopOf
  constructor
  · intro h
    obtain ⟨o, h1, h⟩ := ob_some.1 h
    rw [h1]
    split at h
    · cases h; rfl
    · cases h
  · intro h
    exact ob_some.2 ⟨_, h, rfl⟩
/-- A loop's record, as it lies. -/
theorem loop_at {l : Nat} {r : Loop} {P : Program} (h : GS P B ρ S V w) (hl : loopOf S l = some r) : ∃ p r', ρ l = some p ∧ w.heap[p.b]? = some (.loop r') ∧ LR P ρ r r' := by
  obtain ⟨p, h1, r', h2, h3⟩ := h.at_ l _ (ov_of (loopOf_some.1 hl)) rfl
  exact ⟨p, r', h1, h2, h3⟩
theorem run_getLoop {P : Program} {b : Nat} {r : Loop} (h : w.heap[b]? = some (.loop r)) : (Instr.getLoop b).run P w = .ok r w := by
  simp [Instr.getLoop, getObj, Sem.run, h, Result.andThen]
/-- A loop's record turns. -/
theorem loop_put {P : Program} {l : Nat} {r r1 : Loop} {p : Pl} {r' r1' : Loop} (h : GS P B ρ S V w) (hl : loopOf S l = some r) (hp : ρ l = some p) (hr : w.heap[p.b]? = some (.loop r')) (h1 : LR P ρ r1 r1') :
    ∃ w1, (setObj p.b (.loop r1')).run P w = .ok () w1 ∧ GS P B ρ (putO S l (.inr (.loop r1))) V w1 ∧ Nx B ρ ρ S.nx S.nx w w1 := by
  have := putO_spec (o1 := .inr (.loop r1)) (ob1 := .loop r1') h (loopOf_some.1 hl) rfl hp hr (by intro a b c e; cases e) ⟨r1', set_same (P := P) (h.plc l p hp).2, h1⟩
  exact ⟨_, this.1, this.2.1, this.2.2⟩
theorem listOf_get {τ : Tr Value TD} {N t : Nat} {v : Value} (h : (listOf τ N)[t]? = some v) : t < N ∧ v = (Tr.get TD τ t).getD unk := by
  unfold listOf at h
  simp only [List.getElem?_toArray, List.getElem?_map, Option.map_eq_some_iff] at h
  obtain ⟨x, h1, h2⟩ := h
  obtain ⟨h3, h4⟩ := List.getElem?_eq_some_iff.1 h1
  simp at h3 h4
  subst h4
  exact ⟨h3, h2.symm⟩
theorem listOf_size (τ : Tr Value TD) (N : Nat) : (listOf τ N).size = N := by simp [listOf]
end
end Go.Proofs.YtemldmjpanmdbaaGreatDoor.Ev
