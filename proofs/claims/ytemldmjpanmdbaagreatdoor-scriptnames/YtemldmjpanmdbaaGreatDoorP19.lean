import Derived.Test.YtemldmjpanmdbaaGreatDoorP18
import Derived.TacticsIn
set_option linter.unusedVariables false
namespace Go.Proofs.YtemldmjpanmdbaaGreatDoor.Ev
open Go.RowKit
section
variable {E : Env} {ρ ρ' : Ren} {B : Nat} {w w' : World} {S S' : St} {V : Hp} {K : CallF} {Y : YieldF} {n : Nat} {rd : Option Nat}
theorem size_put (a : Act) (d : Option Tmp) (v : Value) : (a.put d v).tmps.size = a.tmps.size := by cases d <;> simp [Act.put]
theorem defers_put (a : Act) (d : Option Tmp) (v : Value) : (a.put d v).defers = a.defers := by cases d <;> rfl
theorem TRel.put {P : Program} {τ : Tmps} {a : Act} {d : Option Tmp} {v v' : Value} (h : TRel P ρ τ a) (hd : ∀ k, d = some k → k < a.tmps.size) (hv : VR P ρ v v') : TRel P ρ (putT d v τ) (a.put d v') := by
  cases d with
  | none => exact h
  | some d =>
    intro t u hu
    simp only [putT] at hu
    cases hb : Nat.beq t d <;> rw [hb] at hu
    · obtain ⟨u', h1, h2⟩ := h t u hu
      have hne : d ≠ t := fun e => by rw [← e, Nat.beq_refl] at hb; cases hb
      exact ⟨u', by simp [Act.put, Array.getElem?_setIfInBounds_ne hne, h1], h2⟩
    · cases hu
      have e := Nat.eq_of_beq_eq_true hb
      subst e
      have := hd t rfl
      exact ⟨v', by simp [Act.put, this], hv⟩
/-- Whether an operation is wanted. -/
theorem wanted_spec {P : Program} {ops : List Oper} {o : Oper} {τ : Tmps} {a : Act} {b : Bool} (ht : TRel P ρ τ a) (h : (cWanted ops o).f τ = some b) : Region.wanted o (yielded ops.toArray a.tmps) = b := by
  unfold cWanted at h
  unfold Region.wanted
  split at h
  · rename_i hg
    rw [hg]; cases h; rfl
  · rename_i j want hg
    rw [hg]
    split at h
    · cases h
    · rename_i d hd
      obtain ⟨oj, h1, h2⟩ := ob_some.1 hd
      obtain ⟨v, h3, h⟩ := ob_some.1 (show ob (τ d) _ = some b from h)
      obtain ⟨v', h4, h5⟩ := ht d v h3
      have hy : ∀ r, (match v' with | .bool b => some b | _ => none) = r → yielded ops.toArray a.tmps j = r := by
        intro r hr
        unfold yielded
        have : ((ops.toArray[j]?).bind (·.dst)).bind (a.tmps[·]?) = some v' := by simp [h1, h2, h4]
        rw [this]
        cases v' <;> exact hr
      cases v with
      | bool c =>
        simp only [VR] at h5
        subst h5
        cases h
        show (yielded ops.toArray a.tmps j == some want) = _
        rw [hy _ rfl]
        cases c <;> cases want <;> rfl
      | tuple cs =>
        simp only [VR] at h5
        obtain ⟨cs', h5, _⟩ := h5
        subst h5
        cases h
        show (yielded ops.toArray a.tmps j == some want) = _
        rw [hy _ rfl]
        rfl
      | _ => cases h
theorem op1_ge (hK : KGe K) (hY : YGe Y) {ops : List Oper} {o : Oper} {τ : Tmps} {q : Value × St} (hq : (cOp1 E ops o).f K Y τ S = some q) : Ge S q.2 ∧ (isMaker o = false → isEff o = false → q.2 = S) := by
  unfold cOp1 at hq
  split at hq
  · exact oper_ge hK hY hq
  · obtain ⟨b, h1, hq⟩ := ob_some.1 (show ob ((cWanted ops o).f τ) _ = some q from hq)
    cases b
    · cases hq; exact ⟨.refl _, fun _ _ => rfl⟩
    · exact oper_ge hK hY hq
/-- One operation of a region. -/
def opIn (F : Fence) (n : Nat) (P : Program) (ops : Array Oper) (Q : Exit → Act → World → Prop) (o : Oper) (K : Act → World → Prop) (a : Act) (w : World) : Prop :=
  if Region.wanted o (yielded ops a.tmps) then o.wpIn F n P a w K Q else (∀ f, o.about P w a.eval = some f → F.fn f) ∧ K (a.put o.dst undef) w
theorem op1_wp (hE : EnvOk E) (hN : NmOk E) (hK : KOk E K) (hY : YOk E Y) {ops : List Oper} {o : Oper} {τ : Tmps} {a : Act} {q : Value × St} {K' : Act → World → Prop} {Q : Exit → Act → World → Prop}
    (hq : (cOp1 E ops o).f K Y τ S = some q) (h : GS E.P B ρ S V w) (ht : TRel E.P ρ τ a) (hf : Fsh ρ S.nx q.2.nx) (hwf : Wf S) (hB : B ≤ w.heap.size)
    (hk : ∀ ρ' w' v', VR E.P ρ' q.1 v' → GS E.P B ρ' q.2 V w' → Nx B ρ ρ' S.nx q.2.nx w w' → K' (a.put o.dst v') w') : opIn (Fw rd) n E.P ops.toArray Q o K' a w := by
  unfold cOp1 at hq
  unfold opIn
  split at hq
  · rename_i hg
    have : Region.wanted o (yielded ops.toArray a.tmps) = true := by simp [Region.wanted, hg]
    rw [if_pos this]
    exact oper_wp hE hN hK hY hq h ht hf hwf hB hk
  · obtain ⟨b, h1, hq⟩ := ob_some.1 (show ob ((cWanted ops o).f τ) _ = some q from hq)
    rw [wanted_spec ht h1]
    cases b
    · cases hq
      rw [if_neg (by simp)]
      exact ⟨fun _ _ => trivial, hk ρ w undef (flat_VR rfl) h (Nx.refl _ _ _ _)⟩
    · rw [if_pos rfl]
      exact oper_wp hE hN hK hY hq h ht hf hwf hB hk
theorem seq_ge (hK : KGe K) (hY : YGe Y) {ops : List Oper} : ∀ {l : List Oper} {τ : Tmps} {S : St} {p : Tmps × St}, (cSeq E ops l).f K Y τ S = some p → Ge S p.2
  | [], τ, S, p, hq => by cases hq; exact .refl _
  | o :: l, τ, S, p, hq => by
    obtain ⟨q, h1, hq⟩ := ob_some.1 (show ob ((cOp1 E ops o).f K Y τ S) _ = some p from hq)
    exact (op1_ge hK hY h1).1.trans (seq_ge hK hY hq)
/-- Operations one behind the other. -/
theorem seq_wp (hE : EnvOk E) (hN : NmOk E) (hK : KOk E K) (hY : YOk E Y) (gK : KGe K) (gY : YGe Y) {ops : List Oper} {Q : Exit → Act → World → Prop} : ∀ {l : List Oper} {τ : Tmps} {S : St} {p : Tmps × St} {ρ : Ren} {a : Act} {w : World},
    (cSeq E ops l).f K Y τ S = some p → GS E.P B ρ S V w → TRel E.P ρ τ a → Fsh ρ S.nx p.2.nx → Wf S → B ≤ w.heap.size → (∀ o ∈ l, ∀ d, o.dst = some d → d < a.tmps.size) →
    (∀ ρ' w' a', GS E.P B ρ' p.2 V w' → Nx B ρ ρ' S.nx p.2.nx w w' → TRel E.P ρ' p.1 a' → a'.tmps.size = a.tmps.size → a'.defers = a.defers → Q .normal a' w') → wpListIn (Fw rd) n E.P ops.toArray Q l a w
  | [], τ, S, p, ρ, a, w, hq, h, ht, hf, hwf, hB, hd, hk => by
    cases hq
    exact hk ρ w a h (Nx.refl _ _ _ _) ht rfl rfl
  | o :: l, τ, S, p, ρ, a, w, hq, h, ht, hf, hwf, hB, hd, hk => by
    obtain ⟨q, h1, hq⟩ := ob_some.1 (show ob ((cOp1 E ops o).f K Y τ S) _ = some p from hq)
    have g1 := seq_ge gK gY hq
    refine op1_wp hE hN hK hY h1 h ht (hf.fst g1.nx) hwf hB fun ρ1 w1 v' hv hG hN1 => ?_
    refine seq_wp hE hN hK hY gK gY hq hG ((ht.mono hN1.le).put (hd o (by simp)) hv) (hf.snd hN1) ((op1_ge gK gY h1).1.wf hwf) (Nat.le_trans hB hN1.bel.size) (fun o' ho d hdd => ?_) fun ρ2 w2 a2 k1 k2 k3 k4 k5 => hk ρ2 w2 a2 k1 (hN1.trans k2) k3 (by rw [k4, size_put]) (by rw [k5, defers_put])
    rw [size_put]
    exact hd o' (by simp [ho]) d hdd
end
end Go.Proofs.YtemldmjpanmdbaaGreatDoor.Ev
