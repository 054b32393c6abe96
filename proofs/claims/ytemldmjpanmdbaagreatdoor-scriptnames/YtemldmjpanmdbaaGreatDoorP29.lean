import Derived.Test.YtemldmjpanmdbaaGreatDoorP28
set_option linter.unusedVariables false
namespace Go.Proofs.YtemldmjpanmdbaaGreatDoor.Ev
open Go.RowKit
theorem tmpsOf_eq (τ : Tr Value TD) (t : Nat) : tmpsOf τ t = if t < 256 then Tr.get TD τ t else none := by
  unfold tmpsOf
  by_cases h : t < 256
  · rw [blt_iff.2 h, if_pos h]; rfl
  · rw [blt_false h, if_neg h]; rfl
theorem tmpsOf_set {τ : Tr Value TD} {t k : Nat} {v : Option Value} (ht : t < 256) : tmpsOf (Tr.set TD τ t v) k = if k = t then v else tmpsOf τ k := by
  rw [tmpsOf_eq, tmpsOf_eq]
  by_cases hk : k < 256
  · rw [if_pos hk, if_pos hk, Tr.get_set' hk ht]
  · rw [if_neg hk, if_neg hk, if_neg (by omega)]
theorem flush_spec {ρ : Tmps} : ∀ (l : List Tmp) (τ : Tr Value TD) (k : Nat), (∀ t ∈ l, t < 256) → tmpsOf (flush τ ρ l) k = if k ∈ l then ρ k else tmpsOf τ k
  | [], τ, k, _ => by simp [flush]
  | t :: l, τ, k, h => by
    simp only [flush]
    rw [flush_spec l _ k fun x hx => h x (by simp [hx]), tmpsOf_set (h t (by simp))]
    by_cases h1 : k ∈ l
    · simp [h1]
    · by_cases h2 : k = t
      · subst h2; simp [h1]
      · simp [h1, h2]
section
variable {E : Env} {ρ ρ' : Ren} {B : Nat} {w w' : World} {S S' : St} {V : Hp} {K : CallF} {Y : YieldF} {n : Nat} {rd : Option Nat}
/-- The blocks of deferred calls. -/
def MRel (ρ : Ren) : List Nat → List Deferred → Prop
  | [], ds => ds = []
  | m :: ms, ds => ∃ p ds', ρ m = some p ∧ ds = { target := .collected p.b, args := #[] } :: ds' ∧ MRel ρ ms ds'
theorem MRel.mono (h : ρ.le ρ') : ∀ {ms : List Nat} {ds : List Deferred}, MRel ρ ms ds → MRel ρ' ms ds
  | [], _, k => k
  | _ :: _, _, ⟨p, ds', h1, h2, h3⟩ => ⟨p, ds', h _ _ h1, h2, MRel.mono h h3⟩
/-- A frame. -/
structure FRel (E : Env) (ρ : Ren) (N : Nat) (fr : Fr) (a : Act) : Prop where
  t : TRel E.P ρ (tmpsOf fr.τ) a
  n : a.tmps.size = N
  m : MRel ρ fr.marks a.defers
theorem FRel.mono {N : Nat} {fr : Fr} {a : Act} (h : FRel E ρ N fr a) (hle : ρ.le ρ') : FRel E ρ' N fr a := ⟨h.t.mono hle, h.n, h.m.mono hle⟩
/-- In a round of a loop, or in none. -/
def RdR (ρ : Ren) : Option Nat → Option Nat → Prop
  | none, r => r = none
  | some l, r => ∃ p, ρ l = some p ∧ r = some p.b
theorem RdR.mono (h : ρ.le ρ') : ∀ {r r' : Option Nat}, RdR ρ r r' → RdR ρ' r r'
  | none, _, k => k
  | some _, _, ⟨p, h1, h2⟩ => ⟨p, h _ _ h1, h2⟩
/-- A piece of code does what its reckoner says. -/
def CodeOk (E : Env) (N : Nat) (K : CallF) (Y : YieldF) (c : Code) (g : CodeF) : Prop :=
  ∀ rd fr S q, g.f K Y rd fr S = some q → Ge S q.2.2 ∧ ∀ B ρ V w a rd' n (Q : Exit → Act → World → Prop), GS E.P B ρ S V w → FRel E ρ N fr a → RdR ρ rd rd' → Fsh ρ S.nx q.2.2.nx → Wf S → B ≤ w.heap.size →
    (∀ ρ' w' a', GS E.P B ρ' q.2.2 V w' → Nx B ρ ρ' S.nx q.2.2.nx w w' → FRel E ρ' N q.2.1 a' → Q q.1 a' w') → c.wpIn (Fw rd') n E.P Q a w
variable {N : Nat}
theorem seq_keep {ops : List Oper} {t : Tmp} : ∀ {l : List Oper} {τ : Tmps} {S : St} {p : Tmps × St}, (cSeq E ops l).f K Y τ S = some p → (∀ o ∈ l, o.dst ≠ some t) → p.1 t = τ t
  | [], τ, S, p, hq, _ => by cases hq; rfl
  | o :: l, τ, S, p, hq, h => by
    obtain ⟨q, h1, hq⟩ := ob_some.1 (show ob ((cOp1 E ops o).f K Y τ S) _ = some p from hq)
    rw [seq_keep hq fun x hx => h x (by simp [hx]), putT_ne (h o (by simp))]
theorem tauD_keep {D : Nat → Bool} {t : Tmp} : ∀ {R : List Rec} {τ : Tmps}, (∀ r ∈ R, r.o.dst ≠ some t) → tauD D R τ t = τ t
  | [], _, _ => rfl
  | r :: R, τ, h => by
    simp only [tauD]
    rw [tauD_keep fun x hx => h x (by simp [hx])]
    cases D r.i
    · rfl
    · exact putT_ne (h r (by simp))
theorem region_keep (gK : KGe K) (gY : YGe Y) {ops : List Oper} {draw : Bool} {τ : Tmps} {p : Tmps × St} (hq : (cRegion E ops draw).f K Y τ S = some p) (t : Tmp) (h : ∀ o ∈ ops, o.dst ≠ some t) : p.1 t = τ t := by
  unfold cRegion at hq
  cases draw
  · exact seq_keep hq h
  · obtain ⟨_, hq⟩ := condR hq
    obtain ⟨R, _, hc⟩ := draw_chain gK gY hq
    have hc : Chain E ops (Region.before ops.toArray) K Y (R ++ []) [] τ S [S] p := by rw [List.append_nil]; exact hc
    obtain ⟨s, g1, g2, g3, _⟩ := chain_at gK gY hc
    rw [show p.1 = tauD (fun _ => true) R τ by rw [g1]]
    exact tauD_keep fun r hr => h _ (List.mem_of_getElem? (g3 r hr).2.2.2)
theorem code_skip : CodeOk E N K Y .skip (Bx.mk fun _ _ _ fr S => some (.normal, fr, S)) := fun rd fr S q h => by
  cases h
  exact ⟨.refl _, fun B ρ V w a rd' n Q hG hF hr hf hwf hB hk => wpIn_skip (hk ρ w a hG (Nx.refl _ _ _ _) hF)⟩
theorem code_label {l : Nat} : CodeOk E N K Y (.label l) (Bx.mk fun _ _ _ fr S => some (.normal, fr, S)) := fun rd fr S q h => by
  cases h
  exact ⟨.refl _, fun B ρ V w a rd' n Q hG hF hr hf hwf hB hk => wpIn_label (hk ρ w a hG (Nx.refl _ _ _ _) hF)⟩
theorem code_exit {l : Nat} : CodeOk E N K Y (.exit l) (Bx.mk fun _ _ _ fr S => some (.exit l, fr, S)) := fun rd fr S q h => by
  cases h
  exact ⟨.refl _, fun B ρ V w a rd' n Q hG hF hr hf hwf hB hk => wpIn_exit (hk ρ w a hG (Nx.refl _ _ _ _) hF)⟩
theorem code_goto {l : Nat} : CodeOk E N K Y (.goto l) (Bx.mk fun _ _ _ fr S => some (.goto l, fr, S)) := fun rd fr S q h => by
  cases h
  exact ⟨.refl _, fun B ρ V w a rd' n Q hG hF hr hf hwf hB hk => wpIn_goto (hk ρ w a hG (Nx.refl _ _ _ _) hF)⟩
theorem code_ret : CodeOk E N K Y .ret (Bx.mk fun _ _ _ fr S => some (.ret, fr, S)) := fun rd fr S q h => by
  cases h
  exact ⟨.refl _, fun B ρ V w a rd' n Q hG hF hr hf hwf hB hk => wpIn_ret (hk ρ w a hG (Nx.refl _ _ _ _) hF)⟩
theorem code_region (hE : EnvOk E) (hN : NmOk E) (hK : KOk E K) (hY : YOk E Y) (gK : KGe K) (gY : YGe Y) (hm : E.P.follows .mixedOrders = true) {id : Nat} {A : Array Oper} {draw : Bool} {fn : FuncId} {m : Nat} :
    CodeOk E N K Y (.region id A draw) (cCode E fn N (m + 1) (.region id A draw)) := fun rd fr S q h => by
  simp only [cCode] at h
  cases hl : (A.toList.filterMap (·.dst)).all fun t => Nat.blt t N && Nat.blt t 256 <;> rw [hl] at h
  · cases h
  · simp only [cond_true] at h
    obtain ⟨p, h1, h⟩ := ob_some.1 h
    cases h
    simp only [List.all_eq_true, Bool.and_eq_true] at hl
    have hd : ∀ o ∈ A.toList, ∀ d, o.dst = some d → d < N ∧ d < 256 := fun o ho d hdd => by
      have := hl d (List.mem_filterMap.2 ⟨o, ho, hdd⟩)
      exact ⟨blt_iff.1 this.1, blt_iff.1 this.2⟩
    refine ⟨region_ge gK gY h1, fun B ρ V w a rd' n Q hG hF hr hf hwf hB hk => ?_⟩
    refine region_wp hE hN hK hY gK gY hm h1 hG hF.t hf hwf hB (fun o ho d hdd => by rw [hF.n]; exact (hd o ho d hdd).1) fun ρ' w' a' k1 k2 k3 k4 k5 => ?_
    refine hk ρ' w' a' k1 k2 ⟨fun t v hv => ?_, by rw [k4, hF.n], by rw [k5]; exact hF.m.mono k2.le⟩
    rw [flush_spec _ _ _ fun t ht => by
      obtain ⟨o, ho, hdd⟩ := List.mem_filterMap.1 ht
      exact (hd o ho t hdd).2] at hv
    split at hv
    · exact k3 t v hv
    · rename_i hnt
      refine k3 t v ?_
      rw [region_keep gK gY h1 t fun o ho e => hnt (List.mem_filterMap.2 ⟨o, ho, e⟩)]
      exact hv
end
end Go.Proofs.YtemldmjpanmdbaaGreatDoor.Ev
