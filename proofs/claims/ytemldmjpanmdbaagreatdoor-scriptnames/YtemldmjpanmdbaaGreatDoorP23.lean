import Derived.Test.YtemldmjpanmdbaaGreatDoorP22
set_option linter.unusedVariables false
namespace Go.Proofs.YtemldmjpanmdbaaGreatDoor.Ev
/-- One operation as the reckoner met it. -/
structure Rec where
  i : Nat
  o : Oper
  τ : Tmps
  S : St
  v : Value
  S' : St
theorem load_no_eff {o : Oper} (h : isLoad o = true) : isEff o = false ∧ isMaker o = false := by
  obtain ⟨dst, op, type, pos, after, guard⟩ := o
  cases op with
  | call c =>
    obtain ⟨callee, cargs, cts⟩ := c
    cases callee with
    | builtin b => cases b <;> first | exact ⟨rfl, rfl⟩ | cases h
    | _ => cases h
  | _ => first | exact ⟨rfl, rfl⟩ | cases h
/-- What lies between. -/
def Chain (E : Env) (ops : List Oper) (bs : Array Nat) (K : CallF) (Y : YieldF) : List Rec → List Nat → Tmps → St → List St → Tmps × St → Prop
  | [], _, τ, S, _, p => p = (τ, S)
  | r :: R, pe, τ, S, past, p => ops[r.i]? = some r.o ∧ r.τ = τ ∧ r.S = S ∧
    ((isLoad r.o = true ∧ isEff r.o = false ∧ r.S' = S ∧ (∀ k S0, k ≤ (pe.takeWhile fun e => !(bitOf bs r.i e)).length → past[k]? = some S0 → (cOp1 E ops r.o).f K Y τ S0 = some (r.v, S0)) ∧ Chain E ops bs K Y R pe (putT r.o.dst r.v τ) S past p)
    ∨ (isLoad r.o = false ∧ isEff r.o = true ∧ (cOp1 E ops r.o).f K Y τ S = some (r.v, r.S') ∧ Chain E ops bs K Y R (r.i :: pe) (putT r.o.dst r.v τ) r.S' (r.S' :: past) p)
    ∨ (isLoad r.o = false ∧ isEff r.o = false ∧ (cOp1 E ops r.o).f K Y τ S = some (r.v, r.S') ∧ Chain E ops bs K Y R pe (putT r.o.dst r.v τ) r.S' past p))
section
variable {E : Env} {K : CallF} {Y : YieldF} {ops : List Oper} {bs : Array Nat}
theorem again_spec {g : St → Res} {v : Value} (hg : ∀ S q, g S = some q → q.2 = S) : ∀ (n : Nat) (l : List St), againAll g v n l = true → ∀ k S0, k < n → l[k]? = some S0 → g S0 = some (v, S0)
  | 0, _, _, k, _, hk, _ => by omega
  | n + 1, [], _, k, S0, _, h => by simp at h
  | n + 1, S :: l, h, k, S0, hk, hS => by
    simp only [againAll, Bool.and_eq_true] at h
    cases k with
    | zero =>
      simp at hS
      subst hS
      cases hgS : g S with
      | none => rw [hgS] at h; cases h.1
      | some q =>
        rw [hgS] at h
        have h1 := vEq_eq _ _ _ h.1
        have h2 := hg S q hgS
        obtain ⟨a, b⟩ := q
        simp only at h1 h2
        rw [h1, h2]
    | succ k => exact again_spec hg n l h.2 k S0 (by omega) (by simpa using hS)
theorem draw_chain (gK : KGe K) (gY : YGe Y) : ∀ {l pe : List Nat} {τ : Tmps} {S : St} {past : List St} {p : Tmps × St}, (cDrawL E ops bs l pe).f K Y τ S past = some p → ∃ R, R.map (·.i) = l ∧ Chain E ops bs K Y R pe τ S past p
  | [], pe, τ, S, past, p, h => by cases h; exact ⟨[], rfl, rfl⟩
  | i :: l, pe, τ, S, past, p, h => by
    unfold cDrawL at h
    split at h
    · cases h
    · rename_i o ho
      dsimp only at h
      cases hl : isLoad o
      · rw [hl, cond_false] at h
        cases he : isEff o
        · rw [he, cond_false] at h
          obtain ⟨q, h1, h⟩ := ob_some.1 (show ob ((cOp1 E ops o).f K Y τ S) _ = some p from h)
          obtain ⟨R, h2, h3⟩ := draw_chain gK gY h
          exact ⟨⟨i, o, τ, S, q.1, q.2⟩ :: R, by simp [h2], ho, rfl, rfl, .inr (.inr ⟨hl, he, h1, h3⟩)⟩
        · rw [he, cond_true] at h
          obtain ⟨q, h1, h⟩ := ob_some.1 (show ob ((cOp1 E ops o).f K Y τ S) _ = some p from h)
          obtain ⟨R, h2, h3⟩ := draw_chain gK gY h
          exact ⟨⟨i, o, τ, S, q.1, q.2⟩ :: R, by simp [h2], ho, rfl, rfl, .inr (.inl ⟨hl, he, h1, h3⟩)⟩
      · rw [hl, cond_true] at h
        obtain ⟨S0, h1, h⟩ := ob_some.1 (show ob past.head? _ = some p from h)
        obtain ⟨q, h2, h⟩ := ob_some.1 h
        obtain ⟨h3, h⟩ := iff_some.1 h
        obtain ⟨R, h4, h5⟩ := draw_chain gK gY h
        have hs := load_no_eff hl
        have hg : ∀ S q, (cOp1 E ops o).f K Y τ S = some q → q.2 = S := fun S q hq => (op1_ge gK gY hq).2 hs.2 hs.1
        refine ⟨⟨i, o, τ, S, q.1, S⟩ :: R, by simp [h4], ho, rfl, rfl, .inl ⟨hl, hs.1, rfl, fun k S1 hk hS => ?_, h5⟩⟩
        cases past with
        | nil => cases h1
        | cons S2 past =>
          simp at h1
          subst h1
          cases k with
          | zero =>
            simp at hS
            subst hS
            have := hg _ _ h2
            obtain ⟨a, b⟩ := q
            simp only at this ⊢
            rw [h2, this]
          | succ k => exact again_spec hg _ _ h3 k S1 (Nat.lt_of_succ_le hk) (by simpa using hS)
/-- The temporaries of those that are done. -/
def tauD (D : Nat → Bool) : List Rec → Tmps → Tmps
  | [], τ => τ
  | r :: R, τ => tauD D R (cond (D r.i) (putT r.o.dst r.v τ) τ)
theorem tauD_append (D : Nat → Bool) : ∀ (A Z : List Rec) (τ : Tmps), tauD D (A ++ Z) τ = tauD D Z (tauD D A τ)
  | [], _, _ => rfl
  | r :: A, Z, τ => tauD_append D A Z _
theorem tauD_false : ∀ (A : List Rec) (τ : Tmps), tauD (fun _ => false) A τ = τ
  | [], _ => rfl
  | r :: A, τ => tauD_false A τ
theorem putT_ne {d : Option Tmp} {v : Value} {τ : Tmps} {t : Tmp} (h : d ≠ some t) : putT d v τ t = τ t := by
  cases d with
  | none => rfl
  | some d =>
    simp only [putT]
    have : Nat.beq t d = false := by
      cases hb : Nat.beq t d
      · rfl
      · exact absurd (by rw [Nat.eq_of_beq_eq_true hb]) h
    rw [this]; rfl
theorem putT_comm {d e : Option Tmp} {v u : Value} {τ : Tmps} (h : ∀ t, d = some t → e ≠ some t) : putT d v (putT e u τ) = putT e u (putT d v τ) := by
  funext t
  by_cases hd : d = some t
  · rw [putT_ne (h t hd)]
    subst hd
    simp [putT, Nat.beq_refl]
  · rw [putT_ne hd]
    by_cases he : e = some t
    · subst he
      simp [putT, Nat.beq_refl]
    · rw [putT_ne he, putT_ne he, putT_ne hd]
theorem putT_congr {d : Option Tmp} {v : Value} {τ τ' : Tmps} {t : Tmp} (h : τ t = τ' t) : putT d v τ t = putT d v τ' t := by
  cases d with
  | none => exact h
  | some d => simp only [putT]; rw [h]
theorem tau_agree {L : List Tmp} {D D2 : Nat → Bool} : ∀ (R : List Rec) (τ τ' : Tmps), (∀ k ∈ R, D k.i = D2 k.i ∨ ∀ d, k.o.dst = some d → d ∉ L) → (∀ t ∈ L, τ t = τ' t) → ∀ t ∈ L, tauD D R τ t = tauD D2 R τ' t
  | [], _, _, _, h, t, ht => h t ht
  | k :: R, τ, τ', hk, h, t, ht => by
    refine tau_agree R _ _ (fun j hj => hk j (by simp [hj])) (fun u hu => ?_) t ht
    rcases hk k (by simp) with h1 | h1
    · rw [h1]
      cases D2 k.i
      · exact h u hu
      · exact putT_congr (h u hu)
    · have : k.o.dst ≠ some u := fun e => h1 u e hu
      cases D k.i <;> cases D2 k.i <;> simp only [cond_true, cond_false] <;> (try rw [putT_ne this]) <;> (try rw [putT_ne this]) <;> exact h u hu
theorem tauD_put {D : Nat → Bool} {d : Option Tmp} {v : Value} : ∀ (Z : List Rec) (τ : Tmps), (∀ k ∈ Z, D k.i = true → ∀ t, k.o.dst = some t → d ≠ some t) → tauD D Z (putT d v τ) = putT d v (tauD D Z τ)
  | [], _, _ => rfl
  | k :: Z, τ, h => by
    simp only [tauD]
    cases hD : D k.i
    · exact tauD_put Z τ fun j hj => h j (by simp [hj])
    · simp only [cond_true]
      rw [putT_comm (h k (by simp) hD)]
      exact tauD_put Z _ fun j hj => h j (by simp [hj])
theorem tauD_same {D D2 : Nat → Bool} : ∀ (Z : List Rec) (τ : Tmps), (∀ k ∈ Z, D k.i = D2 k.i) → tauD D Z τ = tauD D2 Z τ
  | [], _, _ => rfl
  | k :: Z, τ, h => by
    simp only [tauD]
    rw [h k (by simp)]
    exact tauD_same Z _ fun j hj => h j (by simp [hj])
/-- The effects of a stretch. -/
def efs (A : List Rec) : List Rec := A.filter fun r => isEff r.o
theorem chain_at (gK : KGe K) (gY : YGe Y) : ∀ {A Z : List Rec} {pe : List Nat} {τ : Tmps} {S : St} {past : List St} {p : Tmps × St}, Chain E ops bs K Y (A ++ Z) pe τ S past p →
    ∃ S1, Chain E ops bs K Y Z (((efs A).map (·.i)).reverse ++ pe) (tauD (fun _ => true) A τ) S1 (((efs A).map (·.S')).reverse ++ past) p ∧ Ge S S1 ∧ (∀ k ∈ A, Ge k.S k.S' ∧ Ge k.S' S1 ∧ Ge S k.S ∧ ops[k.i]? = some k.o) ∧
      Chain E ops bs K Y A pe τ S past (tauD (fun _ => true) A τ, S1)
  | [], Z, pe, τ, S, past, p, h => ⟨S, h, .refl _, by simp, rfl⟩
  | r :: A, Z, pe, τ, S, past, p, h => by
    obtain ⟨h1, h2, h3, h⟩ := h
    rcases h with ⟨hl, he, h4, h5, h⟩ | ⟨hl, he, h5, h⟩ | ⟨hl, he, h5, h⟩
    · obtain ⟨S1, g1, g2, g3, g4⟩ := chain_at gK gY h
      refine ⟨S1, ?_, g2, ?_, h1, h2, h3, .inl ⟨hl, he, h4, h5, g4⟩⟩
      · simpa [efs, he, tauD] using g1
      · intro k hk
        rcases List.mem_cons.1 hk with rfl | hk
        · exact ⟨by rw [h3, h4]; exact .refl _, by rw [h4]; exact g2, by rw [h3]; exact .refl _, h1⟩
        · exact g3 k hk
    · obtain ⟨S1, g1, g2, g3, g4⟩ := chain_at gK gY h
      have g := (op1_ge gK gY h5).1
      refine ⟨S1, ?_, g.trans g2, ?_, h1, h2, h3, .inr (.inl ⟨hl, he, h5, g4⟩)⟩
      · simpa [efs, he, tauD] using g1
      · intro k hk
        rcases List.mem_cons.1 hk with rfl | hk
        · exact ⟨by rw [h3]; exact g, g2, by rw [h3]; exact .refl _, h1⟩
        · exact ⟨(g3 k hk).1, (g3 k hk).2.1, g.trans (g3 k hk).2.2.1, (g3 k hk).2.2.2⟩
    · obtain ⟨S1, g1, g2, g3, g4⟩ := chain_at gK gY h
      have g := (op1_ge gK gY h5).1
      refine ⟨S1, ?_, g.trans g2, ?_, h1, h2, h3, .inr (.inr ⟨hl, he, h5, g4⟩)⟩
      · simpa [efs, he, tauD] using g1
      · intro k hk
        rcases List.mem_cons.1 hk with rfl | hk
        · exact ⟨by rw [h3]; exact g, g2, by rw [h3]; exact .refl _, h1⟩
        · exact ⟨(g3 k hk).1, (g3 k hk).2.1, g.trans (g3 k hk).2.2.1, (g3 k hk).2.2.2⟩
/-- What the order's check says of one of its places. -/
theorem drawOk_at : ∀ {l1 l2 done : List Nat} {i : Nat}, drawOk ops bs (l1 ++ i :: l2) done = true → ∃ o, ops[i]? = some o ∧ (∀ k ∈ i :: l2, bitOf bs i k = false) ∧ (isEff o = true → ∀ k ∈ l1 ++ done, bitOf bs i k = true) ∧
    (∀ k ∈ l1 ++ done, bitOf bs i k = true ∨ ∃ x, ops[k]? = some x ∧ apartT ops x o = true) ∧ i ∉ l2
  | [], l2, done, i, h => by
    simp only [List.nil_append, drawOk, Bool.and_eq_true, Bool.not_eq_true'] at h
    obtain ⟨⟨h1, h2⟩, h3⟩ := h
    split at h1
    · cases h1
    · rename_i o ho
      simp only [Bool.and_eq_true, List.all_eq_true, Bool.not_eq_true', Bool.or_eq_true] at h1
      obtain ⟨⟨h4, h5⟩, h6⟩ := h1
      refine ⟨o, ho, h4, fun he k hk => ?_, fun k hk => ?_, ?_⟩
      · rcases h5 with h5 | h5
        · rw [he] at h5; cases h5
        · exact h5 k hk
      · rcases h6 k hk with h7 | h7
        · exact .inl h7
        · split at h7
          · rename_i x hx; exact .inr ⟨x, hx, h7⟩
          · cases h7
      · intro hm
        have : l2.contains i = true := by simpa using hm
        rw [this] at h2; cases h2
  | j :: l1, l2, done, i, h => by
    simp only [List.cons_append, drawOk, Bool.and_eq_true] at h
    obtain ⟨o, h1, h2, h3, h4, h5⟩ := drawOk_at h.2
    have hm : ∀ k, k ∈ j :: l1 ++ done → k ∈ l1 ++ j :: done := fun k hk => by
      rcases List.mem_append.1 hk with hk | hk
      · rcases List.mem_cons.1 hk with rfl | hk
        · exact List.mem_append_right _ (by simp)
        · exact List.mem_append_left _ hk
      · exact List.mem_append_right _ (by simp [hk])
    exact ⟨o, h1, h2, fun he k hk => h3 he k (hm k hk), fun k hk => h4 k (hm k hk), h5⟩
end
end Go.Proofs.YtemldmjpanmdbaaGreatDoor.Ev
