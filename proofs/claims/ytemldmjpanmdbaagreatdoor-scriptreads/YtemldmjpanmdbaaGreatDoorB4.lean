/- The reckoner: regions that draw their order; code. No walk. -/
import Derived.Test.YtemldmjpanmdbaaGreatDoorB3
import Derived.LoopNIn
set_option linter.unusedVariables false
namespace Go.Proofs.YtemldmjpanmdbaaGreatDoor.Ev
/-- One operation as the reckoner met it. -/
structure Rec where
  i : Nat
  o : Oper
  τ : Tmps
  S : St
  v : Value
  S' : St
theorem load_no_eff {o : Oper} (h : isLoad o = true) : isEff o = false ∧ isMaker o = false := by
  obtain ⟨dst, op, type, pos, after, guard⟩ := o
  cases op with
  | call c =>
    obtain ⟨callee, cargs, cts⟩ := c
    cases callee with
    | builtin b => cases b <;> first | exact ⟨rfl, rfl⟩ | cases h
    | _ => cases h
  | _ => first | exact ⟨rfl, rfl⟩ | cases h
/-- What lies between. -/
def Chain (E : Env) (ops : List Oper) (bs : Array Nat) (K : CallF) (Y : YieldF) : List Rec → List Nat → Tmps → St → List St → Tmps × St → Prop
  | [], _, τ, S, _, p => p = (τ, S)
  | r :: R, pe, τ, S, past, p => ops[r.i]? = some r.o ∧ r.τ = τ ∧ r.S = S ∧
    ((isLoad r.o = true ∧ isEff r.o = false ∧ r.S' = S ∧ (∀ k S0, k ≤ (pe.takeWhile fun e => !(bitOf bs r.i e)).length → past[k]? = some S0 → (cOp1 E ops r.o).f K Y τ S0 = some (r.v, S0)) ∧ Chain E ops bs K Y R pe (putT r.o.dst r.v τ) S past p)
    ∨ (isLoad r.o = false ∧ isEff r.o = true ∧ (cOp1 E ops r.o).f K Y τ S = some (r.v, r.S') ∧ Chain E ops bs K Y R (r.i :: pe) (putT r.o.dst r.v τ) r.S' (r.S' :: past) p)
    ∨ (isLoad r.o = false ∧ isEff r.o = false ∧ (cOp1 E ops r.o).f K Y τ S = some (r.v, r.S') ∧ Chain E ops bs K Y R pe (putT r.o.dst r.v τ) r.S' past p))
section
variable {E : Env} {K : CallF} {Y : YieldF} {ops : List Oper} {bs : Array Nat}
theorem again_spec {g : St → Res} {v : Value} (hg : ∀ S q, g S = some q → q.2 = S) : ∀ (n : Nat) (l : List St), againAll g v n l = true → ∀ k S0, k < n → l[k]? = some S0 → g S0 = some (v, S0)
  | 0, _, _, k, _, hk, _ => by omega
  | n + 1, [], _, k, S0, _, h => by simp at h
  | n + 1, S :: l, h, k, S0, hk, hS => by
    simp only [againAll, Bool.and_eq_true] at h
    cases k with
    | zero =>
      simp at hS
      subst hS
      cases hgS : g S with
      | none => rw [hgS] at h; cases h.1
      | some q =>
        rw [hgS] at h
        have h1 := vEq_eq _ _ _ h.1
        have h2 := hg S q hgS
        obtain ⟨a, b⟩ := q
        simp only at h1 h2
        rw [h1, h2]
    | succ k => exact again_spec hg n l h.2 k S0 (by omega) (by simpa using hS)
theorem draw_chain (gK : KGe K) (gY : YGe Y) : ∀ {l pe : List Nat} {τ : Tmps} {S : St} {past : List St} {p : Tmps × St}, (cDrawL E ops bs l pe).f K Y τ S past = some p → ∃ R, R.map (·.i) = l ∧ Chain E ops bs K Y R pe τ S past p
  | [], pe, τ, S, past, p, h => by cases h; exact ⟨[], rfl, rfl⟩
  | i :: l, pe, τ, S, past, p, h => by
    unfold cDrawL at h
    split at h
    · cases h
    · rename_i o ho
      dsimp only at h
      cases hl : isLoad o
      · rw [hl, cond_false] at h
        cases he : isEff o
        · rw [he, cond_false] at h
          obtain ⟨q, h1, h⟩ := ob_some.1 (show ob ((cOp1 E ops o).f K Y τ S) _ = some p from h)
          obtain ⟨R, h2, h3⟩ := draw_chain gK gY h
          exact ⟨⟨i, o, τ, S, q.1, q.2⟩ :: R, by simp [h2], ho, rfl, rfl, .inr (.inr ⟨hl, he, h1, h3⟩)⟩
        · rw [he, cond_true] at h
          obtain ⟨q, h1, h⟩ := ob_some.1 (show ob ((cOp1 E ops o).f K Y τ S) _ = some p from h)
          obtain ⟨R, h2, h3⟩ := draw_chain gK gY h
          exact ⟨⟨i, o, τ, S, q.1, q.2⟩ :: R, by simp [h2], ho, rfl, rfl, .inr (.inl ⟨hl, he, h1, h3⟩)⟩
      · rw [hl, cond_true] at h
        obtain ⟨S0, h1, h⟩ := ob_some.1 (show ob past.head? _ = some p from h)
        obtain ⟨q, h2, h⟩ := ob_some.1 h
        obtain ⟨h3, h⟩ := iff_some.1 h
        obtain ⟨R, h4, h5⟩ := draw_chain gK gY h
        have hs := load_no_eff hl
        have hg : ∀ S q, (cOp1 E ops o).f K Y τ S = some q → q.2 = S := fun S q hq => (op1_ge gK gY hq).2 hs.2 hs.1
        refine ⟨⟨i, o, τ, S, q.1, S⟩ :: R, by simp [h4], ho, rfl, rfl, .inl ⟨hl, hs.1, rfl, fun k S1 hk hS => ?_, h5⟩⟩
        cases past with
        | nil => cases h1
        | cons S2 past =>
          simp at h1
          subst h1
          cases k with
          | zero =>
            simp at hS
            subst hS
            have := hg _ _ h2
            obtain ⟨a, b⟩ := q
            simp only at this ⊢
            rw [h2, this]
          | succ k => exact again_spec hg _ _ h3 k S1 (Nat.lt_of_succ_le hk) (by simpa using hS)
/-- The temporaries of those that are done. -/
def tauD (D : Nat → Bool) : List Rec → Tmps → Tmps
  | [], τ => τ
  | r :: R, τ => tauD D R (cond (D r.i) (putT r.o.dst r.v τ) τ)
theorem tauD_append (D : Nat → Bool) : ∀ (A Z : List Rec) (τ : Tmps), tauD D (A ++ Z) τ = tauD D Z (tauD D A τ)
  | [], _, _ => rfl
  | r :: A, Z, τ => tauD_append D A Z _
theorem tauD_false : ∀ (A : List Rec) (τ : Tmps), tauD (fun _ => false) A τ = τ
  | [], _ => rfl
  | r :: A, τ => tauD_false A τ
theorem putT_ne {d : Option Tmp} {v : Value} {τ : Tmps} {t : Tmp} (h : d ≠ some t) : putT d v τ t = τ t := by
  cases d with
  | none => rfl
  | some d =>
    simp only [putT]
    have : Nat.beq t d = false := by
      cases hb : Nat.beq t d
      · rfl
      · exact absurd (by rw [Nat.eq_of_beq_eq_true hb]) h
    rw [this]; rfl
theorem putT_comm {d e : Option Tmp} {v u : Value} {τ : Tmps} (h : ∀ t, d = some t → e ≠ some t) : putT d v (putT e u τ) = putT e u (putT d v τ) := by
  funext t
  by_cases hd : d = some t
  · rw [putT_ne (h t hd)]
    subst hd
    simp [putT, Nat.beq_refl]
  · rw [putT_ne hd]
    by_cases he : e = some t
    · subst he
      simp [putT, Nat.beq_refl]
    · rw [putT_ne he, putT_ne he, putT_ne hd]
theorem putT_congr {d : Option Tmp} {v : Value} {τ τ' : Tmps} {t : Tmp} (h : τ t = τ' t) : putT d v τ t = putT d v τ' t := by
  cases d with
  | none => exact h
  | some d => simp only [putT]; rw [h]
theorem tau_agree {L : List Tmp} {D D2 : Nat → Bool} : ∀ (R : List Rec) (τ τ' : Tmps), (∀ k ∈ R, D k.i = D2 k.i ∨ ∀ d, k.o.dst = some d → d ∉ L) → (∀ t ∈ L, τ t = τ' t) → ∀ t ∈ L, tauD D R τ t = tauD D2 R τ' t
  | [], _, _, _, h, t, ht => h t ht
  | k :: R, τ, τ', hk, h, t, ht => by
    refine tau_agree R _ _ (fun j hj => hk j (by simp [hj])) (fun u hu => ?_) t ht
    rcases hk k (by simp) with h1 | h1
    · rw [h1]
      cases D2 k.i
      · exact h u hu
      · exact putT_congr (h u hu)
    · have : k.o.dst ≠ some u := fun e => h1 u e hu
      cases D k.i <;> cases D2 k.i <;> simp only [cond_true, cond_false] <;> (try rw [putT_ne this]) <;> (try rw [putT_ne this]) <;> exact h u hu
theorem tauD_put {D : Nat → Bool} {d : Option Tmp} {v : Value} : ∀ (Z : List Rec) (τ : Tmps), (∀ k ∈ Z, D k.i = true → ∀ t, k.o.dst = some t → d ≠ some t) → tauD D Z (putT d v τ) = putT d v (tauD D Z τ)
  | [], _, _ => rfl
  | k :: Z, τ, h => by
    simp only [tauD]
    cases hD : D k.i
    · exact tauD_put Z τ fun j hj => h j (by simp [hj])
    · simp only [cond_true]
      rw [putT_comm (h k (by simp) hD)]
      exact tauD_put Z _ fun j hj => h j (by simp [hj])
theorem tauD_same {D D2 : Nat → Bool} : ∀ (Z : List Rec) (τ : Tmps), (∀ k ∈ Z, D k.i = D2 k.i) → tauD D Z τ = tauD D2 Z τ
  | [], _, _ => rfl
  | k :: Z, τ, h => by
    simp only [tauD]
    rw [h k (by simp)]
    exact tauD_same Z _ fun j hj => h j (by simp [hj])
/-- The effects of a stretch. -/
def efs (A : List Rec) : List Rec := A.filter fun r => isEff r.o
theorem chain_at (gK : KGe K) (gY : YGe Y) : ∀ {A Z : List Rec} {pe : List Nat} {τ : Tmps} {S : St} {past : List St} {p : Tmps × St}, Chain E ops bs K Y (A ++ Z) pe τ S past p →
    ∃ S1, Chain E ops bs K Y Z (((efs A).map (·.i)).reverse ++ pe) (tauD (fun _ => true) A τ) S1 (((efs A).map (·.S')).reverse ++ past) p ∧ Ge S S1 ∧ (∀ k ∈ A, Ge k.S k.S' ∧ Ge k.S' S1 ∧ Ge S k.S ∧ ops[k.i]? = some k.o) ∧
      Chain E ops bs K Y A pe τ S past (tauD (fun _ => true) A τ, S1)
  | [], Z, pe, τ, S, past, p, h => ⟨S, h, .refl _, by simp, rfl⟩
  | r :: A, Z, pe, τ, S, past, p, h => by
    obtain ⟨h1, h2, h3, h⟩ := h
    rcases h with ⟨hl, he, h4, h5, h⟩ | ⟨hl, he, h5, h⟩ | ⟨hl, he, h5, h⟩
    · obtain ⟨S1, g1, g2, g3, g4⟩ := chain_at gK gY h
      refine ⟨S1, ?_, g2, ?_, h1, h2, h3, .inl ⟨hl, he, h4, h5, g4⟩⟩
      · simpa [efs, he, tauD] using g1
      · intro k hk
        rcases List.mem_cons.1 hk with rfl | hk
        · exact ⟨by rw [h3, h4]; exact .refl _, by rw [h4]; exact g2, by rw [h3]; exact .refl _, h1⟩
        · exact g3 k hk
    · obtain ⟨S1, g1, g2, g3, g4⟩ := chain_at gK gY h
      have g := (op1_ge gK gY h5).1
      refine ⟨S1, ?_, g.trans g2, ?_, h1, h2, h3, .inr (.inl ⟨hl, he, h5, g4⟩)⟩
      · simpa [efs, he, tauD] using g1
      · intro k hk
        rcases List.mem_cons.1 hk with rfl | hk
        · exact ⟨by rw [h3]; exact g, g2, by rw [h3]; exact .refl _, h1⟩
        · exact ⟨(g3 k hk).1, (g3 k hk).2.1, g.trans (g3 k hk).2.2.1, (g3 k hk).2.2.2⟩
    · obtain ⟨S1, g1, g2, g3, g4⟩ := chain_at gK gY h
      have g := (op1_ge gK gY h5).1
      refine ⟨S1, ?_, g.trans g2, ?_, h1, h2, h3, .inr (.inr ⟨hl, he, h5, g4⟩)⟩
      · simpa [efs, he, tauD] using g1
      · intro k hk
        rcases List.mem_cons.1 hk with rfl | hk
        · exact ⟨by rw [h3]; exact g, g2, by rw [h3]; exact .refl _, h1⟩
        · exact ⟨(g3 k hk).1, (g3 k hk).2.1, g.trans (g3 k hk).2.2.1, (g3 k hk).2.2.2⟩
/-- What the order's check says of one of its places. -/
theorem drawOk_at : ∀ {l1 l2 done : List Nat} {i : Nat}, drawOk ops bs (l1 ++ i :: l2) done = true → ∃ o, ops[i]? = some o ∧ (∀ k ∈ i :: l2, bitOf bs i k = false) ∧ (isEff o = true → ∀ k ∈ l1 ++ done, bitOf bs i k = true) ∧
    (∀ k ∈ l1 ++ done, bitOf bs i k = true ∨ ∃ x, ops[k]? = some x ∧ apartT ops x o = true) ∧ i ∉ l2
  | [], l2, done, i, h => by
    simp only [List.nil_append, drawOk, Bool.and_eq_true, Bool.not_eq_true'] at h
    obtain ⟨⟨h1, h2⟩, h3⟩ := h
    split at h1
    · cases h1
    · rename_i o ho
      simp only [Bool.and_eq_true, List.all_eq_true, Bool.not_eq_true', Bool.or_eq_true] at h1
      obtain ⟨⟨h4, h5⟩, h6⟩ := h1
      refine ⟨o, ho, h4, fun he k hk => ?_, fun k hk => ?_, ?_⟩
      · rcases h5 with h5 | h5
        · rw [he] at h5; cases h5
        · exact h5 k hk
      · rcases h6 k hk with h7 | h7
        · exact .inl h7
        · split at h7
          · rename_i x hx; exact .inr ⟨x, hx, h7⟩
          · cases h7
      · intro hm
        have : l2.contains i = true := by simpa using hm
        rw [this] at h2; cases h2
  | j :: l1, l2, done, i, h => by
    simp only [List.cons_append, drawOk, Bool.and_eq_true] at h
    obtain ⟨o, h1, h2, h3, h4, h5⟩ := drawOk_at h.2
    have hm : ∀ k, k ∈ j :: l1 ++ done → k ∈ l1 ++ j :: done := fun k hk => by
      rcases List.mem_append.1 hk with hk | hk
      · rcases List.mem_cons.1 hk with rfl | hk
        · exact List.mem_append_right _ (by simp)
        · exact List.mem_append_left _ hk
      · exact List.mem_append_right _ (by simp [hk])
    exact ⟨o, h1, h2, fun he k hk => h3 he k (hm k hk), fun k hk => h4 k (hm k hk), h5⟩
end
end Go.Proofs.YtemldmjpanmdbaaGreatDoor.Ev

namespace Go.Proofs.YtemldmjpanmdbaaGreatDoor.Ev
section
variable {E : Env} {K : CallF} {Y : YieldF} {ops : List Oper} {bs : Array Nat}
theorem bit_far {i k : Nat} (h : Nat.shiftRight (bs.getD i 0) i = 0) (hk : i ≤ k) : bitOf bs i k = false := by
  have h0 : bs.getD i 0 < 2 ^ i := by
    have h : (bs.getD i 0) >>> i = 0 := h
    rw [Nat.shiftRight_eq_div_pow] at h
    rcases Nat.div_eq_zero_iff.1 h with h | h
    · have := Nat.two_pow_pos i; omega
    · exact h
  have h1 : (bs.getD i 0) >>> k = 0 := by
    rw [Nat.shiftRight_eq_div_pow]
    exact Nat.div_eq_of_lt (Nat.lt_of_lt_of_le h0 (Nat.pow_le_pow_right (by omega) hk))
  unfold bitOf
  have h1 : Nat.shiftRight (bs.getD i 0) k = 0 := h1
  rw [h1]
  rfl
theorem bitsOk_at : ∀ {l : List Oper} {n i : Nat} {o : Oper}, bitsOk bs n l = true → l[i]? = some o →
    (∀ e ∈ o.after.toList, Region.binds .any e = true → bitOf bs (n + i) e.on = true) ∧ (∀ k, bitOf bs (n + i) k = true → k < n + i ∧ ∃ e ∈ o.after.toList, Region.binds .any e = true ∧ (e.on = k ∨ bitOf bs e.on k = true))
  | [], n, i, o, _, h => by simp at h
  | x :: l, n, i, o, h, hi => by
    simp only [bitsOk, Bool.and_eq_true] at h
    cases i with
    | succ i =>
      have := bitsOk_at (i := i) (o := o) h.2 (by simpa using hi)
      simpa [Nat.add_assoc, Nat.add_comm 1 i] using this
    | zero =>
      simp at hi
      subst hi
      obtain ⟨⟨⟨h1, h2⟩, h3⟩, _⟩ := h
      simp only [List.all_eq_true, Bool.or_eq_true, Bool.not_eq_true', List.any_eq_true, Bool.and_eq_true] at h1 h2
      refine ⟨fun e he hb => ?_, fun k hk => ?_⟩
      · rcases h1 e he with h4 | h4
        · rw [hb] at h4; cases h4
        · exact h4
      · have hlt : k < n := by
          refine Classical.not_not.1 fun hn => ?_
          rw [Nat.add_zero, bit_far (Nat.eq_of_beq_eq_true h3) (by omega)] at hk
          cases hk
        refine ⟨hlt, ?_⟩
        rcases h2 k (by simpa using hlt) with h4 | ⟨e, he, hb, h4⟩
        · rw [Nat.add_zero, h4] at hk; cases hk
        · refine ⟨e, he, hb, ?_⟩
          rcases h4 with h4 | h4
          · exact .inl (Nat.eq_of_beq_eq_true h4)
          · exact .inr h4
/-- So many are not done yet. -/
def cnt : List Bool → Nat
  | [] => 0
  | b :: l => cond b (cnt l) (cnt l + 1)
theorem cnt_set : ∀ {l : List Bool} {i : Nat}, l[i]? = some false → cnt (l.set i true) + 1 = cnt l
  | [], i, h => by simp at h
  | b :: l, 0, h => by simp at h; subst h; rfl
  | b :: l, i + 1, h => by
    have := cnt_set (l := l) (i := i) (by simpa using h)
    cases b <;> simp only [List.set, cnt, cond_true, cond_false] <;> omega
theorem cnt_zero : ∀ {l : List Bool} {i : Nat}, cnt l = 0 → l[i]? ≠ some false
  | [], i, _ => by simp
  | b :: l, i, h => by
    cases b
    · simp [cnt] at h
    · cases i with
      | zero => simp
      | succ i => simpa using cnt_zero (l := l) (i := i) (by simpa [cnt] using h)
theorem not_yet {D : Array Bool} {i : Nat} (h : D.getD i true = false) : D.toList[i]? = some false := by
  rw [Array.getElem?_toList]
  cases hd : D[i]? with
  | none => simp [hd] at h
  | some b => simp [hd] at h; rw [h]
/-- Any order, by what holds of the set of those done. -/
theorem wpAny_of_inv {F : Fence} {n : Nat} {P : Program} {A : Array Oper} {Q : Exit → Act → World → Prop} {I : Array Bool → Act → World → Prop}
    (hsz : ∀ D a w, I D a w → D.size = A.size)
    (hstep : ∀ D a w i o, I D a w → i ∈ Region.ready .any A D → A[i]? = some o → opIn F n P A Q o (I (D.setIfInBounds i true)) a w)
    (hend : ∀ D a w, I D a w → Region.ready .any A D = [] → Q .normal a w) : ∀ (fuel : Nat) (D : Array Bool) (a : Act) (w : World), I D a w → cnt D.toList ≤ fuel → wpAnyIn F n P .any A Q fuel D a w
  | 0, D, a, w, hI, hc => by
    have hr : Region.ready .any A D = [] := by
      refine List.eq_nil_iff_forall_not_mem.2 fun j hj => ?_
      exact cnt_zero (l := D.toList) (i := j) (by omega) (not_yet (mem_ready.1 hj).1)
    exact ⟨hr, hend D a w hI hr⟩
  | fuel + 1, D, a, w, hI, hc => by
    refine ⟨hend D a w hI, fun i hi => ?_⟩
    obtain ⟨h1, o, ho, _⟩ := mem_ready.1 hi
    have h4 := not_yet h1
    have h5 : cnt (D.setIfInBounds i true).toList ≤ fuel := by
      have := cnt_set h4
      simp
      omega
    have hstep' := hstep D a w i o hI hi ho
    unfold Go.wpOpIn
    simp only [ho]
    have hmono : ∀ a w, I (D.setIfInBounds i true) a w → wpAnyIn F n P .any A Q fuel (D.setIfInBounds i true) a w := fun a' w' h => wpAny_of_inv hsz hstep hend fuel _ a' w' h h5
    unfold opIn at hstep'
    split
    · rename_i hw
      rw [if_pos hw] at hstep'
      exact Oper.wpIn_mono hmono hstep'
    · rename_i hw
      rw [if_neg hw] at hstep'
      exact ⟨hstep'.1, hmono _ _ hstep'.2⟩
end
end Go.Proofs.YtemldmjpanmdbaaGreatDoor.Ev

namespace Go.Proofs.YtemldmjpanmdbaaGreatDoor.Ev
open Go.RowKit
def dn (D : Array Bool) (i : Nat) : Bool := D.getD i false
theorem dn_set {D : Array Bool} {i k : Nat} (hi : i < D.size) : dn (D.setIfInBounds i true) k = (dn D k || decide (k = i)) := by
  unfold dn
  by_cases h : k = i
  · subst h; simp [hi]
  · rw [getD_set_ne false (fun e => h e.symm)]; simp [h]
theorem apartT_spec {ops : List Oper} {x y : Oper} (h : apartT ops x y = true) : (∀ d, x.dst = some d → d ∉ looks ops y ∧ y.dst ≠ some d) ∧ (∀ d, y.dst = some d → d ∉ looks ops x) := by
  unfold apartT at h
  simp only [Bool.and_eq_true] at h
  refine ⟨fun d hd => ?_, fun d hd => ?_⟩
  · have h := h.1
    rw [hd] at h
    simp at h
    exact h
  · have h := h.2
    rw [hd] at h
    simpa using h
section
variable {E : Env} {K : CallF} {Y : YieldF} {ops : List Oper} {bs : Array Nat} {R : List Rec} {p : Tmps × St} {S0 : St} {B : Nat} {V : Hp} {ρ0 : Ren} {w0 : World} {τ0 : Tmps} {sz : Nat} {df : List Deferred}
/-- What is so of a region once for all. -/
structure Reg (E : Env) (K : CallF) (Y : YieldF) (ops : List Oper) (bs : Array Nat) (R : List Rec) (p : Tmps × St) (S0 : St) (τ0 : Tmps) : Prop where
  ord : drawOk ops bs (R.map (·.i)) [] = true
  all : ∀ i, i < ops.length → ∃ r ∈ R, r.i = i
  bits : bitsOk bs 0 ops = true
  ch : Chain E ops bs K Y R [] τ0 S0 [S0] p
  wf : Wf S0
/-- What holds where D is done. -/
structure Inv (E : Env) (K : CallF) (Y : YieldF) (ops : List Oper) (bs : Array Nat) (R : List Rec) (p : Tmps × St) (S0 : St) (B : Nat) (V : Hp) (ρ0 : Ren) (w0 : World) (τ0 : Tmps) (sz : Nat) (df : List Deferred)
    (D : Array Bool) (ρ : Ren) (H : Hp) (R1 R2 : List Rec) (pe1 : List Nat) (S1 : St) (past1 : List St) (a : Act) (w : World) : Prop where
  spl : R = R1 ++ R2
  c1 : ∀ r ∈ R1, dn D r.i = true
  c2 : ∀ r ∈ R2, dn D r.i = true → isEff r.o = false
  ch : Chain E ops bs K Y R2 pe1 (tauD (fun _ => true) R1 τ0) S1 past1 p
  hd : past1.head? = some S1
  sub : ∀ x o, rdO S1 x = some o → H x = some o
  wf : Wf S1
  c4 : ∀ r ∈ R2, dn D r.i = true → r.S' = r.S ∨ ∃ ob, r.S' = mkS r.S.h r.S.nx ob ∧ r.S.nx < 4096 ∧ H r.S.nx = some ob
  c5 : ∀ r ∈ R2, dn D r.i = false → Fsh ρ r.S.nx r.S'.nx
  c6 : ∀ x, rdO p.2 x = none → H x = V x
  g : G E.P B ρ H w
  le : ρ0.le ρ
  bel : Below B w0 w
  out : ∀ x, ρ0 x = none → (x < S0.nx ∨ p.2.nx ≤ x) → ρ x = none
  t : TRel E.P ρ (tauD (dn D) R τ0) a
  sz : a.tmps.size = sz
  df : a.defers = df
  cl : ∀ i, dn D i = true → ∀ k, bitOf bs i k = true → dn D k = true
  size : D.size = ops.length
/-- Two of a region, one behind the other. -/
theorem two_of {X Z : List Rec} {r k : Rec} (ho : drawOk ops bs ((X ++ r :: Z).map (·.i)) [] = true) :
    (k ∈ Z → bitOf bs r.i k.i = false ∧ k.i ≠ r.i ∧ ∃ ok, ops[k.i]? = some ok ∧ (bitOf bs k.i r.i = true ∨ ∃ x, ops[r.i]? = some x ∧ apartT ops x ok = true)) ∧
    (k ∈ X → k.i ≠ r.i ∧ ∃ o, ops[r.i]? = some o ∧ (isEff o = true → bitOf bs r.i k.i = true) ∧ (bitOf bs r.i k.i = true ∨ ∃ x, ops[k.i]? = some x ∧ apartT ops x o = true)) := by
  rw [List.map_append, List.map_cons] at ho
  obtain ⟨o, h1, h2, h3, h4, h5⟩ := drawOk_at ho
  refine ⟨fun hk => ?_, fun hk => ?_⟩
  · have hm : k.i ∈ Z.map (·.i) := List.mem_map_of_mem hk
    refine ⟨h2 _ (by simp only [List.mem_cons]; exact .inr hm), fun e => h5 (e ▸ hm), ?_⟩
    obtain ⟨Z1, Z2, hZ⟩ := List.append_of_mem hk
    rw [hZ] at ho
    have ho' : drawOk ops bs ((X.map (·.i) ++ r.i :: Z1.map (·.i)) ++ k.i :: Z2.map (·.i)) [] = true := by simpa using ho
    obtain ⟨ok, g1, _, _, g4, _⟩ := drawOk_at ho'
    exact ⟨ok, g1, g4 r.i (by simp)⟩
  · have hm : k.i ∈ X.map (·.i) := List.mem_map_of_mem hk
    refine ⟨?_, o, h1, fun he => h3 he _ (List.mem_append_left _ hm), h4 _ (List.mem_append_left _ hm)⟩
    obtain ⟨X1, X2, hX⟩ := List.append_of_mem hk
    rw [hX] at ho
    have ho' : drawOk ops bs (X1.map (·.i) ++ k.i :: (X2.map (·.i) ++ r.i :: Z.map (·.i))) [] = true := by simpa using ho
    obtain ⟨_, _, _, _, _, g5⟩ := drawOk_at ho'
    intro e
    exact g5 (by rw [e]; simp)
variable {D : Array Bool} {ρ : Ren} {H : Hp} {R1 R2 : List Rec} {pe1 : List Nat} {S1 : St} {past1 : List St} {a : Act} {w : World} {i : Nat}
/-- What may come up. -/
theorem Inv.rdy (hR : Reg E K Y ops bs R p S0 τ0) (h : Inv E K Y ops bs R p S0 B V ρ0 w0 τ0 sz df D ρ H R1 R2 pe1 S1 past1 a w) (hi : i ∈ Region.ready .any ops.toArray D) :
    i < D.size ∧ dn D i = false ∧ (∀ k, bitOf bs i k = true → dn D k = true) ∧ ∃ A r Z, R2 = A ++ r :: Z ∧ r.i = i := by
  obtain ⟨h1, o, ho, he⟩ := mem_ready.1 hi
  have h2 := not_yet h1
  have hlt : i < D.size := by
    have := (List.getElem?_eq_some_iff.1 h2).1
    simpa using this
  have hdn : dn D i = false := by
    rw [Array.getElem?_toList] at h2
    simp [dn, Array.getD_eq_getD_getElem?, h2]
  refine ⟨hlt, hdn, fun k hk => ?_, ?_⟩
  · have hb := bitsOk_at (i := i) (o := o) hR.bits (by simpa using ho)
    simp only [Nat.zero_add] at hb
    obtain ⟨_, e, h3, h4, h5⟩ := hb.2 k hk
    have h6 : dn D e.on = true := he e (by simpa using h3) h4
    rcases h5 with rfl | h5
    · exact h6
    · exact h.cl _ h6 _ h5
  · obtain ⟨r, hr, hri⟩ := hR.all i (by rw [← h.size]; exact hlt)
    rw [h.spl] at hr
    rcases List.mem_append.1 hr with hr | hr
    · have := h.c1 r hr
      rw [hri, hdn] at this; cases this
    · obtain ⟨A, Z, rfl⟩ := List.append_of_mem hr
      exact ⟨A, r, Z, rfl, hri⟩
end
end Go.Proofs.YtemldmjpanmdbaaGreatDoor.Ev

namespace Go.Proofs.YtemldmjpanmdbaaGreatDoor.Ev
open Go.RowKit
section
variable {E : Env} {K : CallF} {Y : YieldF} {ops : List Oper} {bs : Array Nat} {R : List Rec} {p : Tmps × St} {S0 : St} {B : Nat} {V : Hp} {ρ0 : Ren} {w0 : World} {τ0 : Tmps} {sz : Nat} {df : List Deferred}
variable {D : Array Bool} {ρ ρ' : Ren} {H H' : Hp} {R1 R2 A Z : List Rec} {r : Rec} {pe1 : List Nat} {S1 : St} {past1 : List St} {a : Act} {w w' : World} {i : Nat} {v' : Value}
theorem chain_at0 : ∀ {X W : List Rec} {k : Rec} {pe : List Nat} {τ : Tmps} {S : St} {past : List St} {p : Tmps × St}, Chain E ops bs K Y (X ++ k :: W) pe τ S past p → ∃ S : St, ops[k.i]? = some k.o ∧ True
  | [], W, k, pe, τ, S, past, p, h => ⟨S, h.1, trivial⟩
  | r :: X, W, k, pe, τ, S, past, p, h => by
    obtain ⟨_, _, _, h⟩ := h
    rcases h with ⟨_, _, _, _, h⟩ | ⟨_, _, _, h⟩ | ⟨_, _, _, h⟩ <;> exact chain_at0 h
/-- What an operation that may come up looks at is as the reckoner saw it; and what it puts comes last. -/
theorem Inv.tau (hR : Reg E K Y ops bs R p S0 τ0) (h : Inv E K Y ops bs R p S0 B V ρ0 w0 τ0 sz df D ρ H R1 R2 pe1 S1 past1 a w) (hlt : i < D.size) (hdn : dn D i = false) (hb : ∀ k, bitOf bs i k = true → dn D k = true)
    (hs : R2 = A ++ r :: Z) (hi : r.i = i) : ops[r.i]? = some r.o ∧ (∀ t ∈ looks ops r.o, tauD (dn D) R τ0 t = tauD (fun _ => true) (R1 ++ A) τ0 t) ∧
      tauD (dn (D.setIfInBounds i true)) R τ0 = putT r.o.dst r.v (tauD (dn D) R τ0) := by
  have hspl : R = (R1 ++ A) ++ r :: Z := by rw [h.spl, hs, List.append_assoc]
  have hch := hR.ch
  rw [hspl] at hch
  have hord := hR.ord
  rw [hspl] at hord
  have hro : ops[r.i]? = some r.o := by
    obtain ⟨s1, g1, _⟩ := chain_at0 hch
    exact g1
  have hoo : ∀ k ∈ R, ops[k.i]? = some k.o := by
    intro k hk
    obtain ⟨X1, X2, hX⟩ := List.append_of_mem hk
    have := hR.ch
    rw [hX] at this
    obtain ⟨s1, g1, _⟩ := chain_at0 this
    exact g1
  have hA : ∀ k ∈ R1 ++ A, k ∈ R := fun k hk => by rw [hspl]; exact List.mem_append_left _ hk
  have hZ : ∀ k ∈ Z, k ∈ R := fun k hk => by rw [hspl]; exact List.mem_append_right _ (by simp [hk])
  have zap : ∀ k ∈ Z, dn D k.i = true → apartT ops r.o k.o = true := by
    intro k hk hd
    obtain ⟨_, _, ok, g1, g2⟩ := (two_of hord).1 hk
    rw [hoo k (hZ k hk)] at g1; cases g1
    rcases g2 with g2 | ⟨x, g2, g3⟩
    · have := h.cl _ hd _ g2
      rw [hi, hdn] at this; cases this
    · rw [hro] at g2; cases g2; exact g3
  have aap : ∀ k ∈ R1 ++ A, dn D k.i = false → apartT ops k.o r.o = true := by
    intro k hk hd
    obtain ⟨_, o, g1, _, g2⟩ := (two_of hord).2 hk
    rw [hro] at g1; cases g1
    rcases g2 with g2 | ⟨x, g2, g3⟩
    · rw [hi] at g2
      rw [hb _ g2] at hd; cases hd
    · rw [hoo k (hA k hk)] at g2; cases g2; exact g3
  refine ⟨hro, fun t ht => ?_, ?_⟩
  · rw [hspl, tauD_append _ (R1 ++ A) (r :: Z), show tauD (fun _ => true) (R1 ++ A) τ0 = tauD (fun _ => false) (r :: Z) (tauD (fun _ => true) (R1 ++ A) τ0) from (tauD_false _ _).symm]
    refine tau_agree (L := looks ops r.o) _ _ _ (fun k hk => ?_) (fun u hu => ?_) t ht
    · rcases List.mem_cons.1 hk with rfl | hk
      · exact .inl (by rw [hi, hdn])
      · cases hd : dn D k.i
        · exact .inl rfl
        · exact .inr fun d hdd => (apartT_spec (zap k hk hd)).2 d hdd
    · refine tau_agree (L := looks ops r.o) _ _ _ (fun k hk => ?_) (fun _ _ => rfl) u hu
      cases hd : dn D k.i
      · exact .inr fun d hdd => ((apartT_spec (aap k hk hd)).1 d hdd).1
      · exact .inl rfl
  · rw [hspl, tauD_append _ (R1 ++ A) (r :: Z), tauD_append (dn D) (R1 ++ A) (r :: Z)]
    have e1 : tauD (dn (D.setIfInBounds i true)) (R1 ++ A) τ0 = tauD (dn D) (R1 ++ A) τ0 := tauD_same _ _ fun k hk => by
      have := ((two_of hord).2 hk).1
      rw [dn_set hlt]
      simp [← hi, this]
    rw [e1]
    simp only [tauD]
    rw [show dn (D.setIfInBounds i true) r.i = true by rw [dn_set hlt]; simp [hi], show dn D r.i = false by rw [hi, hdn], cond_true, cond_false]
    have e2 : ∀ τ, tauD (dn (D.setIfInBounds i true)) Z τ = tauD (dn D) Z τ := fun τ => tauD_same _ _ fun k hk => by
      have := ((two_of hord).1 hk).2.1
      rw [dn_set hlt]
      simp [← hi, this]
    rw [e2]
    exact tauD_put Z _ fun k hk hd t ht hrd => ((apartT_spec (zap k hk hd)).1 t hrd).2 ht
/-- One thing is done that leaves the split where it is. -/
theorem Inv.stay (gK : KGe K) (gY : YGe Y) (hR : Reg E K Y ops bs R p S0 τ0) (h : Inv E K Y ops bs R p S0 B V ρ0 w0 τ0 sz df D ρ H R1 R2 pe1 S1 past1 a w) (hdst : ∀ o ∈ ops, ∀ d, o.dst = some d → d < sz) (hlt : i < D.size) (hdn : dn D i = false)
    (hb : ∀ k, bitOf bs i k = true → dn D k = true) (hs : R2 = A ++ r :: Z) (hi : r.i = i) (he : isEff r.o = false) (hv : VR E.P ρ' r.v v') (hg : G E.P B ρ' H' w') (hle : ρ.le ρ') (hbel : Below B w w')
    (hdom : ∀ x, ρ x = none → (x < r.S.nx ∨ r.S'.nx ≤ x) → ρ' x = none) (hH : ∀ x, H' x = H x ∨ (x = r.S.nx ∧ r.S'.nx = r.S.nx + 1 ∧ rdO r.S' x ≠ none))
    (hc4 : r.S' = r.S ∨ ∃ ob, r.S' = mkS r.S.h r.S.nx ob ∧ r.S.nx < 4096 ∧ H' r.S.nx = some ob) :
    Inv E K Y ops bs R p S0 B V ρ0 w0 τ0 sz df (D.setIfInBounds i true) ρ' H' R1 R2 pe1 S1 past1 (a.put r.o.dst v') w' := by
  obtain ⟨hro, _, ht⟩ := h.tau hR hlt hdn hb hs hi
  have hch := h.ch
  have hAll : ∀ k ∈ R2, Ge S1 k.S ∧ Ge k.S k.S' ∧ Ge k.S' p.2 := fun k hk => by
    have hc : Chain E ops bs K Y (R2 ++ []) pe1 (tauD (fun _ => true) R1 τ0) S1 past1 p := by rw [List.append_nil]; exact h.ch
    obtain ⟨s, g1, _, g3, _⟩ := chain_at gK gY hc
    have e : p.2 = s := by rw [g1]
    obtain ⟨k1, k2, k3, _⟩ := g3 k hk
    exact ⟨k3, k1, by rw [e]; exact k2⟩
  have hr2 : r ∈ R2 := by rw [hs]; simp
  have hrel : ∀ k ∈ R2, k.i ≠ r.i → Ge k.S' r.S ∨ Ge r.S' k.S := fun k hk hne => by
    rw [hs] at hk
    rcases List.mem_append.1 hk with hk | hk
    · rw [hs] at hch
      obtain ⟨s, g1, _, g3, _⟩ := chain_at gK gY hch
      have e : r.S = s := g1.2.2.1
      exact .inl (by rw [e]; exact (g3 k hk).2.1)
    · rcases List.mem_cons.1 hk with rfl | hk
      · exact absurd rfl hne
      · obtain ⟨Z1, Z2, hZ⟩ := List.append_of_mem hk
        have hc : Chain E ops bs K Y ((A ++ r :: Z1) ++ k :: Z2) pe1 (tauD (fun _ => true) R1 τ0) S1 past1 p := by
          rw [hs, hZ] at hch
          simpa using hch
        obtain ⟨s, g1, _, g3, _⟩ := chain_at gK gY hc
        have e : k.S = s := g1.2.2.1
        exact .inr (by rw [e]; exact (g3 r (by simp)).2.1)
  have hset : ∀ k, dn (D.setIfInBounds i true) k = (dn D k || decide (k = i)) := fun k => dn_set hlt
  refine ⟨h.spl, fun k hk => by rw [hset, h.c1 k hk]; rfl, fun k hk hd => ?_, hch, h.hd, fun x o hx => ?_, h.wf, fun k hk hd => ?_, fun k hk hd => ?_, fun x hx => ?_, hg, Ren.le_trans h.le hle, h.bel.trans hbel, fun x hx hn => ?_, ?_, by rw [size_put]; exact h.sz,
    by rw [defers_put]; exact h.df, fun k hk j hj => ?_, by rw [Array.size_setIfInBounds]; exact h.size⟩
  · rw [hset] at hd
    by_cases hk2 : k.i = i
    · have hk3 : ops[k.i]? = some k.o := by
        obtain ⟨X1, X2, hX⟩ := List.append_of_mem hk
        rw [hX] at hch
        obtain ⟨_, g, _⟩ := chain_at0 hch
        exact g
      rw [hk2, ← hi, hro] at hk3
      rw [← Option.some.inj hk3]
      exact he
    · exact h.c2 k hk (by simpa [hk2] using hd)
  · rcases hH x with e | ⟨rfl, _, _⟩
    · rw [e]; exact h.sub x o hx
    · have := h.wf r.S.nx (hAll r hr2).1.nx
      rw [this] at hx; cases hx
  · by_cases hk2 : k.i = r.i
    · -- the same place
      have hkr : k = r := by
        rw [hs] at hk
        have hord := hR.ord
        rw [h.spl, hs, ← List.append_assoc] at hord
        rcases List.mem_append.1 hk with hk | hk
        · exact absurd hk2 ((two_of hord).2 (List.mem_append_right _ hk)).1
        · rcases List.mem_cons.1 hk with rfl | hk
          · rfl
          · exact absurd hk2 ((two_of hord).1 hk).2.1
      subst hkr
      exact hc4
    · rw [hset] at hd
      have hd : dn D k.i = true := by simpa [← hi, hk2] using hd
      rcases h.c4 k hk hd with g | ⟨ob, g1, g2, g3⟩
      · exact .inl g
      · refine .inr ⟨ob, g1, g2, ?_⟩
        rcases hH k.S.nx with e | ⟨e, e1, _⟩
        · rw [e]; exact g3
        · have e2 : k.S'.nx = k.S.nx + 1 := by rw [g1]; rfl
          rcases hrel k hk hk2 with g | g
          · have := g.nx; omega
          · have := g.nx; omega
  · rw [hset] at hd
    have hd : dn D k.i = false ∧ k.i ≠ i := by simpa using hd
    intro x hx1 hx2
    refine hdom x (h.c5 k hk hd.1 x hx1 hx2) ?_
    rcases hrel k hk (by rw [hi]; exact hd.2) with g | g
    · have := g.nx; omega
    · have := g.nx; omega
  · rcases hH x with e | ⟨_, _, e⟩
    · rw [e]; exact h.c6 x hx
    · exact absurd ((hAll r hr2).2.2.dom x hx) e
  · refine hdom x (h.out x hx hn) ?_
    have hr1 : S0.nx ≤ r.S.nx := by
      have hc := hR.ch
      rw [h.spl, hs, ← List.append_assoc] at hc
      obtain ⟨s, g1, g2, _, _⟩ := chain_at gK gY hc
      have e : r.S = s := g1.2.2.1
      rw [e]; exact g2.nx
    have := (hAll r hr2).2.2.nx
    omega
  · rw [ht]
    exact (h.t.mono hle).put (fun d hd => by rw [h.sz]; exact hdst _ (List.mem_of_getElem? hro) d hd) hv
  · rw [hset] at hk
    rw [hset]
    by_cases hk2 : k = i
    · subst hk2; rw [hb j hj]; rfl
    · rw [h.cl k (by simpa [hk2] using hk) j hj]; rfl
/-- All that lies ahead of one is in the heap, where all ahead is done. -/
theorem subs (gK : KGe K) (gY : YGe Y) : ∀ {A : List Rec} {pe : List Nat} {τ : Tmps} {S : St} {past : List St} {q : Tmps × St}, Chain E ops bs K Y A pe τ S past q → (∀ x o, rdO S x = some o → H x = some o) →
    (∀ k ∈ A, isEff k.o = false ∧ (k.S' = k.S ∨ ∃ ob, k.S' = mkS k.S.h k.S.nx ob ∧ k.S.nx < 4096 ∧ H k.S.nx = some ob)) → ∀ x o, rdO q.2 x = some o → H x = some o
  | [], pe, τ, S, past, q, h, hs, _ => by cases h; exact hs
  | r :: A, pe, τ, S, past, q, h, hs, hk => by
    obtain ⟨h1, h2, h3, h⟩ := h
    have h' : ∀ x o, rdO r.S' x = some o → H x = some o := by
      intro x o hx
      rcases (hk r (by simp)).2 with g | ⟨ob, g1, g2, g3⟩
      · rw [g, h3] at hx; exact hs x o hx
      · rw [g1, rdO_mkS g2] at hx
        unfold upd at hx
        split at hx
        · rename_i e; cases hx; rw [e]; exact g3
        · rw [← h3] at hs; exact hs x o hx
    rcases h with ⟨_, _, g, _, h⟩ | ⟨_, g, _, h⟩ | ⟨_, _, _, h⟩
    · exact subs gK gY h hs fun k hk' => hk k (by simp [hk'])
    · rw [(hk r (by simp)).1] at g; cases g
    · exact subs gK gY h h' fun k hk' => hk k (by simp [hk'])
end
end Go.Proofs.YtemldmjpanmdbaaGreatDoor.Ev

namespace Go.Proofs.YtemldmjpanmdbaaGreatDoor.Ev
open Go.RowKit
theorem rdO_h (S : St) (n : Nat) : rdO ⟨S.h, n⟩ = rdO S := by
  funext x
  rw [rdO_eq, rdO_eq]
theorem ov_sub {h H : Hp} (hs : ∀ x o, h x = some o → H x = some o) : ov h H = H := by
  funext x
  unfold ov
  cases hx : h x with
  | none => rfl
  | some o => rw [hs x o hx]; rfl
section
variable {E : Env} {K : CallF} {Y : YieldF} {ops : List Oper} {bs : Array Nat} {R : List Rec} {p : Tmps × St} {S0 : St} {B : Nat} {V : Hp} {ρ0 : Ren} {w0 : World} {τ0 : Tmps} {sz : Nat} {df : List Deferred}
variable {D : Array Bool} {ρ ρ' : Ren} {H H' : Hp} {R1 R2 A Z : List Rec} {r : Rec} {pe1 : List Nat} {S1 : St} {past1 : List St} {a : Act} {w w' : World} {i : Nat} {v' : Value} {n : Nat} {rd : Option Nat}
/-- An effect is done. -/
theorem Inv.move (gK : KGe K) (gY : YGe Y) (hR : Reg E K Y ops bs R p S0 τ0) (h : Inv E K Y ops bs R p S0 B V ρ0 w0 τ0 sz df D ρ H R1 R2 pe1 S1 past1 a w) (hdst : ∀ o ∈ ops, ∀ d, o.dst = some d → d < sz) (hlt : i < D.size) (hdn : dn D i = false)
    (hb : ∀ k, bitOf bs i k = true → dn D k = true) (hs : R2 = A ++ r :: Z) (hi : r.i = i) (he : isEff r.o = true) (hA : ∀ k ∈ A, dn D k.i = true) {pe2 : List Nat} {past2 : List St}
    (hch2 : Chain E ops bs K Y Z pe2 (tauD (fun _ => true) (R1 ++ A ++ [r]) τ0) r.S' (r.S' :: past2) p) (hv : VR E.P ρ' r.v v') (hg : G E.P B ρ' (ov (rdO r.S') H) w') (hle : ρ.le ρ') (hbel : Below B w w')
    (hdom : ∀ x, ρ x = none → (x < r.S.nx ∨ r.S'.nx ≤ x) → ρ' x = none) :
    Inv E K Y ops bs R p S0 B V ρ0 w0 τ0 sz df (D.setIfInBounds i true) ρ' (ov (rdO r.S') H) (R1 ++ A ++ [r]) Z pe2 r.S' (r.S' :: past2) (a.put r.o.dst v') w' := by
  obtain ⟨hro, _, ht⟩ := h.tau hR hlt hdn hb hs hi
  have hch := h.ch
  have hAll : ∀ k ∈ R2, Ge S1 k.S ∧ Ge k.S k.S' ∧ Ge k.S' p.2 := fun k hk => by
    have hc : Chain E ops bs K Y (R2 ++ []) pe1 (tauD (fun _ => true) R1 τ0) S1 past1 p := by rw [List.append_nil]; exact h.ch
    obtain ⟨s, g1, _, g3, _⟩ := chain_at gK gY hc
    have e : p.2 = s := by rw [g1]
    obtain ⟨k1, k2, k3, _⟩ := g3 k hk
    exact ⟨k3, k1, by rw [e]; exact k2⟩
  have hr2 : r ∈ R2 := by rw [hs]; simp
  have hZ2 : ∀ k ∈ Z, k ∈ R2 := fun k hk => by rw [hs]; simp [hk]
  have wf' : Wf r.S' := (hAll r hr2).2.1.wf ((hAll r hr2).1.wf h.wf)
  have hrel : ∀ k ∈ Z, Ge r.S' k.S := fun k hk => by
    have hc : Chain E ops bs K Y (Z ++ []) pe2 (tauD (fun _ => true) (R1 ++ A ++ [r]) τ0) r.S' (r.S' :: past2) p := by rw [List.append_nil]; exact hch2
    obtain ⟨s, _, _, g3, _⟩ := chain_at gK gY hc
    exact (g3 k hk).2.2.1
  have hord := hR.ord
  rw [h.spl, hs, ← List.append_assoc] at hord
  have hset : ∀ k, dn (D.setIfInBounds i true) k = (dn D k || decide (k = i)) := fun k => dn_set hlt
  have hold : ∀ k ∈ Z, dn (D.setIfInBounds i true) k.i = dn D k.i := fun k hk => by
    have := ((two_of hord).1 hk).2.1
    rw [hset]; simp [← hi, this]
  refine ⟨by rw [h.spl, hs]; simp, fun k hk => ?_, fun k hk hd => ?_, hch2, rfl, fun x o hx => ov_of hx, wf', fun k hk hd => ?_, fun k hk hd => ?_, fun x hx => ?_, hg, Ren.le_trans h.le hle, h.bel.trans hbel, fun x hx hn => ?_, ?_,
    by rw [size_put]; exact h.sz, by rw [defers_put]; exact h.df, fun k hk j hj => ?_, by rw [Array.size_setIfInBounds]; exact h.size⟩
  · rw [hset]
    rcases List.mem_append.1 hk with hk | hk
    · rcases List.mem_append.1 hk with hk | hk
      · rw [h.c1 k hk]; rfl
      · rw [hA k hk]; rfl
    · simp at hk; subst hk; simp [hi]
  · rw [hold k hk] at hd
    exact h.c2 k (hZ2 k hk) hd
  · rw [hold k hk] at hd
    rcases h.c4 k (hZ2 k hk) hd with g | ⟨ob, g1, g2, g3⟩
    · exact .inl g
    · refine .inr ⟨ob, g1, g2, ?_⟩
      unfold ov
      rw [wf' _ (hrel k hk).nx]
      exact g3
  · rw [hold k hk] at hd
    intro x hx1 hx2
    refine hdom x (h.c5 k (hZ2 k hk) hd x hx1 hx2) (.inr ?_)
    have := (hrel k hk).nx
    omega
  · unfold ov
    rw [(hAll r hr2).2.2.dom x hx]
    exact h.c6 x hx
  · refine hdom x (h.out x hx hn) ?_
    have hr1 : S0.nx ≤ r.S.nx := by
      have hc := hR.ch
      rw [h.spl, hs, ← List.append_assoc] at hc
      obtain ⟨s, g1, g2, _, _⟩ := chain_at gK gY hc
      have e : r.S = s := g1.2.2.1
      rw [e]; exact g2.nx
    have := (hAll r hr2).2.2.nx
    omega
  · rw [ht]
    exact (h.t.mono hle).put (fun d hd => by rw [h.sz]; exact hdst _ (List.mem_of_getElem? hro) d hd) hv
  · rw [hset] at hk
    rw [hset]
    by_cases hk2 : k = i
    · subst hk2; rw [hb j hj]; rfl
    · rw [h.cl k (by simpa [hk2] using hk) j hj]; rfl
set_option maxHeartbeats 1000000 in
/-- Whatever comes up. -/
theorem Inv.step (hE : EnvOk E) (hN : NmOk E) (hK : KOk E K) (hY : YOk E Y) (gK : KGe K) (gY : YGe Y) (hR : Reg E K Y ops bs R p S0 τ0) (h : Inv E K Y ops bs R p S0 B V ρ0 w0 τ0 sz df D ρ H R1 R2 pe1 S1 past1 a w)
    (hdst : ∀ o ∈ ops, ∀ d, o.dst = some d → d < sz) (hB0 : B ≤ w0.heap.size) (hi : i ∈ Region.ready .any ops.toArray D) {o : Oper} (ho : ops.toArray[i]? = some o) {Q : Exit → Act → World → Prop} :
    opIn (Fw rd) n E.P ops.toArray Q o (fun a' w' => ∃ ρ H R1 R2 pe1 S1 past1, Inv E K Y ops bs R p S0 B V ρ0 w0 τ0 sz df (D.setIfInBounds i true) ρ H R1 R2 pe1 S1 past1 a' w') a w := by
  obtain ⟨hlt, hdn, hb, A, r, Z, hs, hri⟩ := h.rdy hR hi
  obtain ⟨hro, hlk, _⟩ := h.tau hR hlt hdn hb hs hri
  have heq : o = r.o := by
    rw [hri] at hro
    have : ops[i]? = some o := by simpa using ho
    rw [this] at hro
    exact Option.some.inj hro
  subst heq
  have hB : B ≤ w.heap.size := Nat.le_trans hB0 h.bel.size
  have hch := h.ch
  rw [hs] at hch
  obtain ⟨S, g1, g2, g3, g4⟩ := chain_at gK gY hch
  obtain ⟨_, k2, k3, g1⟩ := g1
  have hτ : ∀ S, (cOp1 E ops r.o).f K Y (tauD (dn D) R τ0) S = (cOp1 E ops r.o).f K Y r.τ S := fun S => op1_l fun t ht => by rw [hlk t ht, k2, tauD_append]
  have hrin : r ∈ R2 := by rw [hs]; simp
  have hfr : dn D r.i = false := by rw [hri]; exact hdn
  subst k3
  have hfsh := h.c5 r hrin hfr
  have wfr : Wf r.S := g2.wf h.wf
  rcases g1 with ⟨hl, he, k4, k5, k6⟩ | ⟨hl, he, k5, k6⟩ | ⟨hl, he, k5, k6⟩
  · -- a load
    have hidx : (((efs A).map (·.S')).reverse ++ past1)[(efs A).length]? = some S1 := by
      have := h.hd
      cases past1 with
      | nil => cases this
      | cons s past1 =>
        simp at this
        subst this
        rw [List.getElem?_append_right (by simp)]
        simp
    have hk := k5 (efs A).length S1 (by
      rw [List.takeWhile_append_of_pos]
      · simp
      · intro e hem
        simp only [List.mem_reverse, List.mem_map] at hem
        obtain ⟨x, hx, rfl⟩ := hem
        obtain ⟨hx1, hx2⟩ := List.mem_filter.1 hx
        have hx3 : dn D x.i = false := by
          cases hd : dn D x.i
          · rfl
          · rw [h.c2 x (by rw [hs]; exact List.mem_append_left _ hx1) hd] at hx2; cases hx2
        cases hbt : bitOf bs r.i x.i
        · rfl
        · rw [hri] at hbt
          rw [hb _ hbt] at hx3; cases hx3) hidx
    rw [← k2, ← hτ] at hk
    have hGS : GS E.P B ρ S1 H w := by
      show G E.P B ρ (ov (rdO S1) H) w
      rw [ov_sub h.sub]; exact h.g
    refine op1_wp hE hN hK hY hk hGS h.t (fun x h1 h2 => by simp only at h2; omega) h.wf hB fun ρ' w' v' hv hg hN1 => ?_
    have hg : G E.P B ρ' (ov (rdO S1) H) w' := hg
    rw [ov_sub h.sub] at hg
    exact ⟨ρ', H, R1, R2, pe1, S1, past1, h.stay gK gY hR hdst hlt hdn hb hs hri he hv hg hN1.le hN1.bel (fun x hx _ => hN1.dom x hx (by simp only; omega)) (fun _ => .inl rfl) (.inl k4)⟩
  · -- an effect
    have hA : ∀ k ∈ R1 ++ A, dn D k.i = true := fun k hk => by
      have hord := hR.ord
      rw [h.spl, hs, ← List.append_assoc] at hord
      obtain ⟨_, o, q1, q2, _⟩ := (two_of hord).2 hk
      rw [hro] at q1
      have q1 := Option.some.inj q1
      rw [← q1] at q2
      have := q2 he
      rw [hri] at this
      exact hb _ this
    have hsub0 := subs (H := H) gK gY g4 h.sub fun k hk => by
      have hk2 : k ∈ R2 := by rw [hs]; exact List.mem_append_left _ hk
      have hd := hA k (List.mem_append_right _ hk)
      exact ⟨h.c2 k hk2 hd, h.c4 k hk2 hd⟩
    have hsub : ∀ x o, rdO r.S x = some o → H x = some o := hsub0
    have hGS : GS E.P B ρ r.S H w := by
      show G E.P B ρ (ov (rdO r.S) H) w
      rw [ov_sub hsub]; exact h.g
    rw [← k2, ← hτ] at k5
    refine op1_wp hE hN hK hY k5 hGS h.t hfsh wfr hB fun ρ' w' v' hv hg hN1 => ?_
    have k6 : Chain E ops bs K Y Z (r.i :: (((efs A).map (·.i)).reverse ++ pe1)) (tauD (fun _ => true) (R1 ++ A ++ [r]) τ0) r.S' (r.S' :: (((efs A).map (·.S')).reverse ++ past1)) p := by
      rw [tauD_append, tauD_append]
      exact k6
    exact ⟨ρ', _, _, _, _, _, _, h.move gK gY hR hdst hlt hdn hb hs hri he (fun k hk => hA k (List.mem_append_right _ hk)) k6 hv hg hN1.le hN1.bel hN1.dom⟩
  · rw [← k2] at k5
    cases hm : isMaker r.o
    · -- nothing of the heap
      have hS' : r.S' = r.S := (op1_ge gK gY k5).2 hm he
      have hk := op1_pure hl hm he k5 S1
      rw [← hτ] at hk
      have hGS : GS E.P B ρ S1 H w := by
        show G E.P B ρ (ov (rdO S1) H) w
        rw [ov_sub h.sub]; exact h.g
      refine op1_wp hE hN hK hY hk hGS h.t (fun x h1 h2 => by simp only at h2; omega) h.wf hB fun ρ' w' v' hv hg hN1 => ?_
      have hg : G E.P B ρ' (ov (rdO S1) H) w' := hg
      rw [ov_sub h.sub] at hg
      exact ⟨ρ', H, R1, R2, pe1, S1, past1, h.stay gK gY hR hdst hlt hdn hb hs hri he hv hg hN1.le hN1.bel (fun x hx _ => hN1.dom x hx (by simp only; omega)) (fun _ => .inl rfl) (.inl hS')⟩
    · rcases op1_maker hm k5 with ⟨q1, q2⟩ | ⟨ob, q1, q2, q3⟩
      · have hk := q2 S1
        rw [← hτ] at hk
        have hGS : GS E.P B ρ S1 H w := by
          show G E.P B ρ (ov (rdO S1) H) w
          rw [ov_sub h.sub]; exact h.g
        refine op1_wp hE hN hK hY hk hGS h.t (fun x h1 h2 => by simp only at h2; omega) h.wf hB fun ρ' w' v' hv hg hN1 => ?_
        have hg : G E.P B ρ' (ov (rdO S1) H) w' := hg
        rw [ov_sub h.sub] at hg
        exact ⟨ρ', H, R1, R2, pe1, S1, past1, h.stay gK gY hR hdst hlt hdn hb hs hri he hv hg hN1.le hN1.bel (fun x hx _ => hN1.dom x hx (by simp only; omega)) (fun _ => .inl rfl) (.inl q1)⟩
      · have hk := q3 S1.h
        rw [← hτ] at hk
        have hsub' : ∀ x o, rdO ⟨S1.h, r.S.nx⟩ x = some o → H x = some o := by rw [rdO_h]; exact h.sub
        have wf2 : Wf ⟨S1.h, r.S.nx⟩ := fun x hx => by rw [rdO_h]; exact h.wf x (Nat.le_trans g2.nx hx)
        have hGS : GS E.P B ρ ⟨S1.h, r.S.nx⟩ H w := by
          show G E.P B ρ (ov (rdO ⟨S1.h, r.S.nx⟩) H) w
          rw [ov_sub hsub']; exact h.g
        have q1' : r.S' = mkS r.S.h r.S.nx ob := q1
        have hnx : r.S'.nx = r.S.nx + 1 := by rw [q1']; rfl
        refine op1_wp hE hN hK hY hk hGS h.t (fun x h1 h2 => hfsh x h1 (by rw [hnx]; exact h2)) wf2 hB fun ρ' w' v' hv hg hN1 => ?_
        have hg : G E.P B ρ' (ov (rdO (mkS S1.h r.S.nx ob)) H) w' := hg
        have hH' : ov (rdO (mkS S1.h r.S.nx ob)) H = upd H r.S.nx ob := by
          rw [rdO_mkS q2, ov_upd, ov_sub hsub']
        rw [hH'] at hg
        refine ⟨ρ', _, R1, R2, pe1, S1, past1, h.stay gK gY hR hdst hlt hdn hb hs hri he hv hg hN1.le hN1.bel (fun x hx hn => hN1.dom x hx (by rw [hnx] at hn; exact hn)) (fun x => ?_) (.inr ⟨ob, q1', q2, by simp [upd]⟩)⟩
        by_cases hx : x = r.S.nx
        · refine .inr ⟨hx, hnx, ?_⟩
          rw [q1', rdO_mkS q2, hx]
          simp [upd]
        · exact .inl (by simp [upd, hx])
end
end Go.Proofs.YtemldmjpanmdbaaGreatDoor.Ev

namespace Go.Proofs.YtemldmjpanmdbaaGreatDoor.Ev
open Go.RowKit
theorem first_not {α : Type} {P : α → Bool} : ∀ (R : List α), (∀ r ∈ R, P r = true) ∨ ∃ A r Z, R = A ++ r :: Z ∧ (∀ k ∈ A, P k = true) ∧ P r = false
  | [] => .inl (by simp)
  | r :: R => by
    cases h : P r
    · exact .inr ⟨[], r, R, rfl, by simp, h⟩
    · rcases first_not (P := P) R with h1 | ⟨A, k, Z, rfl, h1, h2⟩
      · exact .inl fun k hk => by
          rcases List.mem_cons.1 hk with rfl | hk
          · exact h
          · exact h1 k hk
      · exact .inr ⟨r :: A, k, Z, rfl, fun j hj => by
          rcases List.mem_cons.1 hj with rfl | hj
          · exact h
          · exact h1 j hj, h2⟩
theorem condR {γ : Type} {b : Bool} {g : CallF → YieldF → Tmps → St → Option γ} {K : CallF} {Y : YieldF} {τ : Tmps} {S : St} {q : γ} (h : (cond b (Bx.mk g) (Bx.mk fun _ _ _ _ => none)).f K Y τ S = some q) : b = true ∧ g K Y τ S = some q := by
  cases b
  · cases h
  · exact ⟨rfl, h⟩
theorem dn_none {n i : Nat} : dn (Array.replicate n false) i = false := by
  unfold dn
  rw [Array.getD_eq_getD_getElem?, Array.getElem?_replicate]
  split <;> rfl
section
variable {E : Env} {K : CallF} {Y : YieldF} {ops : List Oper} {bs : Array Nat} {R : List Rec} {p : Tmps × St} {S S0 : St} {B : Nat} {V : Hp} {ρ ρ0 : Ren} {w w0 : World} {τ τ0 : Tmps} {sz : Nat} {df : List Deferred}
variable {D : Array Bool} {H : Hp} {R1 R2 : List Rec} {pe1 : List Nat} {S1 : St} {past1 : List St} {a : Act} {n : Nat} {rd : Option Nat}
theorem cnt_replicate (n : Nat) : cnt (List.replicate n false) ≤ n := by
  induction n with
  | zero => exact Nat.le_refl _
  | succ n ih => simp only [List.replicate_succ, cnt, cond_false]; omega
/-- Where nothing may come up, all is done. -/
theorem Inv.over (hR : Reg E K Y ops bs R p S0 τ0) (h : Inv E K Y ops bs R p S0 B V ρ0 w0 τ0 sz df D ρ H R1 R2 pe1 S1 past1 a w) (hr : Region.ready .any ops.toArray D = []) : ∀ r ∈ R, dn D r.i = true := by
  rcases first_not (P := fun r : Rec => dn D r.i) R with h1 | ⟨A, r, Z, hRs, h1, h2⟩
  · exact h1
  · exfalso
    have hch := hR.ch
    rw [hRs] at hch
    obtain ⟨_, hro, _⟩ := chain_at0 hch
    have hlt : r.i < D.size := by rw [h.size]; exact (List.getElem?_eq_some_iff.1 hro).1
    have hb := bitsOk_at (i := r.i) (o := r.o) hR.bits hro
    simp only [Nat.zero_add] at hb
    have hord := hR.ord
    rw [hRs, List.map_append, List.map_cons] at hord
    obtain ⟨_, _, hnb, _⟩ := drawOk_at hord
    have : r.i ∈ Region.ready .any ops.toArray D := mem_ready.2 ⟨by
      have h2 : dn D r.i = false := h2
      simp only [dn, Array.getD_eq_getD_getElem?, Array.getElem?_eq_getElem hlt, Option.getD_some] at h2 ⊢
      exact h2, r.o, by simpa using hro, fun e he hbi => by
      have hbit := hb.1 e (by simpa using he) hbi
      have hlt2 := (hb.2 _ hbit).1
      obtain ⟨k, hk, hki⟩ := hR.all e.on (by have := h.size; omega)
      rw [hRs] at hk
      rcases List.mem_append.1 hk with hk | hk
      · rw [← hki]; exact h1 k hk
      · have : bitOf bs r.i k.i = false := hnb _ (by
          rcases List.mem_cons.1 hk with rfl | hk
          · simp
          · exact List.mem_cons_of_mem _ (List.mem_map_of_mem hk))
        rw [hki, hbit] at this; cases this⟩
    rw [hr] at this
    cases this
theorem region_ge (gK : KGe K) (gY : YGe Y) {draw : Bool} (hq : (cRegion E ops draw).f K Y τ S = some p) : Ge S p.2 := by
  unfold cRegion at hq
  cases draw
  · exact seq_ge gK gY hq
  · obtain ⟨_, hq⟩ := condR hq
    obtain ⟨R, _, hc⟩ := draw_chain gK gY hq
    have hc : Chain E ops (Region.before ops.toArray) K Y (R ++ []) [] τ S [S] p := by rw [List.append_nil]; exact hc
    obtain ⟨s, g1, g2, _⟩ := chain_at gK gY hc
    rw [show p.2 = s by rw [g1]]
    exact g2
/-- A region, in a row or drawn. -/
theorem region_wp (hE : EnvOk E) (hN : NmOk E) (hK : KOk E K) (hY : YOk E Y) (gK : KGe K) (gY : YGe Y) (hm : E.P.follows .mixedOrders = true) {id : Nat} {A : Array Oper} {draw : Bool} {Q : Exit → Act → World → Prop}
    (hq : (cRegion E A.toList draw).f K Y τ S = some p) (h : GS E.P B ρ S V w) (ht : TRel E.P ρ τ a) (hf : Fsh ρ S.nx p.2.nx) (hwf : Wf S) (hB : B ≤ w.heap.size) (hd : ∀ o ∈ A.toList, ∀ d, o.dst = some d → d < a.tmps.size)
    (hk : ∀ ρ' w' a', GS E.P B ρ' p.2 V w' → Nx B ρ ρ' S.nx p.2.nx w w' → TRel E.P ρ' p.1 a' → a'.tmps.size = a.tmps.size → a'.defers = a.defers → Q .normal a' w') : (Code.region id A draw).wpIn (Fw rd) n E.P Q a w := by
  have hge := region_ge gK gY hq
  unfold cRegion at hq
  cases draw
  · refine wpIn_region_list ?_
    have := seq_wp (n := n) (rd := rd) (Q := Q) hE hN hK hY gK gY hq h ht hf hwf hB hd hk
    simpa using this
  · obtain ⟨hs, hq⟩ := condR hq
    generalize Region.before A.toList.toArray = bs at hq hs
    obtain ⟨R, hRo, hc⟩ := draw_chain gK gY hq
    unfold stOk at hs
    simp only [Bool.and_eq_true, List.all_eq_true] at hs
    obtain ⟨⟨⟨s1, s2⟩, s3⟩, s4⟩ := hs
    have hR : Reg E K Y A.toList bs R p S τ := ⟨by rw [hRo]; exact s4, fun i hi => by
      have := s3 i (by simpa using hi)
      have := List.contains_iff_mem.1 this
      rw [← hRo] at this
      obtain ⟨r, hr, e⟩ := List.mem_map.1 this
      exact ⟨r, hr, e⟩, s1, hc, hwf⟩
    have hc0 : Chain E A.toList bs K Y (R ++ []) [] τ S [S] p := by rw [List.append_nil]; exact hc
    obtain ⟨sf, g1, g2, g3, _⟩ := chain_at gK gY hc0
    have hpf : p = (tauD (fun _ => true) R τ, sf) := g1
    refine wpIn_region_any hm ?_
    have hA : A.toList.toArray = A := by simp
    refine wpAny_of_inv (I := fun D a' w' => ∃ ρ' H R1 R2 pe1 S1 past1, Inv E K Y A.toList bs R p S B V ρ w τ a.tmps.size a.defers D ρ' H R1 R2 pe1 S1 past1 a' w') ?_ ?_ ?_ _ _ _ _ ?_ ?_
    · rintro D a' w' ⟨_, _, _, _, _, _, _, hI⟩
      have := hI.size
      simpa using this
    · rintro D a' w' i o ⟨_, _, _, _, _, _, _, hI⟩ hi ho
      have := hI.step (n := n) (rd := rd) (Q := Q) hE hN hK hY gK gY hR hd hB (by rw [hA]; exact hi) (by rw [hA]; exact ho)
      rw [hA] at this
      exact this
    · rintro D a' w' ⟨ρ', H, R1, R2, pe1, S1, past1, hI⟩ hr
      have hall := Inv.over hR hI (by rw [hA]; exact hr)
      have hR2 : ∀ k ∈ R2, dn D k.i = true := fun k hk => hall k (by rw [hI.spl]; exact List.mem_append_right _ hk)
      have hsub := subs (H := H) gK gY hI.ch hI.sub fun k hk => ⟨hI.c2 k hk (hR2 k hk), hI.c4 k hk (hR2 k hk)⟩
      have hH : H = ov (rdO p.2) V := by
        funext x
        unfold ov
        cases hx : rdO p.2 x with
        | none => exact hI.c6 x hx
        | some o => exact hsub x o hx
      have hτ : tauD (dn D) R τ = p.1 := by
        rw [tauD_same R τ (D2 := fun _ => true) hall]
        rw [hpf]
      have hg := hI.g
      rw [hH] at hg
      refine hk ρ' w' a' hg ⟨hI.le, hI.bel, hI.out, hge.nx⟩ ?_ hI.sz hI.df
      rw [← hτ]; exact hI.t
    · have hch := g3
      have hpn : p.2 = sf := by rw [hpf]
      refine ⟨ρ, ov (rdO S) V, [], R, [], S, [S], rfl, by simp, fun r _ hd => ?_, hc, rfl, fun x o hx => ov_of hx, hwf, fun r _ hd => ?_, fun r hr _ x h1 h2 => ?_, fun x hx => ?_, ?_, Ren.le_refl _, (Below.refl B w).drew, fun x hx _ => hx, ?_, rfl, rfl, fun i hi => ?_, by simp⟩
      · rw [dn_none] at hd; cases hd
      · rw [dn_none] at hd; cases hd
      · refine hf x (Nat.le_trans (g3 r hr).2.2.1.nx h1) (Nat.lt_of_lt_of_le h2 ?_)
        rw [hpn]; exact (g3 r hr).2.1.nx
      · unfold ov
        rw [hge.dom x hx]; rfl
      · exact G.drew h
      · have : tauD (dn (Array.replicate A.size false)) R τ = τ := by
          rw [tauD_same R τ (D2 := fun _ => false) fun k _ => dn_none]
          exact tauD_false _ _
        rw [this]
        exact ht
      · rw [dn_none] at hi; cases hi
    · simp only [Array.toList_replicate]
      exact cnt_replicate _
end
end Go.Proofs.YtemldmjpanmdbaaGreatDoor.Ev

namespace Go.Proofs.YtemldmjpanmdbaaGreatDoor.Ev
open Go.RowKit
theorem tmpsOf_eq (τ : Tr Value TD) (t : Nat) : tmpsOf τ t = if t < 256 then Tr.get TD τ t else none := by
  unfold tmpsOf
  by_cases h : t < 256
  · rw [blt_iff.2 h, if_pos h]; rfl
  · rw [blt_false h, if_neg h]; rfl
theorem tmpsOf_set {τ : Tr Value TD} {t k : Nat} {v : Option Value} (ht : t < 256) : tmpsOf (Tr.set TD τ t v) k = if k = t then v else tmpsOf τ k := by
  rw [tmpsOf_eq, tmpsOf_eq]
  by_cases hk : k < 256
  · rw [if_pos hk, if_pos hk, Tr.get_set' hk ht]
  · rw [if_neg hk, if_neg hk, if_neg (by omega)]
theorem flush_spec {ρ : Tmps} : ∀ (l : List Tmp) (τ : Tr Value TD) (k : Nat), (∀ t ∈ l, t < 256) → tmpsOf (flush τ ρ l) k = if k ∈ l then ρ k else tmpsOf τ k
  | [], τ, k, _ => by simp [flush]
  | t :: l, τ, k, h => by
    simp only [flush]
    rw [flush_spec l _ k fun x hx => h x (by simp [hx]), tmpsOf_set (h t (by simp))]
    by_cases h1 : k ∈ l
    · simp [h1]
    · by_cases h2 : k = t
      · subst h2; simp [h1]
      · simp [h1, h2]
section
variable {E : Env} {ρ ρ' : Ren} {B : Nat} {w w' : World} {S S' : St} {V : Hp} {K : CallF} {Y : YieldF} {n : Nat} {rd : Option Nat}
/-- The blocks of deferred calls. -/
def MRel (ρ : Ren) : List Nat → List Deferred → Prop
  | [], ds => ds = []
  | m :: ms, ds => ∃ p ds', ρ m = some p ∧ ds = { target := .collected p.b, args := #[] } :: ds' ∧ MRel ρ ms ds'
theorem MRel.mono (h : ρ.le ρ') : ∀ {ms : List Nat} {ds : List Deferred}, MRel ρ ms ds → MRel ρ' ms ds
  | [], _, k => k
  | _ :: _, _, ⟨p, ds', h1, h2, h3⟩ => ⟨p, ds', h _ _ h1, h2, MRel.mono h h3⟩
/-- A frame. -/
structure FRel (E : Env) (ρ : Ren) (N : Nat) (fr : Fr) (a : Act) : Prop where
  t : TRel E.P ρ (tmpsOf fr.τ) a
  n : a.tmps.size = N
  m : MRel ρ fr.marks a.defers
theorem FRel.mono {N : Nat} {fr : Fr} {a : Act} (h : FRel E ρ N fr a) (hle : ρ.le ρ') : FRel E ρ' N fr a := ⟨h.t.mono hle, h.n, h.m.mono hle⟩
/-- In a round of a loop, or in none. -/
def RdR (ρ : Ren) : Option Nat → Option Nat → Prop
  | none, r => r = none
  | some l, r => ∃ p, ρ l = some p ∧ r = some p.b
theorem RdR.mono (h : ρ.le ρ') : ∀ {r r' : Option Nat}, RdR ρ r r' → RdR ρ' r r'
  | none, _, k => k
  | some _, _, ⟨p, h1, h2⟩ => ⟨p, h _ _ h1, h2⟩
/-- A piece of code does what its reckoner says. -/
def CodeOk (E : Env) (N : Nat) (K : CallF) (Y : YieldF) (c : Code) (g : CodeF) : Prop :=
  ∀ rd fr S q, g.f K Y rd fr S = some q → Ge S q.2.2 ∧ ∀ B ρ V w a rd' n (Q : Exit → Act → World → Prop), GS E.P B ρ S V w → FRel E ρ N fr a → RdR ρ rd rd' → Fsh ρ S.nx q.2.2.nx → Wf S → B ≤ w.heap.size →
    (∀ ρ' w' a', GS E.P B ρ' q.2.2 V w' → Nx B ρ ρ' S.nx q.2.2.nx w w' → FRel E ρ' N q.2.1 a' → Q q.1 a' w') → c.wpIn (Fw rd') n E.P Q a w
variable {N : Nat}
theorem seq_keep {ops : List Oper} {t : Tmp} : ∀ {l : List Oper} {τ : Tmps} {S : St} {p : Tmps × St}, (cSeq E ops l).f K Y τ S = some p → (∀ o ∈ l, o.dst ≠ some t) → p.1 t = τ t
  | [], τ, S, p, hq, _ => by cases hq; rfl
  | o :: l, τ, S, p, hq, h => by
    obtain ⟨q, h1, hq⟩ := ob_some.1 (show ob ((cOp1 E ops o).f K Y τ S) _ = some p from hq)
    rw [seq_keep hq fun x hx => h x (by simp [hx]), putT_ne (h o (by simp))]
theorem tauD_keep {D : Nat → Bool} {t : Tmp} : ∀ {R : List Rec} {τ : Tmps}, (∀ r ∈ R, r.o.dst ≠ some t) → tauD D R τ t = τ t
  | [], _, _ => rfl
  | r :: R, τ, h => by
    simp only [tauD]
    rw [tauD_keep fun x hx => h x (by simp [hx])]
    cases D r.i
    · rfl
    · exact putT_ne (h r (by simp))
theorem region_keep (gK : KGe K) (gY : YGe Y) {ops : List Oper} {draw : Bool} {τ : Tmps} {p : Tmps × St} (hq : (cRegion E ops draw).f K Y τ S = some p) (t : Tmp) (h : ∀ o ∈ ops, o.dst ≠ some t) : p.1 t = τ t := by
  unfold cRegion at hq
  cases draw
  · exact seq_keep hq h
  · obtain ⟨_, hq⟩ := condR hq
    obtain ⟨R, _, hc⟩ := draw_chain gK gY hq
    have hc : Chain E ops (Region.before ops.toArray) K Y (R ++ []) [] τ S [S] p := by rw [List.append_nil]; exact hc
    obtain ⟨s, g1, g2, g3, _⟩ := chain_at gK gY hc
    rw [show p.1 = tauD (fun _ => true) R τ by rw [g1]]
    exact tauD_keep fun r hr => h _ (List.mem_of_getElem? (g3 r hr).2.2.2)
theorem code_skip : CodeOk E N K Y .skip (Bx.mk fun _ _ _ fr S => some (.normal, fr, S)) := fun rd fr S q h => by
  cases h
  exact ⟨.refl _, fun B ρ V w a rd' n Q hG hF hr hf hwf hB hk => wpIn_skip (hk ρ w a hG (Nx.refl _ _ _ _) hF)⟩
theorem code_label {l : Nat} : CodeOk E N K Y (.label l) (Bx.mk fun _ _ _ fr S => some (.normal, fr, S)) := fun rd fr S q h => by
  cases h
  exact ⟨.refl _, fun B ρ V w a rd' n Q hG hF hr hf hwf hB hk => wpIn_label (hk ρ w a hG (Nx.refl _ _ _ _) hF)⟩
theorem code_exit {l : Nat} : CodeOk E N K Y (.exit l) (Bx.mk fun _ _ _ fr S => some (.exit l, fr, S)) := fun rd fr S q h => by
  cases h
  exact ⟨.refl _, fun B ρ V w a rd' n Q hG hF hr hf hwf hB hk => wpIn_exit (hk ρ w a hG (Nx.refl _ _ _ _) hF)⟩
theorem code_goto {l : Nat} : CodeOk E N K Y (.goto l) (Bx.mk fun _ _ _ fr S => some (.goto l, fr, S)) := fun rd fr S q h => by
  cases h
  exact ⟨.refl _, fun B ρ V w a rd' n Q hG hF hr hf hwf hB hk => wpIn_goto (hk ρ w a hG (Nx.refl _ _ _ _) hF)⟩
theorem code_ret : CodeOk E N K Y .ret (Bx.mk fun _ _ _ fr S => some (.ret, fr, S)) := fun rd fr S q h => by
  cases h
  exact ⟨.refl _, fun B ρ V w a rd' n Q hG hF hr hf hwf hB hk => wpIn_ret (hk ρ w a hG (Nx.refl _ _ _ _) hF)⟩
theorem code_region (hE : EnvOk E) (hN : NmOk E) (hK : KOk E K) (hY : YOk E Y) (gK : KGe K) (gY : YGe Y) (hm : E.P.follows .mixedOrders = true) {id : Nat} {A : Array Oper} {draw : Bool} {fn : FuncId} {m : Nat} :
    CodeOk E N K Y (.region id A draw) (cCode E fn N (m + 1) (.region id A draw)) := fun rd fr S q h => by
  simp only [cCode] at h
  cases hl : (A.toList.filterMap (·.dst)).all fun t => Nat.blt t N && Nat.blt t 256 <;> rw [hl] at h
  · cases h
  · simp only [cond_true] at h
    obtain ⟨p, h1, h⟩ := ob_some.1 h
    cases h
    simp only [List.all_eq_true, Bool.and_eq_true] at hl
    have hd : ∀ o ∈ A.toList, ∀ d, o.dst = some d → d < N ∧ d < 256 := fun o ho d hdd => by
      have := hl d (List.mem_filterMap.2 ⟨o, ho, hdd⟩)
      exact ⟨blt_iff.1 this.1, blt_iff.1 this.2⟩
    refine ⟨region_ge gK gY h1, fun B ρ V w a rd' n Q hG hF hr hf hwf hB hk => ?_⟩
    refine region_wp hE hN hK hY gK gY hm h1 hG hF.t hf hwf hB (fun o ho d hdd => by rw [hF.n]; exact (hd o ho d hdd).1) fun ρ' w' a' k1 k2 k3 k4 k5 => ?_
    refine hk ρ' w' a' k1 k2 ⟨fun t v hv => ?_, by rw [k4, hF.n], by rw [k5]; exact hF.m.mono k2.le⟩
    rw [flush_spec _ _ _ fun t ht => by
      obtain ⟨o, ho, hdd⟩ := List.mem_filterMap.1 ht
      exact (hd o ho t hdd).2] at hv
    split at hv
    · exact k3 t v hv
    · rename_i hnt
      refine k3 t v ?_
      rw [region_keep gK gY h1 t fun o ho e => hnt (List.mem_filterMap.2 ⟨o, ho, e⟩)]
      exact hv
end
end Go.Proofs.YtemldmjpanmdbaaGreatDoor.Ev

namespace Go.Proofs.YtemldmjpanmdbaaGreatDoor.Ev
open Go.RowKit
section
variable {E : Env} {ρ ρ' : Ren} {B : Nat} {w w' : World} {S S' : St} {V : Hp} {K : CallF} {Y : YieldF} {n : Nat} {rd : Option Nat} {N : Nat}
theorem code_seq {a b : Code} {g h : CodeF} (hg : CodeOk E N K Y a g) (hh : CodeOk E N K Y b h) :
    CodeOk E N K Y (.seq a b) (Bx.mk fun K Y rd fr S => ob (g.f K Y rd fr S) fun p => match p.1 with | .normal => h.f K Y rd p.2.1 p.2.2 | _ => some p) := fun rd fr S q hq => by
  obtain ⟨p, h1, hq⟩ := ob_some.1 hq
  obtain ⟨g1, g2⟩ := hg rd fr S p h1
  obtain ⟨e, fr1, S1⟩ := p
  cases e with
  | normal =>
    have hq : h.f K Y rd fr1 S1 = some q := hq
    obtain ⟨k1, k2⟩ := hh rd fr1 S1 q hq
    refine ⟨g1.trans k1, fun B ρ V w a rd' n Q hG hF hr hf hwf hB hk => wpIn_seq (g2 B ρ V w a rd' n _ hG hF hr (hf.fst k1.nx) hwf hB fun ρ1 w1 a1 hG1 hN1 hF1 => ?_)⟩
    exact k2 B ρ1 V w1 a1 rd' n Q hG1 hF1 (hr.mono hN1.le) (hf.snd hN1) (g1.wf hwf) (Nat.le_trans hB hN1.bel.size) fun ρ2 w2 a2 hG2 hN2 hF2 => hk ρ2 w2 a2 hG2 (hN1.trans hN2) hF2
  | _ =>
    cases hq
    exact ⟨g1, fun B ρ V w a rd' n Q hG hF hr hf hwf hB hk => wpIn_seq (g2 B ρ V w a rd' n _ hG hF hr hf hwf hB fun ρ1 w1 a1 hG1 hN1 hF1 => hk ρ1 w1 a1 hG1 hN1 hF1)⟩
theorem code_cond {c : Operand} {a b : Code} {g h : CodeF} (hg : CodeOk E N K Y a g) (hh : CodeOk E N K Y b h) :
    CodeOk E N K Y (.cond c a b) (Bx.mk fun K Y rd fr S => ob ((opd E c).f (tmpsOf fr.τ)) fun v => match v with | .bool t => cond t (g.f K Y rd fr S) (h.f K Y rd fr S) | _ => none) := fun rd fr S q hq => by
  obtain ⟨v, h1, hq⟩ := ob_some.1 hq
  cases v with
  | bool t =>
    cases t
    · obtain ⟨k1, k2⟩ := hh rd fr S q hq
      refine ⟨k1, fun B ρ V w a rd' n Q hG hF hr hf hwf hB hk => ?_⟩
      have := opd_spec hF.t h1
      simp only [VR] at this
      exact wpIn_cond_false this (k2 B ρ V w a rd' n Q hG hF hr hf hwf hB hk)
    · obtain ⟨k1, k2⟩ := hg rd fr S q hq
      refine ⟨k1, fun B ρ V w a rd' n Q hG hF hr hf hwf hB hk => ?_⟩
      have := opd_spec hF.t h1
      simp only [VR] at this
      exact wpIn_cond_true this (k2 B ρ V w a rd' n Q hG hF hr hf hwf hB hk)
  | _ => cases hq
theorem code_block {id : Nat} {b : Code} {g : CodeF} (hg : CodeOk E N K Y b g) : CodeOk E N K Y (.block id b) (Bx.mk fun K Y rd fr S => inBlock id (g.f K Y rd fr S)) := fun rd fr S q hq => by
  obtain ⟨p, h1, hq⟩ := ob_some.1 (show ob (g.f K Y rd fr S) _ = some q from hq)
  obtain ⟨g1, g2⟩ := hg rd fr S p h1
  obtain ⟨e, fr1, S1⟩ := p
  cases e with
  | exit i =>
    dsimp only at hq
    cases hi : Nat.beq i id <;> rw [hi] at hq
    · simp only [cond_false] at hq
      rw [h1] at hq
      cases hq
      refine ⟨g1, fun B ρ V w a rd' n Q hG hF hr hf hwf hB hk => wpIn_block (g2 B ρ V w a rd' n _ hG hF hr hf hwf hB fun ρ1 w1 a1 hG1 hN1 hF1 => ?_)⟩
      have hne : i ≠ id := fun e => by rw [e, Nat.beq_refl] at hi; cases hi
      simp only [Exit.inBlock, hne, if_false]
      exact hk ρ1 w1 a1 hG1 hN1 hF1
    · simp only [cond_true] at hq
      cases hq
      refine ⟨g1, fun B ρ V w a rd' n Q hG hF hr hf hwf hB hk => wpIn_block (g2 B ρ V w a rd' n _ hG hF hr hf hwf hB fun ρ1 w1 a1 hG1 hN1 hF1 => ?_)⟩
      have := Nat.eq_of_beq_eq_true hi
      simp only [Exit.inBlock, this, if_true]
      exact hk ρ1 w1 a1 hG1 hN1 hF1
  | _ =>
    dsimp only at hq
    rw [h1] at hq
    cases hq
    exact ⟨g1, fun B ρ V w a rd' n Q hG hF hr hf hwf hB hk => wpIn_block (g2 B ρ V w a rd' n _ hG hF hr hf hwf hB fun ρ1 w1 a1 hG1 hN1 hF1 => hk ρ1 w1 a1 hG1 hN1 hF1)⟩
end
end Go.Proofs.YtemldmjpanmdbaaGreatDoor.Ev

namespace Go.Proofs.YtemldmjpanmdbaaGreatDoor.Ev
open Go.RowKit
section
variable {E : Env} {K : CallF} {Y : YieldF} {N : Nat}
theorem loop_rounds {b : Code} {g : CodeF} (hg : CodeOk E N K Y b g) : ∀ (m : Nat) rd fr S q, (loopF g m).f K Y rd fr S = some q → Ge S q.2.2 ∧ ∀ B ρ V w a rd' n (Q : Exit → Act → World → Prop), GS E.P B ρ S V w → FRel E ρ N fr a → RdR ρ rd rd' → Fsh ρ S.nx q.2.2.nx → Wf S → B ≤ w.heap.size →
    (∀ ρ' w' a', GS E.P B ρ' q.2.2 V w' → Nx B ρ ρ' S.nx q.2.2.nx w w' → FRel E ρ' N q.2.1 a' → Q q.1 a' w') → Code.roundsIn (Fw rd') n E.P b Q m a w
  | 0, rd, fr, S, q, hq => by cases hq
  | m + 1, rd, fr, S, q, hq => by
    obtain ⟨p, h1, hq⟩ := ob_some.1 (show ob (g.f K Y rd fr S) _ = some q from hq)
    obtain ⟨g1, g2⟩ := hg rd fr S p h1
    obtain ⟨e, fr1, S1⟩ := p
    cases e with
    | normal =>
      have hq : (loopF g m).f K Y rd fr1 S1 = some q := hq
      obtain ⟨k1, k2⟩ := loop_rounds hg m rd fr1 S1 q hq
      refine ⟨g1.trans k1, fun B ρ V w a rd' n Q hG hF hr hf hwf hB hk => ?_⟩
      rw [roundsIn_succ]
      refine g2 B ρ V w a rd' n _ hG hF hr (hf.fst k1.nx) hwf hB fun ρ1 w1 a1 hG1 hN1 hF1 => ?_
      exact k2 B ρ1 V w1 a1 rd' n Q hG1 hF1 (hr.mono hN1.le) (hf.snd hN1) (g1.wf hwf) (Nat.le_trans hB hN1.bel.size) fun ρ2 w2 a2 hG2 hN2 hF2 => hk ρ2 w2 a2 hG2 (hN1.trans hN2) hF2
    | _ =>
      cases hq
      refine ⟨g1, fun B ρ V w a rd' n Q hG hF hr hf hwf hB hk => ?_⟩
      rw [roundsIn_succ]
      exact g2 B ρ V w a rd' n _ hG hF hr hf hwf hB fun ρ1 w1 a1 hG1 hN1 hF1 => hk ρ1 w1 a1 hG1 hN1 hF1
theorem code_loop {b : Code} {g : CodeF} (hg : CodeOk E N K Y b g) (m : Nat) : CodeOk E N K Y (.loop b) (loopF g m) := fun rd fr S q hq =>
  let ⟨g1, g2⟩ := loop_rounds hg m rd fr S q hq
  ⟨g1, fun B ρ V w a rd' n Q hG hF hr hf hwf hB hk => wpIn_loop_rounds m (g2 B ρ V w a rd' n Q hG hF hr hf hwf hB hk)⟩
end
end Go.Proofs.YtemldmjpanmdbaaGreatDoor.Ev
