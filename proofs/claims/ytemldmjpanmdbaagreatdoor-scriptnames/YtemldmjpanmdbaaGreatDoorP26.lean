import Derived.Test.YtemldmjpanmdbaaGreatDoorP25
set_option linter.unusedVariables false
namespace Go.Proofs.YtemldmjpanmdbaaGreatDoor.Ev
open Go.RowKit
section
variable {E : Env} {K : CallF} {Y : YieldF} {ops : List Oper} {bs : Array Nat} {R : List Rec} {p : Tmps × St} {S0 : St} {B : Nat} {V : Hp} {ρ0 : Ren} {w0 : World} {τ0 : Tmps} {sz : Nat} {df : List Deferred}
variable {D : Array Bool} {ρ ρ' : Ren} {H H' : Hp} {R1 R2 A Z : List Rec} {r : Rec} {pe1 : List Nat} {S1 : St} {past1 : List St} {a : Act} {w w' : World} {i : Nat} {v' : Value}
theorem chain_at0 : ∀ {X W : List Rec} {k : Rec} {pe : List Nat} {τ : Tmps} {S : St} {past : List St} {p : Tmps × St}, Chain E ops bs K Y (X ++ k :: W) pe τ S past p → ∃ S : St, ops[k.i]? = some k.o ∧ True
  | [], W, k, pe, τ, S, past, p, h => ⟨S, h.1, trivial⟩
  | r :: X, W, k, pe, τ, S, past, p, h => by
    obtain ⟨_, _, _, h⟩ := h
    rcases h with ⟨_, _, _, _, h⟩ | ⟨_, _, _, h⟩ | ⟨_, _, _, h⟩ <;> exact chain_at0 h
/-- What an operation that may come up looks at is as the reckoner saw it; and what it puts comes last. -/
theorem Inv.tau (hR : Reg E K Y ops bs R p S0 τ0) (h : Inv E K Y ops bs R p S0 B V ρ0 w0 τ0 sz df D ρ H R1 R2 pe1 S1 past1 a w) (hlt : i < D.size) (hdn : dn D i = false) (hb : ∀ k, bitOf bs i k = true → dn D k = true)
    (hs : R2 = A ++ r :: Z) (hi : r.i = i) : ops[r.i]? = some r.o ∧ (∀ t ∈ looks ops r.o, tauD (dn D) R τ0 t = tauD (fun _ => true) (R1 ++ A) τ0 t) ∧
      tauD (dn (D.setIfInBounds i true)) R τ0 = putT r.o.dst r.v (tauD (dn D) R τ0) := by
  have hspl : R = (R1 ++ A) ++ r :: Z := by rw [h.spl, hs, List.append_assoc]
  have hch := hR.ch
  rw [hspl] at hch
  have hord := hR.ord
  rw [hspl] at hord
  have hro : ops[r.i]? = some r.o := by
    obtain ⟨s1, g1, _⟩ := chain_at0 hch
    exact g1
  have hoo : ∀ k ∈ R, ops[k.i]? = some k.o := by
    intro k hk
    obtain ⟨X1, X2, hX⟩ := List.append_of_mem hk
    have := hR.ch
    rw [hX] at this
    obtain ⟨s1, g1, _⟩ := chain_at0 this
    exact g1
  have hA : ∀ k ∈ R1 ++ A, k ∈ R := fun k hk => by rw [hspl]; exact List.mem_append_left _ hk
  have hZ : ∀ k ∈ Z, k ∈ R := fun k hk => by rw [hspl]; exact List.mem_append_right _ (by simp [hk])
  have zap : ∀ k ∈ Z, dn D k.i = true → apartT ops r.o k.o = true := by
    intro k hk hd
    obtain ⟨_, _, ok, g1, g2⟩ := (two_of hord).1 hk
    rw [hoo k (hZ k hk)] at g1; cases g1
    rcases g2 with g2 | ⟨x, g2, g3⟩
    · have := h.cl _ hd _ g2
      rw [hi, hdn] at this; cases this
    · rw [hro] at g2; cases g2; exact g3
  have aap : ∀ k ∈ R1 ++ A, dn D k.i = false → apartT ops k.o r.o = true := by
    intro k hk hd
    obtain ⟨_, o, g1, _, g2⟩ := (two_of hord).2 hk
    rw [hro] at g1; cases g1
    rcases g2 with g2 | ⟨x, g2, g3⟩
    · rw [hi] at g2
      rw [hb _ g2] at hd; cases hd
    · rw [hoo k (hA k hk)] at g2; cases g2; exact g3
  refine ⟨hro, fun t ht => ?_, ?_⟩
  · rw [hspl, tauD_append _ (R1 ++ A) (r :: Z), show tauD (fun _ => true) (R1 ++ A) τ0 = tauD (fun _ => false) (r :: Z) (tauD (fun _ => true) (R1 ++ A) τ0) from (tauD_false _ _).symm]
    refine tau_agree (L := looks ops r.o) _ _ _ (fun k hk => ?_) (fun u hu => ?_) t ht
    · rcases List.mem_cons.1 hk with rfl | hk
      · exact .inl (by rw [hi, hdn])
      · cases hd : dn D k.i
        · exact .inl rfl
        · exact .inr fun d hdd => (apartT_spec (zap k hk hd)).2 d hdd
    · refine tau_agree (L := looks ops r.o) _ _ _ (fun k hk => ?_) (fun _ _ => rfl) u hu
      cases hd : dn D k.i
      · exact .inr fun d hdd => ((apartT_spec (aap k hk hd)).1 d hdd).1
      · exact .inl rfl
  · rw [hspl, tauD_append _ (R1 ++ A) (r :: Z), tauD_append (dn D) (R1 ++ A) (r :: Z)]
    have e1 : tauD (dn (D.setIfInBounds i true)) (R1 ++ A) τ0 = tauD (dn D) (R1 ++ A) τ0 := tauD_same _ _ fun k hk => by
      have := ((two_of hord).2 hk).1
      rw [dn_set hlt]
      simp [← hi, this]
    rw [e1]
    simp only [tauD]
    rw [show dn (D.setIfInBounds i true) r.i = true by rw [dn_set hlt]; simp [hi], show dn D r.i = false by rw [hi, hdn], cond_true, cond_false]
    have e2 : ∀ τ, tauD (dn (D.setIfInBounds i true)) Z τ = tauD (dn D) Z τ := fun τ => tauD_same _ _ fun k hk => by
      have := ((two_of hord).1 hk).2.1
      rw [dn_set hlt]
      simp [← hi, this]
    rw [e2]
    exact tauD_put Z _ fun k hk hd t ht hrd => ((apartT_spec (zap k hk hd)).1 t hrd).2 ht
/-- One thing is done that leaves the split where it is. -/
theorem Inv.stay (gK : KGe K) (gY : YGe Y) (hR : Reg E K Y ops bs R p S0 τ0) (h : Inv E K Y ops bs R p S0 B V ρ0 w0 τ0 sz df D ρ H R1 R2 pe1 S1 past1 a w) (hdst : ∀ o ∈ ops, ∀ d, o.dst = some d → d < sz) (hlt : i < D.size) (hdn : dn D i = false)
    (hb : ∀ k, bitOf bs i k = true → dn D k = true) (hs : R2 = A ++ r :: Z) (hi : r.i = i) (he : isEff r.o = false) (hv : VR E.P ρ' r.v v') (hg : G E.P B ρ' H' w') (hle : ρ.le ρ') (hbel : Below B w w')
    (hdom : ∀ x, ρ x = none → (x < r.S.nx ∨ r.S'.nx ≤ x) → ρ' x = none) (hH : ∀ x, H' x = H x ∨ (x = r.S.nx ∧ r.S'.nx = r.S.nx + 1 ∧ rdO r.S' x ≠ none))
    (hc4 : r.S' = r.S ∨ ∃ ob, r.S' = mkS r.S.h r.S.nx ob ∧ r.S.nx < 4096 ∧ H' r.S.nx = some ob) :
    Inv E K Y ops bs R p S0 B V ρ0 w0 τ0 sz df (D.setIfInBounds i true) ρ' H' R1 R2 pe1 S1 past1 (a.put r.o.dst v') w' := by
  obtain ⟨hro, _, ht⟩ := h.tau hR hlt hdn hb hs hi
  have hch := h.ch
  have hAll : ∀ k ∈ R2, Ge S1 k.S ∧ Ge k.S k.S' ∧ Ge k.S' p.2 := fun k hk => by
    have hc : Chain E ops bs K Y (R2 ++ []) pe1 (tauD (fun _ => true) R1 τ0) S1 past1 p := by rw [List.append_nil]; exact h.ch
    obtain ⟨s, g1, _, g3, _⟩ := chain_at gK gY hc
    have e : p.2 = s := by rw [g1]
    obtain ⟨k1, k2, k3, _⟩ := g3 k hk
    exact ⟨k3, k1, by rw [e]; exact k2⟩
  have hr2 : r ∈ R2 := by rw [hs]; simp
  have hrel : ∀ k ∈ R2, k.i ≠ r.i → Ge k.S' r.S ∨ Ge r.S' k.S := fun k hk hne => by
    rw [hs] at hk
    rcases List.mem_append.1 hk with hk | hk
    · rw [hs] at hch
      obtain ⟨s, g1, _, g3, _⟩ := chain_at gK gY hch
      have e : r.S = s := g1.2.2.1
      exact .inl (by rw [e]; exact (g3 k hk).2.1)
    · rcases List.mem_cons.1 hk with rfl | hk
      · exact absurd rfl hne
      · obtain ⟨Z1, Z2, hZ⟩ := List.append_of_mem hk
        have hc : Chain E ops bs K Y ((A ++ r :: Z1) ++ k :: Z2) pe1 (tauD (fun _ => true) R1 τ0) S1 past1 p := by
          rw [hs, hZ] at hch
          simpa using hch
        obtain ⟨s, g1, _, g3, _⟩ := chain_at gK gY hc
        have e : k.S = s := g1.2.2.1
        exact .inr (by rw [e]; exact (g3 r (by simp)).2.1)
  have hset : ∀ k, dn (D.setIfInBounds i true) k = (dn D k || decide (k = i)) := fun k => dn_set hlt
  refine ⟨h.spl, fun k hk => by rw [hset, h.c1 k hk]; rfl, fun k hk hd => ?_, hch, h.hd, fun x o hx => ?_, h.wf, fun k hk hd => ?_, fun k hk hd => ?_, fun x hx => ?_, hg, Ren.le_trans h.le hle, h.bel.trans hbel, fun x hx hn => ?_, ?_, by rw [size_put]; exact h.sz,
    by rw [defers_put]; exact h.df, fun k hk j hj => ?_, by rw [Array.size_setIfInBounds]; exact h.size⟩
  · rw [hset] at hd
    by_cases hk2 : k.i = i
    · have hk3 : ops[k.i]? = some k.o := by
        obtain ⟨X1, X2, hX⟩ := List.append_of_mem hk
        rw [hX] at hch
        obtain ⟨_, g, _⟩ := chain_at0 hch
        exact g
      rw [hk2, ← hi, hro] at hk3
      rw [← Option.some.inj hk3]
      exact he
    · exact h.c2 k hk (by simpa [hk2] using hd)
  · rcases hH x with e | ⟨rfl, _, _⟩
    · rw [e]; exact h.sub x o hx
    · have := h.wf r.S.nx (hAll r hr2).1.nx
      rw [this] at hx; cases hx
  · by_cases hk2 : k.i = r.i
    · -- the same place
      have hkr : k = r := by
        rw [hs] at hk
        have hord := hR.ord
        rw [h.spl, hs, ← List.append_assoc] at hord
        rcases List.mem_append.1 hk with hk | hk
        · exact absurd hk2 ((two_of hord).2 (List.mem_append_right _ hk)).1
        · rcases List.mem_cons.1 hk with rfl | hk
          · rfl
          · exact absurd hk2 ((two_of hord).1 hk).2.1
      subst hkr
      exact hc4
    · rw [hset] at hd
      have hd : dn D k.i = true := by simpa [← hi, hk2] using hd
      rcases h.c4 k hk hd with g | ⟨ob, g1, g2, g3⟩
      · exact .inl g
      · refine .inr ⟨ob, g1, g2, ?_⟩
        rcases hH k.S.nx with e | ⟨e, e1, _⟩
        · rw [e]; exact g3
        · have e2 : k.S'.nx = k.S.nx + 1 := by rw [g1]; rfl
          rcases hrel k hk hk2 with g | g
          · have := g.nx; omega
          · have := g.nx; omega
  · rw [hset] at hd
    have hd : dn D k.i = false ∧ k.i ≠ i := by simpa using hd
    intro x hx1 hx2
    refine hdom x (h.c5 k hk hd.1 x hx1 hx2) ?_
    rcases hrel k hk (by rw [hi]; exact hd.2) with g | g
    · have := g.nx; omega
    · have := g.nx; omega
  · rcases hH x with e | ⟨_, _, e⟩
    · rw [e]; exact h.c6 x hx
    · exact absurd ((hAll r hr2).2.2.dom x hx) e
  · refine hdom x (h.out x hx hn) ?_
    have hr1 : S0.nx ≤ r.S.nx := by
      have hc := hR.ch
      rw [h.spl, hs, ← List.append_assoc] at hc
      obtain ⟨s, g1, g2, _, _⟩ := chain_at gK gY hc
      have e : r.S = s := g1.2.2.1
      rw [e]; exact g2.nx
    have := (hAll r hr2).2.2.nx
    omega
  · rw [ht]
    exact (h.t.mono hle).put (fun d hd => by rw [h.sz]; exact hdst _ (List.mem_of_getElem? hro) d hd) hv
  · rw [hset] at hk
    rw [hset]
    by_cases hk2 : k = i
    · subst hk2; rw [hb j hj]; rfl
    · rw [h.cl k (by simpa [hk2] using hk) j hj]; rfl
/-- All that lies ahead of one is in the heap, where all ahead is done. -/
theorem subs (gK : KGe K) (gY : YGe Y) : ∀ {A : List Rec} {pe : List Nat} {τ : Tmps} {S : St} {past : List St} {q : Tmps × St}, Chain E ops bs K Y A pe τ S past q → (∀ x o, rdO S x = some o → H x = some o) →
    (∀ k ∈ A, isEff k.o = false ∧ (k.S' = k.S ∨ ∃ ob, k.S' = mkS k.S.h k.S.nx ob ∧ k.S.nx < 4096 ∧ H k.S.nx = some ob)) → ∀ x o, rdO q.2 x = some o → H x = some o
  | [], pe, τ, S, past, q, h, hs, _ => by cases h; exact hs
  | r :: A, pe, τ, S, past, q, h, hs, hk => by
    obtain ⟨h1, h2, h3, h⟩ := h
    have h' : ∀ x o, rdO r.S' x = some o → H x = some o := by
      intro x o hx
      rcases (hk r (by simp)).2 with g | ⟨ob, g1, g2, g3⟩
      · rw [g, h3] at hx; exact hs x o hx
      · rw [g1, rdO_mkS g2] at hx
        unfold upd at hx
        split at hx
        · rename_i e; cases hx; rw [e]; exact g3
        · rw [← h3] at hs; exact hs x o hx
    rcases h with ⟨_, _, g, _, h⟩ | ⟨_, g, _, h⟩ | ⟨_, _, _, h⟩
    · exact subs gK gY h hs fun k hk' => hk k (by simp [hk'])
    · rw [(hk r (by simp)).1] at g; cases g
    · exact subs gK gY h h' fun k hk' => hk k (by simp [hk'])
end
end Go.Proofs.YtemldmjpanmdbaaGreatDoor.Ev
