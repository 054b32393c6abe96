import Derived.Test.YtemldmjpanmdbaaGreatDoorP26
set_option linter.unusedVariables false
namespace Go.Proofs.YtemldmjpanmdbaaGreatDoor.Ev
open Go.RowKit
theorem rdO_h (S : St) (n : Nat) : rdO ⟨S.h, n⟩ = rdO S := by
  funext x
  rw [rdO_eq, rdO_eq]
theorem ov_sub {h H : Hp} (hs : ∀ x o, h x = some o → H x = some o) : ov h H = H := by
  funext x
  unfold ov
  cases hx : h x with
  | none => rfl
  | some o => rw [hs x o hx]; rfl
section
variable {E : Env} {K : CallF} {Y : YieldF} {ops : List Oper} {bs : Array Nat} {R : List Rec} {p : Tmps × St} {S0 : St} {B : Nat} {V : Hp} {ρ0 : Ren} {w0 : World} {τ0 : Tmps} {sz : Nat} {df : List Deferred}
variable {D : Array Bool} {ρ ρ' : Ren} {H H' : Hp} {R1 R2 A Z : List Rec} {r : Rec} {pe1 : List Nat} {S1 : St} {past1 : List St} {a : Act} {w w' : World} {i : Nat} {v' : Value} {n : Nat} {rd : Option Nat}
/-- An effect is done. -/
theorem Inv.move (gK : KGe K) (gY : YGe Y) (hR : Reg E K Y ops bs R p S0 τ0) (h : Inv E K Y ops bs R p S0 B V ρ0 w0 τ0 sz df D ρ H R1 R2 pe1 S1 past1 a w) (hdst : ∀ o ∈ ops, ∀ d, o.dst = some d → d < sz) (hlt : i < D.size) (hdn : dn D i = false)
    (hb : ∀ k, bitOf bs i k = true → dn D k = true) (hs : R2 = A ++ r :: Z) (hi : r.i = i) (he : isEff r.o = true) (hA : ∀ k ∈ A, dn D k.i = true) {pe2 : List Nat} {past2 : List St}
    (hch2 : Chain E ops bs K Y Z pe2 (tauD (fun _ => true) (R1 ++ A ++ [r]) τ0) r.S' (r.S' :: past2) p) (hv : VR E.P ρ' r.v v') (hg : G E.P B ρ' (ov (rdO r.S') H) w') (hle : ρ.le ρ') (hbel : Below B w w')
    (hdom : ∀ x, ρ x = none → (x < r.S.nx ∨ r.S'.nx ≤ x) → ρ' x = none) :
    Inv E K Y ops bs R p S0 B V ρ0 w0 τ0 sz df (D.setIfInBounds i true) ρ' (ov (rdO r.S') H) (R1 ++ A ++ [r]) Z pe2 r.S' (r.S' :: past2) (a.put r.o.dst v') w' := by
  obtain ⟨hro, _, ht⟩ := h.tau hR hlt hdn hb hs hi
  have hch := h.ch
  have hAll : ∀ k ∈ R2, Ge S1 k.S ∧ Ge k.S k.S' ∧ Ge k.S' p.2 := fun k hk => by
    have hc : Chain E ops bs K Y (R2 ++ []) pe1 (tauD (fun _ => true) R1 τ0) S1 past1 p := by rw [List.append_nil]; exact h.ch
    obtain ⟨s, g1, _, g3, _⟩ := chain_at gK gY hc
    have e : p.2 = s := by rw [g1]
    obtain ⟨k1, k2, k3, _⟩ := g3 k hk
    exact ⟨k3, k1, by rw [e]; exact k2⟩
  have hr2 : r ∈ R2 := by rw [hs]; simp
  have hZ2 : ∀ k ∈ Z, k ∈ R2 := fun k hk => by rw [hs]; simp [hk]
  have wf' : Wf r.S' := (hAll r hr2).2.1.wf ((hAll r hr2).1.wf h.wf)
  have hrel : ∀ k ∈ Z, Ge r.S' k.S := fun k hk => by
    have hc : Chain E ops bs K Y (Z ++ []) pe2 (tauD (fun _ => true) (R1 ++ A ++ [r]) τ0) r.S' (r.S' :: past2) p := by rw [List.append_nil]; exact hch2
    obtain ⟨s, _, _, g3, _⟩ := chain_at gK gY hc
    exact (g3 k hk).2.2.1
  have hord := hR.ord
  rw [h.spl, hs, ← List.append_assoc] at hord
  have hset : ∀ k, dn (D.setIfInBounds i true) k = (dn D k || decide (k = i)) := fun k => dn_set hlt
  have hold : ∀ k ∈ Z, dn (D.setIfInBounds i true) k.i = dn D k.i := fun k hk => by
    have := ((two_of hord).1 hk).2.1
    rw [hset]; simp [← hi, this]
  refine ⟨by rw [h.spl, hs]; simp, fun k hk => ?_, fun k hk hd => ?_, hch2, rfl, fun x o hx => ov_of hx, wf', fun k hk hd => ?_, fun k hk hd => ?_, fun x hx => ?_, hg, Ren.le_trans h.le hle, h.bel.trans hbel, fun x hx hn => ?_, ?_,
    by rw [size_put]; exact h.sz, by rw [defers_put]; exact h.df, fun k hk j hj => ?_, by rw [Array.size_setIfInBounds]; exact h.size⟩
  · rw [hset]
    rcases List.mem_append.1 hk with hk | hk
    · rcases List.mem_append.1 hk with hk | hk
      · rw [h.c1 k hk]; rfl
      · rw [hA k hk]; rfl
    · simp at hk; subst hk; simp [hi]
  · rw [hold k hk] at hd
    exact h.c2 k (hZ2 k hk) hd
  · rw [hold k hk] at hd
    rcases h.c4 k (hZ2 k hk) hd with g | ⟨ob, g1, g2, g3⟩
    · exact .inl g
    · refine .inr ⟨ob, g1, g2, ?_⟩
      unfold ov
      rw [wf' _ (hrel k hk).nx]
      exact g3
  · rw [hold k hk] at hd
    intro x hx1 hx2
    refine hdom x (h.c5 k (hZ2 k hk) hd x hx1 hx2) (.inr ?_)
    have := (hrel k hk).nx
    omega
  · unfold ov
    rw [(hAll r hr2).2.2.dom x hx]
    exact h.c6 x hx
  · refine hdom x (h.out x hx hn) ?_
    have hr1 : S0.nx ≤ r.S.nx := by
      have hc := hR.ch
      rw [h.spl, hs, ← List.append_assoc] at hc
      obtain ⟨s, g1, g2, _, _⟩ := chain_at gK gY hc
      have e : r.S = s := g1.2.2.1
      rw [e]; exact g2.nx
    have := (hAll r hr2).2.2.nx
    omega
  · rw [ht]
    exact (h.t.mono hle).put (fun d hd => by rw [h.sz]; exact hdst _ (List.mem_of_getElem? hro) d hd) hv
  · rw [hset] at hk
    rw [hset]
    by_cases hk2 : k = i
    · subst hk2; rw [hb j hj]; rfl
    · rw [h.cl k (by simpa [hk2] using hk) j hj]; rfl
set_option maxHeartbeats 1000000 in
/-- Whatever comes up. -/
theorem Inv.step (hE : EnvOk E) (hN : NmOk E) (hK : KOk E K) (hY : YOk E Y) (gK : KGe K) (gY : YGe Y) (hR : Reg E K Y ops bs R p S0 τ0) (h : Inv E K Y ops bs R p S0 B V ρ0 w0 τ0 sz df D ρ H R1 R2 pe1 S1 past1 a w)
    (hdst : ∀ o ∈ ops, ∀ d, o.dst = some d → d < sz) (hB0 : B ≤ w0.heap.size) (hi : i ∈ Region.ready .any ops.toArray D) {o : Oper} (ho : ops.toArray[i]? = some o) {Q : Exit → Act → World → Prop} :
    opIn (Fw rd) n E.P ops.toArray Q o (fun a' w' => ∃ ρ H R1 R2 pe1 S1 past1, Inv E K Y ops bs R p S0 B V ρ0 w0 τ0 sz df (D.setIfInBounds i true) ρ H R1 R2 pe1 S1 past1 a' w') a w := by
  obtain ⟨hlt, hdn, hb, A, r, Z, hs, hri⟩ := h.rdy hR hi
  obtain ⟨hro, hlk, _⟩ := h.tau hR hlt hdn hb hs hri
  have heq : o = r.o := by
    rw [hri] at hro
    have : ops[i]? = some o := by simpa using ho
    rw [this] at hro
    exact Option.some.inj hro
  subst heq
  have hB : B ≤ w.heap.size := Nat.le_trans hB0 h.bel.size
  have hch := h.ch
  rw [hs] at hch
  obtain ⟨S, g1, g2, g3, g4⟩ := chain_at gK gY hch
  obtain ⟨_, k2, k3, g1⟩ := g1
  have hτ : ∀ S, (cOp1 E ops r.o).f K Y (tauD (dn D) R τ0) S = (cOp1 E ops r.o).f K Y r.τ S := fun S => op1_l fun t ht => by rw [hlk t ht, k2, tauD_append]
  have hrin : r ∈ R2 := by rw [hs]; simp
  have hfr : dn D r.i = false := by rw [hri]; exact hdn
  subst k3
  have hfsh := h.c5 r hrin hfr
  have wfr : Wf r.S := g2.wf h.wf
  rcases g1 with ⟨hl, he, k4, k5, k6⟩ | ⟨hl, he, k5, k6⟩ | ⟨hl, he, k5, k6⟩
  · -- a load
    have hidx : (((efs A).map (·.S')).reverse ++ past1)[(efs A).length]? = some S1 := by
      have := h.hd
      cases past1 with
      | nil => cases this
      | cons s past1 =>
        simp at this
        subst this
        rw [List.getElem?_append_right (by simp)]
        simp
    have hk := k5 (efs A).length S1 (by
      rw [List.takeWhile_append_of_pos]
      · simp
      · intro e hem
        simp only [List.mem_reverse, List.mem_map] at hem
        obtain ⟨x, hx, rfl⟩ := hem
        obtain ⟨hx1, hx2⟩ := List.mem_filter.1 hx
        have hx3 : dn D x.i = false := by
          cases hd : dn D x.i
          · rfl
          · rw [h.c2 x (by rw [hs]; exact List.mem_append_left _ hx1) hd] at hx2; cases hx2
        cases hbt : bitOf bs r.i x.i
        · rfl
        · rw [hri] at hbt
          rw [hb _ hbt] at hx3; cases hx3) hidx
    rw [← k2, ← hτ] at hk
    have hGS : GS E.P B ρ S1 H w := by
      show G E.P B ρ (ov (rdO S1) H) w
      rw [ov_sub h.sub]; exact h.g
    refine op1_wp hE hN hK hY hk hGS h.t (fun x h1 h2 => by simp only at h2; omega) h.wf hB fun ρ' w' v' hv hg hN1 => ?_
    have hg : G E.P B ρ' (ov (rdO S1) H) w' := hg
    rw [ov_sub h.sub] at hg
    exact ⟨ρ', H, R1, R2, pe1, S1, past1, h.stay gK gY hR hdst hlt hdn hb hs hri he hv hg hN1.le hN1.bel (fun x hx _ => hN1.dom x hx (by simp only; omega)) (fun _ => .inl rfl) (.inl k4)⟩
  · -- an effect
    have hA : ∀ k ∈ R1 ++ A, dn D k.i = true := fun k hk => by
      have hord := hR.ord
      rw [h.spl, hs, ← List.append_assoc] at hord
      obtain ⟨_, o, q1, q2, _⟩ := (two_of hord).2 hk
      rw [hro] at q1
      have q1 := Option.some.inj q1
      rw [← q1] at q2
      have := q2 he
      rw [hri] at this
      exact hb _ this
    have hsub0 := subs (H := H) gK gY g4 h.sub fun k hk => by
      have hk2 : k ∈ R2 := by rw [hs]; exact List.mem_append_left _ hk
      have hd := hA k (List.mem_append_right _ hk)
      exact ⟨h.c2 k hk2 hd, h.c4 k hk2 hd⟩
    have hsub : ∀ x o, rdO r.S x = some o → H x = some o := hsub0
    have hGS : GS E.P B ρ r.S H w := by
      show G E.P B ρ (ov (rdO r.S) H) w
      rw [ov_sub hsub]; exact h.g
    rw [← k2, ← hτ] at k5
    refine op1_wp hE hN hK hY k5 hGS h.t hfsh wfr hB fun ρ' w' v' hv hg hN1 => ?_
    have k6 : Chain E ops bs K Y Z (r.i :: (((efs A).map (·.i)).reverse ++ pe1)) (tauD (fun _ => true) (R1 ++ A ++ [r]) τ0) r.S' (r.S' :: (((efs A).map (·.S')).reverse ++ past1)) p := by
      rw [tauD_append, tauD_append]
      exact k6
    exact ⟨ρ', _, _, _, _, _, _, h.move gK gY hR hdst hlt hdn hb hs hri he (fun k hk => hA k (List.mem_append_right _ hk)) k6 hv hg hN1.le hN1.bel hN1.dom⟩
  · rw [← k2] at k5
    cases hm : isMaker r.o
    · -- nothing of the heap
      have hS' : r.S' = r.S := (op1_ge gK gY k5).2 hm he
      have hk := op1_pure hl hm he k5 S1
      rw [← hτ] at hk
      have hGS : GS E.P B ρ S1 H w := by
        show G E.P B ρ (ov (rdO S1) H) w
        rw [ov_sub h.sub]; exact h.g
      refine op1_wp hE hN hK hY hk hGS h.t (fun x h1 h2 => by simp only at h2; omega) h.wf hB fun ρ' w' v' hv hg hN1 => ?_
      have hg : G E.P B ρ' (ov (rdO S1) H) w' := hg
      rw [ov_sub h.sub] at hg
      exact ⟨ρ', H, R1, R2, pe1, S1, past1, h.stay gK gY hR hdst hlt hdn hb hs hri he hv hg hN1.le hN1.bel (fun x hx _ => hN1.dom x hx (by simp only; omega)) (fun _ => .inl rfl) (.inl hS')⟩
    · rcases op1_maker hm k5 with ⟨q1, q2⟩ | ⟨ob, q1, q2, q3⟩
      · have hk := q2 S1
        rw [← hτ] at hk
        have hGS : GS E.P B ρ S1 H w := by
          show G E.P B ρ (ov (rdO S1) H) w
          rw [ov_sub h.sub]; exact h.g
        refine op1_wp hE hN hK hY hk hGS h.t (fun x h1 h2 => by simp only at h2; omega) h.wf hB fun ρ' w' v' hv hg hN1 => ?_
        have hg : G E.P B ρ' (ov (rdO S1) H) w' := hg
        rw [ov_sub h.sub] at hg
        exact ⟨ρ', H, R1, R2, pe1, S1, past1, h.stay gK gY hR hdst hlt hdn hb hs hri he hv hg hN1.le hN1.bel (fun x hx _ => hN1.dom x hx (by simp only; omega)) (fun _ => .inl rfl) (.inl q1)⟩
      · have hk := q3 S1.h
        rw [← hτ] at hk
        have hsub' : ∀ x o, rdO ⟨S1.h, r.S.nx⟩ x = some o → H x = some o := by rw [rdO_h]; exact h.sub
        have wf2 : Wf ⟨S1.h, r.S.nx⟩ := fun x hx => by rw [rdO_h]; exact h.wf x (Nat.le_trans g2.nx hx)
        have hGS : GS E.P B ρ ⟨S1.h, r.S.nx⟩ H w := by
          show G E.P B ρ (ov (rdO ⟨S1.h, r.S.nx⟩) H) w
          rw [ov_sub hsub']; exact h.g
        have q1' : r.S' = mkS r.S.h r.S.nx ob := q1
        have hnx : r.S'.nx = r.S.nx + 1 := by rw [q1']; rfl
        refine op1_wp hE hN hK hY hk hGS h.t (fun x h1 h2 => hfsh x h1 (by rw [hnx]; exact h2)) wf2 hB fun ρ' w' v' hv hg hN1 => ?_
        have hg : G E.P B ρ' (ov (rdO (mkS S1.h r.S.nx ob)) H) w' := hg
        have hH' : ov (rdO (mkS S1.h r.S.nx ob)) H = upd H r.S.nx ob := by
          rw [rdO_mkS q2, ov_upd, ov_sub hsub']
        rw [hH'] at hg
        refine ⟨ρ', _, R1, R2, pe1, S1, past1, h.stay gK gY hR hdst hlt hdn hb hs hri he hv hg hN1.le hN1.bel (fun x hx hn => hN1.dom x hx (by rw [hnx] at hn; exact hn)) (fun x => ?_) (.inr ⟨ob, q1', q2, by simp [upd]⟩)⟩
        by_cases hx : x = r.S.nx
        · refine .inr ⟨hx, hnx, ?_⟩
          rw [q1', rdO_mkS q2, hx]
          simp [upd]
        · exact .inl (by simp [upd, hx])
end
end Go.Proofs.YtemldmjpanmdbaaGreatDoor.Ev
