import Derived.Test.YtemldmjpanmdbaaGreatDoorP27
set_option linter.unusedVariables false
namespace Go.Proofs.YtemldmjpanmdbaaGreatDoor.Ev
open Go.RowKit
theorem first_not {α : Type} {P : α → Bool} : ∀ (R : List α), (∀ r ∈ R, P r = true) ∨ ∃ A r Z, R = A ++ r :: Z ∧ (∀ k ∈ A, P k = true) ∧ P r = false
  | [] => .inl (by simp)
  | r :: R => by
    cases h : P r
    · exact .inr ⟨[], r, R, rfl, by simp, h⟩
    · rcases first_not (P := P) R with h1 | ⟨A, k, Z, rfl, h1, h2⟩
      · exact .inl fun k hk => by
          rcases List.mem_cons.1 hk with rfl | hk
          · exact h
          · exact h1 k hk
      · exact .inr ⟨r :: A, k, Z, rfl, fun j hj => by
          rcases List.mem_cons.1 hj with rfl | hj
          · exact h
          · exact h1 j hj, h2⟩
theorem condR {γ : Type} {b : Bool} {g : CallF → YieldF → Tmps → St → Option γ} {K : CallF} {Y : YieldF} {τ : Tmps} {S : St} {q : γ} (h : (cond b (Bx.mk g) (Bx.mk fun _ _ _ _ => none)).f K Y τ S = some q) : b = true ∧ g K Y τ S = some q := by
  cases b
  · cases h
  · exact ⟨rfl, h⟩
theorem dn_none {n i : Nat} : dn (Array.replicate n false) i = false := by
  unfold dn
  rw [Array.getD_eq_getD_getElem?, Array.getElem?_replicate]
  split <;> rfl
section
variable {E : Env} {K : CallF} {Y : YieldF} {ops : List Oper} {bs : Array Nat} {R : List Rec} {p : Tmps × St} {S S0 : St} {B : Nat} {V : Hp} {ρ ρ0 : Ren} {w w0 : World} {τ τ0 : Tmps} {sz : Nat} {df : List Deferred}
variable {D : Array Bool} {H : Hp} {R1 R2 : List Rec} {pe1 : List Nat} {S1 : St} {past1 : List St} {a : Act} {n : Nat} {rd : Option Nat}
theorem cnt_replicate (n : Nat) : cnt (List.replicate n false) ≤ n := by
  induction n with
  | zero => exact Nat.le_refl _
  | succ n ih => simp only [List.replicate_succ, cnt, cond_false]; omega
/-- Where nothing may come up, all is done. -/
theorem Inv.over (hR : Reg E K Y ops bs R p S0 τ0) (h : Inv E K Y ops bs R p S0 B V ρ0 w0 τ0 sz df D ρ H R1 R2 pe1 S1 past1 a w) (hr : Region.ready .any ops.toArray D = []) : ∀ r ∈ R, dn D r.i = true := by
  rcases first_not (P := fun r : Rec => dn D r.i) R with h1 | ⟨A, r, Z, hRs, h1, h2⟩
  · exact h1
  · exfalso
    have hch := hR.ch
    rw [hRs] at hch
    obtain ⟨_, hro, _⟩ := chain_at0 hch
    have hlt : r.i < D.size := by rw [h.size]; exact (List.getElem?_eq_some_iff.1 hro).1
    have hb := bitsOk_at (i := r.i) (o := r.o) hR.bits hro
    simp only [Nat.zero_add] at hb
    have hord := hR.ord
    rw [hRs, List.map_append, List.map_cons] at hord
    obtain ⟨_, _, hnb, _⟩ := drawOk_at hord
    have : r.i ∈ Region.ready .any ops.toArray D := mem_ready.2 ⟨by
      have h2 : dn D r.i = false := h2
      simp only [dn, Array.getD_eq_getD_getElem?, Array.getElem?_eq_getElem hlt, Option.getD_some] at h2 ⊢
      exact h2, r.o, by simpa using hro, fun e he hbi => by
      have hbit := hb.1 e (by simpa using he) hbi
      have hlt2 := (hb.2 _ hbit).1
      obtain ⟨k, hk, hki⟩ := hR.all e.on (by have := h.size; omega)
      rw [hRs] at hk
      rcases List.mem_append.1 hk with hk | hk
      · rw [← hki]; exact h1 k hk
      · have : bitOf bs r.i k.i = false := hnb _ (by
          rcases List.mem_cons.1 hk with rfl | hk
          · simp
          · exact List.mem_cons_of_mem _ (List.mem_map_of_mem hk))
        rw [hki, hbit] at this; cases this⟩
    rw [hr] at this
    cases this
theorem region_ge (gK : KGe K) (gY : YGe Y) {draw : Bool} (hq : (cRegion E ops draw).f K Y τ S = some p) : Ge S p.2 := by
  unfold cRegion at hq
  cases draw
  · exact seq_ge gK gY hq
  · obtain ⟨_, hq⟩ := condR hq
    obtain ⟨R, _, hc⟩ := draw_chain gK gY hq
    have hc : Chain E ops (Region.before ops.toArray) K Y (R ++ []) [] τ S [S] p := by rw [List.append_nil]; exact hc
    obtain ⟨s, g1, g2, _⟩ := chain_at gK gY hc
    rw [show p.2 = s by rw [g1]]
    exact g2
/-- A region, in a row or drawn. -/
theorem region_wp (hE : EnvOk E) (hN : NmOk E) (hK : KOk E K) (hY : YOk E Y) (gK : KGe K) (gY : YGe Y) (hm : E.P.follows .mixedOrders = true) {id : Nat} {A : Array Oper} {draw : Bool} {Q : Exit → Act → World → Prop}
    (hq : (cRegion E A.toList draw).f K Y τ S = some p) (h : GS E.P B ρ S V w) (ht : TRel E.P ρ τ a) (hf : Fsh ρ S.nx p.2.nx) (hwf : Wf S) (hB : B ≤ w.heap.size) (hd : ∀ o ∈ A.toList, ∀ d, o.dst = some d → d < a.tmps.size)
    (hk : ∀ ρ' w' a', GS E.P B ρ' p.2 V w' → Nx B ρ ρ' S.nx p.2.nx w w' → TRel E.P ρ' p.1 a' → a'.tmps.size = a.tmps.size → a'.defers = a.defers → Q .normal a' w') : (Code.region id A draw).wpIn (Fw rd) n E.P Q a w := by
  have hge := region_ge gK gY hq
  unfold cRegion at hq
  cases draw
  · refine wpIn_region_list ?_
    have := seq_wp (n := n) (rd := rd) (Q := Q) hE hN hK hY gK gY hq h ht hf hwf hB hd hk
    simpa using this
  · obtain ⟨hs, hq⟩ := condR hq
    generalize Region.before A.toList.toArray = bs at hq hs
    obtain ⟨R, hRo, hc⟩ := draw_chain gK gY hq
    unfold stOk at hs
    simp only [Bool.and_eq_true, List.all_eq_true] at hs
    obtain ⟨⟨⟨s1, s2⟩, s3⟩, s4⟩ := hs
    have hR : Reg E K Y A.toList bs R p S τ := ⟨by rw [hRo]; exact s4, fun i hi => by
      have := s3 i (by simpa using hi)
      have := List.contains_iff_mem.1 this
      rw [← hRo] at this
      obtain ⟨r, hr, e⟩ := List.mem_map.1 this
      exact ⟨r, hr, e⟩, s1, hc, hwf⟩
    have hc0 : Chain E A.toList bs K Y (R ++ []) [] τ S [S] p := by rw [List.append_nil]; exact hc
    obtain ⟨sf, g1, g2, g3, _⟩ := chain_at gK gY hc0
    have hpf : p = (tauD (fun _ => true) R τ, sf) := g1
    refine wpIn_region_any hm ?_
    have hA : A.toList.toArray = A := by simp
    refine wpAny_of_inv (I := fun D a' w' => ∃ ρ' H R1 R2 pe1 S1 past1, Inv E K Y A.toList bs R p S B V ρ w τ a.tmps.size a.defers D ρ' H R1 R2 pe1 S1 past1 a' w') ?_ ?_ ?_ _ _ _ _ ?_ ?_
    · rintro D a' w' ⟨_, _, _, _, _, _, _, hI⟩
      have := hI.size
      simpa using this
    · rintro D a' w' i o ⟨_, _, _, _, _, _, _, hI⟩ hi ho
      have := hI.step (n := n) (rd := rd) (Q := Q) hE hN hK hY gK gY hR hd hB (by rw [hA]; exact hi) (by rw [hA]; exact ho)
      rw [hA] at this
      exact this
    · rintro D a' w' ⟨ρ', H, R1, R2, pe1, S1, past1, hI⟩ hr
      have hall := Inv.over hR hI (by rw [hA]; exact hr)
      have hR2 : ∀ k ∈ R2, dn D k.i = true := fun k hk => hall k (by rw [hI.spl]; exact List.mem_append_right _ hk)
      have hsub := subs (H := H) gK gY hI.ch hI.sub fun k hk => ⟨hI.c2 k hk (hR2 k hk), hI.c4 k hk (hR2 k hk)⟩
      have hH : H = ov (rdO p.2) V := by
        funext x
        unfold ov
        cases hx : rdO p.2 x with
        | none => exact hI.c6 x hx
        | some o => exact hsub x o hx
      have hτ : tauD (dn D) R τ = p.1 := by
        rw [tauD_same R τ (D2 := fun _ => true) hall]
        rw [hpf]
      have hg := hI.g
      rw [hH] at hg
      refine hk ρ' w' a' hg ⟨hI.le, hI.bel, hI.out, hge.nx⟩ ?_ hI.sz hI.df
      rw [← hτ]; exact hI.t
    · have hch := g3
      have hpn : p.2 = sf := by rw [hpf]
      refine ⟨ρ, ov (rdO S) V, [], R, [], S, [S], rfl, by simp, fun r _ hd => ?_, hc, rfl, fun x o hx => ov_of hx, hwf, fun r _ hd => ?_, fun r hr _ x h1 h2 => ?_, fun x hx => ?_, ?_, Ren.le_refl _, (Below.refl B w).drew, fun x hx _ => hx, ?_, rfl, rfl, fun i hi => ?_, by simp⟩
      · rw [dn_none] at hd; cases hd
      · rw [dn_none] at hd; cases hd
      · refine hf x (Nat.le_trans (g3 r hr).2.2.1.nx h1) (Nat.lt_of_lt_of_le h2 ?_)
        rw [hpn]; exact (g3 r hr).2.1.nx
      · unfold ov
        rw [hge.dom x hx]; rfl
      · exact G.drew h
      · have : tauD (dn (Array.replicate A.size false)) R τ = τ := by
          rw [tauD_same R τ (D2 := fun _ => false) fun k _ => dn_none]
          exact tauD_false _ _
        rw [this]
        exact ht
      · rw [dn_none] at hi; cases hi
    · simp only [Array.toList_replicate]
      exact cnt_replicate _
end
end Go.Proofs.YtemldmjpanmdbaaGreatDoor.Ev
