import Derived.Test.YtemldmjpanmdbaaGreatDoorP24
set_option linter.unusedVariables false
namespace Go.Proofs.YtemldmjpanmdbaaGreatDoor.Ev
open Go.RowKit
def dn (D : Array Bool) (i : Nat) : Bool := D.getD i false
theorem dn_set {D : Array Bool} {i k : Nat} (hi : i < D.size) : dn (D.setIfInBounds i true) k = (dn D k || decide (k = i)) := by
  unfold dn
  by_cases h : k = i
  · subst h; simp [hi]
  · rw [getD_set_ne false (fun e => h e.symm)]; simp [h]
theorem apartT_spec {ops : List Oper} {x y : Oper} (h : apartT ops x y = true) : (∀ d, x.dst = some d → d ∉ looks ops y ∧ y.dst ≠ some d) ∧ (∀ d, y.dst = some d → d ∉ looks ops x) := by
  unfold apartT at h
  simp only [Bool.and_eq_true] at h
  refine ⟨fun d hd => ?_, fun d hd => ?_⟩
  · have h := h.1
    rw [hd] at h
    simp at h
    exact h
  · have h := h.2
    rw [hd] at h
    simpa using h
section
variable {E : Env} {K : CallF} {Y : YieldF} {ops : List Oper} {bs : Array Nat} {R : List Rec} {p : Tmps × St} {S0 : St} {B : Nat} {V : Hp} {ρ0 : Ren} {w0 : World} {τ0 : Tmps} {sz : Nat} {df : List Deferred}
/-- What is so of a region once for all. -/
structure Reg (E : Env) (K : CallF) (Y : YieldF) (ops : List Oper) (bs : Array Nat) (R : List Rec) (p : Tmps × St) (S0 : St) (τ0 : Tmps) : Prop where
  ord : drawOk ops bs (R.map (·.i)) [] = true
  all : ∀ i, i < ops.length → ∃ r ∈ R, r.i = i
  bits : bitsOk bs 0 ops = true
  ch : Chain E ops bs K Y R [] τ0 S0 [S0] p
  wf : Wf S0
/-- What holds where D is done. -/
structure Inv (E : Env) (K : CallF) (Y : YieldF) (ops : List Oper) (bs : Array Nat) (R : List Rec) (p : Tmps × St) (S0 : St) (B : Nat) (V : Hp) (ρ0 : Ren) (w0 : World) (τ0 : Tmps) (sz : Nat) (df : List Deferred)
    (D : Array Bool) (ρ : Ren) (H : Hp) (R1 R2 : List Rec) (pe1 : List Nat) (S1 : St) (past1 : List St) (a : Act) (w : World) : Prop where
  spl : R = R1 ++ R2
  c1 : ∀ r ∈ R1, dn D r.i = true
  c2 : ∀ r ∈ R2, dn D r.i = true → isEff r.o = false
  ch : Chain E ops bs K Y R2 pe1 (tauD (fun _ => true) R1 τ0) S1 past1 p
  hd : past1.head? = some S1
  sub : ∀ x o, rdO S1 x = some o → H x = some o
  wf : Wf S1
  c4 : ∀ r ∈ R2, dn D r.i = true → r.S' = r.S ∨ ∃ ob, r.S' = mkS r.S.h r.S.nx ob ∧ r.S.nx < 4096 ∧ H r.S.nx = some ob
  c5 : ∀ r ∈ R2, dn D r.i = false → Fsh ρ r.S.nx r.S'.nx
  c6 : ∀ x, rdO p.2 x = none → H x = V x
  g : G E.P B ρ H w
  le : ρ0.le ρ
  bel : Below B w0 w
  out : ∀ x, ρ0 x = none → (x < S0.nx ∨ p.2.nx ≤ x) → ρ x = none
  t : TRel E.P ρ (tauD (dn D) R τ0) a
  sz : a.tmps.size = sz
  df : a.defers = df
  cl : ∀ i, dn D i = true → ∀ k, bitOf bs i k = true → dn D k = true
  size : D.size = ops.length
/-- Two of a region, one behind the other. -/
theorem two_of {X Z : List Rec} {r k : Rec} (ho : drawOk ops bs ((X ++ r :: Z).map (·.i)) [] = true) :
    (k ∈ Z → bitOf bs r.i k.i = false ∧ k.i ≠ r.i ∧ ∃ ok, ops[k.i]? = some ok ∧ (bitOf bs k.i r.i = true ∨ ∃ x, ops[r.i]? = some x ∧ apartT ops x ok = true)) ∧
    (k ∈ X → k.i ≠ r.i ∧ ∃ o, ops[r.i]? = some o ∧ (isEff o = true → bitOf bs r.i k.i = true) ∧ (bitOf bs r.i k.i = true ∨ ∃ x, ops[k.i]? = some x ∧ apartT ops x o = true)) := by
  rw [List.map_append, List.map_cons] at ho
  obtain ⟨o, h1, h2, h3, h4, h5⟩ := drawOk_at ho
  refine ⟨fun hk => ?_, fun hk => ?_⟩
  · have hm : k.i ∈ Z.map (·.i) := List.mem_map_of_mem hk
    refine ⟨h2 _ (by simp only [List.mem_cons]; exact .inr hm), fun e => h5 (e ▸ hm), ?_⟩
    obtain ⟨Z1, Z2, hZ⟩ := List.append_of_mem hk
    rw [hZ] at ho
    have ho' : drawOk ops bs ((X.map (·.i) ++ r.i :: Z1.map (·.i)) ++ k.i :: Z2.map (·.i)) [] = true := by simpa using ho
    obtain ⟨ok, g1, _, _, g4, _⟩ := drawOk_at ho'
    exact ⟨ok, g1, g4 r.i (by simp)⟩
  · have hm : k.i ∈ X.map (·.i) := List.mem_map_of_mem hk
    refine ⟨?_, o, h1, fun he => h3 he _ (List.mem_append_left _ hm), h4 _ (List.mem_append_left _ hm)⟩
    obtain ⟨X1, X2, hX⟩ := List.append_of_mem hk
    rw [hX] at ho
    have ho' : drawOk ops bs (X1.map (·.i) ++ k.i :: (X2.map (·.i) ++ r.i :: Z.map (·.i))) [] = true := by simpa using ho
    obtain ⟨_, _, _, _, _, g5⟩ := drawOk_at ho'
    intro e
    exact g5 (by rw [e]; simp)
variable {D : Array Bool} {ρ : Ren} {H : Hp} {R1 R2 : List Rec} {pe1 : List Nat} {S1 : St} {past1 : List St} {a : Act} {w : World} {i : Nat}
/-- What may come up. -/
theorem Inv.rdy (hR : Reg E K Y ops bs R p S0 τ0) (h : Inv E K Y ops bs R p S0 B V ρ0 w0 τ0 sz df D ρ H R1 R2 pe1 S1 past1 a w) (hi : i ∈ Region.ready .any ops.toArray D) :
    i < D.size ∧ dn D i = false ∧ (∀ k, bitOf bs i k = true → dn D k = true) ∧ ∃ A r Z, R2 = A ++ r :: Z ∧ r.i = i := by
  obtain ⟨h1, o, ho, he⟩ := mem_ready.1 hi
  have h2 := not_yet h1
  have hlt : i < D.size := by
    have := (List.getElem?_eq_some_iff.1 h2).1
    simpa using this
  have hdn : dn D i = false := by
    rw [Array.getElem?_toList] at h2
    simp [dn, Array.getD_eq_getD_getElem?, h2]
  refine ⟨hlt, hdn, fun k hk => ?_, ?_⟩
  · have hb := bitsOk_at (i := i) (o := o) hR.bits (by simpa using ho)
    simp only [Nat.zero_add] at hb
    obtain ⟨_, e, h3, h4, h5⟩ := hb.2 k hk
    have h6 : dn D e.on = true := he e (by simpa using h3) h4
    rcases h5 with rfl | h5
    · exact h6
    · exact h.cl _ h6 _ h5
  · obtain ⟨r, hr, hri⟩ := hR.all i (by rw [← h.size]; exact hlt)
    rw [h.spl] at hr
    rcases List.mem_append.1 hr with hr | hr
    · have := h.c1 r hr
      rw [hri, hdn] at this; cases this
    · obtain ⟨A, Z, rfl⟩ := List.append_of_mem hr
      exact ⟨A, r, Z, rfl, hri⟩
end
end Go.Proofs.YtemldmjpanmdbaaGreatDoor.Ev
