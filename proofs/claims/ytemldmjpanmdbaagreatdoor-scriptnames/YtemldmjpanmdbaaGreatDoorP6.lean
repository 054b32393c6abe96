import Derived.Test.YtemldmjpanmdbaaGreatDoorP5
set_option linter.unusedVariables false
namespace Go.Proofs.YtemldmjpanmdbaaGreatDoor.Ev
open Go.RowKit
section
variable {E : Env} {ρ ρ' : Ren} {B : Nat} {w w' : World} {S S' : St} {V : Hp}
/-! ### Composite values -/
theorem fill_spec {P : Program} (place : Nat → Option (Nat × Nat)) : ∀ (l l' : List (Nat × Value)) (z z' cs : Array Value), PRL P ρ l l' → VRL P ρ z.toList z'.toList → (∀ x ∈ l, known x.2 = true) →
    Instr.fill place z l = some cs → ∃ cs', Instr.fill place z' l' = some cs' ∧ VRL P ρ cs.toList cs'.toList
  | [], l', z, z', cs, h, hz, _, hf => by cases h; cases hf; exact ⟨z', rfl, hz⟩
  | x :: l, l', z, z', cs, ⟨v', m, e, h1, h2⟩, hz, hn, hf => by
    subst e
    obtain ⟨i, v⟩ := x
    simp only [Instr.fill] at hf ⊢
    cases hp : place i with
    | none => rw [hp] at hf; cases hf
    | some os =>
      obtain ⟨off, size⟩ := os
      rw [hp] at hf
      simp only at hf ⊢
      have hv : VR P ρ v v' := h1
      have hnc : known v = true := hn (i, v) (by simp)
      have hcells : VRL P ρ v.cells.toList v'.cells.toList := by
        by_cases ha : ∃ cs, v = .agg cs
        · obtain ⟨cs, rfl⟩ := ha
          simp only [VR] at hv
          obtain ⟨cs', rfl, h⟩ := hv
          exact VRA_iff.1 h
        · have hc : v.cells = #[v] := by cases v <;> first | rfl | exact absurd ⟨_, rfl⟩ ha
          have hc' : v'.cells = #[v'] := by
            by_cases ht : ∃ cs, v = .tuple cs
            · obtain ⟨cs, rfl⟩ := ht
              simp only [VR] at hv
              obtain ⟨cs', rfl, _⟩ := hv
              rfl
            · have h3 : oneCell v = true := by cases v <;> first | rfl | exact absurd ⟨_, rfl⟩ ha | exact absurd ⟨_, rfl⟩ ht | exact hnc
              have h2 : v'.oneCell' = true := oneCell_VR h3 hv
              cases v' <;> first | rfl | cases h2
          rw [hc, hc']
          exact ⟨v', [], rfl, hv, rfl⟩
      have hlen : v'.cells.size = v.cells.size := by simpa using VRL_length hcells
      have hzl : z'.size = z.size := by simpa using VRL_length hz
      rw [hlen, hzl]
      split at hf
      · cases hf
      · rename_i hcond
        rw [if_neg hcond]
        refine fill_spec place l m _ _ cs h2 ?_ (fun x hx => hn x (by simp [hx])) hf
        refine VRL_of ?_ ?_
        · have hsz : ∀ (a : List (Value × Nat)) (y : Array Value), (a.foldl (fun cs x => cs.setIfInBounds (off + x.2) x.1) y).size = y.size := by
            intro a
            induction a with
            | nil => intro y; rfl
            | cons b a ih => intro y; simp only [List.foldl_cons]; rw [ih]; simp
          simp only [Array.length_toList, ← Array.foldl_toList]
          rw [hsz, hsz, hzl]
        · have key : ∀ (a a' : List (Value × Nat)) (y y' : Array Value), a'.length = a.length → (∀ (k : Nat) u u', a[k]? = some u → a'[k]? = some u' → u'.2 = u.2 ∧ VR P ρ u.1 u'.1) → y'.size = y.size →
              (∀ (k : Nat) u u', y[k]? = some u → y'[k]? = some u' → VR P ρ u u') →
              ∀ (k : Nat) u u', (a.foldl (fun cs x => cs.setIfInBounds (off + x.2) x.1) y)[k]? = some u → (a'.foldl (fun cs x => cs.setIfInBounds (off + x.2) x.1) y')[k]? = some u' → VR P ρ u u' := by
            intro a
            induction a with
            | nil =>
              intro a' y y' hl _ _ hy k u u' hu hu'
              have : a' = [] := by simpa using hl
              subst this
              exact hy k u u' hu hu'
            | cons b a ih =>
              intro a' y y' hl hab hs hy
              cases a' with
              | nil => simp at hl
              | cons b' a' =>
                simp only [List.foldl_cons]
                obtain ⟨e1, e2⟩ := hab 0 b b' rfl rfl
                refine ih a' _ _ (by simpa using hl) (fun k u u' hu hu' => hab (k + 1) u u' (by simpa using hu) (by simpa using hu')) (by simp [hs]) ?_
                intro k u u' hu hu'
                rw [Array.getElem?_setIfInBounds] at hu hu'
                rw [e1] at hu'
                by_cases hk : off + b.2 = k
                · rw [if_pos hk] at hu hu'
                  split at hu
                  · cases hu
                    split at hu'
                    · cases hu'; exact e2
                    · cases hu'
                  · cases hu
                · rw [if_neg hk] at hu hu'
                  exact hy k u u' hu hu'
          intro k u u' hu hu'
          simp only [Array.getElem?_toList, ← Array.foldl_toList] at hu hu'
          refine key _ _ z z' ?_ ?_ hzl ?_ k u u' hu hu'
          · simp [hlen]
          · intro j a a' ha ha'
            simp only [Array.getElem?_toList, Array.getElem?_zipIdx] at ha ha'
            cases hv1 : v.cells[j]? with
            | none => rw [hv1] at ha; simp at ha
            | some c1 =>
              cases hv2 : v'.cells[j]? with
              | none => rw [hv2] at ha'; simp at ha'
              | some c2 =>
                rw [hv1] at ha; rw [hv2] at ha'
                simp at ha ha'
                subst ha; subst ha'
                obtain ⟨c3, g1, g2⟩ := VRL_get hcells j c1 (by simpa using hv1)
                rw [Array.getElem?_toList, hv2] at g1
                cases g1
                exact ⟨rfl, g2⟩
          · intro k u u' hu hu'
            obtain ⟨c3, g1, g2⟩ := VRL_get hz k u (by simpa using hu)
            rw [Array.getElem?_toList, hu'] at g1
            cases g1; exact g2
end
end Go.Proofs.YtemldmjpanmdbaaGreatDoor.Ev
