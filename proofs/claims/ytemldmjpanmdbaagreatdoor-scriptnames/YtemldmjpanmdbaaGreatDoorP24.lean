import Derived.Test.YtemldmjpanmdbaaGreatDoorP23
set_option linter.unusedVariables false
namespace Go.Proofs.YtemldmjpanmdbaaGreatDoor.Ev
section
variable {E : Env} {K : CallF} {Y : YieldF} {ops : List Oper} {bs : Array Nat}
theorem bit_far {i k : Nat} (h : Nat.shiftRight (bs.getD i 0) i = 0) (hk : i ≤ k) : bitOf bs i k = false := by
  have h0 : bs.getD i 0 < 2 ^ i := by
    have h : (bs.getD i 0) >>> i = 0 := h
    rw [Nat.shiftRight_eq_div_pow] at h
    rcases Nat.div_eq_zero_iff.1 h with h | h
    · have := Nat.two_pow_pos i; omega
    · exact h
  have h1 : (bs.getD i 0) >>> k = 0 := by
    rw [Nat.shiftRight_eq_div_pow]
    exact Nat.div_eq_of_lt (Nat.lt_of_lt_of_le h0 (Nat.pow_le_pow_right (by omega) hk))
  unfold bitOf
  have h1 : Nat.shiftRight (bs.getD i 0) k = 0 := h1
  rw [h1]
  rfl
theorem bitsOk_at : ∀ {l : List Oper} {n i : Nat} {o : Oper}, bitsOk bs n l = true → l[i]? = some o →
    (∀ e ∈ o.after.toList, Region.binds .any e = true → bitOf bs (n + i) e.on = true) ∧ (∀ k, bitOf bs (n + i) k = true → k < n + i ∧ ∃ e ∈ o.after.toList, Region.binds .any e = true ∧ (e.on = k ∨ bitOf bs e.on k = true))
  | [], n, i, o, _, h => by simp at h
  | x :: l, n, i, o, h, hi => by
    simp only [bitsOk, Bool.and_eq_true] at h
    cases i with
    | succ i =>
      have := bitsOk_at (i := i) (o := o) h.2 (by simpa using hi)
      simpa [Nat.add_assoc, Nat.add_comm 1 i] using this
    | zero =>
      simp at hi
      subst hi
      obtain ⟨⟨⟨h1, h2⟩, h3⟩, _⟩ := h
      simp only [List.all_eq_true, Bool.or_eq_true, Bool.not_eq_true', List.any_eq_true, Bool.and_eq_true] at h1 h2
      refine ⟨fun e he hb => ?_, fun k hk => ?_⟩
      · rcases h1 e he with h4 | h4
        · rw [hb] at h4; cases h4
        · exact h4
      · have hlt : k < n := by
          refine Classical.not_not.1 fun hn => ?_
          rw [Nat.add_zero, bit_far (Nat.eq_of_beq_eq_true h3) (by omega)] at hk
          cases hk
        refine ⟨hlt, ?_⟩
        rcases h2 k (by simpa using hlt) with h4 | ⟨e, he, hb, h4⟩
        · rw [Nat.add_zero, h4] at hk; cases hk
        · refine ⟨e, he, hb, ?_⟩
          rcases h4 with h4 | h4
          · exact .inl (Nat.eq_of_beq_eq_true h4)
          · exact .inr h4
/-- So many are not done yet. -/
def cnt : List Bool → Nat
  | [] => 0
  | b :: l => cond b (cnt l) (cnt l + 1)
theorem cnt_set : ∀ {l : List Bool} {i : Nat}, l[i]? = some false → cnt (l.set i true) + 1 = cnt l
  | [], i, h => by simp at h
  | b :: l, 0, h => by simp at h; subst h; rfl
  | b :: l, i + 1, h => by
    have := cnt_set (l := l) (i := i) (by simpa using h)
    cases b <;> simp only [List.set, cnt, cond_true, cond_false] <;> omega
theorem cnt_zero : ∀ {l : List Bool} {i : Nat}, cnt l = 0 → l[i]? ≠ some false
  | [], i, _ => by simp
  | b :: l, i, h => by
    cases b
    · simp [cnt] at h
    · cases i with
      | zero => simp
      | succ i => simpa using cnt_zero (l := l) (i := i) (by simpa [cnt] using h)
theorem not_yet {D : Array Bool} {i : Nat} (h : D.getD i true = false) : D.toList[i]? = some false := by
  rw [Array.getElem?_toList]
  cases hd : D[i]? with
  | none => simp [hd] at h
  | some b => simp [hd] at h; rw [h]
/-- Any order, by what holds of the set of those done. -/
theorem wpAny_of_inv {F : Fence} {n : Nat} {P : Program} {A : Array Oper} {Q : Exit → Act → World → Prop} {I : Array Bool → Act → World → Prop}
    (hsz : ∀ D a w, I D a w → D.size = A.size)
    (hstep : ∀ D a w i o, I D a w → i ∈ Region.ready .any A D → A[i]? = some o → opIn F n P A Q o (I (D.setIfInBounds i true)) a w)
    (hend : ∀ D a w, I D a w → Region.ready .any A D = [] → Q .normal a w) : ∀ (fuel : Nat) (D : Array Bool) (a : Act) (w : World), I D a w → cnt D.toList ≤ fuel → wpAnyIn F n P .any A Q fuel D a w
  | 0, D, a, w, hI, hc => by
    have hr : Region.ready .any A D = [] := by
      refine List.eq_nil_iff_forall_not_mem.2 fun j hj => ?_
      exact cnt_zero (l := D.toList) (i := j) (by omega) (not_yet (mem_ready.1 hj).1)
    exact ⟨hr, hend D a w hI hr⟩
  | fuel + 1, D, a, w, hI, hc => by
    refine ⟨hend D a w hI, fun i hi => ?_⟩
    obtain ⟨h1, o, ho, _⟩ := mem_ready.1 hi
    have h4 := not_yet h1
    have h5 : cnt (D.setIfInBounds i true).toList ≤ fuel := by
      have := cnt_set h4
      simp
      omega
    have hstep' := hstep D a w i o hI hi ho
    unfold Go.wpOpIn
    simp only [ho]
    have hmono : ∀ a w, I (D.setIfInBounds i true) a w → wpAnyIn F n P .any A Q fuel (D.setIfInBounds i true) a w := fun a' w' h => wpAny_of_inv hsz hstep hend fuel _ a' w' h h5
    unfold opIn at hstep'
    split
    · rename_i hw
      rw [if_pos hw] at hstep'
      exact Oper.wpIn_mono hmono hstep'
    · rename_i hw
      rw [if_neg hw] at hstep'
      exact ⟨hstep'.1, hmono _ _ hstep'.2⟩
end
end Go.Proofs.YtemldmjpanmdbaaGreatDoor.Ev
