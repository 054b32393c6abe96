/- Masks bit by bit; that who owns is alone stays so. No walk. -/
import Derived.Test.YtngfcnbcljcdfaaT3
namespace Go.Proofs.Ytngfcnbcljcdfaa
open Go.RowKit
set_option linter.unusedVariables false

theorem bit_or (a b i : Nat) : (a ||| b).testBit i = (a.testBit i || b.testBit i) := Nat.testBit_or a b i
theorem bit_sub (a b i : Nat) : (sub a b).testBit i = (a.testBit i && !b.testBit i) := by
  unfold sub
  rw [Nat.testBit_xor, Nat.testBit_and]
  cases a.testBit i <;> cases b.testBit i <;> rfl

theorem and_zero {a b : Nat} : a &&& b = 0 ↔ ∀ i, ¬ (a.testBit i = true ∧ b.testBit i = true) := by
  constructor
  · intro h i ⟨h1, h2⟩
    have := congrArg (fun x => x.testBit i) h
    simp [h1, h2] at this
  · intro h
    apply Nat.eq_of_testBit_eq
    intro i
    rw [Nat.testBit_and, Nat.zero_testBit]
    have := h i
    cases h1 : a.testBit i <;> cases h2 : b.testBit i <;> simp_all
theorem sub_zero {a b : Nat} : sub a b = 0 ↔ ∀ i, a.testBit i = true → b.testBit i = true := by
  constructor
  · intro h i h1
    have := congrArg (fun x => x.testBit i) h
    rw [bit_sub] at this
    simpa [h1] using this
  · intro h
    apply Nat.eq_of_testBit_eq
    intro i
    rw [bit_sub, Nat.zero_testBit]
    have := h i
    cases h1 : a.testBit i <;> cases h2 : b.testBit i <;> simp_all

theorem orr_bit (f : Nat → Nat) (c i : Nat) : ∀ k, (orr f c k).testBit i = true ↔ ∃ d, d < k ∧ d ≠ c ∧ (f d).testBit i = true
  | 0 => by simp [orr]
  | k + 1 => by
    have ih := orr_bit f c i k
    by_cases h : k = c
    · rw [orr_eq f h, ih]
      constructor
      · rintro ⟨d, h1, h2, h3⟩; exact ⟨d, by omega, h2, h3⟩
      · rintro ⟨d, h1, h2, h3⟩; exact ⟨d, by omega, h2, h3⟩
    · rw [orr_ne f h, bit_or, Bool.or_eq_true, ih]
      constructor
      · rintro (⟨d, h1, h2, h3⟩ | h3)
        · exact ⟨d, by omega, h2, h3⟩
        · exact ⟨k, by omega, h, h3⟩
      · rintro ⟨d, h1, h2, h3⟩
        by_cases e : d = k
        · subst e; exact .inr h3
        · exact .inl ⟨d, by omega, h2, h3⟩

/-- What a Grant finds free: bit by bit. -/
theorem grB_iff {T : Nat → Nat} {c p a b : Nat} : grB T c p a b = true ↔ (∀ d i, d < 4 → d ≠ c → (ow T d p).testBit i = true → ¬ (a.testBit i = true ∨ b.testBit i = true)) ∧ (∀ d i, d < 4 → d ≠ c → (cp T d p).testBit i = true → ¬ b.testBit i = true) := by
  unfold grB oo oc
  rw [Bool.and_eq_true, beq_iff_eq, beq_iff_eq, and_zero, and_zero]
  constructor
  · rintro ⟨h1, h2⟩
    refine ⟨fun d i hd hc ho hab => h1 i ⟨(orr_bit _ c i 4).2 ⟨d, hd, hc, ho⟩, by rw [bit_or]; simpa using hab⟩, fun d i hd hc ho hb => h2 i ⟨(orr_bit _ c i 4).2 ⟨d, hd, hc, ho⟩, hb⟩⟩
  · rintro ⟨h1, h2⟩
    refine ⟨fun i ⟨h3, h4⟩ => ?_, fun i ⟨h3, h4⟩ => ?_⟩
    · obtain ⟨d, hd, hc, ho⟩ := (orr_bit _ c i 4).1 h3
      exact h1 d i hd hc ho (by rw [bit_or] at h4; simpa using h4)
    · obtain ⟨d, hd, hc, ho⟩ := (orr_bit _ c i 4).1 h3
      exact h2 d i hd hc ho h4

theorem cp_put {T : Nat → Nat} {c p x y d q : Nat} (hp : p < 6) (hq : q < 6) : cp (put (put T (c * 12 + p * 2) x) (c * 12 + p * 2 + 1) y) d q = if d = c ∧ q = p then x else cp T d q := by
  unfold cp put
  by_cases h : d = c ∧ q = p
  · obtain ⟨rfl, rfl⟩ := h
    rw [if_neg (by omega), if_pos rfl, if_pos ⟨rfl, rfl⟩]
  · rw [if_neg (by omega), if_neg (by omega), if_neg h]
theorem ow_put {T : Nat → Nat} {c p x y d q : Nat} (hp : p < 6) (hq : q < 6) : ow (put (put T (c * 12 + p * 2) x) (c * 12 + p * 2 + 1) y) d q = if d = c ∧ q = p then y else ow T d q := by
  unfold ow put
  by_cases h : d = c ∧ q = p
  · obtain ⟨rfl, rfl⟩ := h
    rw [if_pos rfl, if_pos ⟨rfl, rfl⟩]
  · rw [if_neg (by omega), if_neg (by omega), if_neg h]
theorem cp_cl {T : Nat → Nat} {c d q : Nat} (hq : q < 6) : cp (clT T c) d q = if d = c then 0 else cp T d q := by
  unfold cp clT
  by_cases h : d = c
  · subst h; rw [if_pos (by omega), if_pos rfl]
  · rw [if_neg (by omega), if_neg h]
theorem ow_cl {T : Nat → Nat} {c d q : Nat} (hq : q < 6) : ow (clT T c) d q = if d = c then 0 else ow T d q := by
  unfold ow clT
  by_cases h : d = c
  · subst h; rw [if_pos (by omega), if_pos rfl]
  · rw [if_neg (by omega), if_neg h]

/-- Who owns an object has a copy of it, and nobody else has. -/
structure Sole (T : Nat → Nat) : Prop where
  own : ∀ c p i, c < 4 → p < 6 → (ow T c p).testBit i = true → (cp T c p).testBit i = true
  alone : ∀ c d p i, c < 4 → d < 4 → p < 6 → c ≠ d → (ow T c p).testBit i = true → ¬ (cp T d p).testBit i = true

theorem Sole.new : Sole (fun _ => 0) := ⟨fun c p i _ _ h => by simp [ow] at h, fun c d p i _ _ _ _ h => by simp [ow] at h⟩

theorem Sole.gr {T : Nat → Nat} (h : Sole T) {c p a b : Nat} (hc : c < 4) (hp : p < 6) (hg : grB T c p a b = true) : Sole (grT T c p a b) := by
  obtain ⟨g1, g2⟩ := grB_iff.1 hg
  constructor
  · intro d q i hd hq
    rw [grT, ow_put hp hq, cp_put hp hq]
    by_cases e : d = c ∧ q = p
    · rw [if_pos e, if_pos e, bit_or, bit_or, bit_or]
      intro h1
      have h2 := h.own c p i hc hp
      cases h3 : (ow T c p).testBit i <;> simp_all
    · rw [if_neg e, if_neg e]
      exact h.own d q i hd hq
  · intro d f q i hd hf hq hne
    rw [grT, ow_put hp hq, cp_put hp hq]
    by_cases e : d = c ∧ q = p
    · obtain ⟨rfl, rfl⟩ := e
      rw [if_pos ⟨rfl, rfl⟩, if_neg (by omega), bit_or]
      intro h1 h2
      rcases Bool.or_eq_true _ _ ▸ h1 with h1 | h1
      · exact h.alone d f q i hd hf hq hne h1 h2
      · exact g2 f i hf (by omega) h2 h1
    · rw [if_neg e]
      by_cases e2 : f = c ∧ q = p
      · obtain ⟨rfl, rfl⟩ := e2
        rw [if_pos ⟨rfl, rfl⟩, bit_or, bit_or]
        intro h1 h2
        have h3 := g1 d i hd hne h1
        have h4 := h.alone d f q i hd hf hq hne h1
        cases h5 : (cp T f q).testBit i <;> cases h6 : a.testBit i <;> cases h7 : b.testBit i <;> simp_all
      · rw [if_neg e2]
        exact h.alone d f q i hd hf hq hne

theorem Sole.dr {T : Nat → Nat} (h : Sole T) {c p a b : Nat} (hc : c < 4) (hp : p < 6) : Sole (drT T c p a b) := by
  constructor
  · intro d q i hd hq
    rw [drT, ow_put hp hq, cp_put hp hq]
    by_cases e : d = c ∧ q = p
    · rw [if_pos e, if_pos e, bit_sub, bit_sub, bit_or]
      intro h1
      have h2 := h.own c p i hc hp
      cases h3 : (ow T c p).testBit i <;> cases h4 : a.testBit i <;> cases h5 : b.testBit i <;> simp_all
    · rw [if_neg e, if_neg e]
      exact h.own d q i hd hq
  · intro d f q i hd hf hq hne
    rw [drT, ow_put hp hq, cp_put hp hq]
    intro h1 h2
    have h3 : (ow T d q).testBit i = true := by
      split at h1
      · rename_i e; obtain ⟨rfl, rfl⟩ := e
        rw [bit_sub] at h1
        cases h4 : (ow T d q).testBit i <;> simp_all
      · exact h1
    have h5 : (cp T f q).testBit i = true := by
      split at h2
      · rename_i e; obtain ⟨rfl, rfl⟩ := e
        rw [bit_sub] at h2
        cases h4 : (cp T f q).testBit i <;> simp_all
      · exact h2
    exact h.alone d f q i hd hf hq hne h3 h5

theorem Sole.cl {T : Nat → Nat} (h : Sole T) {c : Nat} : Sole (clT T c) := by
  constructor
  · intro d q i hd hq
    rw [ow_cl hq, cp_cl hq]
    split
    · simp
    · exact h.own d q i hd hq
  · intro d f q i hd hf hq hne
    rw [ow_cl hq, cp_cl hq]
    split
    · simp
    · split
      · simp
      · exact h.alone d f q i hd hf hq hne

theorem Sole.gT {T : Nat → Nat} (h : Sole T) (c p a b : Int) : Sole (gT T c p a b) := by
  unfold Ytngfcnbcljcdfaa.gT
  split
  · rename_i e
    unfold gOk at e
    rw [Bool.and_eq_true] at e
    obtain ⟨k, l, x, y, h1, h2, h3, h4, rfl, rfl, rfl, rfl⟩ := arg_yes e.1
    exact h.gr h1 h2 e.2
  · exact h
theorem Sole.dT {T : Nat → Nat} (h : Sole T) (c p a b : Int) : Sole (dT T c p a b) := by
  unfold Ytngfcnbcljcdfaa.dT
  split
  · rename_i e
    obtain ⟨k, l, x, y, h1, h2, h3, h4, rfl, rfl, rfl, rfl⟩ := arg_yes e
    exact h.dr h1 h2
  · exact h
theorem Sole.cT {T : Nat → Nat} (h : Sole T) (c : Int) : Sole (cT T c) := by
  unfold Ytngfcnbcljcdfaa.cT
  split
  · exact h.cl
  · exact h

theorem Sole.sub0 {T : Nat → Nat} (h : Sole T) {c p : Nat} (hc : c < 4) (hp : p < 6) : sub (ow T c p) (cp T c p) = 0 := sub_zero.2 fun i => h.own c p i hc hp
theorem Sole.and0 {T : Nat → Nat} (h : Sole T) {c d p : Nat} (hc : c < 4) (hd : d < 4) (hp : p < 6) (hne : c ≠ d) : ow T c p &&& cp T d p = 0 := and_zero.2 fun i hh => h.alone c d p i hc hd hp hne hh.1 hh.2

theorem cpI_nat {T : Nat → Nat} {c p : Nat} (hc : c < 4) (hp : p < 6) : cpI T c p = cp T c p := by simp [cpI, pl_nat hc hp]
theorem owI_nat {T : Nat → Nat} {c p : Nat} (hc : c < 4) (hp : p < 6) : owI T c p = ow T c p := by simp [owI, pl_nat hc hp]

end Go.Proofs.Ytngfcnbcljcdfaa
