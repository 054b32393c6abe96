/- What is free may be had: plain facts for TableGives. No walk. -/
import Derived.Test.YtngfcnbcljcdfaaCm
namespace Go.Proofs.Ytngfcnbcljcdfaa
open Go.RowKit
set_option linter.unusedVariables false

theorem bit15 (i : Nat) (h : i < 4) : (15 : Nat).testBit i = true := by
  match i, h with
  | 0, _ | 1, _ | 2, _ | 3, _ => rfl

theorem oo_lt {T : Nat → Nat} (hT : ∀ i, T i < 16) (c p : Nat) : oo T c p < 16 := orr_lt _ _ (fun d => hT _) _

theorem frI_nat {T : Nat → Nat} {c p : Nat} (hc : c < 4) (hp : p < 6) : frI T c p = sub 15 (oo T c p) := by simp [frI, pl_nat hc hp]

/-- What is free is granted. -/
theorem may_copy {T : Nat → Nat} (hT : ∀ i, T i < 16) {c p : Nat} (hc : c < 4) (hp : p < 6) : gOk T c p ((frI T c p : Nat) : Int) 0 = true := by
  have h1 : sub 15 (oo T c p) < 16 := lsub (by decide) (oo_lt hT c p)
  unfold gOk argB
  rw [frI_nat hc hp, pl_nat hc hp, ma_nat h1]
  simp only [Int.toNat_natCast, Bool.true_and]
  rw [show maB 0 = true from rfl, Bool.true_and]
  unfold grB
  rw [Bool.and_eq_true, beq_iff_eq, beq_iff_eq]
  refine ⟨?_, by simp⟩
  rw [and_zero]
  intro i hi
  rw [show (Int.toNat 0) = 0 from rfl, bit_or, bit_sub] at hi
  obtain ⟨h2, h3⟩ := hi
  rw [h2] at h3
  simp at h3

theorem hol_congr {T T' : Nat → Nat} {c p o : Nat} (h : ∀ d, d < 4 → d ≠ c → cp T' d p = cp T d p) : ∀ k, k ≤ 4 → hol T' c p o true k = hol T c p o true k
  | 0, _ => rfl
  | k + 1, hk => by
    have ih := hol_congr (o := o) h k (by omega)
    by_cases e : k = c
    · rw [hol_no (by simp [e]), hol_no (by simp [e]), ih]
    · have h1 : wm T' true k p = wm T true k p := by simp only [wm, if_true]; exact h k (by omega) e
      cases hb : (k != c && (wm T true k p).testBit o)
      · rw [hol_no hb, hol_no (by rw [h1]; exact hb), ih]
      · rw [hol_yes hb, hol_yes (by rw [h1]; exact hb), ih]

theorem hol_mem {T : Nat → Nat} {c p o : Nat} (x : Int) : ∀ k, x ∈ hol T c p o true k ↔ ∃ d, d < k ∧ d ≠ c ∧ (cp T d p).testBit o = true ∧ x = (d : Int)
  | 0 => by simp [hol]
  | k + 1 => by
    have ih := hol_mem (T := T) (c := c) (p := p) (o := o) x k
    cases hb : (k != c && (wm T true k p).testBit o)
    · rw [hol_no hb, ih]
      constructor
      · rintro ⟨d, h1, h2, h3, h4⟩; exact ⟨d, by omega, h2, h3, h4⟩
      · rintro ⟨d, h1, h2, h3, h4⟩
        refine ⟨d, ?_, h2, h3, h4⟩
        by_cases e : d = k
        · subst e
          simp only [wm, if_true, h3, Bool.and_true] at hb
          simp at hb
          exact absurd hb h2
        · omega
    · rw [hol_yes hb, List.mem_append, ih]
      simp only [Bool.and_eq_true, bne_iff_ne, wm, if_true] at hb
      constructor
      · rintro (⟨d, h1, h2, h3, h4⟩ | h)
        · exact ⟨d, by omega, h2, h3, h4⟩
        · simp at h; exact ⟨k, by omega, hb.1, hb.2, h⟩
      · rintro ⟨d, h1, h2, h3, h4⟩
        by_cases e : d = k
        · subst e; right; simp [h4]
        · left; exact ⟨d, by omega, h2, h3, h4⟩

/-- Who holds the object, and has not yet dropped it. -/
def Rem (T : Nat → Nat) (c p o : Nat) (L : List Int) : Prop := ∀ d, d < 4 → d ≠ c → (cp T d p).testBit o = true → ((d : Nat) : Int) ∈ L

theorem Rem.start {T T2 : Nat → Nat} {c p o : Nat} (h : ∀ d, d < 4 → d ≠ c → cp T2 d p = cp T d p) : Rem T2 c p o (hol T c p o true 4) := by
  intro d hd hc hb
  rw [h d hd hc] at hb
  exact (hol_mem _ 4).2 ⟨d, hd, hc, hb, rfl⟩

theorem arg_drop {d p o : Nat} (hd : d < 4) (hp : p < 6) (ho : o < 4) : argB d p ((2 : Int) ^ o) 0 = true := by
  unfold argB
  rw [pl_nat hd hp, cast_pow, ma_nat (pow16 ho)]
  rfl

theorem Rem.step {T : Nat → Nat} {c p o d0 : Nat} {L : List Int} (hd0 : d0 < 4) (hp : p < 6) (ho : o < 4) (h : Rem T c p o (((d0 : Nat) : Int) :: L)) : Rem (dT T d0 p ((2 : Int) ^ o) 0) c p o L := by
  intro d hd hc hb
  rw [dT, if_pos (arg_drop hd0 hp ho), cast_pow] at hb
  simp only [Int.toNat_natCast, drT] at hb
  rw [cp_put hp hp] at hb
  by_cases e : d = d0
  · subst e
    rw [if_pos ⟨rfl, rfl⟩, bit_sub, bit_pow] at hb
    simp at hb
  · rw [if_neg (by omega)] at hb
    have := h d hd hc hb
    rcases List.mem_cons.1 this with h1 | h1
    · omega
    · exact h1

theorem Rem.done {T : Nat → Nat} {c p o : Nat} (h : Rem T c p o []) : (hol T c p o true 4).length = 0 := by
  rw [hol_nil]
  intro d hd hc hb
  simp only [wm, if_true] at hb
  exact absurd (h d hd hc hb) (by simp)

/-- Behind the last grant it is owned. -/
theorem owns_now {T : Nat → Nat} {c p o : Nat} (hc : c < 4) (hp : p < 6) (hg : gOk T c p 0 ((2 : Int) ^ o) = true) : (owI (gT T c p 0 ((2 : Int) ^ o)) c p).testBit o = true := by
  rw [owI_nat hc hp, gT, if_pos hg, cast_pow]
  simp only [Int.toNat_natCast, grT]
  rw [ow_put hp hp, if_pos ⟨rfl, rfl⟩, bit_or, bit_pow]
  simp

theorem shr16 : ∀ v < 16, ∀ o < 4, v.testBit o = true → bits .and .i64 (((v : Nat) : Int) / (2 : Int) ^ o) 1 = 1 := by decide +kernel

end Go.Proofs.Ytngfcnbcljcdfaa
