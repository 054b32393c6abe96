/- Plain facts on numbers and their bytes. Nothing of the program is named here. -/
import Derived.WalkKit
namespace Go.Proofs.Ytgeoeaadeemmcaa

/-- The number of some bytes, the highest first. -/
def rdN (l : List Int) : Int := l.foldl (fun a b => a * 256 + b) 0

theorem rdN_snoc (l : List Int) (b : Int) : rdN (l ++ [b]) = rdN l * 256 + b := by simp [rdN]

theorem or_byte (r z : Int) (h0 : 0 ≤ r) (h1 : r < 72057594037927936) (h2 : 0 ≤ z) (h3 : z < 256) :
    bits BinOp.or IntKind.u64 (IntKind.u64.wrap (r * 256)) (IntKind.u64.wrap z) = r * 256 + z := by
  obtain ⟨R, rfl⟩ := Int.eq_ofNat_of_zero_le h0
  obtain ⟨Z, rfl⟩ := Int.eq_ofNat_of_zero_le h2
  have e1 : IntKind.u64.wrap ((R : Int) * 256) = ((R * 256 : Nat) : Int) := by rw [IntKind.wrap_u64]; omega
  have e2 : IntKind.u64.wrap (Z : Int) = ((Z : Nat) : Int) := by rw [IntKind.wrap_u64]; omega
  rw [e1, e2, bits_or_u64_nat _ _ (by omega) (by omega)]
  have h : R * 256 ||| Z = R * 256 + Z := by
    have := Nat.two_pow_add_eq_or_of_lt (i := 8) (b := Z) (by omega) R
    rw [show (2 ^ 8 : Nat) * R = R * 256 by omega] at this
    exact this.symm
  rw [h]
  omega

theorem fold_bd (l : List Int) : ∀ a : Int, 0 ≤ a → (∀ z ∈ l, 0 ≤ z ∧ z < 256) → 0 ≤ l.foldl (fun a b => a * 256 + b) a ∧ l.foldl (fun a b => a * 256 + b) a < (a + 1) * 256 ^ l.length := by
  induction l with
  | nil => intro a h _; simp; omega
  | cons b l ih =>
    intro a h hb
    have h2 := hb b (by simp)
    have h1 := ih (a * 256 + b) (by omega) (fun z hz => hb z (by simp [hz]))
    refine ⟨h1.1, Int.lt_of_lt_of_le h1.2 ?_⟩
    rw [List.length_cons, Int.pow_succ, Int.mul_comm (256 ^ l.length) 256, ← Int.mul_assoc]
    exact Int.mul_le_mul_of_nonneg_right (by omega) (Int.le_of_lt (Int.pow_pos (by omega)))

theorem rdN_bd (l : List Int) (hb : ∀ z ∈ l, 0 ≤ z ∧ z < 256) : 0 ≤ rdN l ∧ rdN l < 256 ^ l.length := by
  have := fold_bd l 0 (by omega) hb
  simpa [rdN] using this

theorem pow256_le (k n : Nat) (h : k ≤ n) : (256 : Int) ^ k ≤ 256 ^ n := by
  obtain ⟨d, rfl⟩ := Nat.exists_eq_add_of_le h
  rw [Int.pow_add]
  have h1 : (0 : Int) < 256 ^ k := Int.pow_pos (by omega)
  have h2 : (0 : Int) < 256 ^ d := Int.pow_pos (by omega)
  have := Int.mul_le_mul_of_nonneg_left (show (1 : Int) ≤ 256 ^ d by omega) (Int.le_of_lt h1)
  omega

/-- One byte more. -/
theorem rdN_step (zs : List Int) (k : Nat) (hk : k < zs.length) (h8 : zs.length ≤ 8) (hb : ∀ z ∈ zs, 0 ≤ z ∧ z < 256) :
    bits BinOp.or IntKind.u64 (IntKind.u64.wrap (rdN (zs.take k) * 256)) (IntKind.u64.wrap zs[k]) = rdN (zs.take (k + 1)) := by
  have h1 := rdN_bd (zs.take k) (fun z hz => hb z (List.mem_of_mem_take hz))
  have h2 := pow256_le (zs.take k).length 7 (by simp; omega)
  have h3 := hb zs[k] (List.getElem_mem hk)
  rw [or_byte _ _ h1.1 (by have : (256 : Int) ^ 7 = 72057594037927936 := by decide
                           omega) h3.1 h3.2, List.take_succ_eq_append_getElem hk, rdN_snoc]

/-- The bytes of a number, so many, the highest first. -/
def wrN : Nat → Int → List Int
  | 0, _ => []
  | s + 1, n => wrN s (n / 256) ++ [n % 256]

@[simp] theorem wrN_length (s : Nat) : ∀ n, (wrN s n).length = s := by
  induction s with
  | zero => intro n; rfl
  | succ s ih => intro n; simp [wrN, ih]

theorem wrN_bd (s : Nat) : ∀ n, ∀ z ∈ wrN s n, 0 ≤ z ∧ z < 256 := by
  induction s with
  | zero => intro n z h; simp [wrN] at h
  | succ s ih =>
    intro n z h
    rw [wrN, List.mem_append] at h
    rcases h with h | h
    · exact ih _ z h
    · simp at h; omega

/-- The byte at a place. -/
theorem wrN_at (s : Nat) : ∀ (n : Int) (i : Nat) (h : i < s), (wrN s n)[i]'(by simpa using h) = n / 256 ^ (s - 1 - i) % 256 := by
  induction s with
  | zero => intro n i h; omega
  | succ s ih =>
    intro n i h
    simp only [wrN]
    by_cases hi : i < s
    · rw [List.getElem_append_left (by simpa using hi), ih _ _ hi]
      rw [show s + 1 - 1 - i = (s - 1 - i) + 1 by omega, Int.pow_succ, Int.mul_comm, Int.ediv_ediv_of_nonneg (by omega)]
    · have : i = s := by omega
      subst this
      rw [List.getElem_append_right (by simp)]
      simp

theorem two_pow_8 (k : Nat) : (2 : Int) ^ (8 * k) = 256 ^ k := by rw [Int.pow_mul]; rfl

/-- One byte more. -/
theorem wrN_snoc (zs : List Int) (s k : Nat) (v : Int) (h : k < s) : zs ++ (wrN s v).take (k + 1) = zs ++ ((wrN s v).take k ++ [v / 2 ^ (8 * (s - 1 - k)) % 256]) := by
  rw [List.take_succ_eq_append_getElem (by simpa using h), wrN_at s v k h, two_pow_8]

/-- What was written is read. -/
theorem rdN_wrN (s : Nat) : ∀ n : Int, 0 ≤ n → n < 256 ^ s → rdN (wrN s n) = n := by
  induction s with
  | zero => intro n h0 h1; simp at h1; simp [wrN, rdN]; omega
  | succ s ih =>
    intro n h0 h1
    rw [Int.pow_succ] at h1
    rw [wrN, rdN_snoc, ih (n / 256) (by omega) (by omega)]
    omega

/-- What is read would be written. -/
theorem wrN_rdN (s : Nat) : ∀ l : List Int, l.length = s → (∀ z ∈ l, 0 ≤ z ∧ z < 256) → wrN s (rdN l) = l := by
  induction s with
  | zero => intro l h _; rw [List.eq_nil_of_length_eq_zero h]; rfl
  | succ s ih =>
    intro l h hb
    obtain ⟨l', b, rfl⟩ : ∃ l' b, l = l' ++ [b] := ⟨l.dropLast, l.getLast (by intro e; subst e; simp at h), (List.dropLast_concat_getLast _).symm⟩
    have h2 := hb b (by simp)
    have h3 := ih l' (by simpa using h) (fun z hz => hb z (by simp [hz]))
    rw [wrN, rdN_snoc, show (rdN l' * 256 + b) / 256 = rdN l' by omega, h3, show (rdN l' * 256 + b) % 256 = b by omega]

end Go.Proofs.Ytgeoeaadeemmcaa
