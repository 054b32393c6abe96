import Derived.Test.YtemldmjpanmdbaaGreatDoorP8
set_option linter.unusedVariables false
namespace Go.Proofs.YtemldmjpanmdbaaGreatDoor.Ev
open Go.RowKit
section
variable {E : Env} {ρ ρ' : Ren} {B : Nat} {w w' : World} {S S' : St} {V : Hp}
theorem wrap_fit (k : IntKind) (n : Nat) (h : n < lim k) : k.wrap (n : Int) = n := by
  cases k <;> simp [IntKind.wrap, IntKind.bits, IntKind.signed, lim] at * <;> omega
theorem lim_bits (k : IntKind) : lim k ≤ 2 ^ k.bits := by cases k <;> decide
theorem fit_some {k : IntKind} {n : Nat} {v : Value} (h : fit k n = some v) : n < lim k ∧ v = .int k (n : Int) := by
  obtain ⟨h1, h2⟩ := cond_some.1 h
  cases h2
  exact ⟨blt_iff.1 h1, rfl⟩
theorem nn_some {β : Type} {v : Value} {f : IntKind → Nat → Option β} {b : β} (h : nn v f = some b) : ∃ (k : IntKind) (n : Nat), v = .int k (n : Int) ∧ f k n = some b := by
  match v, h with
  | .int k (.ofNat n), h => exact ⟨k, n, rfl, h⟩
theorem fast_two {a b v : Value} {g : IntKind → Nat → IntKind → Nat → Option Value} (h : (nn a fun k x => nn b fun k' y => g k x k' y) = some v) :
    ∃ (k : IntKind) (x : Nat) (k' : IntKind) (y : Nat), a = .int k (x : Int) ∧ b = .int k' (y : Int) ∧ g k x k' y = some v := by
  obtain ⟨k, x, h1, h⟩ := nn_some h
  obtain ⟨k', y, h2, h⟩ := nn_some (v := b) h
  exact ⟨k, x, k', y, h1, h2, h⟩
theorem kind_eq {k k' : IntKind} (h : (k == k') = true) : k = k' := by simpa using h
theorem ofInt_nat (n x : Nat) (h : x < 2 ^ n) : BitVec.ofInt n (x : Int) = BitVec.ofNat n x := BitVec.ofInt_natCast n x
theorem fast_spec {P : Program} {op : BinOp} {t : TypeId} {x y : Operand} {a b v : Value} (h : fast op a b = some v) : (do eqGuard op t x y a b; binOp op t a b).run P w = .ok v w ∧ ∃ u k n m, (v = .bool u ∨ v = .int k n) ∧ m = (0 : Nat) := by
  have fin : ∀ {v : Value}, ((∃ u, v = .bool u) ∨ ∃ k n, v = .int k n) → ∃ (u : Bool) (k : IntKind) (n : Int) (m : Nat), (v = .bool u ∨ v = .int k n) ∧ m = (0 : Nat) := by
    intro v h
    rcases h with ⟨u, h⟩ | ⟨k, n, h⟩
    · exact ⟨u, .i8, 0, 0, .inl h, rfl⟩
    · exact ⟨true, k, n, 0, .inr h, rfl⟩
  cases op with
  | add =>
    obtain ⟨k, x, k', y, rfl, rfl, h⟩ := fast_two (show (nn a fun k x => nn b fun k' y => cond (k == k') (fit k (Nat.add x y)) none) = some v from h)
    obtain ⟨h1, h2⟩ := cond_some.1 h
    have := kind_eq h1; subst this
    obtain ⟨h3, rfl⟩ := fit_some h2
    have e : ((x : Int) + y) = ((x + y : Nat) : Int) := by simp
    exact ⟨by simp [eqGuard_at_int, binOp_add, Op.intArith]; rw [e]; exact wrap_fit k _ h3, fin (.inr ⟨_, _, rfl⟩)⟩
  | sub =>
    obtain ⟨k, x, k', y, rfl, rfl, h⟩ := fast_two (show (nn a fun k x => nn b fun k' y => cond (k == k' && Nat.ble y x) (fit k (Nat.sub x y)) none) = some v from h)
    obtain ⟨h1, h2⟩ := cond_some.1 h
    simp only [Bool.and_eq_true] at h1
    have := kind_eq h1.1; subst this
    obtain ⟨h3, rfl⟩ := fit_some h2
    have h4 : y ≤ x := ble_iff.1 h1.2
    have e : ((x : Int) - y) = ((x - y : Nat) : Int) := by omega
    exact ⟨by simp [eqGuard_at_int, binOp_sub, Op.intArith]; rw [e]; exact wrap_fit k _ h3, fin (.inr ⟨_, _, rfl⟩)⟩
  | mul =>
    obtain ⟨k, x, k', y, rfl, rfl, h⟩ := fast_two (show (nn a fun k x => nn b fun k' y => cond (k == k') (fit k (Nat.mul x y)) none) = some v from h)
    obtain ⟨h1, h2⟩ := cond_some.1 h
    have := kind_eq h1; subst this
    obtain ⟨h3, rfl⟩ := fit_some h2
    have e : ((x : Int) * y) = ((x * y : Nat) : Int) := by simp
    exact ⟨by simp [eqGuard_at_int, binOp_mul, Op.intArith]; rw [e]; exact wrap_fit k _ h3, fin (.inr ⟨_, _, rfl⟩)⟩
  | quo =>
    obtain ⟨k, x, k', y, rfl, rfl, h⟩ := fast_two (show (nn a fun k x => nn b fun k' y => cond (k == k' && Nat.blt 0 y) (fit k (Nat.div x y)) none) = some v from h)
    obtain ⟨h1, h2⟩ := cond_some.1 h
    simp only [Bool.and_eq_true] at h1
    have := kind_eq h1.1; subst this
    obtain ⟨h3, rfl⟩ := fit_some h2
    have h4 : 0 < y := blt_iff.1 h1.2
    have h5 : ¬ (y = 0) := by omega
    have e : ((x : Int).tdiv y) = ((x / y : Nat) : Int) := by rw [Int.tdiv_eq_ediv_of_nonneg (by omega)]; simp
    exact ⟨by simp [eqGuard_at_int, binOp_quo, Op.intDiv, h5]; exact (wrap_fit k _ h3 : k.wrap ((x / y : Nat) : Int) = _), fin (.inr ⟨_, _, rfl⟩)⟩
  | rem =>
    obtain ⟨k, x, k', y, rfl, rfl, h⟩ := fast_two (show (nn a fun k x => nn b fun k' y => cond (k == k' && Nat.blt 0 y) (fit k (Nat.mod x y)) none) = some v from h)
    obtain ⟨h1, h2⟩ := cond_some.1 h
    simp only [Bool.and_eq_true] at h1
    have := kind_eq h1.1; subst this
    obtain ⟨h3, rfl⟩ := fit_some h2
    have h4 : 0 < y := blt_iff.1 h1.2
    have h5 : ¬ (y = 0) := by omega
    have e : ((x : Int).tmod y) = ((x % y : Nat) : Int) := by rw [Int.tmod_eq_emod_of_nonneg (by omega)]; simp
    exact ⟨by simp [eqGuard_at_int, binOp_rem, Op.intDiv, h5]; exact e, fin (.inr ⟨_, _, rfl⟩)⟩
  | and =>
    obtain ⟨k, x, k', y, rfl, rfl, h⟩ := fast_two (show (nn a fun k x => nn b fun k' y => cond (k == k' && Nat.blt x (lim k) && Nat.blt y (lim k)) (fit k (Nat.land x y)) none) = some v from h)
    obtain ⟨h1, h2⟩ := cond_some.1 h
    simp only [Bool.and_eq_true] at h1
    have := kind_eq h1.1.1; subst this
    obtain ⟨h3, rfl⟩ := fit_some h2
    have hx : x < 2 ^ k.bits := Nat.lt_of_lt_of_le (blt_iff.1 h1.1.2) (lim_bits k)
    have hy : y < 2 ^ k.bits := Nat.lt_of_lt_of_le (blt_iff.1 h1.2) (lim_bits k)
    exact ⟨by simp [eqGuard_at_int, binOp_and, Op.intBits, Nat.mod_eq_of_lt hx, Nat.mod_eq_of_lt hy]; exact wrap_fit k _ h3, fin (.inr ⟨_, _, rfl⟩)⟩
  | or =>
    obtain ⟨k, x, k', y, rfl, rfl, h⟩ := fast_two (show (nn a fun k x => nn b fun k' y => cond (k == k' && Nat.blt x (lim k) && Nat.blt y (lim k)) (fit k (Nat.lor x y)) none) = some v from h)
    obtain ⟨h1, h2⟩ := cond_some.1 h
    simp only [Bool.and_eq_true] at h1
    have := kind_eq h1.1.1; subst this
    obtain ⟨h3, rfl⟩ := fit_some h2
    have hx : x < 2 ^ k.bits := Nat.lt_of_lt_of_le (blt_iff.1 h1.1.2) (lim_bits k)
    have hy : y < 2 ^ k.bits := Nat.lt_of_lt_of_le (blt_iff.1 h1.2) (lim_bits k)
    exact ⟨by simp [eqGuard_at_int, binOp_or, Op.intBits, Nat.mod_eq_of_lt hx, Nat.mod_eq_of_lt hy]; exact wrap_fit k _ h3, fin (.inr ⟨_, _, rfl⟩)⟩
  | xor =>
    obtain ⟨k, x, k', y, rfl, rfl, h⟩ := fast_two (show (nn a fun k x => nn b fun k' y => cond (k == k' && Nat.blt x (lim k) && Nat.blt y (lim k)) (fit k (Nat.xor x y)) none) = some v from h)
    obtain ⟨h1, h2⟩ := cond_some.1 h
    simp only [Bool.and_eq_true] at h1
    have := kind_eq h1.1.1; subst this
    obtain ⟨h3, rfl⟩ := fit_some h2
    have hx : x < 2 ^ k.bits := Nat.lt_of_lt_of_le (blt_iff.1 h1.1.2) (lim_bits k)
    have hy : y < 2 ^ k.bits := Nat.lt_of_lt_of_le (blt_iff.1 h1.2) (lim_bits k)
    exact ⟨by simp [eqGuard_at_int, binOp_xor, Op.intBits, Nat.mod_eq_of_lt hx, Nat.mod_eq_of_lt hy]; exact wrap_fit k _ h3, fin (.inr ⟨_, _, rfl⟩)⟩
  | shl =>
    obtain ⟨k, x, k', y, rfl, rfl, h⟩ := fast_two (show (nn a fun k x => nn b fun k' y => cond (Nat.ble y k.bits) (fit k (Nat.shiftLeft x y)) none) = some v from h)
    obtain ⟨h1, h2⟩ := cond_some.1 h
    obtain ⟨h3, rfl⟩ := fit_some h2
    have h4 : y ≤ k.bits := ble_iff.1 h1
    have e : ((x : Int) * 2 ^ y) = ((x <<< y : Nat) : Int) := by rw [Nat.shiftLeft_eq]; simp
    have h6 : ¬ ((y : Int) < 0) := by omega
    exact ⟨by simp [eqGuard_at_int, binOp_shl, Op.shift, Nat.min_eq_left h4]; rw [e, if_neg h6]; exact congrArg (fun z => Result.ok (Value.int k z) w) (wrap_fit k _ h3), fin (.inr ⟨_, _, rfl⟩)⟩
  | shr =>
    obtain ⟨k, x, k', y, rfl, rfl, h⟩ := fast_two (show (nn a fun k x => nn b fun k' y => cond (Nat.ble y k.bits) (fit k (Nat.shiftRight x y)) none) = some v from h)
    obtain ⟨h1, h2⟩ := cond_some.1 h
    obtain ⟨h3, rfl⟩ := fit_some h2
    have h4 : y ≤ k.bits := ble_iff.1 h1
    have e : (x : Int).fdiv (2 ^ y) = ((x >>> y : Nat) : Int) := by
      rw [Nat.shiftRight_eq_div_pow, Int.fdiv_eq_ediv_of_nonneg _ (by exact Int.pow_nonneg (by decide))]; simp
    have h6 : ¬ ((y : Int) < 0) := by omega
    exact ⟨by simp [eqGuard_at_int, binOp_shr, Op.shift, Nat.min_eq_left h4]; rw [if_neg h6, e]; rfl, fin (.inr ⟨_, _, rfl⟩)⟩
  | eql =>
    obtain ⟨k, x, k', y, rfl, rfl, h⟩ := fast_two (show (nn a fun k x => nn b fun k' y => cond (k == k') (some (.bool (Nat.beq x y))) none) = some v from h)
    obtain ⟨h1, h2⟩ := cond_some.1 h
    have := kind_eq h1; subst this
    cases h2
    refine ⟨?_, fin (.inl ⟨_, rfl⟩)⟩
    simp [eqGuard_at_int, binOp_eql]
    by_cases hxy : x = y
    · subst hxy; simp
    · have : Nat.beq x y = false := by
        cases hb : Nat.beq x y
        · rfl
        · exact absurd (Nat.eq_of_beq_eq_true hb) hxy
      rw [this]
      have h5 : ¬ ((x : Int) = y) := by omega
      simp [h5]
  | neq =>
    obtain ⟨k, x, k', y, rfl, rfl, h⟩ := fast_two (show (nn a fun k x => nn b fun k' y => cond (k == k') (some (.bool (!(Nat.beq x y)))) none) = some v from h)
    obtain ⟨h1, h2⟩ := cond_some.1 h
    have := kind_eq h1; subst this
    cases h2
    refine ⟨?_, fin (.inl ⟨_, rfl⟩)⟩
    simp [eqGuard_at_int, binOp_neq]
    by_cases hxy : x = y
    · subst hxy; simp
    · have : Nat.beq x y = false := by
        cases hb : Nat.beq x y
        · rfl
        · exact absurd (Nat.eq_of_beq_eq_true hb) hxy
      rw [this]
      have h5 : ((x : Int) != y) = true := by simp; omega
      rw [h5]; rfl
  | lss =>
    obtain ⟨k, x, k', y, rfl, rfl, h⟩ := fast_two (show (nn a fun k x => nn b fun k' y => cond (k == k') (some (.bool (Nat.blt x y))) none) = some v from h)
    obtain ⟨h1, h2⟩ := cond_some.1 h
    have := kind_eq h1; subst this
    cases h2
    refine ⟨?_, fin (.inl ⟨_, rfl⟩)⟩
    simp [eqGuard_at_int, binOp_lss]
    by_cases hxy : x < y
    · rw [blt_iff.2 hxy]; simpa using hxy
    · rw [blt_false hxy]; simpa using hxy
  | leq =>
    obtain ⟨k, x, k', y, rfl, rfl, h⟩ := fast_two (show (nn a fun k x => nn b fun k' y => cond (k == k') (some (.bool (Nat.ble x y))) none) = some v from h)
    obtain ⟨h1, h2⟩ := cond_some.1 h
    have := kind_eq h1; subst this
    cases h2
    refine ⟨?_, fin (.inl ⟨_, rfl⟩)⟩
    simp [eqGuard_at_int, binOp_leq]
    by_cases hxy : x ≤ y
    · rw [ble_iff.2 hxy]; simpa using hxy
    · have : Nat.ble x y = false := by
        cases hb : Nat.ble x y
        · rfl
        · exact absurd (ble_iff.1 hb) hxy
      rw [this]; simpa using hxy
  | gtr =>
    obtain ⟨k, x, k', y, rfl, rfl, h⟩ := fast_two (show (nn a fun k x => nn b fun k' y => cond (k == k') (some (.bool (Nat.blt y x))) none) = some v from h)
    obtain ⟨h1, h2⟩ := cond_some.1 h
    have := kind_eq h1; subst this
    cases h2
    refine ⟨?_, fin (.inl ⟨_, rfl⟩)⟩
    simp [eqGuard_at_int, binOp_gtr]
    by_cases hxy : y < x
    · rw [blt_iff.2 hxy]; simpa using hxy
    · rw [blt_false hxy]; simpa using hxy
  | geq =>
    obtain ⟨k, x, k', y, rfl, rfl, h⟩ := fast_two (show (nn a fun k x => nn b fun k' y => cond (k == k') (some (.bool (Nat.ble y x))) none) = some v from h)
    obtain ⟨h1, h2⟩ := cond_some.1 h
    have := kind_eq h1; subst this
    cases h2
    refine ⟨?_, fin (.inl ⟨_, rfl⟩)⟩
    simp [eqGuard_at_int, binOp_geq]
    by_cases hxy : y ≤ x
    · rw [ble_iff.2 hxy]; simpa using hxy
    · have : Nat.ble y x = false := by
        cases hb : Nat.ble y x
        · rfl
        · exact absurd (ble_iff.1 hb) hxy
      rw [this]; simpa using hxy
  | andNot => cases h
end
end Go.Proofs.YtemldmjpanmdbaaGreatDoor.Ev
