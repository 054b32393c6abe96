/- Plain facts on the words of float64: which are no numbers, their signs, their order. No program is named here. Conditions: those that each theorem names. What the leaves of package cnum do, walked: the number of bits, the bits of a number, whether a part is a number. Conditions: none but those that each theorem names. What the functions of package cnum and of its document's answer do, walked: each returns what a plain function of the words says, and changes nothing. Conditions: those that each theorem names. -/
import Derived.WalkKit
import Derived.WalkLawsBesides
import Derived.Test.YtemldmjpanmdbaaGreatDoorChecked
import Derived.KernelRfl
namespace Go.Proofs.YtemldmjpanmdbaaGreatDoor

/-- Is the word no number? -/
def nanB (b : Nat) : Bool := FloatKind.f64.format.order b b != some .eq

/-- The one form of a word. -/
def formN (b : Nat) : Nat := if nanB b then 9221120237041090561 else b

/-- Where a word without its sign stands. -/
def rung (b : Nat) : Nat := b % 9223372036854775808

/-- The sign of a word. -/
def sgn (b : Nat) : Bool := b / 9223372036854775808 % 2 == 1

/-- How great the number at a rung is, in units of the least. -/
def val (r : Nat) : Nat := if r < 4503599627370496 then r else (4503599627370496 + r % 4503599627370496) * 2 ^ (r / 4503599627370496 - 1)

theorem read_eq (b : Nat) : FloatKind.f64.format.read b =
    if rung b < 4503599627370496 then .number (sgn b) (rung b) (-1074)
    else if rung b < 9218868437227405312 then .number (sgn b) (4503599627370496 + rung b % 4503599627370496) (-1074 + (rung b / 4503599627370496 - 1 : Nat))
    else if rung b = 9218868437227405312 then .infinity (sgn b)
    else .nan (sgn b) (rung b - 9218868437227405312) := by
  rfl

theorem order_self_number (s : Bool) (m : Nat) (i : Int) : Ieee.Datum.order (.number s m i) (.number s m i) = some .eq := by
  simp [Ieee.Datum.order]

theorem nanB_eq (b : Nat) : nanB b = decide (9218868437227405312 < rung b) := by
  unfold nanB Ieee.Format.order
  rw [read_eq]
  split
  · rw [order_self_number]; simp; omega
  · split
    · rw [order_self_number]; simp; omega
    · split
      · rename_i h; rw [h]; cases sgn b <;> rfl
      · have hr : 9218868437227405312 < rung b := by omega
        rw [show Ieee.Datum.order (.nan (sgn b) (rung b - 9218868437227405312)) (.nan (sgn b) (rung b - 9218868437227405312)) = none from rfl]
        simp [hr]

theorem negFloat_eq (b : Nat) (hb : b < 18446744073709551616) : Op.negFloat .f64 b = if b < 9223372036854775808 then b + 9223372036854775808 else b - 9223372036854775808 := by
  show b ^^^ 9223372036854775808 = _
  have e : b = 9223372036854775808 * (b / 9223372036854775808) + b % 9223372036854775808 := (Nat.div_add_mod _ _).symm
  have hm : b % 9223372036854775808 < 2 ^ 63 := Nat.mod_lt _ (by decide)
  have hx : ∀ q : Nat, (2 ^ 63 * q + b % 9223372036854775808) ^^^ (2 ^ 63 * 1 + 0) = 2 ^ 63 * (q ^^^ 1) + (b % 9223372036854775808 ^^^ 0) := by
    intro q
    apply Nat.eq_of_testBit_eq
    intro i
    rw [Nat.testBit_xor, Nat.testBit_two_pow_mul_add _ hm, Nat.testBit_two_pow_mul_add _ (by decide : 0 < 2 ^ 63), Nat.testBit_two_pow_mul_add _ (by simpa using hm)]
    split <;> simp
  have := hx (b / 9223372036854775808)
  simp only [Nat.mul_one, Nat.add_zero, Nat.xor_zero, Nat.reducePow] at this
  rw [← e] at this
  rw [this]
  split
  · have q : b / 9223372036854775808 = 0 := by omega
    rw [q]; show 9223372036854775808 * 1 + _ = _; omega
  · have q : b / 9223372036854775808 = 1 := by omega
    rw [q]; show 9223372036854775808 * 0 + _ = _; omega

theorem neg_lt (b : Nat) (hb : b < 18446744073709551616) : Op.negFloat .f64 b < 18446744073709551616 := by
  rw [negFloat_eq b hb]; split <;> omega

theorem neg_neg (b : Nat) (hb : b < 18446744073709551616) : Op.negFloat .f64 (Op.negFloat .f64 b) = b := by
  rw [negFloat_eq _ (neg_lt b hb), negFloat_eq b hb]; split <;> split <;> omega

theorem rung_neg (b : Nat) (hb : b < 18446744073709551616) : rung (Op.negFloat .f64 b) = rung b := by
  rw [negFloat_eq b hb]; unfold rung; split <;> omega

theorem nanB_neg (b : Nat) (hb : b < 18446744073709551616) : nanB (Op.negFloat .f64 b) = nanB b := by
  rw [nanB_eq, nanB_eq, rung_neg b hb]

theorem formN_lt (b : Nat) (hb : b < 18446744073709551616) : formN b < 18446744073709551616 := by
  unfold formN; split <;> omega

theorem formN_neg_congr (a b : Nat) (ha : a < 18446744073709551616) (hb : b < 18446744073709551616) (h : formN a = formN b) : formN (Op.negFloat .f64 a) = formN (Op.negFloat .f64 b) := by
  unfold formN at *
  rw [nanB_neg a ha, nanB_neg b hb]
  have na := nanB_eq a
  have nb := nanB_eq b
  unfold rung at na nb
  cases h1 : nanB a <;> cases h2 : nanB b <;> simp [h1, h2] at h na nb ⊢
  · rw [h]
  · omega
  · omega

theorem and_exp (a : Nat) (ha : a < 18446744073709551616) : bits .and .u64 ((a : Int) / 4503599627370496) 2047 = ((a / 4503599627370496 % 2048 : Nat) : Int) := by
  have e : ((a : Int) / 4503599627370496) = ((a / 4503599627370496 : Nat) : Int) := by simp
  rw [e]
  go_bits2

theorem and_frac (a : Nat) (ha : a < 18446744073709551616) : bits .and .u64 (a : Int) 4503599627370495 = ((a % 4503599627370496 : Nat) : Int) := by
  go_bits2

theorem and_sign (a : Nat) (ha : a < 18446744073709551616) : bits .and .u64 (a : Int) 9223372036854775808 = if a < 9223372036854775808 then 0 else 9223372036854775808 := by
  go_bits2

theorem or_sign (a : Nat) (ha : a < 18446744073709551616) : bits .or .u64 (a : Int) 9223372036854775808 = if a < 9223372036854775808 then (a : Int) + 9223372036854775808 else a := by
  have e := u64_or_nat a 9223372036854775808 ha (by decide)
  rw [show ((9223372036854775808 : Nat) : Int) = 9223372036854775808 from rfl] at e
  rw [e]
  split
  · rw [nat_join63' 9223372036854775808 a (by decide) (by omega)]; omega
  · have hr := nat_join63 9223372036854775808 (a - 9223372036854775808) (by decide) (by omega)
    have ea : a = 9223372036854775808 ||| (a - 9223372036854775808) := by omega
    have e2 : a ||| 9223372036854775808 = a := by
      rw [Nat.or_comm]
      conv => lhs; rw [ea]
      rw [← Nat.or_assoc, Nat.or_self]; exact ea.symm
    rw [e2]

theorem not_all (a : Nat) (ha : a < 18446744073709551616) : bits .xor .u64 IntKind.u64.max (a : Int) = 18446744073709551615 - (a : Int) := by
  show IntKind.u64.wrap ((BitVec.ofInt 64 (18446744073709551615 : Int) ^^^ BitVec.ofInt 64 (a : Int)).toNat : Int) = _
  have h1 : BitVec.ofInt 64 (18446744073709551615 : Int) = BitVec.allOnes 64 := by decide
  rw [h1, BitVec.allOnes_xor, BitVec.toNat_not, ofInt_u64 a (by omega), IntKind.wrap_u64]
  omega

theorem andNot_sign (a : Nat) (ha : a < 18446744073709551616) : bits .andNot .u64 (a : Int) 9223372036854775808 = ((a % 9223372036854775808 : Nat) : Int) := by
  go_bits2

/-- The number at a word, in units of the least. -/
def ival (b : Nat) : Int := if sgn b then -(val (rung b) : Int) else (val (rung b) : Int)

theorem val_lo (r : Nat) (h : 4503599627370496 ≤ r) : 4503599627370496 * 2 ^ (r / 4503599627370496 - 1) ≤ val r := by
  unfold val; rw [if_neg (by omega)]; exact Nat.mul_le_mul_right _ (by omega)

theorem val_hi (r : Nat) (h : 4503599627370496 ≤ r) : val r < 4503599627370496 * 2 ^ (r / 4503599627370496) := by
  unfold val; rw [if_neg (by omega)]
  have e : r / 4503599627370496 = (r / 4503599627370496 - 1) + 1 := by omega
  have hm : r % 4503599627370496 < 4503599627370496 := Nat.mod_lt _ (by decide)
  have hp : 0 < 2 ^ (r / 4503599627370496 - 1) := Nat.two_pow_pos _
  have e2 : 4503599627370496 * 2 ^ (r / 4503599627370496) = (4503599627370496 * 2) * 2 ^ (r / 4503599627370496 - 1) := by
    conv => lhs; rw [e, Nat.pow_succ]
    rw [Nat.mul_assoc, Nat.mul_comm (2 ^ _) 2]
  rw [e2]
  exact Nat.mul_lt_mul_of_pos_right (by omega) hp

theorem val_mono {r s : Nat} (h : r < s) : val r < val s := by
  by_cases hr : r < 4503599627370496
  · have er : val r = r := by unfold val; rw [if_pos hr]
    by_cases hs : s < 4503599627370496
    · have es : val s = s := by unfold val; rw [if_pos hs]
      omega
    · have := val_lo s (by omega)
      have hp : 1 ≤ 2 ^ (s / 4503599627370496 - 1) := Nat.two_pow_pos _
      have := Nat.mul_le_mul_left 4503599627370496 hp
      omega
  · by_cases hq : r / 4503599627370496 = s / 4503599627370496
    · unfold val
      rw [if_neg hr, if_neg (by omega), hq]
      exact Nat.mul_lt_mul_of_pos_right (by omega) (Nat.two_pow_pos _)
    · have h1 := val_hi r (by omega)
      have h2 := val_lo s (by omega)
      have h3 : 2 ^ (r / 4503599627370496) ≤ 2 ^ (s / 4503599627370496 - 1) := Nat.pow_le_pow_right (by decide) (by have := Nat.div_le_div_right (c := 4503599627370496) (Nat.le_of_lt h); omega)
      have h4 := Nat.mul_le_mul_left 4503599627370496 h3
      omega

theorem val_lt_iff (r s : Nat) : val r < val s ↔ r < s := by
  constructor
  · intro h
    by_cases h1 : r < s
    · exact h1
    · by_cases h2 : r = s
      · subst h2; omega
      · have := val_mono (r := s) (s := r) (by omega); omega
  · exact val_mono

theorem val_zero : val 0 = 0 := rfl

theorem val_pos {r : Nat} (h : 0 < r) : 0 < val r := by
  have := val_mono h; rw [val_zero] at this; exact this

theorem cmp_scale (a b : Int) (k : Nat) : compare (a * ((2 ^ k : Nat) : Int)) (b * ((2 ^ k : Nat) : Int)) = compare a b := by
  have hp : (0 : Int) < ((2 ^ k : Nat) : Int) := by have := Nat.two_pow_pos k; omega
  simp only [compare, compareOfLessAndEq]
  have h1 : a * ((2 ^ k : Nat) : Int) < b * ((2 ^ k : Nat) : Int) ↔ a < b := Int.mul_lt_mul_right hp
  have h2 : a * ((2 ^ k : Nat) : Int) = b * ((2 ^ k : Nat) : Int) ↔ a = b := ⟨fun h => Int.eq_of_mul_eq_mul_right (by omega) h, fun h => by rw [h]⟩
  simp only [h1, h2]

theorem signed_scale (s : Bool) (m up k : Nat) : Ieee.signed s m up * ((2 ^ k : Nat) : Int) = if s then -((m * 2 ^ (up + k) : Nat) : Int) else ((m * 2 ^ (up + k) : Nat) : Int) := by
  unfold Ieee.signed
  rw [Nat.shiftLeft_eq, Nat.pow_add]
  cases s
  · simp [Int.natCast_mul, Int.mul_assoc]
  · simp [Int.natCast_mul, Int.mul_assoc, Int.neg_mul]

theorem order_numbers (s t : Bool) (m n p q : Nat) : Ieee.Datum.order (.number s m (-1074 + (p : Int))) (.number t n (-1074 + (q : Int))) =
    some (compare (if s then -((m * 2 ^ p : Nat) : Int) else ((m * 2 ^ p : Nat) : Int)) (if t then -((n * 2 ^ q : Nat) : Int) else ((n * 2 ^ q : Nat) : Int))) := by
  have e1 : (-1074 + (p : Int) - min (-1074 + (p : Int)) (-1074 + (q : Int))).toNat + min p q = p := by omega
  have e2 : (-1074 + (q : Int) - min (-1074 + (p : Int)) (-1074 + (q : Int))).toNat + min p q = q := by omega
  have h1 := signed_scale s m (-1074 + (p : Int) - min (-1074 + (p : Int)) (-1074 + (q : Int))).toNat (min p q)
  have h2 := signed_scale t n (-1074 + (q : Int) - min (-1074 + (p : Int)) (-1074 + (q : Int))).toNat (min p q)
  rw [e1] at h1
  rw [e2] at h2
  show some (compare (Ieee.signed s m (-1074 + (p : Int) - min (-1074 + (p : Int)) (-1074 + (q : Int))).toNat) (Ieee.signed t n (-1074 + (q : Int) - min (-1074 + (p : Int)) (-1074 + (q : Int))).toNat)) = _
  rw [← cmp_scale _ _ (min p q), h1, h2]

theorem read_fin (b : Nat) (h : rung b < 9218868437227405312) : ∃ m p : Nat, FloatKind.f64.format.read b = .number (sgn b) m (-1074 + (p : Int)) ∧ m * 2 ^ p = val (rung b) := by
  rw [read_eq]
  by_cases h1 : rung b < 4503599627370496
  · refine ⟨rung b, 0, ?_, ?_⟩
    · rw [if_pos h1]; rfl
    · unfold val; rw [if_pos h1]; omega
  · refine ⟨4503599627370496 + rung b % 4503599627370496, rung b / 4503599627370496 - 1, ?_, ?_⟩
    · rw [if_neg h1, if_pos h]
    · unfold val; rw [if_neg h1]

theorem read_inf (b : Nat) (h : rung b = 9218868437227405312) : FloatKind.f64.format.read b = .infinity (sgn b) := by
  rw [read_eq, if_neg (by omega), if_neg (by omega), if_pos h]

theorem compare_lt_int {a b : Int} (h : a < b) : compare a b = .lt := by
  simp only [compare, compareOfLessAndEq, if_pos h]

theorem compare_gt_int {a b : Int} (h : b < a) : compare a b = .gt := by
  simp only [compare, compareOfLessAndEq]
  rw [if_neg (by omega), if_neg (by omega)]

theorem order_words (x y : Nat) (hx : rung x ≤ 9218868437227405312) (hy : rung y ≤ 9218868437227405312) : FloatKind.f64.format.order x y = some (compare (ival x) (ival y)) := by
  unfold Ieee.Format.order ival
  by_cases fx : rung x < 9218868437227405312
  · obtain ⟨m, p, ex, vx⟩ := read_fin x fx
    by_cases fy : rung y < 9218868437227405312
    · obtain ⟨n, q, ey, vy⟩ := read_fin y fy
      rw [ex, ey, order_numbers, vx, vy]
    · have iy : rung y = 9218868437227405312 := by omega
      have hv := val_mono fx
      rw [ex, read_inf y iy, iy]
      show some (if sgn y then Ordering.gt else Ordering.lt) = _
      cases sgn y
      · rw [compare_lt_int]; rfl
        cases sgn x <;> simp <;> omega
      · rw [compare_gt_int]; rfl
        cases sgn x <;> simp <;> omega
  · have ix : rung x = 9218868437227405312 := by omega
    by_cases fy : rung y < 9218868437227405312
    · obtain ⟨n, q, ey, vy⟩ := read_fin y fy
      have hv := val_mono fy
      rw [ey, read_inf x ix, ix]
      show some (if sgn x then Ordering.lt else Ordering.gt) = _
      cases sgn x
      · rw [compare_gt_int]; rfl
        cases sgn y <;> simp <;> omega
      · rw [compare_lt_int]; rfl
        cases sgn y <;> simp <;> omega
    · have iy : rung y = 9218868437227405312 := by omega
      have hv : 0 < val 9218868437227405312 := val_pos (by decide)
      rw [read_inf x ix, read_inf y iy, ix, iy]
      show some (compare (sgn y).toNat (sgn x).toNat) = _
      generalize val 9218868437227405312 = v at hv
      cases sgn x <;> cases sgn y
      · simp [compare, compareOfLessAndEq]
      · rw [compare_gt_int]; rfl
        simp; omega
      · rw [compare_lt_int]; rfl
        simp; omega
      · simp [compare, compareOfLessAndEq]

/-- A form's place in the order. -/
def rkN (x : Nat) : Nat := if x < 9223372036854775808 then x + 9223372036854775808 else 18446744073709551615 - x

/-- A word's place in the order, as the program reckons it. -/
def rankI (a : Nat) : Int :=
  if (bits .and .u64 (formN a : Int) 9223372036854775808 != 0) = true then bits .xor .u64 IntKind.u64.max (formN a : Int)
  else bits .or .u64 (formN a : Int) 9223372036854775808

theorem rankI_eq (a : Nat) (ha : a < 18446744073709551616) : rankI a = (rkN (formN a) : Int) := by
  have hf := formN_lt a ha
  unfold rankI rkN
  rw [and_sign _ hf, or_sign _ hf, not_all _ hf]
  by_cases h : formN a < 9223372036854775808
  · simp only [if_pos h]; simp
  · simp only [if_neg h]; simp; omega

theorem rkN_inj (x y : Nat) (hx : x < 18446744073709551616) (hy : y < 18446744073709551616) (h : rkN x = rkN y) : x = y := by
  unfold rkN at h; split at h <;> split at h <;> omega

/-- What the document's answer asks of a word's bits: it is no number. -/
theorem form_nan (a : Nat) (ha : a < 18446744073709551616) (h1 : bits .and .u64 ((a : Int) / 4503599627370496) 2047 = 2047) (h2 : (bits .and .u64 (a : Int) 4503599627370495 != 0) = true) : 9221120237041090561 = (formN a : Int) := by
  rw [and_exp a ha] at h1
  rw [and_frac a ha] at h2
  have h3 : a % 4503599627370496 ≠ 0 := by simp at h2; omega
  have n : nanB a = true := by rw [nanB_eq]; unfold rung; simp; omega
  unfold formN; rw [if_pos n]; rfl

theorem form_frac (a : Nat) (ha : a < 18446744073709551616) (h2 : (bits .and .u64 (a : Int) 4503599627370495 != 0) = false) : (a : Int) = (formN a : Int) := by
  rw [and_frac a ha] at h2
  have h3 : a % 4503599627370496 = 0 := by simp at h2; omega
  have n : nanB a = false := by rw [nanB_eq]; unfold rung; simp; omega
  unfold formN; rw [n]; rfl

theorem form_exp (a : Nat) (ha : a < 18446744073709551616) (h1 : ¬ bits .and .u64 ((a : Int) / 4503599627370496) 2047 = 2047) : (a : Int) = (formN a : Int) := by
  rw [and_exp a ha] at h1
  have n : nanB a = false := by rw [nanB_eq]; unfold rung; simp; omega
  unfold formN; rw [n]; rfl

/-- A word without its sign, as the program reckons it. -/
def absN (a : Nat) : Nat := (bits .andNot .u64 (a : Int) 9223372036854775808).toNat

/-- Is the word an infinity, as the program asks it? -/
def infB (a : Nat) : Bool := FloatKind.f64.format.order (absN a) 9218868437227405311 == some .gt

/-- Is the word a number, and no infinity? -/
def finB (a : Nat) : Bool := !nanB a && !infB a

theorem cmp_gt (a b : Int) : (some (compare a b) == some Ordering.gt) = decide (b < a) := by
  by_cases h : b < a
  · rw [compare_gt_int h]; simp [h]
  · have hc : compare a b ≠ .gt := by
      simp only [compare, compareOfLessAndEq]
      split
      · simp
      · rw [if_pos (by omega)]; simp
    simp [h, hc]

theorem cmp_lt (a b : Int) : (some (compare a b) == some Ordering.lt) = decide (a < b) := by
  by_cases h : a < b
  · rw [compare_lt_int h]; simp [h]
  · have hc : compare a b ≠ .lt := by
      simp only [compare, compareOfLessAndEq]
      rw [if_neg h]
      split <;> simp
    simp [h, hc]

theorem cmp_eq (a b : Int) : (some (compare a b) == some Ordering.eq) = decide (a = b) := by
  by_cases h : a = b
  · simp [compare, compareOfLessAndEq, h]
  · have hc : compare a b ≠ .eq := by
      simp only [compare, compareOfLessAndEq]
      rw [if_neg h]
      split <;> simp
    simp [h, hc]

theorem ival_pos (b : Nat) (h : b < 9223372036854775808) : ival b = (val b : Int) := by
  have hr : rung b = b := by unfold rung; omega
  have hs : sgn b = false := by unfold sgn; simp; omega
  unfold ival; rw [hs, hr]; rfl

theorem infB_eq (a : Nat) (ha : a < 18446744073709551616) (h : rung a ≤ 9218868437227405312) : infB a = decide (9218868437227405311 < rung a) := by
  have ea : absN a = rung a := by unfold absN; rw [andNot_sign a ha]; rfl
  have hr : rung (rung a) = rung a := by unfold rung; omega
  have hm : rung 9218868437227405311 ≤ 9218868437227405312 := by unfold rung; omega
  unfold infB
  rw [ea, order_words _ _ (by omega) hm, cmp_gt, ival_pos (rung a) (by omega), ival_pos 9218868437227405311 (by omega)]
  have := val_lt_iff 9218868437227405311 (rung a)
  by_cases g : 9218868437227405311 < rung a
  · have := this.2 g
    simp only [g]; simp; exact this
  · have : ¬ val 9218868437227405311 < val (rung a) := fun x => g (this.1 x)
    simp only [g]; simp; omega

theorem finB_eq (a : Nat) (ha : a < 18446744073709551616) : finB a = decide (rung a < 9218868437227405312) := by
  unfold finB
  rw [nanB_eq]
  by_cases h : rung a ≤ 9218868437227405312
  · rw [infB_eq a ha h]
    by_cases g : rung a < 9218868437227405312
    · simp [g]; omega
    · simp [g]; omega
  · have h1 : 9218868437227405312 < rung a := by omega
    have h2 : ¬ rung a < 9218868437227405312 := by omega
    simp [h1, h2]

theorem whole_bits (a : Nat) (ha : a < 18446744073709551616) : (bits .and .u64 ((a : Int) / 4503599627370496) 2047 != 2047) = finB a := by
  rw [finB_eq a ha, and_exp a ha]
  unfold rung
  by_cases h : a % 9223372036854775808 < 9218868437227405312
  · simp only [h]; simp; omega
  · simp only [h]; simp; omega

theorem finB_neg (a : Nat) (ha : a < 18446744073709551616) : finB (Op.negFloat .f64 a) = finB a := by
  rw [finB_eq _ (neg_lt a ha), finB_eq a ha, rung_neg a ha]

theorem finB_form (a b : Nat) (ha : a < 18446744073709551616) (hb : b < 18446744073709551616) (h : formN a = formN b) : finB a = finB b := by
  rw [finB_eq a ha, finB_eq b hb]
  have na := nanB_eq a
  have nb := nanB_eq b
  unfold formN at h
  unfold rung at *
  cases h1 : nanB a <;> cases h2 : nanB b <;> simp [h1, h2] at h na nb ⊢ <;> omega

theorem nanB_form (a : Nat) : nanB (formN a) = nanB a := by
  unfold formN
  cases h : nanB a
  · simp [h]
  · rw [if_pos rfl, nanB_eq]; unfold rung; simp

theorem formN_of (a : Nat) (h : nanB (formN a) = false) : formN a = a ∧ rung a ≤ 9218868437227405312 := by
  rw [nanB_form] at h
  have n := nanB_eq a
  rw [h] at n
  simp at n
  exact ⟨by unfold formN; rw [h]; rfl, by omega⟩

theorem formN_nan (a : Nat) (h : nanB (formN a) = true) : formN a = 9221120237041090561 := by
  rw [nanB_form] at h
  unfold formN; rw [if_pos h]

theorem rkN_num (a : Nat) (ha : a < 18446744073709551616) (h : rung a ≤ 9218868437227405312) : rkN a ≤ 18442240474082181120 := by
  unfold rung at h; unfold rkN; split <;> omega

theorem ahead1 (a b : Nat) (ha : a < 18446744073709551616) (hb : b < 18446744073709551616) (h : nanB (formN a) = true) : false = decide (rankI a < rankI b) := by
  rw [rankI_eq a ha, rankI_eq b hb, formN_nan a h]
  have e : rkN 9221120237041090561 = 18444492273895866369 := by unfold rkN; rw [if_pos (by omega)]
  rw [e]
  cases g : nanB (formN b)
  · obtain ⟨f, r⟩ := formN_of b g
    have := rkN_num b hb r
    rw [f]; simp; omega
  · rw [formN_nan b g, e]; simp

theorem ahead2 (a b : Nat) (ha : a < 18446744073709551616) (hb : b < 18446744073709551616) (h : nanB (formN a) = false) (g : nanB (formN b) = true) : true = decide (rankI a < rankI b) := by
  rw [rankI_eq a ha, rankI_eq b hb, formN_nan b g]
  have e : rkN 9221120237041090561 = 18444492273895866369 := by unfold rkN; rw [if_pos (by omega)]
  obtain ⟨f, r⟩ := formN_of a h
  have := rkN_num a ha r
  rw [e, f]; simp; omega

theorem ival_zero_iff (a : Nat) : ival a = 0 ↔ rung a = 0 := by
  unfold ival
  by_cases h : rung a = 0
  · rw [h, val_zero]; simp
  · have := val_pos (r := rung a) (by omega)
    constructor
    · intro x; split at x <;> omega
    · intro x; exact absurd x h

theorem order_zero (a : Nat) (h : rung a ≤ 9218868437227405312) : (FloatKind.f64.format.order a 0 == some .eq) = decide (rung a = 0) := by
  rw [order_words a 0 h (by unfold rung; omega), cmp_eq]
  have h0 : ival 0 = 0 := (ival_zero_iff 0).2 (by unfold rung; omega)
  rw [h0]
  have := ival_zero_iff a
  simp [this]

theorem ival_lt (a b : Nat) (ha : a < 18446744073709551616) (hb : b < 18446744073709551616) (hz : ¬ (rung a = 0 ∧ rung b = 0)) : ival a < ival b ↔ rkN a < rkN b := by
  unfold ival rkN
  have v := val_lt_iff (rung a) (rung b)
  have v' := val_lt_iff (rung b) (rung a)
  have pa : 0 < rung a → 0 < val (rung a) := val_pos
  have pb : 0 < rung b → 0 < val (rung b) := val_pos
  have za : rung a = 0 → val (rung a) = 0 := fun h => by rw [h, val_zero]
  have zb : rung b = 0 → val (rung b) = 0 := fun h => by rw [h, val_zero]
  generalize val (rung a) = x at *
  generalize val (rung b) = y at *
  by_cases h1 : a < 9223372036854775808
  · have sa : sgn a = false := by unfold sgn; simp; omega
    have ra : rung a = a := by unfold rung; omega
    rw [sa, if_pos h1]
    by_cases h2 : b < 9223372036854775808
    · have sb : sgn b = false := by unfold sgn; simp; omega
      have rb : rung b = b := by unfold rung; omega
      rw [sb, if_pos h2]
      simp only [Bool.false_eq_true, if_false]
      omega
    · have sb : sgn b = true := by unfold sgn; simp; omega
      have rb : rung b = b - 9223372036854775808 := by unfold rung; omega
      rw [sb, if_neg h2]
      simp only [Bool.false_eq_true, if_false, if_true]
      omega
  · have sa : sgn a = true := by unfold sgn; simp; omega
    have ra : rung a = a - 9223372036854775808 := by unfold rung; omega
    rw [sa, if_neg h1]
    by_cases h2 : b < 9223372036854775808
    · have sb : sgn b = false := by unfold sgn; simp; omega
      have rb : rung b = b := by unfold rung; omega
      rw [sb, if_pos h2]
      simp only [Bool.false_eq_true, if_false, if_true]
      omega
    · have sb : sgn b = true := by unfold sgn; simp; omega
      have rb : rung b = b - 9223372036854775808 := by unfold rung; omega
      rw [sb, if_neg h2]
      simp only [if_true]
      omega

theorem ahead3 (a b : Nat) (ha : a < 18446744073709551616) (hb : b < 18446744073709551616) (h : nanB (formN a) = false) (g : nanB (formN b) = false)
    (z1 : FloatKind.f64.format.order (formN a) 0 = some .eq) (z2 : (FloatKind.f64.format.order (formN b) 0 == some .eq) = true) (s : (a : Int) / 9223372036854775808 = 1) :
    ((b : Int) / 9223372036854775808 == 0) = decide (rankI a < rankI b) := by
  obtain ⟨f1, r1⟩ := formN_of a h
  obtain ⟨f2, r2⟩ := formN_of b g
  have z1' : (FloatKind.f64.format.order (formN a) 0 == some .eq) = true := by rw [z1]; rfl
  rw [f1, order_zero a r1] at z1'
  rw [f2, order_zero b r2] at z2
  rw [rankI_eq a ha, rankI_eq b hb, f1, f2]
  simp only [decide_eq_true_eq] at z1' z2
  unfold rung at z1' z2
  unfold rkN
  rw [if_neg (by omega)]
  by_cases hb2 : b < 9223372036854775808
  · rw [if_pos hb2]
    have e : (b : Int) / 9223372036854775808 = 0 := by omega
    rw [e]; simp; omega
  · rw [if_neg hb2]
    have e : (b : Int) / 9223372036854775808 = 1 := by omega
    rw [e]; simp; omega

theorem ahead4 (a b : Nat) (ha : a < 18446744073709551616) (hb : b < 18446744073709551616) (h : nanB (formN a) = false) (g : nanB (formN b) = false)
    (z1 : FloatKind.f64.format.order (formN a) 0 = some .eq) (z2 : (FloatKind.f64.format.order (formN b) 0 == some .eq) = true) (s : ¬ (a : Int) / 9223372036854775808 = 1) :
    false = decide (rankI a < rankI b) := by
  obtain ⟨f1, r1⟩ := formN_of a h
  obtain ⟨f2, r2⟩ := formN_of b g
  have z1' : (FloatKind.f64.format.order (formN a) 0 == some .eq) = true := by rw [z1]; rfl
  rw [f1, order_zero a r1] at z1'
  rw [f2, order_zero b r2] at z2
  rw [rankI_eq a ha, rankI_eq b hb, f1, f2]
  simp only [decide_eq_true_eq] at z1' z2
  unfold rung at z1' z2
  unfold rkN
  rw [if_pos (by omega)]
  split <;> (simp; omega)

theorem ahead5 (a b : Nat) (ha : a < 18446744073709551616) (hb : b < 18446744073709551616) (h : nanB (formN a) = false) (g : nanB (formN b) = false)
    (z2 : (FloatKind.f64.format.order (formN b) 0 == some .eq) = false) :
    (FloatKind.f64.format.order (formN a) (formN b) == some .lt) = decide (rankI a < rankI b) := by
  obtain ⟨f1, r1⟩ := formN_of a h
  obtain ⟨f2, r2⟩ := formN_of b g
  rw [f2, order_zero b r2] at z2
  have hz : ¬ (rung a = 0 ∧ rung b = 0) := by simp at z2; omega
  have := ival_lt a b ha hb hz
  rw [rankI_eq a ha, rankI_eq b hb, f1, f2, order_words a b r1 r2, cmp_lt]
  simp [this]

theorem ahead6 (a b : Nat) (ha : a < 18446744073709551616) (hb : b < 18446744073709551616) (h : nanB (formN a) = false) (g : nanB (formN b) = false)
    (z1 : ¬ FloatKind.f64.format.order (formN a) 0 = some .eq) :
    (FloatKind.f64.format.order (formN a) (formN b) == some .lt) = decide (rankI a < rankI b) := by
  obtain ⟨f1, r1⟩ := formN_of a h
  obtain ⟨f2, r2⟩ := formN_of b g
  have z1' : (FloatKind.f64.format.order (formN a) 0 == some .eq) = false := by simpa using z1
  rw [f1, order_zero a r1] at z1'
  have hz : ¬ (rung a = 0 ∧ rung b = 0) := by simp at z1'; omega
  have := ival_lt a b ha hb hz
  rw [rankI_eq a ha, rankI_eq b hb, f1, f2, order_words a b r1 r2, cmp_lt]
  simp [this]

end Go.Proofs.YtemldmjpanmdbaaGreatDoor

namespace Go.Proofs.YtemldmjpanmdbaaGreatDoor

theorem frombits_run (a : Nat) (w : World) : (callFunc 41 #[.int .u64 (a : Int)]).run Tryz.prog w = .ok (.value (.float .f64 a)) w := by
  rw [run_callFunc_extern Tryz.func41 (by kernel_rfl) (by kernel_rfl) (by kernel_rfl) (e := Extern.MathFloatBits.float64frombits) (by kernel_rfl)]
  rfl

theorem bits_run (a : Nat) (w : World) : (callFunc 99 #[.float .f64 a]).run Tryz.prog w = .ok (.value (.int .u64 (a : Int))) w := by
  rw [run_callFunc_extern Tryz.func99 (by kernel_rfl) (by kernel_rfl) (by kernel_rfl) (e := Extern.MathFloatBits.float64bits) (by kernel_rfl)]
  rfl

set_option maxHeartbeats 400000 in
theorem of_any (a b : Nat) (w : World) :
    Calls Tryz.prog 64 #[.int .u64 (a : Int), .int .u64 (b : Int)] w fun e w' => e = .returned (.complex .f64 a b) ∧ w' = w := by
  have hf := frombits_run
  go_enter Tryz.func64, Tryz.ntmps64
  go_wp2
  go_ret
  exact ⟨rfl, rfl⟩

set_option maxHeartbeats 400000 in
theorem isNaN_any (a : Nat) (w : World) :
    Calls Tryz.prog 129 #[.float .f64 a] w fun e w' => e = .returned (.bool (nanB a)) ∧ w' = w := by
  go_enter Tryz.func129, Tryz.ntmps129
  go_wp2
  go_ret
  exact ⟨rfl, rfl⟩

end Go.Proofs.YtemldmjpanmdbaaGreatDoor

namespace Go.Proofs.YtemldmjpanmdbaaGreatDoor

theorem ret_int {k : IntKind} {a b : Int} (h : a = b) : Ending.returned (.int k a) = .returned (.int k b) := by rw [h]
theorem ret_bool {a b : Bool} (h : a = b) : Ending.returned (.bool a) = .returned (.bool b) := by rw [h]

theorem frombits_runI (n : Int) (w : World) : (callFunc 41 #[.int .u64 n]).run Tryz.prog w = .ok (.value (.float .f64 n.toNat)) w := by
  rw [run_callFunc_extern Tryz.func41 (by kernel_rfl) (by kernel_rfl) (by kernel_rfl) (e := Extern.MathFloatBits.float64frombits) (by kernel_rfl)]
  rfl

set_option maxHeartbeats 400000 in
theorem form_any (a : Nat) (w : World) :
    Calls Tryz.prog 91 #[.float .f64 a] w fun e w' => e = .returned (.int .u64 (formN a : Int)) ∧ w' = w := by
  have hf := bits_run
  cases h : nanB a
  · go_enter Tryz.func91, Tryz.ntmps91
    go_wp2_with (go_at_call 129; refine (isNaN_any _ _).mono ?_; rintro e w' ⟨rfl, rfl⟩)
    go_ret
    exact ⟨ret_int (by simp [formN, h]), rfl⟩
  · go_enter Tryz.func91, Tryz.ntmps91
    go_wp2_with (go_at_call 129; refine (isNaN_any _ _).mono ?_; rintro e w' ⟨rfl, rfl⟩)
    go_ret
    exact ⟨ret_int (by simp [formN, h]), rfl⟩

set_option maxHeartbeats 400000 in
theorem bits_any (a b : Nat) (w : World) :
    Calls Tryz.prog 54 #[.complex .f64 a b] w fun e w' => e = .returned (.tuple #[.int .u64 (formN a : Int), .int .u64 (formN b : Int)]) ∧ w' = w := by
  go_enter Tryz.func54, Tryz.ntmps54
  go_wp2_with (go_at_call 91; refine (form_any _ _).mono ?_; rintro e w' ⟨rfl, rfl⟩)
  go_ret2
  exact ⟨rfl, rfl⟩

/-- Are two numbers the same? -/
def sameB (a b c d : Nat) : Bool := (formN a : Int) == (formN c : Int) && (formN b : Int) == (formN d : Int)

set_option maxHeartbeats 400000 in
theorem same_any (a b c d : Nat) (w : World) :
    Calls Tryz.prog 56 #[.complex .f64 a b, .complex .f64 c d] w fun e w' => e = .returned (.bool (sameB a b c d)) ∧ w' = w := by
  cases h : ((formN a : Int) == (formN c : Int))
  · go_enter Tryz.func56, Tryz.ntmps56
    go_wp2_with (go_at_call 54; refine (bits_any _ _ _).mono ?_; rintro e w' ⟨rfl, rfl⟩)
    go_ret
    exact ⟨ret_bool (by simp only [sameB, h, Bool.false_and]), rfl⟩
  · go_enter Tryz.func56, Tryz.ntmps56
    go_wp2_with (go_at_call 54; refine (bits_any _ _ _).mono ?_; rintro e w' ⟨rfl, rfl⟩)
    go_ret
    exact ⟨ret_bool (by simp only [sameB, h, Bool.true_and]), rfl⟩

/-- Is a number ahead of another? -/
def lessB (a b c d : Nat) : Bool := if (rankI a != rankI c) = true then decide (rankI a < rankI c) else decide (rankI b < rankI d)

set_option maxHeartbeats 400000 in
theorem refForm_any (a : Nat) (ha : a < 18446744073709551616) (w : World) :
    Calls Tryz.prog 40 #[.int .u64 (a : Int)] w fun e w' => e = .returned (.int .u64 (formN a : Int)) ∧ w' = w := by
  go_enter Tryz.func40, Tryz.ntmps40
  go_wp2
  · go_ret
    exact ⟨ret_int (form_nan a ha ‹_› ‹_›), rfl⟩
  · go_ret
    exact ⟨ret_int (form_frac a ha ‹_›), rfl⟩
  · go_ret
    exact ⟨ret_int (form_exp a ha ‹_›), rfl⟩

end Go.Proofs.YtemldmjpanmdbaaGreatDoor
