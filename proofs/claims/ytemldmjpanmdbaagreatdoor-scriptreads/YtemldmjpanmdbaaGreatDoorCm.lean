/- Plain facts on the sum of package crc: the sum is linear over the bits, so a burst of at most sixteen bits is never lost. Natural numbers and lists alone; nothing of the program is named here. -/

namespace Go.Proofs.YtemldmjpanmdbaaGreatDoor

/-- One bit of the sum. -/
def U (x : Nat) : Nat := if x % 2 = 1 then (x / 2) ^^^ 33800 else x / 2

def Un : Nat → Nat → Nat
  | 0, x => x
  | n + 1, x => Un n (U x)

/-- The sum behind one byte more. -/
def adB (s b : Nat) : Nat := Un 8 (s ^^^ b)

def crcL (s : Nat) (bs : List Nat) : Nat := bs.foldl adB s

/-- The sum of bytes. -/
def ofN (bs : List Nat) : Nat := 65535 ^^^ crcL 65535 bs

/-- The bytes as one number, the first the lowest. -/
def num : List Nat → Nat
  | [] => 0
  | b :: r => b ^^^ (256 * num r)

theorem xor_lc (a b c : Nat) : a ^^^ (b ^^^ c) = b ^^^ (a ^^^ c) := by
  rw [← Nat.xor_assoc, Nat.xor_comm a b, Nat.xor_assoc]

theorem xor_canc (a b : Nat) : a ^^^ (a ^^^ b) = b := by rw [← Nat.xor_assoc, Nat.xor_self, Nat.zero_xor]

theorem xor_inj {a b c : Nat} (h : a ^^^ b = a ^^^ c) : b = c := by
  have := congrArg (fun x => a ^^^ x) h
  simpa [xor_canc] using this

theorem xor_zero_eq {a b : Nat} (h : a ^^^ b = 0) : a = b := by
  apply xor_inj (a := a)
  rw [h, Nat.xor_self]

theorem pow_xor (k a b : Nat) : 2 ^ k * (a ^^^ b) = (2 ^ k * a) ^^^ (2 ^ k * b) := by
  have := Nat.shiftLeft_xor_distrib (i := k) (a := a) (b := b)
  simpa [Nat.shiftLeft_eq, Nat.mul_comm] using this

theorem U_xor (x y : Nat) : U (x ^^^ y) = U x ^^^ U y := by
  unfold U
  have hm := Nat.xor_mod_two_eq_one (a := x) (b := y)
  rw [Nat.xor_div_two]
  by_cases hx : x % 2 = 1 <;> by_cases hy : y % 2 = 1
  · have : ¬ (x ^^^ y) % 2 = 1 := by rw [hm]; simp [hx, hy]
    rw [if_neg this, if_pos hx, if_pos hy, Nat.xor_comm (y / 2), Nat.xor_assoc, xor_canc]
  · have : (x ^^^ y) % 2 = 1 := by rw [hm]; simp [hx, hy]
    rw [if_pos this, if_pos hx, if_neg hy, Nat.xor_assoc, Nat.xor_assoc, Nat.xor_comm (y / 2)]
  · have : (x ^^^ y) % 2 = 1 := by rw [hm]; simp [hx, hy]
    rw [if_pos this, if_neg hx, if_pos hy, Nat.xor_assoc]
  · have : ¬ (x ^^^ y) % 2 = 1 := by rw [hm]; simp [hx, hy]
    rw [if_neg this, if_neg hx, if_neg hy]

theorem Un_xor (n : Nat) : ∀ x y, Un n (x ^^^ y) = Un n x ^^^ Un n y := by
  induction n with
  | zero => intro x y; rfl
  | succ n ih => intro x y; simp only [Un, U_xor, ih]

theorem U_even (m : Nat) : U (2 * m) = m := by
  unfold U
  rw [if_neg (by omega)]
  omega

theorem Un_pow (n : Nat) : ∀ m, Un n (2 ^ n * m) = m := by
  induction n with
  | zero => intro m; simp [Un]
  | succ n ih =>
    intro m
    simp only [Un]
    rw [Nat.pow_succ, Nat.mul_comm (2 ^ n) 2, Nat.mul_assoc, U_even, ih]

theorem Un_add (n m : Nat) : ∀ x, Un (n + m) x = Un m (Un n x) := by
  induction n with
  | zero => intro x; simp [Un]
  | succ n ih => intro x; rw [Nat.succ_add]; simp only [Un, ih]

theorem Un_succ (n x : Nat) : Un (n + 1) x = U (Un n x) := by rw [Un_add]; rfl

theorem U_lt {x : Nat} (h : x < 65536) : U x < 65536 := by
  unfold U
  split
  · exact Nat.xor_lt_two_pow (n := 16) (by omega) (by omega)
  · omega

theorem U_ne {x : Nat} (h : x < 65536) (h0 : x ≠ 0) : U x ≠ 0 := by
  unfold U
  split
  · intro e
    have := xor_zero_eq e
    omega
  · omega

theorem Un_lt (n : Nat) : ∀ {x : Nat}, x < 65536 → Un n x < 65536 := by
  induction n with
  | zero => intro x h; exact h
  | succ n ih => intro x h; exact ih (U_lt h)

theorem Un_ne (n : Nat) : ∀ {x : Nat}, x < 65536 → x ≠ 0 → Un n x ≠ 0 := by
  induction n with
  | zero => intro x _ h; exact h
  | succ n ih => intro x h h0; exact ih (U_lt h) (U_ne h h0)

theorem xor16 {a b : Nat} (ha : a < 65536) (hb : b < 65536) : a ^^^ b < 65536 := Nat.xor_lt_two_pow (n := 16) ha hb
theorem xor8 {a b : Nat} (ha : a < 256) (hb : b < 256) : a ^^^ b < 256 := Nat.xor_lt_two_pow (n := 8) ha hb

theorem adB_lt {s b : Nat} (hs : s < 65536) (hb : b < 256) : adB s b < 65536 := Un_lt 8 (xor16 hs (by omega))

theorem crcL_lt (bs : List Nat) : ∀ {s : Nat}, s < 65536 → (∀ b ∈ bs, b < 256) → crcL s bs < 65536 := by
  induction bs with
  | nil => intro s h _; exact h
  | cons b r ih => intro s h hb; exact ih (adB_lt h (hb b (by simp))) (fun x hx => hb x (by simp [hx]))

theorem ofN_lt {bs : List Nat} (hb : ∀ b ∈ bs, b < 256) : ofN bs < 65536 := xor16 (by omega) (crcL_lt bs (by omega) hb)

/-- The sum as so many bits of one number. -/
theorem crcL_num (bs : List Nat) : ∀ s, crcL s bs = Un (8 * bs.length) (s ^^^ num bs) := by
  induction bs with
  | nil => intro s; simp [crcL, num, Un]
  | cons b r ih =>
    intro s
    have h1 : crcL s (b :: r) = crcL (adB s b) r := rfl
    rw [h1, ih, show 8 * (b :: r).length = 8 + 8 * r.length by simp; omega, Un_add, num, ← Nat.xor_assoc, Un_xor 8, show 256 * num r = 2 ^ 8 * num r by rfl, Un_pow]
    rfl

theorem crcL_append (s : Nat) (as bs : List Nat) : crcL s (as ++ bs) = crcL (crcL s as) bs := by
  unfold crcL; rw [List.foldl_append]

theorem byte_xor {b m : Nat} (hb : b < 256) : (b ^^^ (256 * m)) % 256 = b ∧ (b ^^^ (256 * m)) / 256 = m := by
  have e : (256 : Nat) = 2 ^ 8 := rfl
  rw [e]
  constructor
  · rw [Nat.xor_mod_two_pow, Nat.mul_mod_right, Nat.xor_zero]; exact Nat.mod_eq_of_lt hb
  · rw [Nat.xor_div_two_pow, Nat.mul_div_cancel_left _ (by decide), Nat.div_eq_of_lt hb, Nat.zero_xor]

theorem num_inj (as : List Nat) : ∀ (bs : List Nat), as.length = bs.length → (∀ b ∈ as, b < 256) → (∀ b ∈ bs, b < 256) → num as = num bs → as = bs := by
  induction as with
  | nil => intro bs h _ _ _; exact (List.eq_nil_of_length_eq_zero (by simpa using h.symm)).symm
  | cons a r ih =>
    intro bs h ha hb hn
    cases bs with
    | nil => simp at h
    | cons b q =>
      simp only [num] at hn
      have h1 := byte_xor (m := num r) (ha a (by simp))
      have h2 := byte_xor (m := num q) (hb b (by simp))
      rw [hn] at h1
      rw [h1.1] at h2
      have e1 : a = b := h2.1
      have e2 : num r = num q := by rw [← h1.2, h2.2]
      rw [e1, ih q (by simpa using h) (fun x hx => ha x (by simp [hx])) (fun x hx => hb x (by simp [hx])) e2]

theorem num_append (as bs : List Nat) : num (as ++ bs) = num as ^^^ (2 ^ (8 * as.length) * num bs) := by
  induction as with
  | nil => simp [num]
  | cons a r ih =>
    rw [List.cons_append, num, ih, num, show (256 : Nat) = 2 ^ 8 by rfl, pow_xor, Nat.xor_assoc, ← Nat.mul_assoc, ← Nat.pow_add]
    simp [Nat.mul_add, Nat.add_comm]

/-! ### Bits that are turned -/

def flip1 (bs : List Nat) (n v : Nat) : List Nat := bs.set (n / 8) (bs.getD (n / 8) 0 ^^^ (v * 2 ^ (n % 8)))

/-- The first k bits of the mask, from bit p on. -/
def flips (bs : List Nat) (p mask : Nat) : Nat → List Nat
  | 0 => bs
  | k + 1 => flip1 (flips bs p mask k) (p + k) (mask / 2 ^ k % 2)

theorem flip1_length (bs : List Nat) (n v : Nat) : (flip1 bs n v).length = bs.length := by simp [flip1]

theorem flips_length (bs : List Nat) (p mask k : Nat) : (flips bs p mask k).length = bs.length := by
  induction k with
  | zero => rfl
  | succ k ih => rw [flips, flip1_length, ih]

theorem bit_lt (v n : Nat) (hv : v < 2) : v * 2 ^ (n % 8) < 256 := by
  have h8 : n % 8 < 8 := Nat.mod_lt _ (by decide)
  have hp : 2 ^ (n % 8) ≤ 2 ^ 7 := Nat.pow_le_pow_right (by decide) (by omega)
  have : v * 2 ^ (n % 8) ≤ 1 * 2 ^ 7 := Nat.mul_le_mul (by omega) hp
  omega

theorem flip1_bytes {bs : List Nat} (hb : ∀ b ∈ bs, b < 256) (n v : Nat) (hv : v < 2) : ∀ b ∈ flip1 bs n v, b < 256 := by
  intro b h
  rcases List.mem_or_eq_of_mem_set h with h | h
  · exact hb b h
  · rw [h]
    apply xor8 _ (bit_lt v n hv)
    rw [List.getD_eq_getElem?_getD]
    rcases Nat.lt_or_ge (n / 8) bs.length with h1 | h1
    · rw [List.getElem?_eq_getElem h1]; exact hb _ (List.getElem_mem _)
    · rw [List.getElem?_eq_none h1]; decide

theorem flips_bytes {bs : List Nat} (hb : ∀ b ∈ bs, b < 256) (p mask k : Nat) : ∀ b ∈ flips bs p mask k, b < 256 := by
  induction k with
  | zero => exact hb
  | succ k ih => exact flip1_bytes ih _ _ (Nat.mod_lt _ (by decide))

theorem flip1_zero (bs : List Nat) (n : Nat) : flip1 bs n 0 = bs := by
  unfold flip1
  rw [Nat.zero_mul, Nat.xor_zero]
  rcases Nat.lt_or_ge (n / 8) bs.length with h1 | h1
  · rw [List.getD_eq_getElem?_getD, List.getElem?_eq_getElem h1]; simp
  · exact List.set_eq_of_length_le h1

theorem num_set (bs : List Nat) : ∀ (i x : Nat), i < bs.length → num (bs.set i (bs.getD i 0 ^^^ x)) = num bs ^^^ (2 ^ (8 * i) * x) := by
  induction bs with
  | nil => intro i x h; simp at h
  | cons b r ih =>
    intro i x h
    cases i with
    | zero => simp [num, Nat.xor_assoc, Nat.xor_comm x]
    | succ i =>
      have h2 := ih i x (by simpa using h)
      simp only [List.set_cons_succ, List.getD_cons_succ, num] at *
      rw [h2, show (256 : Nat) = 2 ^ 8 by rfl, pow_xor, Nat.xor_assoc, ← Nat.mul_assoc, ← Nat.pow_add, show 8 + 8 * i = 8 * (i + 1) by omega]

theorem num_flip1 (bs : List Nat) (n v : Nat) (h : v = 0 ∨ n / 8 < bs.length) : num (flip1 bs n v) = num bs ^^^ (2 ^ n * v) := by
  rcases h with rfl | h
  · rw [flip1_zero]; simp
  · unfold flip1
    rw [num_set _ _ _ h, Nat.mul_comm v, ← Nat.mul_assoc, ← Nat.pow_add, show 8 * (n / 8) + n % 8 = n by omega]

theorem mask_succ (m k : Nat) : m % 2 ^ (k + 1) = (m % 2 ^ k) ^^^ (2 ^ k * (m / 2 ^ k % 2)) := by
  apply Nat.eq_of_testBit_eq
  intro i
  rw [Nat.testBit_xor, Nat.testBit_mod_two_pow, Nat.testBit_mod_two_pow, Nat.testBit_two_pow_mul, show m / 2 ^ k % 2 = m / 2 ^ k % 2 ^ 1 by rfl, Nat.testBit_mod_two_pow, Nat.testBit_div_two_pow]
  rcases Nat.lt_trichotomy i k with h | h | h
  · simp [h, show i < k + 1 by omega, show ¬ k ≤ i by omega]
  · subst h; simp
  · simp [show ¬ i < k by omega, show ¬ i < k + 1 by omega, show k ≤ i by omega, show ¬ i - k = 0 by omega]

theorem num_flips (bs : List Nat) (p mask k : Nat) (h : ∀ j, j < k → mask / 2 ^ j % 2 = 1 → p + j < 8 * bs.length) :
    num (flips bs p mask k) = num bs ^^^ (2 ^ p * (mask % 2 ^ k)) := by
  induction k with
  | zero => simp [flips, Nat.mod_one]
  | succ k ih =>
    rw [flips, num_flip1, ih (fun j hj => h j (by omega)), mask_succ, pow_xor, Nat.xor_assoc, ← Nat.mul_assoc, ← Nat.pow_add]
    rw [flips_length]
    rcases Nat.mod_two_eq_zero_or_one (mask / 2 ^ k) with h1 | h1
    · exact .inl h1
    · exact .inr (by have := h k (by omega) h1; omega)

/-- How many bits a mask has. -/
structure IsLen (m L : Nat) : Prop where
  hi : m < 2 ^ L
  lo : L ≠ 0 → m / 2 ^ (L - 1) % 2 = 1
  le : L ≤ 16

theorem IsLen.bit {m L j : Nat} (h : IsLen m L) (hb : m / 2 ^ j % 2 = 1) : j < L := by
  rcases Nat.lt_or_ge j L with hj | hj
  · exact hj
  · have : m / 2 ^ j = 0 := Nat.div_eq_of_lt (Nat.lt_of_lt_of_le h.hi (Nat.pow_le_pow_right (by decide) hj))
    rw [this] at hb
    simp at hb

theorem flips_more {bs : List Nat} {p mask L : Nat} (h : IsLen mask L) : ∀ k, L ≤ k → flips bs p mask k = flips bs p mask L := by
  intro k hk
  obtain ⟨d, rfl⟩ : ∃ d, k = L + d := ⟨k - L, by omega⟩
  clear hk
  induction d with
  | zero => rfl
  | succ d ih =>
    rw [show L + (d + 1) = (L + d) + 1 by omega, flips, ih]
    have hz : mask / 2 ^ (L + d) % 2 = 0 := by
      rcases Nat.mod_two_eq_zero_or_one (mask / 2 ^ (L + d)) with h1 | h1
      · exact h1
      · have := h.bit h1; omega
    rw [hz, flip1_zero]

/-- What a burst leaves. -/
def brN (bs : List Nat) (p : Int) (mask L : Nat) : List Nat := if 0 ≤ p ∧ p + L ≤ 8 * bs.length then flips bs p.toNat mask L else bs

theorem brN_length (bs : List Nat) (p : Int) (mask L : Nat) : (brN bs p mask L).length = bs.length := by
  unfold brN; split
  · exact flips_length _ _ _ _
  · rfl

theorem brN_bytes {bs : List Nat} (hb : ∀ b ∈ bs, b < 256) (p : Int) (mask L : Nat) : ∀ b ∈ brN bs p mask L, b < 256 := by
  unfold brN; split
  · exact flips_bytes hb _ _ _
  · exact hb

theorem num_brN {bs : List Nat} {p : Int} {mask L : Nat} (h : IsLen mask L) (hp : 0 ≤ p ∧ p + L ≤ 8 * bs.length) : num (brN bs p mask L) = num bs ^^^ (2 ^ p.toNat * mask) := by
  unfold brN
  rw [if_pos hp, num_flips, Nat.mod_eq_of_lt h.hi]
  intro j hj _
  omega

theorem brN_twice {bs : List Nat} (hb : ∀ b ∈ bs, b < 256) {p : Int} {mask L : Nat} (h : IsLen mask L) : brN (brN bs p mask L) p mask L = bs := by
  by_cases hp : 0 ≤ p ∧ p + L ≤ 8 * bs.length
  · apply num_inj
    · rw [brN_length, brN_length]
    · exact brN_bytes (brN_bytes hb _ _ _) _ _ _
    · exact hb
    · rw [num_brN h (by rw [brN_length]; exact hp), num_brN h hp, Nat.xor_assoc, Nat.xor_self, Nat.xor_zero]
  · unfold brN
    rw [if_neg hp, if_neg hp]

/-! ### Frames -/

def sealN (bs : List Nat) : List Nat := bs ++ [ofN bs % 256, ofN bs / 256]

def okCm (fs : List Nat) : Prop := ofN (fs.take (fs.length - 2)) = fs.getD (fs.length - 2) 0 + 256 * fs.getD (fs.length - 1) 0

theorem add_eq_xor {b m : Nat} (hb : b < 256) : b + 256 * m = b ^^^ (256 * m) := by
  have h := byte_xor (m := m) hb
  omega

theorem two_last (fs : List Nat) (h : 2 ≤ fs.length) : fs = fs.take (fs.length - 2) ++ [fs.getD (fs.length - 2) 0, fs.getD (fs.length - 1) 0] := by
  have h1 : fs.drop (fs.length - 2) = [fs.getD (fs.length - 2) 0, fs.getD (fs.length - 1) 0] := by
    rw [List.drop_eq_getElem_cons (by omega), List.drop_eq_getElem_cons (by omega), List.drop_eq_nil_of_le (by omega)]
    rw [List.getD_eq_getElem?_getD, List.getD_eq_getElem?_getD, List.getElem?_eq_getElem (by omega), List.getElem?_eq_getElem (by omega)]
    simp only [Option.getD_some, List.cons.injEq, and_true, true_and]
    congr 1
    omega
  rw [← h1, List.take_append_drop]

/-- A frame is one that leaves one sum, whatever its bytes. -/
theorem okN_iff (fs : List Nat) (h : 2 ≤ fs.length) (hb : ∀ b ∈ fs, b < 256) : okCm fs ↔ crcL 65535 fs = Un 16 65535 := by
  have e := two_last fs h
  have hlo : fs.getD (fs.length - 2) 0 < 256 := by
    rw [List.getD_eq_getElem?_getD, List.getElem?_eq_getElem (by omega)]; exact hb _ (List.getElem_mem _)
  have hhi : fs.getD (fs.length - 1) 0 < 256 := by
    rw [List.getD_eq_getElem?_getD, List.getElem?_eq_getElem (by omega)]; exact hb _ (List.getElem_mem _)
  have hbt : ∀ b ∈ fs.take (fs.length - 2), b < 256 := fun b hx => hb b (List.mem_of_mem_take hx)
  have hc := crcL_lt (fs.take (fs.length - 2)) (s := 65535) (by omega) hbt
  unfold okCm
  generalize hT : fs.take (fs.length - 2) = T at *
  generalize hL : fs.getD (fs.length - 2) 0 = lo at *
  generalize hH : fs.getD (fs.length - 1) 0 = hi at *
  rw [e, crcL_append, crcL_num [lo, hi]]
  have hn : num [lo, hi] = lo + 256 * hi := by simp [num]; exact (add_eq_xor hlo).symm
  have ht : lo + 256 * hi < 65536 := by omega
  rw [hn]
  unfold ofN
  have e8 : 8 * [lo, hi].length = 16 := rfl
  rw [e8]
  constructor
  · intro h1
    rw [← h1, xor_lc, Nat.xor_self, Nat.xor_zero]
  · intro h1
    have h2 : Un 16 ((crcL 65535 T ^^^ (lo + 256 * hi)) ^^^ 65535) = 0 := by rw [Un_xor, h1, Nat.xor_self]
    have h3 : (crcL 65535 T ^^^ (lo + 256 * hi)) ^^^ 65535 = 0 := by
      apply Classical.byContradiction
      intro hne
      exact Un_ne 16 (xor16 (xor16 hc ht) (by omega)) hne h2
    have h4 := xor_zero_eq h3
    generalize crcL 65535 T = c at *
    rw [← h4, Nat.xor_comm c, Nat.xor_assoc, Nat.xor_self, Nat.xor_zero]

theorem sealN_length (bs : List Nat) : (sealN bs).length = bs.length + 2 := by simp [sealN]

theorem sealN_bytes {bs : List Nat} (hb : ∀ b ∈ bs, b < 256) : ∀ b ∈ sealN bs, b < 256 := by
  intro b h
  have := ofN_lt hb
  simp [sealN] at h
  rcases h with h | h | h
  · exact hb b h
  · omega
  · omega

theorem sealN_take (bs : List Nat) : (sealN bs).take ((sealN bs).length - 2) = bs := by
  rw [sealN_length]; simp [sealN]

theorem sealN_ok (bs : List Nat) : okCm (sealN bs) := by
  unfold okCm
  rw [sealN_take, sealN_length]
  simp [sealN, List.getD_eq_getElem?_getD]
  omega

/-- The sum of a frame is one for all. -/
theorem ofN_sealN {bs : List Nat} (hb : ∀ b ∈ bs, b < 256) : ofN (sealN bs) = 65535 ^^^ Un 16 65535 := by
  unfold ofN
  rw [(okN_iff _ (by rw [sealN_length]; omega) (sealN_bytes hb)).1 (sealN_ok bs)]

/-- A burst whose mask is not 0, within the bytes, leaves no frame. -/
theorem finds {bs : List Nat} (hb : ∀ b ∈ bs, b < 256) (h2 : 2 ≤ bs.length) (hok : okCm bs) {p : Int} {mask L : Nat} (h : IsLen mask L) (hm : mask ≠ 0) (hp : 0 ≤ p ∧ p + L ≤ 8 * bs.length) :
    ¬ okCm (brN bs p mask L) ∧ brN bs p mask L ≠ bs := by
  have hlt : mask < 65536 := Nat.lt_of_lt_of_le h.hi (Nat.pow_le_pow_right (n := 2) (by decide) h.le)
  have key : crcL 65535 (brN bs p mask L) ≠ crcL 65535 bs := by
    rw [crcL_num, crcL_num, brN_length, num_brN h hp, ← Nat.xor_assoc, Un_xor]
    intro e
    have e2 : Un (8 * bs.length) (2 ^ p.toNat * mask) = 0 := by
      apply xor_inj (a := Un (8 * bs.length) (65535 ^^^ num bs))
      rw [e, Nat.xor_zero]
    rw [show 8 * bs.length = p.toNat + (8 * bs.length - p.toNat) by omega, Un_add, Un_pow] at e2
    exact Un_ne _ hlt hm e2
  constructor
  · rw [okN_iff _ (by rw [brN_length]; exact h2) (brN_bytes hb _ _ _), ← (okN_iff bs h2 hb).1 hok]
    exact key
  · intro e
    rw [e] at key
    exact key rfl

theorem brN_zero (bs : List Nat) (p : Int) (L : Nat) (h : IsLen 0 L) : brN bs p 0 L = bs := by
  have : L = 0 := by
    rcases Nat.eq_zero_or_pos L with h0 | h0
    · exact h0
    · have := h.lo (by omega); simp at this
  subst this
  unfold brN
  split <;> rfl

theorem brN_out {bs : List Nat} {p : Int} {mask L : Nat} (hp : ¬ (0 ≤ p ∧ p + L ≤ 8 * bs.length)) : brN bs p mask L = bs := if_neg hp

/-- Two texts of one length that differ within two bytes side by side have unlike sums. -/
theorem ofN_two (fr bk : List Nat) (a0 a1 b0 b1 : Nat) (ha0 : a0 < 256) (ha1 : a1 < 256) (hb0 : b0 < 256) (hb1 : b1 < 256) :
    ofN (fr ++ ([a0, a1] ++ bk)) = ofN (fr ++ ([b0, b1] ++ bk)) ↔ a0 = b0 ∧ a1 = b1 := by
  constructor
  · intro h
    have h1 := xor_inj h
    rw [crcL_append 65535 fr, crcL_append 65535 fr, crcL_num _ (crcL 65535 fr), crcL_num _ (crcL 65535 fr), num_append, num_append] at h1
    simp only [List.length_append, List.length_cons, List.length_nil] at h1
    have hna : num [a0, a1] < 65536 := xor16 (by omega) (by simp [num]; omega)
    have hnb : num [b0, b1] < 65536 := xor16 (by omega) (by simp [num]; omega)
    have h2 : Un (8 * (0 + 1 + 1 + bk.length)) (num [a0, a1] ^^^ num [b0, b1]) = 0 := by
      rw [Un_xor, Un_xor, Un_xor, Un_xor] at h1
      have h3 := xor_inj h1
      rw [Nat.xor_comm, Nat.xor_comm (Un _ (num [b0, b1]))] at h3
      have h4 := xor_inj h3
      rw [Un_xor, h4, Nat.xor_self]
    have h5 : num [a0, a1] = num [b0, b1] := by
      apply xor_zero_eq
      apply Classical.byContradiction
      intro hne
      exact Un_ne _ (xor16 hna hnb) hne h2
    have h6 := num_inj [a0, a1] [b0, b1] rfl (by simp; omega) (by simp; omega) h5
    simpa using h6
  · rintro ⟨rfl, rfl⟩; rfl

end Go.Proofs.YtemldmjpanmdbaaGreatDoor
