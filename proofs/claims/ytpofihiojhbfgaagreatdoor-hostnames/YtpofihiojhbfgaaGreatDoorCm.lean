/- Plain facts on the sum of package crc: the sum is linear over the bits, so a burst of at most sixteen bits is never lost. Natural numbers and lists alone; nothing of the program is named here. -/

namespace Go.Proofs.YtpofihiojhbfgaaGreatDoor

def U (x : Nat) : Nat := if x % 2 = 1 then (x / 2) ^^^ 33800 else x / 2

def Un : Nat → Nat → Nat
  | 0, x => x
  | n + 1, x => Un n (U x)

def adB (s b : Nat) : Nat := Un 8 (s ^^^ b)

def crcL (s : Nat) (bs : List Nat) : Nat := bs.foldl adB s

def ofN (bs : List Nat) : Nat := 65535 ^^^ crcL 65535 bs

theorem Un_add (n m : Nat) : ∀ x, Un (n + m) x = Un m (Un n x) := by
  induction n with
  | zero => intro x; simp [Un]
  | succ n ih => intro x; rw [Nat.succ_add]; simp only [Un, ih]

theorem Un_succ (n x : Nat) : Un (n + 1) x = U (Un n x) := by rw [Un_add]; rfl

theorem U_lt {x : Nat} (h : x < 65536) : U x < 65536 := by
  unfold U
  split
  · exact Nat.xor_lt_two_pow (n := 16) (by omega) (by omega)
  · omega

theorem Un_lt (n : Nat) : ∀ {x : Nat}, x < 65536 → Un n x < 65536 := by
  induction n with
  | zero => intro x h; exact h
  | succ n ih => intro x h; exact ih (U_lt h)

theorem xor16 {a b : Nat} (ha : a < 65536) (hb : b < 65536) : a ^^^ b < 65536 := Nat.xor_lt_two_pow (n := 16) ha hb
theorem adB_lt {s b : Nat} (hs : s < 65536) (hb : b < 256) : adB s b < 65536 := Un_lt 8 (xor16 hs (by omega))

theorem crcL_lt (bs : List Nat) : ∀ {s : Nat}, s < 65536 → (∀ b ∈ bs, b < 256) → crcL s bs < 65536 := by
  induction bs with
  | nil => intro s h _; exact h
  | cons b r ih => intro s h hb; exact ih (adB_lt h (hb b (by simp))) (fun x hx => hb x (by simp [hx]))

theorem ofN_lt {bs : List Nat} (hb : ∀ b ∈ bs, b < 256) : ofN bs < 65536 := xor16 (by omega) (crcL_lt bs (by omega) hb)

theorem crcL_append (s : Nat) (as bs : List Nat) : crcL s (as ++ bs) = crcL (crcL s as) bs := by
  unfold crcL; rw [List.foldl_append]

/-! ### Bits that are turned -/

/-! ### Frames -/

def sealN (bs : List Nat) : List Nat := bs ++ [ofN bs % 256, ofN bs / 256]

def okN (fs : List Nat) : Prop := ofN (fs.take (fs.length - 2)) = fs.getD (fs.length - 2) 0 + 256 * fs.getD (fs.length - 1) 0

theorem sealN_length (bs : List Nat) : (sealN bs).length = bs.length + 2 := by simp [sealN]

theorem sealN_bytes {bs : List Nat} (hb : ∀ b ∈ bs, b < 256) : ∀ b ∈ sealN bs, b < 256 := by
  intro b h
  have := ofN_lt hb
  simp [sealN] at h
  rcases h with h | h | h
  · exact hb b h
  · omega
  · omega

theorem sealN_take (bs : List Nat) : (sealN bs).take ((sealN bs).length - 2) = bs := by
  rw [sealN_length]; simp [sealN]

theorem sealN_ok (bs : List Nat) : okN (sealN bs) := by
  unfold okN
  rw [sealN_take, sealN_length]
  simp [sealN, List.getD_eq_getElem?_getD]
  omega

end Go.Proofs.YtpofihiojhbfgaaGreatDoor
