/- What the document's answer for package crc does, walked: sums. -/
import Derived.Test.YtgeoeaadeemmcaaCr7
namespace Go.Proofs.Ytgeoeaadeemmcaa
open Go.RowKit
set_option linter.unusedVariables false

/-- The document's sum behind so many bits. -/
def rfS (N : Nat) (k : Nat) : Nat := Un k (65535 ^^^ (N % 2 ^ k))

theorem rfS_zero (N : Nat) : rfS N 0 = 65535 := by simp [rfS, Un, Nat.mod_one]

theorem rfS_succ (N k : Nat) : rfS N (k + 1) = U (rfS N k ^^^ (N / 2 ^ k % 2)) := by
  unfold rfS
  rw [mask_succ, ← Nat.xor_assoc, Un_succ, Un_xor k, Un_pow]

theorem num_bit (bs : List Nat) : ∀ (n : Nat) (h : n / 8 < bs.length), (∀ b ∈ bs, b < 256) → num bs / 2 ^ n % 2 = bs[n / 8] / 2 ^ (n % 8) % 2 := by
  induction bs with
  | nil => intro n h; simp at h
  | cons b r ih =>
    intro n h hb
    have h1 := byte_xor (m := num r) (hb b (by simp))
    rw [num]
    generalize hX : b ^^^ 256 * num r = X at *
    rcases Nat.lt_or_ge n 8 with hn | hn
    · have e0 : n / 8 = 0 := by omega
      have e1 : n % 8 = n := by omega
      simp only [e0, e1, List.getElem_cons_zero]
      rw [← h1.1]
      apply Nat.eq_of_testBit_eq
      intro i
      rw [show (2 : Nat) = 2 ^ 1 by rfl, Nat.testBit_mod_two_pow, Nat.testBit_mod_two_pow, ← show (2 : Nat) = 2 ^ 1 by rfl, Nat.testBit_div_two_pow, Nat.testBit_div_two_pow, show (256 : Nat) = 2 ^ 8 by rfl, Nat.testBit_mod_two_pow]
      by_cases hi : i < 1
      · have : i = 0 := by omega
        subst this
        simp [hn]
      · simp [hi]
    · obtain ⟨j, rfl⟩ : ∃ j, n = j + 8 := ⟨n - 8, by omega⟩
      have e0 : (j + 8) / 8 = j / 8 + 1 := by omega
      have e1 : (j + 8) % 8 = j % 8 := by omega
      have h2 := ih j (by simp at h; omega) (fun x hx => hb x (by simp [hx]))
      have e3 : X / 2 ^ (j + 8) = num r / 2 ^ j := by
        rw [Nat.add_comm j 8, Nat.pow_add, ← Nat.div_div_eq_div_mul, show (2 : Nat) ^ 8 = 256 by rfl, h1.2]
      rw [e1, e3, h2]
      simp only [e0, List.getElem_cons_succ]

theorem num_lt (bs : List Nat) (hb : ∀ b ∈ bs, b < 256) : num bs < 2 ^ (8 * bs.length) := by
  induction bs with
  | nil => simp [num]
  | cons b r ih =>
    have h1 := ih (fun x hx => hb x (by simp [hx]))
    have h2 := hb b (by simp)
    rw [num, ← add_eq_xor h2, show 8 * (b :: r).length = 8 + 8 * r.length by simp; omega, Nat.pow_add, show (2 : Nat) ^ 8 = 256 by rfl]
    omega

theorem rfS_end (bs : List Nat) (hb : ∀ b ∈ bs, b < 256) : rfS (num bs) (8 * bs.length) = crcL 65535 bs := by
  unfold rfS
  rw [Nat.mod_eq_of_lt (num_lt bs hb), crcL_num]

theorem rfS_lt16 (N : Nat) : ∀ k, rfS N k < 65536 := by
  intro k
  induction k with
  | zero => rw [rfS_zero]; decide
  | succ k ih => rw [rfS_succ]; exact U_lt (xor16 ih (by have : N / 2 ^ k % 2 < 2 := Nat.mod_lt _ (by decide); omega))

theorem U_low (c bit : Nat) (hb : bit < 2) : U (c ^^^ bit) = if (c % 2 ^^^ bit) = 1 then c / 2 ^^^ 33800 else c / 2 := by
  unfold U
  have hd : (c ^^^ bit) / 2 = c / 2 := by rw [Nat.xor_div_two, show bit / 2 = 0 by omega, Nat.xor_zero]
  have hm : (c ^^^ bit) % 2 = c % 2 ^^^ bit := by
    have := Nat.xor_mod_two_pow (a := c) (b := bit) (n := 1)
    simpa [show bit % 2 = bit by omega] using this
  rw [hd, hm]

theorem xor_all (c : Nat) (h : c < 65536) : 65535 ^^^ c = 65535 - c := by
  apply Nat.eq_of_testBit_eq
  intro i
  have e : 65535 - c = 2 ^ 16 - (c + 1) := by omega
  rw [Nat.testBit_xor, e, Nat.testBit_two_pow_sub_succ h, show (65535 : Nat) = 2 ^ 16 - 1 by rfl, Nat.testBit_two_pow_sub_one]
  by_cases hi : i < 16
  · simp [hi]
  · have hc : c.testBit i = false := Nat.testBit_lt_two_pow (Nat.lt_of_lt_of_le h (show (2 : Nat) ^ 16 ≤ 2 ^ i from Nat.pow_le_pow_right (by decide) (by omega)))
    simp [hi, hc]

theorem low_val (c y q : Nat) (hc : c < 65536) (hy : y < 256) : bits .xor .u16 (bits .and .u16 (c : Int) 1) (bits .and .u16 (IntKind.u16.wrap ((y : Int) / 2 ^ q)) 1) = ((c % 2 ^^^ y / 2 ^ q % 2 : Nat) : Int) := by
  have e1 : (y : Int) / 2 ^ q = ((y / 2 ^ q : Nat) : Int) := by simp
  have hd : y / 2 ^ q < 256 := Nat.lt_of_le_of_lt (Nat.div_le_self _ _) hy
  have e2 : IntKind.u16.wrap ((y / 2 ^ q : Nat) : Int) = ((y / 2 ^ q : Nat) : Int) := by rw [IntKind.wrap_u16]; generalize y / 2 ^ q = z at *; omega
  rw [e1, e2, and1 _ hc, and1 _ (by omega), u16_xor_nat _ _ (by omega) (by omega)]

set_option maxHeartbeats 800000 in
theorem refOf_any (ao : Option Addr) (n cap : Nat) (bs : List Nat) (w : World) (h : Rd8 w ao n cap bs) (hn : n ≤ 140737488355328) :
    Calls Try.prog 58 #[.slice ao n cap] w fun e w' => e = .returned (.int .u16 (ofN bs : Nat)) ∧ w' = w := by
  have hl := h.len
  have HE : Hid (rfS (num bs) (8 * bs.length) = crcL 65535 bs) := rfS_end bs h.byte
  go_enter Try.func58, Try.ntmps58
  go_wp2
  go_loop [3, 4] (fun c i => ∃ k : Nat, k ≤ 8 * n ∧ i = .int .i64 k ∧ c = .int .u16 (rfS (num bs) k : Nat)) (fun _ i => 8 * n - (intOf i).toNat)
  case atStart => exact ⟨0, Nat.zero_le _, rfl, by rw [rfS_zero]; rfl⟩
  case round =>
    obtain ⟨k, hk, rfl, rfl⟩ := hrel
    by_cases hlt : k < 8 * n
    · obtain ⟨b, off, rfl, hk8, hc⟩ := h.at (t := k / 8) (by omega)
      have hy := h.byte bs[k / 8] (List.getElem_mem _)
      have hbit := num_bit bs k hk8 h.byte
      have hs := rfS_succ (num bs) k
      rw [hbit] at hs
      have hv : bs[k / 8] / 2 ^ (k % 8) % 2 < 2 := Nat.mod_lt _ (by decide)
      rw [U_low _ _ hv] at hs
      have hc16 := rfS_lt16 (num bs) k
      generalize bs[k / 8] = y at *
      generalize rfS (num bs) k = c at *
      have hlow := low_val c y (k % 8) hc16 hy
      have HLW : Hid (bits .xor .u16 (bits .and .u16 (c : Int) 1) (bits .and .u16 (IntKind.u16.wrap ((y : Int) / 2 ^ (k % 8))) 1) = ((c % 2 ^^^ y / 2 ^ (k % 8) % 2 : Nat) : Int)) := hlow
      have HS : Hid (rfS (num bs) (k + 1) = if c % 2 ^^^ y / 2 ^ (k % 8) % 2 = 1 then c / 2 ^^^ 33800 else c / 2) := hs
      clear hlow hs hbit hv
      go_wp2
      · have ho : (bits .xor .u16 (bits .and .u16 (c : Int) 1) (bits .and .u16 (IntKind.u16.wrap ((y : Int) / 2 ^ (k % 8))) 1) == 1) = true := by assumption
        rw [HLW.out] at ho
        have ho2 : c % 2 ^^^ y / 2 ^ (k % 8) % 2 = 1 := by simp at ho; omega
        have hx : bits .xor .u16 ((c : Int) / 2) 33800 = ((c / 2 ^^^ 33800 : Nat) : Int) := u16_xor_nat (c / 2) 33800 (by omega) (by decide)
        refine ⟨⟨k + 1, by omega, by go_num, ?_⟩, by simp [intOf]; omega⟩
        rw [HS.out, if_pos ho2, hx]
      · have ho : (bits .xor .u16 (bits .and .u16 (c : Int) 1) (bits .and .u16 (IntKind.u16.wrap ((y : Int) / 2 ^ (k % 8))) 1) == 1) = false := by assumption
        rw [HLW.out] at ho
        have ho2 : ¬ c % 2 ^^^ y / 2 ^ (k % 8) % 2 = 1 := by simp at ho; omega
        refine ⟨⟨k + 1, by omega, by go_num, ?_⟩, by simp [intOf]; omega⟩
        rw [HS.out, if_neg ho2]
        rfl
    · have hk2 : k = 8 * bs.length := by omega
      have hc16 := rfS_lt16 (num bs) k
      have hxx : rfS (num bs) k = crcL 65535 bs := by rw [hk2]; exact HE.out
      rw [hxx] at hc16 ⊢
      have hof : (65535 : Int) - ((crcL 65535 bs : Nat) : Int) = ((ofN bs : Nat) : Int) := by
        have : ofN bs = 65535 - crcL 65535 bs := by
          unfold ofN
          exact xor_all _ hc16
        omega
      go_wp2
      go_ret
      exact ⟨rfl, rfl⟩

end Go.Proofs.Ytgeoeaadeemmcaa
