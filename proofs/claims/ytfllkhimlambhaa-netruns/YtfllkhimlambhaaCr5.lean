/- What the functions of package crc do, walked: bursts. -/
import Derived.Test.YtfllkhimlambhaaCr4
import Derived.RegionTactic
namespace Go.Proofs.Ytfllkhimlambhaa
open Go.RowKit
set_option linter.unusedVariables false

theorem Own8.at0 {w : World} {base : Nat} {ao : Option Addr} {n cap : Nat} {bs : List Nat} (h : Own8 w base ao n cap bs) (hn : 0 < n) : ∃ g, ao = some ⟨g, 0, none⟩ := by
  obtain ⟨_, h2⟩ := h.own
  have hl := h.len
  rcases h2 with ⟨hv, hn2⟩ | ⟨g, cp, cur, hv, _⟩
  · rw [List.length_map, ci_length] at hn2
    omega
  · simp only [Value.slice.injEq] at hv
    exact ⟨g, hv.1⟩

theorem bit_val (y m k q : Nat) (hy : y < 256) (hm : m < 65536) (hq : q < 8) : bits .xor .u8 (y : Int) (bits .and .u16 ((m : Int) / 2 ^ k) 1 % 256 * 2 ^ q % 256) = ((y ^^^ (m / 2 ^ k % 2) * 2 ^ q : Nat) : Int) := by
  have e1 : (m : Int) / 2 ^ k = ((m / 2 ^ k : Nat) : Int) := by simp
  have hd : m / 2 ^ k < 65536 := Nat.lt_of_le_of_lt (Nat.div_le_self _ _) hm
  rw [e1, and1 _ hd]
  have hb := bit_lt (m / 2 ^ k % 2) q (Nat.mod_lt _ (by decide))
  rw [Nat.mod_eq_of_lt hq] at hb
  have hv : m / 2 ^ k % 2 < 2 := Nat.mod_lt _ (by decide)
  generalize m / 2 ^ k % 2 = v at *
  have e2 : ((v : Nat) : Int) % 256 * 2 ^ q % 256 = ((v * 2 ^ q : Nat) : Int) := by
    rw [show ((v : Nat) : Int) % 256 = ((v : Nat) : Int) by omega]
    have e3 : ((v : Nat) : Int) * 2 ^ q = ((v * 2 ^ q : Nat) : Int) := by simp
    rw [e3]
    omega
  rw [e2, u8_xor_nat _ _ hy hb]

theorem flips_step (bs : List Nat) (p m k : Nat) (h : (p + k) / 8 < (flips bs p m k).length) : flips bs p m (k + 1) = (flips bs p m k).set ((p + k) / 8) ((flips bs p m k)[(p + k) / 8] ^^^ (m / 2 ^ k % 2) * 2 ^ ((p + k) % 8)) := by
  rw [flips, flip1, List.getD_eq_getElem?_getD, List.getElem?_eq_getElem h]
  rfl

theorem Own8.stored {w : World} {base : Nat} {g n cap : Nat} {bs : List Nat} (h : Own8 w base (some ⟨g, 0, none⟩) n cap bs) (j x : Nat) (hx : x < 256) : Own8 (w.setCell ⟨g, j, none⟩ (.int .u8 (x : Int))) base (some ⟨g, 0, none⟩) n cap (bs.set j x) := by
  have := h.own.stored j (x : Int)
  rw [ci_set] at this
  refine ⟨this, by rw [List.length_set]; exact h.len, fun b hb => ?_⟩
  rcases List.mem_or_eq_of_mem_set hb with hb | hb
  · exact h.byte b hb
  · rw [hb]; exact hx

set_option maxHeartbeats 800000 in
theorem burst_out (ao : Option Addr) (n cap : Nat) (bs : List Nat) (p : Int) (m : Nat) (w : World) (h : Rd8 w ao n cap bs) (hn : n ≤ 140737488355328) (hm : m < 65536) (hp : -9223372036854775808 ≤ p) (hp2 : p ≤ 9223372036854775807) (hout : ¬ (0 ≤ p ∧ p + L16 m ≤ 8 * bs.length)) :
    Calls Try.prog 29 #[.slice ao n cap, .int .i64 p, .int .u16 (m : Int)] w fun e w' => ∃ ao' cap', e = .returned (.slice ao' n cap') ∧ Own8 w' w.heap.size ao' n cap' bs ∧ Below w.heap.size w w' := by
  have hl := h.len
  have hL := (isLen m hm).le
  rw [hl] at hout
  by_cases h0 : p < 0
  · clear hout
    go_enter Try.func29, Try.ntmps29
    go_wp2_with (first
      | (go_at_call 33; refine (copied_any _ _ _ _ _ h hn).mono ?_; rintro e w1 ⟨ao1, cap1, rfl, ho1, hb1⟩)
      | (go_at_call 36; refine (len16_any m _ hm).mono ?_; rintro e w' ⟨rfl, hw⟩; subst w'))
    go_ret
    exact ⟨_, _, rfl, ho1, hb1⟩
  · have h1 : 8 * (n : Int) - (L16 m : Int) < p := by omega
    clear hout
    go_enter Try.func29, Try.ntmps29
    go_wp2_with (first
      | (go_at_call 33; refine (copied_any _ _ _ _ _ h hn).mono ?_; rintro e w1 ⟨ao1, cap1, rfl, ho1, hb1⟩)
      | (go_at_call 36; refine (len16_any m _ hm).mono ?_; rintro e w' ⟨rfl, hw⟩; subst w'))
    go_ret
    exact ⟨_, _, rfl, ho1, hb1⟩

set_option maxHeartbeats 800000 in
theorem burst_in (ao : Option Addr) (n cap : Nat) (bs : List Nat) (p m : Nat) (w : World) (h : Rd8 w ao n cap bs) (hn : n ≤ 140737488355328) (hm : m < 65536) (hin : p + L16 m ≤ 8 * n) :
    Calls Try.prog 29 #[.slice ao n cap, .int .i64 (p : Int), .int .u16 (m : Int)] w fun e w' => ∃ ao' cap', e = .returned (.slice ao' n cap') ∧ Own8 w' w.heap.size ao' n cap' (flips bs p m (L16 m)) ∧ Below w.heap.size w w' := by
  have hl := h.len
  have hL := (isLen m hm).le
  have hi : ¬ 8 * (n : Int) - (L16 m : Int) < (p : Int) := by omega
  generalize hLe : L16 m = L at *
  have HL : Hid (L16 m = L) := hLe
  clear hLe
  go_enter Try.func29, Try.ntmps29
  go_wp2_with (first
    | (go_at_call 33; refine (copied_any _ _ _ _ _ h hn).mono ?_; rintro e w1 ⟨ao1, cap1, rfl, ho1, hb1⟩)
    | (go_at_call 36; refine (len16_any m _ hm).mono ?_; rw [HL.out]; rintro e w' ⟨rfl, hw⟩; subst w'))
  go_loopw [28] (fun i wr => ∃ k : Nat, k ≤ L ∧ i = .int .i64 k ∧ Own8 wr w.heap.size ao1 n cap1 (flips bs p m k) ∧ Below w.heap.size w wr) (fun i _ => L - (intOf i).toNat)
  case atStart => exact ⟨0, Nat.zero_le _, rfl, ho1, hb1⟩
  case round =>
    obtain ⟨k, hk, rfl, ho, hbel⟩ := hrel
    by_cases hlt : k < L
    · obtain ⟨g, rfl⟩ := ho.at0 (by omega)
      clear ho1 hb1
      have hq : (p + k) / 8 < (flips bs p m k).length := by rw [flips_length]; omega
      have hc := ho.own.cellAt ((p + k) / 8) (by rw [ci_length]; exact hq)
      have hfz := ho.own.frozenAt ((p + k) / 8)
      rw [ci_get] at hc
      have hy := ho.byte (flips bs p m k)[(p + k) / 8] (List.getElem_mem _)
      have hst := flips_step bs p m k hq
      generalize (flips bs p m k)[(p + k) / 8] = y at *
      have hval := bit_val y m k ((p + k) % 8) hy hm (Nat.mod_lt _ (by decide))
      have hx8 : y ^^^ m / 2 ^ k % 2 * 2 ^ ((p + k) % 8) < 256 := xor8 hy (bit_lt _ _ (Nat.mod_lt _ (by decide)))
      have HST : Hid (Own8 (wr.setCell ⟨g, (p + k) / 8, none⟩ (.int .u8 ((y ^^^ (m / 2 ^ k % 2) * 2 ^ ((p + k) % 8) : Nat) : Int))) w.heap.size (some ⟨g, 0, none⟩) n cap1 (flips bs p m (k + 1))) := by
        have := ho.stored ((p + k) / 8) _ hx8
        rw [← hst] at this
        exact this
      have hg := ho.own.baseLe.1
      have HV : Hid (bits .xor .u8 (y : Int) (bits .and .u16 ((m : Int) / 2 ^ k) 1 % 256 * 2 ^ ((p + k) % 8) % 256) = ((y ^^^ (m / 2 ^ k % 2) * 2 ^ ((p + k) % 8) : Nat) : Int)) := hval
      clear hst hval hx8 hq
      go_wp2
      go_region
      rw [HV.out]
      go_wp2
      go_roundw
      case rel => exact ⟨k + 1, by omega, by go_num, HST.out.below (Below.refl _ _).drew, (hbel.setCell hg _).drew⟩
      case measure => simp [intOf]; omega
    · go_wp2
      go_ret
      have : k = L := by omega
      subst this
      exact ⟨_, _, rfl, ho, hbel⟩

/-- A burst, whatever it is. -/
theorem burst_any (ao : Option Addr) (n cap : Nat) (bs : List Nat) (p : Int) (m : Nat) (w : World) (h : Rd8 w ao n cap bs) (hn : n ≤ 140737488355328) (hm : m < 65536) (hp : -9223372036854775808 ≤ p) (hp2 : p ≤ 9223372036854775807) :
    Calls Try.prog 29 #[.slice ao n cap, .int .i64 p, .int .u16 (m : Int)] w fun e w' => ∃ ao' cap', e = .returned (.slice ao' n cap') ∧ Own8 w' w.heap.size ao' n cap' (brN bs p m (L16 m)) ∧ Below w.heap.size w w' := by
  by_cases hin : 0 ≤ p ∧ p + L16 m ≤ 8 * bs.length
  · obtain ⟨P, rfl⟩ := Int.eq_ofNat_of_zero_le hin.1
    have := burst_in ao n cap bs P m w h hn hm (by have := h.len; omega)
    unfold brN
    rw [if_pos hin]
    exact this
  · unfold brN
    rw [if_neg hin]
    exact burst_out ao n cap bs p m w h hn hm hp hp2 hin

end Go.Proofs.Ytfllkhimlambhaa
