/- What the document's answer for package crc does, walked: bursts. -/
import Derived.Test.YtfllkhimlambhaaCr7
import Derived.RegionTactic
namespace Go.Proofs.Ytfllkhimlambhaa
open Go.RowKit
set_option linter.unusedVariables false

theorem and1d (m k : Nat) (hm : m < 65536) : bits .and .u16 ((m : Int) / 2 ^ k) 1 = ((m / 2 ^ k % 2 : Nat) : Int) := by
  have e1 : (m : Int) / 2 ^ k = ((m / 2 ^ k : Nat) : Int) := by simp
  rw [e1, and1 _ (Nat.lt_of_le_of_lt (Nat.div_le_self _ _) hm)]

theorem bit_lt1 (n : Nat) : 2 ^ (n % 8) < 256 := by
  have := bit_lt 1 n (by omega)
  rwa [Nat.one_mul] at this

theorem one_val (y q : Nat) (hy : y < 256) (hq : q < 8) : bits .xor .u8 (y : Int) (2 ^ q % 256) = ((y ^^^ 2 ^ q : Nat) : Int) := by
  have hb := bit_lt1 q
  rw [Nat.mod_eq_of_lt hq] at hb
  have e2 : (2 : Int) ^ q % 256 = ((2 ^ q : Nat) : Int) := by
    have e3 : (2 : Int) ^ q = ((2 ^ q : Nat) : Int) := by simp
    rw [e3]
    generalize 2 ^ q = z at *
    omega
  rw [e2, u8_xor_nat _ _ hy hb]

/-- No bit is to be turned. -/
theorem refBurst_none (ao : Option Addr) (n cap : Nat) (bs : List Nat) (p : Int) (w : World) (h : Rd8 w ao n cap bs) (hn : n ≤ 140737488355328) :
    Calls Try.prog 31 #[.slice ao n cap, .int .i64 p, .int .u16 0] w fun e w' => ∃ ao' cap', e = .returned (.slice ao' n cap') ∧ Own8 w' w.heap.size ao' n cap' bs ∧ Below w.heap.size w w' := by
  have hl := h.len
  go_enter Try.func31, Try.ntmps31
  go_wp2_with (at_builtin; refine wpList_append_rdI _ rfl (.tmp 10) (.tmp 11) 33 rfl w.heap.size 5 .u8 (.int .u8 0) 1 Try.underlying33 info5 rfl rfl rfl (OwnI.fresh w _ _ _ (Nat.le_refl _)) (h.alloc _).rd rfl (by rw [ci_length]; omega) (by omega) (by unfold maxLen; omega) (by simp) ?_; intro ao1 cap1 w1 ho1 hb1; have hB1 : Below w.heap.size w w1 := below_alloc hb1)
  go_loopw [8] (fun i wr => ∃ k : Nat, k ≤ 16 ∧ i = .int .i64 k ∧ wr = w1) (fun i _ => 16 - (intOf i).toNat)
  case atStart => exact ⟨0, Nat.zero_le _, rfl, rfl⟩
  case round =>
    obtain ⟨k, hk, rfl, rfl⟩ := hrel
    by_cases hlt : k < 16
    · have hb0 : bits .and .u16 ((0 : Int) / 2 ^ k) 1 = 0 := by simp [bits]; rfl
      go_wp2
      go_roundw
      case rel => exact ⟨k + 1, by omega, by go_num, trivial⟩
      case measure => simp [intOf]; omega
    · go_wp2
      go_ret
      exact ⟨_, _, rfl, ⟨ho1, hl, h.byte⟩, hB1⟩

set_option maxHeartbeats 800000 in
theorem refBurst_in (ao : Option Addr) (n cap : Nat) (bs : List Nat) (p m : Nat) (w : World) (h : Rd8 w ao n cap bs) (hn : n ≤ 140737488355328) (hm : m < 65536) (hin : p + L16 m ≤ 8 * n) :
    Calls Try.prog 31 #[.slice ao n cap, .int .i64 (p : Int), .int .u16 (m : Int)] w fun e w' => ∃ ao' cap', e = .returned (.slice ao' n cap') ∧ Own8 w' w.heap.size ao' n cap' (flips bs p m 16) ∧ Below w.heap.size w w' := by
  have hl := h.len
  have HL : Hid (IsLen m (L16 m)) := isLen m hm
  go_enter Try.func31, Try.ntmps31
  go_wp2_with (at_builtin; refine wpList_append_rdI _ rfl (.tmp 10) (.tmp 11) 33 rfl w.heap.size 5 .u8 (.int .u8 0) 1 Try.underlying33 info5 rfl rfl rfl (OwnI.fresh w _ _ _ (Nat.le_refl _)) (h.alloc _).rd rfl (by rw [ci_length]; omega) (by omega) (by unfold maxLen; omega) (by simp) ?_; intro ao1 cap1 w1 ho1 hb1; have hB1 : Below w.heap.size w w1 := below_alloc hb1)
  go_loopw [8] (fun i wr => ∃ k : Nat, k ≤ 16 ∧ i = .int .i64 k ∧ Own8 wr w.heap.size ao1 n cap1 (flips bs p m k) ∧ Below w.heap.size w wr) (fun i _ => 16 - (intOf i).toNat)
  case atStart => exact ⟨0, Nat.zero_le _, rfl, ⟨ho1, hl, h.byte⟩, hB1⟩
  case round =>
    obtain ⟨k, hk, rfl, ho, hbel⟩ := hrel
    by_cases hlt : k < 16
    · have hbit := and1d m k hm
      rcases Nat.mod_two_eq_zero_or_one (m / 2 ^ k) with hv | hv
      · have hst : flips bs p m (k + 1) = flips bs p m k := by rw [flips, hv, flip1_zero]
        rw [hv] at hbit
        rw [← hst] at ho
        clear hst hv
        go_wp2
        go_roundw
        case rel => exact ⟨k + 1, by omega, by go_num, ho, hbel⟩
        case measure => simp [intOf]; omega
      · have hkL := HL.out.bit hv
        have hpk : p + k < 8 * n := by omega
        have hno : ¬ 8 * (n : Int) - (k : Int) ≤ (p : Int) := by omega
        obtain ⟨g, rfl⟩ := ho.at0 (by omega)
        clear ho1 hb1
        have hq : (p + k) / 8 < (flips bs p m k).length := by rw [flips_length]; omega
        have hc := ho.own.cellAt ((p + k) / 8) (by rw [ci_length]; exact hq)
        have hfz := ho.own.frozenAt ((p + k) / 8)
        rw [ci_get] at hc
        have hy := ho.byte (flips bs p m k)[(p + k) / 8] (List.getElem_mem _)
        have hst := flips_step bs p m k hq
        rw [hv] at hst hbit
        rw [Nat.one_mul] at hst
        generalize (flips bs p m k)[(p + k) / 8] = y at *
        have hx8 : y ^^^ 2 ^ ((p + k) % 8) < 256 := xor8 hy (bit_lt1 _)
        have HST : Hid (Own8 (wr.setCell ⟨g, (p + k) / 8, none⟩ (.int .u8 ((y ^^^ 2 ^ ((p + k) % 8) : Nat) : Int))) w.heap.size (some ⟨g, 0, none⟩) n cap1 (flips bs p m (k + 1))) := by
          have := ho.stored ((p + k) / 8) _ hx8
          rw [← hst] at this
          exact this
        have hg := ho.own.baseLe.1
        have HV : Hid (bits .xor .u8 (y : Int) (2 ^ ((p + k) % 8) % 256) = ((y ^^^ 2 ^ ((p + k) % 8) : Nat) : Int)) := one_val y _ hy (Nat.mod_lt _ (by decide))
        clear hst hx8 hq hv hkL
        go_wp2
        go_region
        rw [HV.out]
        go_wp2
        go_roundw
        case rel => exact ⟨k + 1, by omega, by go_num, HST.out.below (Below.refl _ _).drew, (hbel.setCell hg _).drew⟩
        case measure => simp [intOf]; omega
    · go_wp2
      go_ret
      have : k = 16 := by omega
      subst this
      exact ⟨_, _, rfl, ho, hbel⟩

set_option maxHeartbeats 1600000 in
theorem refBurst_out (ao : Option Addr) (n cap : Nat) (bs : List Nat) (p : Int) (m : Nat) (w : World) (h : Rd8 w ao n cap bs) (hn : n ≤ 140737488355328) (hm : m < 65536) (hp : -9223372036854775808 ≤ p) (hp2 : p ≤ 9223372036854775807) (hout : ¬ (0 ≤ p ∧ p + L16 m ≤ 8 * n)) (hL0 : L16 m ≠ 0) :
    Calls Try.prog 31 #[.slice ao n cap, .int .i64 p, .int .u16 (m : Int)] w fun e w' => ∃ ao' cap', e = .returned (.slice ao' n cap') ∧ Own8 w' w.heap.size ao' n cap' bs ∧ Below w.heap.size w w' := by
  have hl := h.len
  have HL : Hid (IsLen m (L16 m)) := isLen m hm
  have hL16 := HL.out.le
  have HO : Hid (¬ (0 ≤ p ∧ p + L16 m ≤ 8 * n)) := hout
  generalize L16 m = L at *
  clear hout
  go_enter Try.func31, Try.ntmps31
  go_wp2_with (at_builtin; refine wpList_append_rdI _ rfl (.tmp 10) (.tmp 11) 33 rfl w.heap.size 5 .u8 (.int .u8 0) 1 Try.underlying33 info5 rfl rfl rfl (OwnI.fresh w _ _ _ (Nat.le_refl _)) (h.alloc _).rd rfl (by rw [ci_length]; omega) (by omega) (by unfold maxLen; omega) (by simp) ?_; intro ao1 cap1 w1 ho1 hb1; have hB1 : Below w.heap.size w w1 := below_alloc hb1)
  go_loopw [8] (fun i wr => ∃ (k : Nat) (xs : List Nat), k < L ∧ i = .int .i64 k ∧ Own8 wr w.heap.size ao1 n cap1 xs ∧ Below w.heap.size w wr) (fun i _ => 16 - (intOf i).toNat)
  case atStart => exact ⟨0, bs, by omega, rfl, ⟨ho1, hl, h.byte⟩, hB1⟩
  case round =>
    obtain ⟨k, xs, hk, rfl, ho, hbel⟩ := hrel
    have hlt : k < 16 := by omega
    have hbit := and1d m k hm
    have hsz := hbel.size
    rcases Nat.mod_two_eq_zero_or_one (m / 2 ^ k) with hv | hv
    · rw [hv] at hbit
      have hkL : k + 1 < L := by
        rcases Nat.lt_or_ge (k + 1) L with hh | hh
        · exact hh
        · have h1 := HL.out.lo hL0
          rw [show L - 1 = k by omega, hv] at h1
          omega
      clear hv
      go_wp2
      go_roundw
      case rel => exact ⟨k + 1, xs, by omega, by go_num, ho, hbel⟩
      case measure => simp [intOf]; omega
    · rw [hv] at hbit
      by_cases hp0 : p < 0
      · clear hv
        go_wp2_with (at_builtin; refine wpList_append_rdI _ rfl (.tmp 33) (.tmp 34) 33 rfl wr.heap.size 5 .u8 (.int .u8 0) 1 Try.underlying33 info5 rfl rfl rfl (OwnI.fresh wr _ _ _ (Nat.le_refl _)) ((h.below hbel).alloc _).rd rfl (by rw [ci_length]; omega) (by omega) (by unfold maxLen; omega) (by simp) ?_; intro ao2 cap2 w2 ho2 hb2; have hB2 : Below w.heap.size w w2 := below_step hbel (below_alloc hb2))
        go_ret
        exact ⟨_, _, rfl, ⟨ho2.mono hsz, hl, h.byte⟩, hB2⟩
      · by_cases hp1 : 8 * (n : Int) - (k : Int) ≤ p
        · clear hv
          go_wp2_with (at_builtin; refine wpList_append_rdI _ rfl (.tmp 33) (.tmp 34) 33 rfl wr.heap.size 5 .u8 (.int .u8 0) 1 Try.underlying33 info5 rfl rfl rfl (OwnI.fresh wr _ _ _ (Nat.le_refl _)) ((h.below hbel).alloc _).rd rfl (by rw [ci_length]; omega) (by omega) (by unfold maxLen; omega) (by simp) ?_; intro ao2 cap2 w2 ho2 hb2; have hB2 : Below w.heap.size w w2 := below_step hbel (below_alloc hb2))
          go_ret
          exact ⟨_, _, rfl, ⟨ho2.mono hsz, hl, h.byte⟩, hB2⟩
        · obtain ⟨P, rfl⟩ := Int.eq_ofNat_of_zero_le (show 0 ≤ p by omega)
          have hkL : k + 1 < L := by have := HO.out; omega
          have hpk : P + k < 8 * n := by omega
          obtain ⟨g, rfl⟩ := ho.at0 (by omega)
          clear ho1 hb1
          have hq : (P + k) / 8 < xs.length := by rw [ho.len]; omega
          have hc := ho.own.cellAt ((P + k) / 8) (by rw [ci_length]; exact hq)
          have hfz := ho.own.frozenAt ((P + k) / 8)
          rw [ci_get] at hc
          have hy := ho.byte xs[(P + k) / 8] (List.getElem_mem _)
          generalize xs[(P + k) / 8] = y at *
          have hx8 : y ^^^ 2 ^ ((P + k) % 8) < 256 := xor8 hy (bit_lt1 _)
          have HST : Hid (Own8 (wr.setCell ⟨g, (P + k) / 8, none⟩ (.int .u8 ((y ^^^ 2 ^ ((P + k) % 8) : Nat) : Int))) w.heap.size (some ⟨g, 0, none⟩) n cap1 (xs.set ((P + k) / 8) (y ^^^ 2 ^ ((P + k) % 8)))) := ho.stored ((P + k) / 8) _ hx8
          have hg := ho.own.baseLe.1
          have HV : Hid (bits .xor .u8 (y : Int) (2 ^ ((P + k) % 8) % 256) = ((y ^^^ 2 ^ ((P + k) % 8) : Nat) : Int)) := one_val y _ hy (Nat.mod_lt _ (by decide))
          clear hx8 hq hv
          go_wp2
          go_region
          rw [HV.out]
          go_wp2
          go_roundw
          case rel => exact ⟨k + 1, _, by omega, by go_num, HST.out.below (Below.refl _ _).drew, (hbel.setCell hg _).drew⟩
          case measure => simp [intOf]; omega

/-- The document's burst, whatever it is: as the program's. -/
theorem refBurst_any (ao : Option Addr) (n cap : Nat) (bs : List Nat) (p : Int) (m : Nat) (w : World) (h : Rd8 w ao n cap bs) (hn : n ≤ 140737488355328) (hm : m < 65536) (hp : -9223372036854775808 ≤ p) (hp2 : p ≤ 9223372036854775807) :
    Calls Try.prog 31 #[.slice ao n cap, .int .i64 p, .int .u16 (m : Int)] w fun e w' => ∃ ao' cap', e = .returned (.slice ao' n cap') ∧ Own8 w' w.heap.size ao' n cap' (brN bs p m (L16 m)) ∧ Below w.heap.size w w' := by
  have hl := h.len
  have hL := isLen m hm
  by_cases hm0 : m = 0
  · subst hm0
    rw [brN_zero bs p _ hL]
    exact refBurst_none ao n cap bs p w h hn
  · by_cases hin : 0 ≤ p ∧ p + L16 m ≤ 8 * bs.length
    · obtain ⟨P, rfl⟩ := Int.eq_ofNat_of_zero_le hin.1
      have := refBurst_in ao n cap bs P m w h hn hm (by omega)
      rw [flips_more hL 16 hL.le] at this
      unfold brN
      rw [if_pos hin]
      exact this
    · rw [brN_out hin]
      refine refBurst_out ao n cap bs p m w h hn hm hp hp2 (by rw [hl] at hin; exact hin) ?_
      intro e
      have := hL.hi
      rw [e] at this
      simp at this
      exact hm0 this

theorem refBurst_to (ao : Option Addr) (n cap : Nat) (bs xs : List Nat) (p : Int) (m : Nat) (w : World) (h : Rd8 w ao n cap bs) (hx : brN bs p m (L16 m) = xs) (hn : n ≤ 140737488355328) (hm : m < 65536) (hp : -9223372036854775808 ≤ p) (hp2 : p ≤ 9223372036854775807) :
    Calls Try.prog 31 #[.slice ao n cap, .int .i64 p, .int .u16 (m : Int)] w fun e w' => ∃ ao' cap', e = .returned (.slice ao' n cap') ∧ Own8 w' w.heap.size ao' n cap' xs ∧ Below w.heap.size w w' := by
  subst hx
  exact refBurst_any ao n cap bs p m w h hn hm hp hp2

end Go.Proofs.Ytfllkhimlambhaa
