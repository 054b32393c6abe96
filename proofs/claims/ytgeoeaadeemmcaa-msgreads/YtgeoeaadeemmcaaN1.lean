/- What the document's answers for packages cnum and pack do, walked: numbers' bits, and values. -/
import Derived.Test.YtgeoeaadeemmcaaMz
import Derived.Test.YtgeoeaadeemmcaaPr1
import Derived.Deep.QuietTactic
import Derived.BigQuiet
import Derived.Deep.RegionHeldLaw
namespace Go.Proofs.Ytgeoeaadeemmcaa
open Go.RowKit
set_option linter.unusedVariables false

set_option maxHeartbeats 400000 in
theorem refBits_any (a b : Nat) (ha : a < 18446744073709551616) (hb : b < 18446744073709551616) (w : World) :
    Calls Try.prog 67 #[.complex .f64 a b] w fun e w' => e = .returned (.tuple #[.int .u64 (formN a : Int), .int .u64 (formN b : Int)]) ∧ w' = w := by
  have hf := bits_run
  go_enter Try.func67, Try.ntmps67
  go_wp2_with (first
    | (go_at_call_of 51 (Value.int IntKind.u64 (a : Int)); refine (refForm_any a ha _).mono ?_; rintro e w' ⟨rfl, hw⟩; subst w')
    | (go_at_call 51; refine (refForm_any b hb _).mono ?_; rintro e w' ⟨rfl, hw⟩; subst w'))
  go_ret2
  exact ⟨rfl, rfl⟩

set_option maxHeartbeats 400000 in
theorem refSame_any (x y : Nat × Nat) (hx : wordB x) (hy : wordB y) (w : World) :
    Calls Try.prog 55 #[.complex .f64 x.1 x.2, .complex .f64 y.1 y.2] w fun e w' => e = .returned (.bool (sameB x.1 x.2 y.1 y.2)) ∧ w' = w := by
  obtain ⟨a, b⟩ := x
  obtain ⟨c, d⟩ := y
  obtain ⟨h1, h2⟩ := hx
  obtain ⟨h3, h4⟩ := hy
  simp only at h1 h2 h3 h4 ⊢
  cases h : ((formN a : Int) == (formN c : Int))
  · go_enter Try.func55, Try.ntmps55
    go_wp2_with (first
      | (go_at_call_of 67 (Value.complex FloatKind.f64 a b); refine (refBits_any a b h1 h2 _).mono ?_; rintro e w' ⟨rfl, hw⟩; subst w')
      | (go_at_call 67; refine (refBits_any c d h3 h4 _).mono ?_; rintro e w' ⟨rfl, hw⟩; subst w'))
    go_ret
    exact ⟨ret_bool (by simp only [sameB, h, Bool.false_and]), rfl⟩
  · go_enter Try.func55, Try.ntmps55
    go_wp2_with (first
      | (go_at_call_of 67 (Value.complex FloatKind.f64 a b); refine (refBits_any a b h1 h2 _).mono ?_; rintro e w' ⟨rfl, hw⟩; subst w')
      | (go_at_call 67; refine (refBits_any c d h3 h4 _).mono ?_; rintro e w' ⟨rfl, hw⟩; subst w'))
    go_ret
    exact ⟨ret_bool (by simp only [sameB, h, Bool.true_and]), rfl⟩

set_option maxHeartbeats 400000 in
theorem refBitsOf_any (ao : Option Addr) (cap n : Nat) (zs : List Int) (w : World) (hrd : RdI w .u8 ao cap zs) (hn : zs.length = n) (h8 : n ≤ 8) (hb : ∀ z ∈ zs, 0 ≤ z ∧ z < 256) :
    Calls Try.prog 50 #[.slice ao n cap] w fun e w' => e = .returned (.int .u64 (rdW zs : Int)) ∧ w' = w := by
  have HB : Hid (∀ z ∈ zs, 0 ≤ z ∧ z < 256) := hb
  clear hb
  go_enter Try.func50, Try.ntmps50
  go_wp2
  go_loop [3, 8] (fun t i => ∃ k : Nat, k ≤ n ∧ i = .int .i64 k ∧ t = .int .u64 (rdN (zs.take k))) (fun _ i => n - (intOf i).toNat)
  case atStart => exact ⟨0, Nat.zero_le _, rfl, rfl⟩
  case round =>
    obtain ⟨k, hk, rfl, rfl⟩ := hrel
    by_cases hlt : k < n
    · obtain ⟨b, off, rfl, _, hc⟩ := hrd.at (t := k) (by omega)
      have hc1 := hc k (by omega)
      have h1 := rdN_bd (zs.take k) (fun z hz => HB.out z (List.mem_of_mem_take hz))
      have h2 := pow256_le (zs.take k).length 7 (by simp; omega)
      have e7 : (256 : Int) ^ 7 = 72057594037927936 := by decide
      have r0 : 0 ≤ rdN (zs.take k) := h1.1
      have r1 : rdN (zs.take k) < 72057594037927936 := by omega
      have h3 := HB.out zs[k] (List.getElem_mem _)
      have z0 : 0 ≤ zs[k] := h3.1
      have z1 : zs[k] < 256 := h3.2
      have HE : Hid (rdN (zs.take (k + 1)) = rdN (zs.take k) * 256 + zs[k]) := by rw [Hid, List.take_succ_eq_append_getElem (by omega), rdN_snoc]
      clear h1 h2 e7 h3 hc
      generalize rdN (zs.take k) = r at *
      generalize zs[k] = z at *
      go_wp2
      go_round
      case rel => exact ⟨k + 1, by omega, by go_num, by rw [HE.out]; congr 1; first | omega | (rw [Int.mul_comm])⟩
      case measure => simp [intOf]; omega
    · go_wp2
      go_ret
      refine ⟨ret_int ?_, rfl⟩
      have := (rdN_bd zs HB.out).1
      rw [List.take_of_length_le (by omega)]
      unfold rdW
      omega

end Go.Proofs.Ytgeoeaadeemmcaa
