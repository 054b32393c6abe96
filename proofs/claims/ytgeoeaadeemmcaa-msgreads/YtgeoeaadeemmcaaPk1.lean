/- What the inner functions of package pack do, walked. -/
import Derived.Test.YtgeoeaadeemmcaaWalks
import Derived.Test.YtgeoeaadeemmcaaSl
import Derived.Test.YtgeoeaadeemmcaaPkm
namespace Go.Proofs.Ytgeoeaadeemmcaa
open Go.RowKit
set_option linter.unusedVariables false

set_option maxHeartbeats 400000 in
theorem readForm_any (ao : Option Addr) (cap n : Nat) (zs : List Int) (w : World) (hrd : RdI w .u8 ao cap zs) (hn : zs.length = n) (h8 : n ≤ 8)
    (hb : ∀ z ∈ zs, 0 ≤ z ∧ z < 256) :
    Calls Try.prog 47 #[.slice ao n cap] w fun e w' => e = .returned (.int .u64 (rdN zs)) ∧ w' = w := by
  go_enter Try.func47, Try.ntmps47
  go_wp2
  go_loop [3, 8] (fun t i => ∃ k : Nat, k ≤ n ∧ i = .int .i64 k ∧ t = .int .u64 (rdN (zs.take k))) (fun _ i => n - (intOf i).toNat)
  case atStart => exact ⟨0, Nat.zero_le _, rfl, rfl⟩
  case round =>
    obtain ⟨k, hk, rfl, rfl⟩ := hrel
    by_cases hlt : k < n
    · obtain ⟨b, off, rfl, _, hc⟩ := hrd.at (t := k) (by omega)
      have hc1 := hc k (by omega)
      go_wp2
      go_round
      case rel => exact ⟨k + 1, by omega, by go_num, by rw [rdN_step zs k (by omega) (by omega) hb]⟩
      case measure => simp [intOf]; omega
    · go_wp2
      go_ret
      exact ⟨ret_int (by rw [List.take_of_length_le (by omega)]), rfl⟩

theorem info5 : (Try.prog.info? 5).map (fun i => (i.zero, i.size, i.bytes)) = some (some (.int .u8 0), 1, 1) := by kernel_rfl
theorem info3 : (Try.prog.info? 3).map (fun i => (i.zero, i.size, i.bytes)) = some (some (.int .i64 0), 1, 8) := by kernel_rfl

set_option maxHeartbeats 400000 in
theorem appendForm_any (base : Nat) (ao : Option Addr) (cap n : Nat) (zs : List Int) (v : Int) (s : Nat) (w : World) (hown : OwnI w base 5 .u8 ao cap zs) (hn : zs.length = n) (h8 : s ≤ 8)
    (hv0 : 0 ≤ v) (hv1 : v < 18446744073709551616) (hlen : n + s ≤ 140737488355328) (hbase : base ≤ w.heap.size) :
    Calls Try.prog 41 #[.slice ao n cap, .int .u64 v, .int .i64 s] w fun e w' => ∃ ao' cap', e = .returned (.slice ao' (n + s) cap') ∧ OwnI w' base 5 .u8 ao' cap' (zs ++ wrN s v) ∧ Below base w w' := by
  go_enter Try.func41, Try.ntmps41
  go_wp2
  go_loopw [0, 9] (fun t i wr => ∃ (k : Nat) (a : Option Addr) (c : Nat), k ≤ s ∧ i = .int .i64 k ∧ t = .slice a (n + k) c ∧ OwnI wr base 5 .u8 a c (zs ++ (wrN s v).take k) ∧ Below base w wr) (fun _ i _ => s - (intOf i).toNat)
  case atStart => exact ⟨0, ao, cap, Nat.zero_le _, rfl, rfl, by simpa using hown, Below.refl _ _⟩
  case round =>
    obtain ⟨k, a, c, hk, rfl, rfl, ho, hbel⟩ := hrel
    by_cases hlt : k < s
    · go_wp2_with (at_builtin; refine wpList_append_rdI _ rfl _ _ 22 rfl base 5 .u8 (.int .u8 0) 1 Try.underlying22 info5 rfl rfl rfl (OwnI.alloc ho _) (RdI.one _ _ _ _) (by simp; omega) rfl (by omega) (by unfold maxLen; omega) (by have := hbel.size; simp; omega) ?_)
      · intro ao2 cap2 w' ho' hb'
        rw [← wrN_snoc zs s k v hlt] at ho'
        have hbel' : Below base w w' := (hbel.alloc (by have := hbel.size; omega) _).trans hb'
        clear hb' ho hown hbel
        go_wp2
        go_roundw
        case rel => exact ⟨k + 1, _, _, by omega, by go_num, rfl, ho', hbel'⟩
        case measure => simp [intOf]; omega
    · go_wp2
      go_ret
      have : k = s := by omega
      subst this
      exact ⟨_, _, rfl, by rw [List.take_of_length_le (by simp)] at ho; exact ho, hbel⟩

set_option maxHeartbeats 400000 in
theorem rest_any (ao : Option Addr) (cap n i : Nat) (zs : List Int) (w : World) (hrd : RdI w .u8 ao cap zs) (hn : zs.length = n) (hi : i ≤ n) (hlen : n ≤ 140737488355328) :
    Calls Try.prog 48 #[.slice ao n cap, .int .i64 i] w fun e w' => ∃ ao' cap', e = .returned (.slice ao' (n - i) cap') ∧ OwnI w' w.heap.size 5 .u8 ao' cap' (zs.drop i) ∧ Below w.heap.size w w' := by
  have hle := hrd.le
  have hcut := hrd.tail i (by omega)
  go_enter Try.func48, Try.ntmps48
  go_wp2_with (at_builtin; refine wpList_append_rdI _ rfl _ _ 22 rfl w.heap.size 5 .u8 (.int .u8 0) 1 Try.underlying22 info5 rfl rfl rfl (OwnI.nil _ _ _ _) hcut rfl (by simp; omega) (by omega) (by unfold maxLen; omega) (Nat.le_refl _) ?_; intro ao2 cap2 w1 ho1 hb1)
  all_goals
    go_ret
    exact ⟨_, _, rfl, ho1, hb1⟩

end Go.Proofs.Ytgeoeaadeemmcaa
