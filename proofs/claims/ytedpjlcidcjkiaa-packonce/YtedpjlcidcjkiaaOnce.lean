/- What is read is just what would be written: the law's function returns true for every bytes and every number. Conditions: none. -/
import Derived.Test.YtedpjlcidcjkiaaRows
import Derived.Test.YtedpjlcidcjkiaaMath
import Derived.Test.YtedpjlcidcjkiaaLeaf
import Derived.Test.YtedpjlcidcjkiaaWalks
import Derived.Test.YtedpjlcidcjkiaaSl
import Derived.Test.YtedpjlcidcjkiaaPkm
import Derived.Test.YtedpjlcidcjkiaaPk1
import Derived.Test.YtedpjlcidcjkiaaPk2
import Derived.Test.YtedpjlcidcjkiaaPk3
import Derived.Test.YtedpjlcidcjkiaaPk4
import Derived.Test.YtedpjlcidcjkiaaPk5
import Derived.Test.YtedpjlcidcjkiaaPk6
import Derived.WalkKit
import Derived.ProofKit
import Derived.OpenShut
import Derived.ShutString
import Derived.ChangeOld
import Derived.SizedLaws
import Derived.Below
import Derived.Deep.QuietTactic
import Derived.BigQuiet
import Derived.Deep.RegionWith
import Derived.Deep.RegionHeld
namespace Go.Proofs.Ytedpjlcidcjkiaa.packOnce
open Go.ChangeShapes Go.WideShapes Go.ChangeAt Go.RowKit
set_option linter.unusedVariables false

theorem own : ownKnob Try.prog.godebug = none := by kernel_rfl
theorem laidOut : laidOutB Try.prog = true := by kernel_rfl
theorem bytes5 : Try.prog.bytesOf 5 = 1 := by kernel_rfl

set_option maxHeartbeats 1600000 in
theorem walkGL (a0 : Option Addr) (c0 n0 : Nat) (z0 : List Int) (m : Nat) (w : World) (r0 : RdI w .u8 a0 c0 z0) (l0 : z0.length = n0) (hb : ∀ z ∈ z0, 0 ≤ z ∧ z < 256) (s0 : n0 * 1 ≤ 140737488351232) (hm : m ≤ 1000) (hmn : 3 * m ≤ n0) (h16 : 16 ≤ n0) (h1 : formN (rdW (z0.take 8)) = rdW (z0.take 8)) (h2 : formN (rdW ((z0.drop 8).take 8)) = rdW ((z0.drop 8).take 8)) :
    Calls Try.prog 5 #[.slice a0 n0 c0, .int .i64 m] w fun e w' => e = .returned (.bool true) ∧ Below w.heap.size w w' := by
  have hs1 : strOfNums (formsN (getN z0 m)) ++ strOfNums (z0.drop (3 * m)) = strOfNums z0 := str_get z0 m hb (by omega)
  have hs2 : ¬ 9223372036854775807 < (strOfNums (formsN (getN z0 m))).size + (strOfNums (z0.drop (3 * m))).size := by
    rw [strOfNums_size, strOfNums_size, formsN_length, getN_length, List.length_drop]; omega
  have hs3 : strOfNums (valN (rdW (z0.take 8)) (rdW ((z0.drop 8).take 8))) ++ strOfNums (z0.drop 16) = strOfNums z0 := str_take z0 hb (by omega) h1 h2
  have hs4 : ¬ 9223372036854775807 < (strOfNums (valN (rdW (z0.take 8)) (rdW ((z0.drop 8).take 8)))).size + (strOfNums (z0.drop 16)).size := by
    rw [strOfNums_size, strOfNums_size, valN_length, List.length_drop]; omega
  have hv1 : formN (rdW (z0.take 8)) < 18446744073709551616 := by
    rw [h1]; exact rdW_lt _ (fun z hz => hb z (List.mem_of_mem_take hz)) (by simp; omega)
  have hv2 : formN (rdW ((z0.drop 8).take 8)) < 18446744073709551616 := by
    rw [h2]; exact rdW_lt _ (part_bd z0 8 8 hb) (by simp; omega)
  go_enter Try.func5, Try.ntmps5
  go_wp2_with (first
    | (go_at_call 8; refine (alive_any _).mono ?_; rintro e w1 ⟨rfl, hb1⟩)
    | (at_builtin; refine wpList_append_rdI _ rfl (.tmp 16) (.tmp 17) 22 rfl w1.heap.size 5 .u8 (.int .u8 0) 1 Try.underlying22 info5 rfl rfl rfl (OwnI.fresh w1 _ _ _ (Nat.le_refl _)) ((r0.below hb1).alloc _) rfl l0 (by omega) (by unfold maxLen; omega) (by simp) ?_; intro ao2 cap2 w2 ho2 hb2; have hB2 : Below w.heap.size w w2 := below_step hb1 (below_alloc hb2))
    | (go_at_call 10; refine (get_good _ _ _ m z0 _ ho2.rd l0 hb hm (by omega) (by omega)).mono ?_; rintro e w3 ⟨a3, c3, a4, c4, rfl, ho3, ho4, hb3⟩)
    | (go_at_call 7; refine (nums_good _ _ m (getN z0 m) _ ho3.rd (by simp) (by omega) (getN_bd z0 m hb)).mono ?_; rintro e w4 ⟨a5, c5, rfl, ho5, hb4⟩; have hB4 : Below w.heap.size w w4 := below_step (below_step hB2 hb3) hb4; have hx1 := run_string_rd (P := Try.prog) (n := 3 * m) 22 9 5 Try.underlying22 Try.underlying5 Try.underlying9 ho5.rd (by rw [formsN_length]; simp); have hx2 := run_string_rd (P := Try.prog) (n := n0 - 3 * m) 22 9 5 Try.underlying22 Try.underlying5 Try.underlying9 (ho4.below hb4).rd (by simp; omega); have hx3 := run_string_rd (P := Try.prog) (n := n0) 22 9 5 Try.underlying22 Try.underlying5 Try.underlying9 (r0.below hB4) l0)
    | (at_builtin; refine wpList_append_rdI _ rfl (.tmp 50) (.tmp 51) 22 rfl w4.heap.size 5 .u8 (.int .u8 0) 1 Try.underlying22 info5 rfl rfl rfl (OwnI.fresh w4 _ _ _ (Nat.le_refl _)) ((r0.below hB4).alloc _) rfl l0 (by omega) (by unfold maxLen; omega) (by simp) ?_; intro ao5 cap5 w5 ho6 hb5; have hB5 : Below w.heap.size w w5 := below_step hB4 (below_alloc hb5))
    | (go_at_call 13; refine (take_long _ _ _ z0 _ ho6.rd l0 hb h16 (by omega) h1 h2).mono ?_; rintro e w6 ⟨a6, c6, rfl, ho7, hb6⟩; have hB6 : Below w.heap.size w w6 := below_step hB5 hb6))
  have hS : Hid (∀ w', Below w6.heap.size w6 w' → (convert 22 9 (.slice a6 (n0 - 16) c6)).run Try.prog w' = .ok (.string (strOfNums (z0.drop 16))) w' ∧ (convert 22 9 (.slice a0 n0 c0)).run Try.prog w' = .ok (.string (strOfNums z0)) w') :=
    fun w' h => ⟨run_string_rd (P := Try.prog) 22 9 5 Try.underlying22 Try.underlying5 Try.underlying9 (ho7.below h).rd (by simp; omega), run_string_rd (P := Try.prog) 22 9 5 Try.underlying22 Try.underlying5 Try.underlying9 (r0.below (below_step hB6 h)) l0⟩
  clear hx1 hx2 hx3
  first
    | go_region_held (fun w' => (convert 22 9 (.slice a6 (n0 - 16) c6)).run Try.prog w' = .ok (.string (strOfNums (z0.drop 16))) w' ∧ (convert 22 9 (.slice a0 n0 c0)).run Try.prog w' = .ok (.string (strOfNums z0)) w')
      (first | exact hS.out _ (Below.refl _ _) | exact hS.out _ (Below.refl _ _).drew | exact hS.out _ ⟨hb7.os, hb7.tape, hb7.output, hb7.size, hb7.block⟩)
      ((go_at_call 14; refine (value_any _ _ _ hv1 hv2).mono ?_; rintro e w7 ⟨a7, c7, rfl, ho8, hb7⟩; have hx7 := run_string_rd (P := Try.prog) (n := 16) 22 9 5 Try.underlying22 Try.underlying5 Try.underlying9 ho8.rd (valN_length _ _)))
    | fail
  go_wp2
  go_ret
  exact ⟨rfl, below_step hB6 ⟨hb7.os, hb7.tape, hb7.output, hb7.size, hb7.block⟩⟩

set_option maxHeartbeats 1600000 in
theorem walkGO (a0 : Option Addr) (c0 n0 : Nat) (z0 : List Int) (m : Nat) (w : World) (r0 : RdI w .u8 a0 c0 z0) (l0 : z0.length = n0) (hb : ∀ z ∈ z0, 0 ≤ z ∧ z < 256) (s0 : n0 * 1 ≤ 140737488351232) (hm : m ≤ 1000) (hmn : 3 * m ≤ n0) (h16 : 16 ≤ n0) (hodd : formN (rdW (z0.take 8)) ≠ rdW (z0.take 8) ∨ formN (rdW ((z0.drop 8).take 8)) ≠ rdW ((z0.drop 8).take 8)) :
    Calls Try.prog 5 #[.slice a0 n0 c0, .int .i64 m] w fun e w' => e = .returned (.bool true) ∧ Below w.heap.size w w' := by
  have hs1 : strOfNums (formsN (getN z0 m)) ++ strOfNums (z0.drop (3 * m)) = strOfNums z0 := str_get z0 m hb (by omega)
  have hs2 : ¬ 9223372036854775807 < (strOfNums (formsN (getN z0 m))).size + (strOfNums (z0.drop (3 * m))).size := by
    rw [strOfNums_size, strOfNums_size, formsN_length, getN_length, List.length_drop]; omega
  have HO : Hid (formN (rdW (z0.take 8)) ≠ rdW (z0.take 8) ∨ formN (rdW ((z0.drop 8).take 8)) ≠ rdW ((z0.drop 8).take 8)) := hodd
  clear hodd
  go_enter Try.func5, Try.ntmps5
  go_wp2_with (first
    | (go_at_call 8; refine (alive_any _).mono ?_; rintro e w1 ⟨rfl, hb1⟩)
    | (at_builtin; refine wpList_append_rdI _ rfl (.tmp 16) (.tmp 17) 22 rfl w1.heap.size 5 .u8 (.int .u8 0) 1 Try.underlying22 info5 rfl rfl rfl (OwnI.fresh w1 _ _ _ (Nat.le_refl _)) ((r0.below hb1).alloc _) rfl l0 (by omega) (by unfold maxLen; omega) (by simp) ?_; intro ao2 cap2 w2 ho2 hb2; have hB2 : Below w.heap.size w w2 := below_step hb1 (below_alloc hb2))
    | (go_at_call 10; refine (get_good _ _ _ m z0 _ ho2.rd l0 hb hm (by omega) (by omega)).mono ?_; rintro e w3 ⟨a3, c3, a4, c4, rfl, ho3, ho4, hb3⟩)
    | (go_at_call 7; refine (nums_good _ _ m (getN z0 m) _ ho3.rd (by simp) (by omega) (getN_bd z0 m hb)).mono ?_; rintro e w4 ⟨a5, c5, rfl, ho5, hb4⟩; have hB4 : Below w.heap.size w w4 := below_step (below_step hB2 hb3) hb4; have hx1 := run_string_rd (P := Try.prog) (n := 3 * m) 22 9 5 Try.underlying22 Try.underlying5 Try.underlying9 ho5.rd (by rw [formsN_length]; simp); have hx2 := run_string_rd (P := Try.prog) (n := n0 - 3 * m) 22 9 5 Try.underlying22 Try.underlying5 Try.underlying9 (ho4.below hb4).rd (by simp; omega); have hx3 := run_string_rd (P := Try.prog) (n := n0) 22 9 5 Try.underlying22 Try.underlying5 Try.underlying9 (r0.below hB4) l0)
    | (at_builtin; refine wpList_append_rdI _ rfl (.tmp 50) (.tmp 51) 22 rfl w4.heap.size 5 .u8 (.int .u8 0) 1 Try.underlying22 info5 rfl rfl rfl (OwnI.fresh w4 _ _ _ (Nat.le_refl _)) ((r0.below hB4).alloc _) rfl l0 (by omega) (by unfold maxLen; omega) (by simp) ?_; intro ao5 cap5 w5 ho6 hb5; have hB5 : Below w.heap.size w w5 := below_step hB4 (below_alloc hb5))
    | (go_at_call 13; refine (take_odd _ _ _ z0 _ ho6.rd l0 hb h16 (by omega) HO.out).mono ?_; rintro e w6 ⟨rfl, hb6⟩; have hB6 : Below w.heap.size w w6 := below_step hB5 hb6))
  go_quiet (fail)
  go_wp2
  go_ret
  exact ⟨rfl, ⟨hB6.os, hB6.tape, hB6.output, hB6.size, hB6.block⟩⟩

set_option maxHeartbeats 1600000 in
theorem walkGS (a0 : Option Addr) (c0 n0 : Nat) (z0 : List Int) (m : Nat) (w : World) (r0 : RdI w .u8 a0 c0 z0) (l0 : z0.length = n0) (hb : ∀ z ∈ z0, 0 ≤ z ∧ z < 256) (s0 : n0 * 1 ≤ 140737488351232) (hm : m ≤ 1000) (hmn : 3 * m ≤ n0) (h16 : n0 < 16) :
    Calls Try.prog 5 #[.slice a0 n0 c0, .int .i64 m] w fun e w' => e = .returned (.bool true) ∧ Below w.heap.size w w' := by
  have hs1 : strOfNums (formsN (getN z0 m)) ++ strOfNums (z0.drop (3 * m)) = strOfNums z0 := str_get z0 m hb (by omega)
  have hs2 : ¬ 9223372036854775807 < (strOfNums (formsN (getN z0 m))).size + (strOfNums (z0.drop (3 * m))).size := by
    rw [strOfNums_size, strOfNums_size, formsN_length, getN_length, List.length_drop]; omega
  go_enter Try.func5, Try.ntmps5
  go_wp2_with (first
    | (go_at_call 8; refine (alive_any _).mono ?_; rintro e w1 ⟨rfl, hb1⟩)
    | (at_builtin; refine wpList_append_rdI _ rfl (.tmp 16) (.tmp 17) 22 rfl w1.heap.size 5 .u8 (.int .u8 0) 1 Try.underlying22 info5 rfl rfl rfl (OwnI.fresh w1 _ _ _ (Nat.le_refl _)) ((r0.below hb1).alloc _) rfl l0 (by omega) (by unfold maxLen; omega) (by simp) ?_; intro ao2 cap2 w2 ho2 hb2; have hB2 : Below w.heap.size w w2 := below_step hb1 (below_alloc hb2))
    | (go_at_call 10; refine (get_good _ _ _ m z0 _ ho2.rd l0 hb hm (by omega) (by omega)).mono ?_; rintro e w3 ⟨a3, c3, a4, c4, rfl, ho3, ho4, hb3⟩)
    | (go_at_call 7; refine (nums_good _ _ m (getN z0 m) _ ho3.rd (by simp) (by omega) (getN_bd z0 m hb)).mono ?_; rintro e w4 ⟨a5, c5, rfl, ho5, hb4⟩; have hB4 : Below w.heap.size w w4 := below_step (below_step hB2 hb3) hb4; have hx1 := run_string_rd (P := Try.prog) (n := 3 * m) 22 9 5 Try.underlying22 Try.underlying5 Try.underlying9 ho5.rd (by rw [formsN_length]; simp); have hx2 := run_string_rd (P := Try.prog) (n := n0 - 3 * m) 22 9 5 Try.underlying22 Try.underlying5 Try.underlying9 (ho4.below hb4).rd (by simp; omega); have hx3 := run_string_rd (P := Try.prog) (n := n0) 22 9 5 Try.underlying22 Try.underlying5 Try.underlying9 (r0.below hB4) l0)
    | (at_builtin; refine wpList_append_rdI _ rfl (.tmp 50) (.tmp 51) 22 rfl w4.heap.size 5 .u8 (.int .u8 0) 1 Try.underlying22 info5 rfl rfl rfl (OwnI.fresh w4 _ _ _ (Nat.le_refl _)) ((r0.below hB4).alloc _) rfl l0 (by omega) (by unfold maxLen; omega) (by simp) ?_; intro ao5 cap5 w5 ho6 hb5; have hB5 : Below w.heap.size w w5 := below_step hB4 (below_alloc hb5))
    | (go_at_call 13; refine (take_short _ _ _ _ h16).mono ?_; rintro e w' ⟨rfl, hw⟩; subst w'))
  go_quiet (fail)
  go_wp2
  go_ret
  exact ⟨rfl, ⟨hB5.os, hB5.tape, hB5.output, hB5.size, hB5.block⟩⟩

set_option maxHeartbeats 1600000 in
theorem walkBL (a0 : Option Addr) (c0 n0 : Nat) (z0 : List Int) (m : Int) (w : World) (r0 : RdI w .u8 a0 c0 z0) (l0 : z0.length = n0) (hb : ∀ z ∈ z0, 0 ≤ z ∧ z < 256) (s0 : n0 * 1 ≤ 140737488351232) (hbad : m < 0 ∨ 1000 < m ∨ (n0 : Int) < 3 * m) (h16 : 16 ≤ n0) (h1 : formN (rdW (z0.take 8)) = rdW (z0.take 8)) (h2 : formN (rdW ((z0.drop 8).take 8)) = rdW ((z0.drop 8).take 8)) :
    Calls Try.prog 5 #[.slice a0 n0 c0, .int .i64 m] w fun e w' => e = .returned (.bool true) ∧ Below w.heap.size w w' := by
  have hs3 : strOfNums (valN (rdW (z0.take 8)) (rdW ((z0.drop 8).take 8))) ++ strOfNums (z0.drop 16) = strOfNums z0 := str_take z0 hb (by omega) h1 h2
  have hs4 : ¬ 9223372036854775807 < (strOfNums (valN (rdW (z0.take 8)) (rdW ((z0.drop 8).take 8)))).size + (strOfNums (z0.drop 16)).size := by
    rw [strOfNums_size, strOfNums_size, valN_length, List.length_drop]; omega
  have hv1 : formN (rdW (z0.take 8)) < 18446744073709551616 := by
    rw [h1]; exact rdW_lt _ (fun z hz => hb z (List.mem_of_mem_take hz)) (by simp; omega)
  have hv2 : formN (rdW ((z0.drop 8).take 8)) < 18446744073709551616 := by
    rw [h2]; exact rdW_lt _ (part_bd z0 8 8 hb) (by simp; omega)
  have HB : Hid (m < 0 ∨ 1000 < m ∨ (n0 : Int) < 3 * m) := hbad
  clear hbad
  go_enter Try.func5, Try.ntmps5
  go_wp2_with (first
    | (go_at_call 8; refine (alive_any _).mono ?_; rintro e w1 ⟨rfl, hb1⟩)
    | (at_builtin; refine wpList_append_rdI _ rfl (.tmp 16) (.tmp 17) 22 rfl w1.heap.size 5 .u8 (.int .u8 0) 1 Try.underlying22 info5 rfl rfl rfl (OwnI.fresh w1 _ _ _ (Nat.le_refl _)) ((r0.below hb1).alloc _) rfl l0 (by omega) (by unfold maxLen; omega) (by simp) ?_; intro ao2 cap2 w2 ho2 hb2; have hB2 : Below w.heap.size w w2 := below_step hb1 (below_alloc hb2))
    | (go_at_call 10; refine (get_bad _ _ _ m _ (by omega) HB.out).mono ?_; rintro e w' ⟨rfl, hw⟩; subst w')
    | (at_builtin; refine wpList_append_rdI _ rfl (.tmp 50) (.tmp 51) 22 rfl w2.heap.size 5 .u8 (.int .u8 0) 1 Try.underlying22 info5 rfl rfl rfl (OwnI.fresh w2 _ _ _ (Nat.le_refl _)) ((r0.below hB2).alloc _) rfl l0 (by omega) (by unfold maxLen; omega) (by simp) ?_; intro ao5 cap5 w5 ho6 hb5; have hB5 : Below w.heap.size w w5 := below_step hB2 (below_alloc hb5))
    | (go_at_call 13; refine (take_long _ _ _ z0 _ ho6.rd l0 hb h16 (by omega) h1 h2).mono ?_; rintro e w6 ⟨a6, c6, rfl, ho7, hb6⟩; have hB6 : Below w.heap.size w w6 := below_step hB5 hb6))
  have hS : Hid (∀ w', Below w6.heap.size w6 w' → (convert 22 9 (.slice a6 (n0 - 16) c6)).run Try.prog w' = .ok (.string (strOfNums (z0.drop 16))) w' ∧ (convert 22 9 (.slice a0 n0 c0)).run Try.prog w' = .ok (.string (strOfNums z0)) w') :=
    fun w' h => ⟨run_string_rd (P := Try.prog) 22 9 5 Try.underlying22 Try.underlying5 Try.underlying9 (ho7.below h).rd (by simp; omega), run_string_rd (P := Try.prog) 22 9 5 Try.underlying22 Try.underlying5 Try.underlying9 (r0.below (below_step hB6 h)) l0⟩
  first
    | go_region_held (fun w' => (convert 22 9 (.slice a6 (n0 - 16) c6)).run Try.prog w' = .ok (.string (strOfNums (z0.drop 16))) w' ∧ (convert 22 9 (.slice a0 n0 c0)).run Try.prog w' = .ok (.string (strOfNums z0)) w')
      (first | exact hS.out _ (Below.refl _ _) | exact hS.out _ (Below.refl _ _).drew | exact hS.out _ ⟨hb7.os, hb7.tape, hb7.output, hb7.size, hb7.block⟩)
      ((go_at_call 14; refine (value_any _ _ _ hv1 hv2).mono ?_; rintro e w7 ⟨a7, c7, rfl, ho8, hb7⟩; have hx7 := run_string_rd (P := Try.prog) (n := 16) 22 9 5 Try.underlying22 Try.underlying5 Try.underlying9 ho8.rd (valN_length _ _)))
    | fail
  go_wp2
  go_ret
  exact ⟨rfl, below_step hB6 ⟨hb7.os, hb7.tape, hb7.output, hb7.size, hb7.block⟩⟩

set_option maxHeartbeats 1600000 in
theorem walkBO (a0 : Option Addr) (c0 n0 : Nat) (z0 : List Int) (m : Int) (w : World) (r0 : RdI w .u8 a0 c0 z0) (l0 : z0.length = n0) (hb : ∀ z ∈ z0, 0 ≤ z ∧ z < 256) (s0 : n0 * 1 ≤ 140737488351232) (hbad : m < 0 ∨ 1000 < m ∨ (n0 : Int) < 3 * m) (h16 : 16 ≤ n0) (hodd : formN (rdW (z0.take 8)) ≠ rdW (z0.take 8) ∨ formN (rdW ((z0.drop 8).take 8)) ≠ rdW ((z0.drop 8).take 8)) :
    Calls Try.prog 5 #[.slice a0 n0 c0, .int .i64 m] w fun e w' => e = .returned (.bool true) ∧ Below w.heap.size w w' := by
  have HB : Hid (m < 0 ∨ 1000 < m ∨ (n0 : Int) < 3 * m) := hbad
  clear hbad
  have HO : Hid (formN (rdW (z0.take 8)) ≠ rdW (z0.take 8) ∨ formN (rdW ((z0.drop 8).take 8)) ≠ rdW ((z0.drop 8).take 8)) := hodd
  clear hodd
  go_enter Try.func5, Try.ntmps5
  go_wp2_with (first
    | (go_at_call 8; refine (alive_any _).mono ?_; rintro e w1 ⟨rfl, hb1⟩)
    | (at_builtin; refine wpList_append_rdI _ rfl (.tmp 16) (.tmp 17) 22 rfl w1.heap.size 5 .u8 (.int .u8 0) 1 Try.underlying22 info5 rfl rfl rfl (OwnI.fresh w1 _ _ _ (Nat.le_refl _)) ((r0.below hb1).alloc _) rfl l0 (by omega) (by unfold maxLen; omega) (by simp) ?_; intro ao2 cap2 w2 ho2 hb2; have hB2 : Below w.heap.size w w2 := below_step hb1 (below_alloc hb2))
    | (go_at_call 10; refine (get_bad _ _ _ m _ (by omega) HB.out).mono ?_; rintro e w' ⟨rfl, hw⟩; subst w')
    | (at_builtin; refine wpList_append_rdI _ rfl (.tmp 50) (.tmp 51) 22 rfl w2.heap.size 5 .u8 (.int .u8 0) 1 Try.underlying22 info5 rfl rfl rfl (OwnI.fresh w2 _ _ _ (Nat.le_refl _)) ((r0.below hB2).alloc _) rfl l0 (by omega) (by unfold maxLen; omega) (by simp) ?_; intro ao5 cap5 w5 ho6 hb5; have hB5 : Below w.heap.size w w5 := below_step hB2 (below_alloc hb5))
    | (go_at_call 13; refine (take_odd _ _ _ z0 _ ho6.rd l0 hb h16 (by omega) HO.out).mono ?_; rintro e w6 ⟨rfl, hb6⟩; have hB6 : Below w.heap.size w w6 := below_step hB5 hb6))
  go_quiet (fail)
  go_wp2
  go_ret
  exact ⟨rfl, ⟨hB6.os, hB6.tape, hB6.output, hB6.size, hB6.block⟩⟩

set_option maxHeartbeats 1600000 in
theorem walkBS (a0 : Option Addr) (c0 n0 : Nat) (z0 : List Int) (m : Int) (w : World) (r0 : RdI w .u8 a0 c0 z0) (l0 : z0.length = n0) (hb : ∀ z ∈ z0, 0 ≤ z ∧ z < 256) (s0 : n0 * 1 ≤ 140737488351232) (hbad : m < 0 ∨ 1000 < m ∨ (n0 : Int) < 3 * m) (h16 : n0 < 16) :
    Calls Try.prog 5 #[.slice a0 n0 c0, .int .i64 m] w fun e w' => e = .returned (.bool true) ∧ Below w.heap.size w w' := by
  have HB : Hid (m < 0 ∨ 1000 < m ∨ (n0 : Int) < 3 * m) := hbad
  clear hbad
  go_enter Try.func5, Try.ntmps5
  go_wp2_with (first
    | (go_at_call 8; refine (alive_any _).mono ?_; rintro e w1 ⟨rfl, hb1⟩)
    | (at_builtin; refine wpList_append_rdI _ rfl (.tmp 16) (.tmp 17) 22 rfl w1.heap.size 5 .u8 (.int .u8 0) 1 Try.underlying22 info5 rfl rfl rfl (OwnI.fresh w1 _ _ _ (Nat.le_refl _)) ((r0.below hb1).alloc _) rfl l0 (by omega) (by unfold maxLen; omega) (by simp) ?_; intro ao2 cap2 w2 ho2 hb2; have hB2 : Below w.heap.size w w2 := below_step hb1 (below_alloc hb2))
    | (go_at_call 10; refine (get_bad _ _ _ m _ (by omega) HB.out).mono ?_; rintro e w' ⟨rfl, hw⟩; subst w')
    | (at_builtin; refine wpList_append_rdI _ rfl (.tmp 50) (.tmp 51) 22 rfl w2.heap.size 5 .u8 (.int .u8 0) 1 Try.underlying22 info5 rfl rfl rfl (OwnI.fresh w2 _ _ _ (Nat.le_refl _)) ((r0.below hB2).alloc _) rfl l0 (by omega) (by unfold maxLen; omega) (by simp) ?_; intro ao5 cap5 w5 ho6 hb5; have hB5 : Below w.heap.size w w5 := below_step hB2 (below_alloc hb5))
    | (go_at_call 13; refine (take_short _ _ _ _ h16).mono ?_; rintro e w' ⟨rfl, hw⟩; subst w'))
  go_quiet (fail)
  go_wp2
  go_ret
  exact ⟨rfl, ⟨hB5.os, hB5.tape, hB5.output, hB5.size, hB5.block⟩⟩

theorem walk (a0 : Option Addr) (c0 n0 : Nat) (z0 : List Int) (a1 : Int) (w : World) (r0 : RdI w .u8 a0 c0 z0) (l0 : z0.length = n0) (b0 : ∀ z ∈ z0, (Lit.int .u8 z).wf = true) (s0 : n0 * 1 ≤ 140737488351232) (w1 : (Lit.int .i64 a1).wf = true) :
    Calls Try.prog 5 #[.slice a0 n0 c0, .int .i64 a1] w fun e w' => e = .returned (.bool true) ∧ Below w.heap.size w w' := by
  have hb := u8_bd b0
  by_cases hg : 0 ≤ a1 ∧ a1 ≤ 1000 ∧ 3 * a1 ≤ n0
  · obtain ⟨m, rfl⟩ := Int.eq_ofNat_of_zero_le hg.1
    by_cases h16 : n0 < 16
    · exact walkGS a0 c0 n0 z0 m w r0 l0 hb s0 (by omega) (by omega) h16
    · by_cases h : formN (rdW (z0.take 8)) = rdW (z0.take 8) ∧ formN (rdW ((z0.drop 8).take 8)) = rdW ((z0.drop 8).take 8)
      · exact walkGL a0 c0 n0 z0 m w r0 l0 hb s0 (by omega) (by omega) (by omega) h.1 h.2
      · exact walkGO a0 c0 n0 z0 m w r0 l0 hb s0 (by omega) (by omega) (by omega) (Decidable.not_and_iff_or_not.1 h)
  · have hbad : a1 < 0 ∨ 1000 < a1 ∨ (n0 : Int) < 3 * a1 := by omega
    by_cases h16 : n0 < 16
    · exact walkBS a0 c0 n0 z0 a1 w r0 l0 hb s0 hbad h16
    · by_cases h : formN (rdW (z0.take 8)) = rdW (z0.take 8) ∧ formN (rdW ((z0.drop 8).take 8)) = rdW ((z0.drop 8).take 8)
      · exact walkBL a0 c0 n0 z0 a1 w r0 l0 hb s0 hbad (by omega) h.1 h.2
      · exact walkBO a0 c0 n0 z0 a1 w r0 l0 hb s0 hbad (by omega) (Decidable.not_and_iff_or_not.1 h)

set_option maxRecDepth 100000 in
theorem lifted (os : Os) (started : os.Started) (H : Type) (enc : TypeId × Value → H) :
    ReturnsInHanded {} Try.checked os 5 .any (Rows.packOnceSpec.pre6 enc Try.prog Try.f5 Rows.packOnceRow.domain false) (Rows.packOnceSpec.post enc Try.prog Try.f5 false true false false) := by
  refine returnsInHanded_of_change_sized (C := Try.checked) own started (by kernel_rfl) Try.func5
    (ChangeSpec.witness6 (enc := enc) (C := Try.checked) false ⟨#[], #[.slice none 0 0, .int .i64 0], []⟩ 8 (by kernel_rfl) (by kernel_rfl) (by kernel_rfl) (by kernel_rfl)) ?_
  intro W base args ds gs before hval0 hW hcnd hsz0 _
  have hval : ∀ (j : Nat) t v, Try.f5.params[j]? = some t → args[j]? = some v → Value.okWide Try.prog W .any base t v := hval0
  have hsz : (DataW.weightsEach Try.prog (Try.f5.params.toList ++ Rows.packOnceSpec.plain.varTypes Try.prog) (ds ++ gs)).all (· ≤ reachBytes) = true := hsz0
  have hW' := hW
  obtain ⟨p, q, hA0, hV, rfl, hfz, hnd⟩ := hW
  have hA : DataW.TrodAll enc Try.prog W 0 (fun _ => true) true Try.f5.params.toList args.toList ds p := hA0
  rw [Try.params5] at hA hval hsz
  obtain ⟨v0, vs0, d0, ds0, p0, q0, hargs, rfl, rfl, h0, r0⟩ := trodAll_cons hA
  obtain ⟨v1, vs1, d1, ds1, p1, q1, rfl, rfl, rfl, h1, r1⟩ := trodAll_cons r0
  obtain ⟨rfl, rfl, rfl⟩ := trodAll_nil r1
  obtain rfl : args = #[v0, v1] := by cases args; simp_all
  obtain ⟨rfl, rfl⟩ := trodVars_none hV
  obtain ⟨a0, n0, c0, rfl⟩ := okWide_slice Try.underlying22 (hval 0 22 v0 rfl rfl)
  have k0 := h0
  have lt0 : ∀ x ∈ p0, x.block < W.heap.size := by obtain ⟨m, hm⟩ := k0; exact DataW.trod_lt m _ _ _ hm
  obtain ⟨z0, r0', l0, b0, s0⟩ : ∃ zs, RdI W .u8 a0 c0 zs ∧ zs.length = n0 ∧ (∀ z ∈ zs, (Lit.int .u8 z).wf = true) ∧ n0 * 1 ≤ 140737488351232 := by
    obtain ⟨fuel, hf⟩ := h0
    rcases open_ints Try.underlying22 Try.underlying5 (by kernel_rfl) hf with ⟨hcs, _⟩ | ⟨x, l, c, zs, hcs, _, hl, hm, hz, hx, hcell, hwz⟩
    · simp [Value.cells] at hcs
      obtain ⟨rfl, rfl, rfl⟩ := hcs
      exact ⟨[], RdI.empty W .u8, rfl, by simp, by omega⟩
    · simp [Value.cells] at hcs
      obtain ⟨rfl, rfl, rfl⟩ := hcs
      have hd : d0 = .slice (lits .u8 (zs.take n0)) (lits .u8 (zs.drop n0)) := (Prod.mk.inj hx).1
      have hs := sized_slice hsz (j := 0) (t := 22) (e := 5) rfl (by rw [hd]; rfl) Try.underlying22
      have hz2 : zs.length = c0 := by simpa using hz
      rw [bytes5] at hs
      simp only [lits, List.length_map, List.length_take, List.length_drop, reachBytes] at hs
      exact ⟨zs.take n0, rdI_of_row hl hm hz2 hcell, by simp; omega, fun z h => hwz z (List.mem_of_mem_take h), by omega⟩
  obtain ⟨a1, rfl, rfl, rfl, w1⟩ := open_int Try.underlying3 (hval 1 3 v1 rfl rfl) h1
  clear hA0 hval0
  refine (walk a0 c0 n0 z0 a1 W r0' l0 b0 s0 w1).mono fun e W' ⟨he, bel⟩ => ?_
  subst he
  exact ⟨_, rfl, _, _, _, [], _, [], hW', trodAll_mk1 (shut_bool Try.underlying4 _), (trodAll_cons_mk (Below.trod laidOut (by kernel_rfl) (of_decide_eq_true (by kernel_rfl)) k0 bel lt0) (trodAll_cons_mk (shut_int Try.underlying3 w1) trodAll_mk0)), rfl, bel.frame _, fun h => by cases h⟩

theorem over : Rows.packOnceRow.holds Try.pinned (OpenSpec.ofChange Rows.packOnceSpec) :=
  OpenClaim.holds_of_wide 5 Try.f5 rfl rfl rfl rfl rfl rfl rfl ⟨rfl, rfl, rfl, rfl, rfl⟩ rfl rfl rfl rfl rfl (by kernel_rfl) Try.func5 (by kernel_rfl)
    (of_decide_eq_true (by kernel_rfl)) (by unfold Func.isWrapper; first | (rw [if_pos (by decide +kernel)]; kernel_rfl) | (rw [if_neg (by decide +kernel)]; exact ⟨rfl, rfl⟩))
    (fun os started H enc _ => lifted os started H enc)

theorem proved : Rows.PackOnceSaid := over
#print axioms proved
end Go.Proofs.Ytedpjlcidcjkiaa.packOnce
