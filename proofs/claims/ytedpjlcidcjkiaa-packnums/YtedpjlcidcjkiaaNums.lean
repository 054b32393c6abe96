/- The bytes of any numbers, and the numbers with which any bytes begin, are as the document says: the law's function returns true for every numbers, every bytes and every count. Conditions: none. -/
import Derived.Test.YtedpjlcidcjkiaaRows
import Derived.Test.YtedpjlcidcjkiaaMath
import Derived.Test.YtedpjlcidcjkiaaLeaf
import Derived.Test.YtedpjlcidcjkiaaWalks
import Derived.Test.YtedpjlcidcjkiaaSl
import Derived.Test.YtedpjlcidcjkiaaPkm
import Derived.Test.YtedpjlcidcjkiaaPk1
import Derived.Test.YtedpjlcidcjkiaaPk2
import Derived.Test.YtedpjlcidcjkiaaPk3
import Derived.Test.YtedpjlcidcjkiaaPk4
import Derived.Test.YtedpjlcidcjkiaaPk5
import Derived.Test.YtedpjlcidcjkiaaPk6
import Derived.Test.YtedpjlcidcjkiaaPr1
import Derived.WalkKit
import Derived.ProofKit
import Derived.OpenShut
import Derived.ShutString
import Derived.ChangeOld
import Derived.SizedLaws
import Derived.Below
import Derived.Deep.QuietTactic
import Derived.BigQuiet
import Derived.Deep.RegionWith
import Derived.Deep.RegionHeld
namespace Go.Proofs.Ytedpjlcidcjkiaa.packNums
open Go.ChangeShapes Go.WideShapes Go.ChangeAt Go.RowKit
set_option linter.unusedVariables false

theorem own : ownKnob Try.prog.godebug = none := by kernel_rfl
theorem laidOut : laidOutB Try.prog = true := by kernel_rfl
theorem bytes3 : Try.prog.bytesOf 3 = 8 := by kernel_rfl
theorem bytes5 : Try.prog.bytesOf 5 = 1 := by kernel_rfl

set_option maxHeartbeats 1600000 in
theorem walkGG (a0 : Option Addr) (c0 n0 : Nat) (z0 : List Int) (a1 : Option Addr) (c1 n1 : Nat) (z1 : List Int) (m : Nat) (w : World) (r0 : RdI w .i64 a0 c0 z0) (l0 : z0.length = n0) (s0 : n0 * 8 ≤ 140737488351232) (r1 : RdI w .u8 a1 c1 z1) (l1 : z1.length = n1) (hb : ∀ z ∈ z1, 0 ≤ z ∧ z < 256) (s1 : n1 * 1 ≤ 140737488351232) (hg : ∀ z ∈ z0, 0 ≤ z ∧ z ≤ 16777215) (hm : m ≤ 1000) (hmn : 3 * m ≤ n1) :
    Calls Try.prog 4 #[.slice a0 n0 c0, .slice a1 n1 c1, .int .i64 m] w fun e w' => e = .returned (.bool true) ∧ Below w.heap.size w w' := by
  have HG : Hid (∀ z ∈ z0, 0 ≤ z ∧ z ≤ 16777215) := hg
  clear hg
  go_enter Try.func4, Try.ntmps4
  go_wp2_with (first
    | (at_builtin; refine wpList_append_rdI _ rfl (.tmp 18) (.tmp 19) 27 rfl w.heap.size 3 .i64 (.int .i64 0) 8 Try.underlying27 info3 rfl rfl rfl (OwnI.fresh w _ _ _ (Nat.le_refl _)) (r0.alloc _) rfl l0 (by omega) (by unfold maxLen; omega) (by simp) ?_; intro ao1 cap1 w1 ho1 hb1; have hB1 : Below w.heap.size w w1 := below_alloc hb1)
    | (go_at_call 7; refine (nums_good _ _ _ z0 _ ho1.rd l0 (by omega) HG.out).mono ?_; rintro e w2 ⟨a2, c2, rfl, ho2, hb2⟩; have hB2 : Below w.heap.size w w2 := below_step hB1 hb2)
    | (go_at_call 9; refine (refNums_good _ _ _ z0 _ (r0.below hB2) l0 (by omega) HG.out).mono ?_; rintro e w3 ⟨a3, c3, rfl, ho3, hb3⟩; have hB3 : Below w.heap.size w w3 := below_step hB2 hb3)
    | (go_at_call 8; refine (alive_any _).mono ?_; rintro e w4 ⟨rfl, hb4⟩; have hB4 : Below w.heap.size w w4 := below_step hB3 hb4; have hx1 := run_string_rd (P := Try.prog) (n := 3 * n0) 22 9 5 Try.underlying22 Try.underlying5 Try.underlying9 ((ho2.below hb3).below hb4).rd (by rw [formsN_length]; omega); have hx2 := run_string_rd (P := Try.prog) (n := 3 * n0) 22 9 5 Try.underlying22 Try.underlying5 Try.underlying9 (ho3.below hb4).rd (by rw [formsN_length]; omega))
    | (at_builtin; refine wpList_append_rdI _ rfl (.tmp 44) (.tmp 45) 22 rfl w4.heap.size 5 .u8 (.int .u8 0) 1 Try.underlying22 info5 rfl rfl rfl (OwnI.fresh w4 _ _ _ (Nat.le_refl _)) ((r1.below hB4).alloc _) rfl l1 (by omega) (by unfold maxLen; omega) (by simp) ?_; intro ao5 cap5 w5 ho5 hb5; have hB5 : Below w.heap.size w w5 := below_step hB4 (below_alloc hb5))
    | (go_at_call 10; refine (get_good _ _ _ m z1 _ ho5.rd l1 hb hm hmn (by omega)).mono ?_; rintro e w6 ⟨a6, c6, a7, c7, rfl, ho6, ho7, hb6⟩; have hB6 : Below w.heap.size w w6 := below_step hB5 hb6)
    | (go_at_call 11; refine (refGet_good _ _ _ m z1 _ (r1.below hB6) l1 hb hm hmn (by omega)).mono ?_; rintro e w7 ⟨a8, c8, a9, c9, rfl, ho8, ho9, hb7⟩; have hB7 : Below w.heap.size w w7 := below_step hB6 hb7)
    | (go_at_call 12; refine (sameInts_true _ _ _ _ _ (getN z1 m) _ (ho6.below hb7).rd ho8.rd (getN_length _ _) (by omega)).mono ?_; rintro e w' ⟨rfl, j, hw⟩; subst w'; have hx3 := run_string_rd (P := Try.prog) (n := n1 - 3 * m) 22 9 5 Try.underlying22 Try.underlying5 Try.underlying9 ((ho7.below hb7).rd.heap (w' := w7.drewN j) rfl) (by rw [List.length_drop]; omega); have hx4 := run_string_rd (P := Try.prog) (n := n1 - 3 * m) 22 9 5 Try.underlying22 Try.underlying5 Try.underlying9 (ho9.rd.heap (w' := w7.drewN j) rfl) (by rw [List.length_drop]; omega)))
  go_ret
  exact ⟨rfl, ⟨hB7.os, hB7.tape, hB7.output, hB7.size, hB7.block⟩⟩

set_option maxHeartbeats 1600000 in
theorem walkGB (a0 : Option Addr) (c0 n0 : Nat) (z0 : List Int) (a1 : Option Addr) (c1 n1 : Nat) (z1 : List Int) (m : Int) (w : World) (r0 : RdI w .i64 a0 c0 z0) (l0 : z0.length = n0) (s0 : n0 * 8 ≤ 140737488351232) (r1 : RdI w .u8 a1 c1 z1) (l1 : z1.length = n1) (hb : ∀ z ∈ z1, 0 ≤ z ∧ z < 256) (s1 : n1 * 1 ≤ 140737488351232) (hg : ∀ z ∈ z0, 0 ≤ z ∧ z ≤ 16777215) (hbad : m < 0 ∨ 1000 < m ∨ (n1 : Int) < 3 * m) :
    Calls Try.prog 4 #[.slice a0 n0 c0, .slice a1 n1 c1, .int .i64 m] w fun e w' => e = .returned (.bool true) ∧ Below w.heap.size w w' := by
  have HG : Hid (∀ z ∈ z0, 0 ≤ z ∧ z ≤ 16777215) := hg
  clear hg
  have HB : Hid (m < 0 ∨ 1000 < m ∨ (n1 : Int) < 3 * m) := hbad
  clear hbad
  go_enter Try.func4, Try.ntmps4
  go_wp2_with (first
    | (at_builtin; refine wpList_append_rdI _ rfl (.tmp 18) (.tmp 19) 27 rfl w.heap.size 3 .i64 (.int .i64 0) 8 Try.underlying27 info3 rfl rfl rfl (OwnI.fresh w _ _ _ (Nat.le_refl _)) (r0.alloc _) rfl l0 (by omega) (by unfold maxLen; omega) (by simp) ?_; intro ao1 cap1 w1 ho1 hb1; have hB1 : Below w.heap.size w w1 := below_alloc hb1)
    | (go_at_call 7; refine (nums_good _ _ _ z0 _ ho1.rd l0 (by omega) HG.out).mono ?_; rintro e w2 ⟨a2, c2, rfl, ho2, hb2⟩; have hB2 : Below w.heap.size w w2 := below_step hB1 hb2)
    | (go_at_call 9; refine (refNums_good _ _ _ z0 _ (r0.below hB2) l0 (by omega) HG.out).mono ?_; rintro e w3 ⟨a3, c3, rfl, ho3, hb3⟩; have hB3 : Below w.heap.size w w3 := below_step hB2 hb3)
    | (go_at_call 8; refine (alive_any _).mono ?_; rintro e w4 ⟨rfl, hb4⟩; have hB4 : Below w.heap.size w w4 := below_step hB3 hb4; have hx1 := run_string_rd (P := Try.prog) (n := 3 * n0) 22 9 5 Try.underlying22 Try.underlying5 Try.underlying9 ((ho2.below hb3).below hb4).rd (by rw [formsN_length]; omega); have hx2 := run_string_rd (P := Try.prog) (n := 3 * n0) 22 9 5 Try.underlying22 Try.underlying5 Try.underlying9 (ho3.below hb4).rd (by rw [formsN_length]; omega))
    | (at_builtin; refine wpList_append_rdI _ rfl (.tmp 44) (.tmp 45) 22 rfl w4.heap.size 5 .u8 (.int .u8 0) 1 Try.underlying22 info5 rfl rfl rfl (OwnI.fresh w4 _ _ _ (Nat.le_refl _)) ((r1.below hB4).alloc _) rfl l1 (by omega) (by unfold maxLen; omega) (by simp) ?_; intro ao5 cap5 w5 ho5 hb5; have hB5 : Below w.heap.size w w5 := below_step hB4 (below_alloc hb5))
    | (go_at_call 10; refine (get_bad _ _ _ m _ (by omega) HB.out).mono ?_; rintro e w' ⟨rfl, hw⟩; subst w')
    | (go_at_call 11; refine (refGet_bad _ _ _ m _ (by omega) HB.out).mono ?_; rintro e w' ⟨rfl, hw⟩; subst w')
    | (go_at_call 12; refine (sameInts_true none 0 0 none 0 [] w5 (RdI.empty w5 .i64) (RdI.empty w5 .i64) rfl (by omega)).mono ?_; rintro e w' ⟨rfl, j, hw⟩; subst w'; have hx3 := run_string_rd (P := Try.prog) (n := 0) 22 9 5 Try.underlying22 Try.underlying5 Try.underlying9 (RdI.empty (w5.drewN j) .u8) rfl))
  go_ret
  exact ⟨rfl, ⟨hB5.os, hB5.tape, hB5.output, hB5.size, hB5.block⟩⟩

set_option maxHeartbeats 1600000 in
theorem walkBG (a0 : Option Addr) (c0 n0 : Nat) (z0 : List Int) (a1 : Option Addr) (c1 n1 : Nat) (z1 : List Int) (m : Nat) (w : World) (r0 : RdI w .i64 a0 c0 z0) (l0 : z0.length = n0) (s0 : n0 * 8 ≤ 140737488351232) (r1 : RdI w .u8 a1 c1 z1) (l1 : z1.length = n1) (hb : ∀ z ∈ z1, 0 ≤ z ∧ z < 256) (s1 : n1 * 1 ≤ 140737488351232) (hg : ¬ ∀ z ∈ z0, 0 ≤ z ∧ z ≤ 16777215) (hm : m ≤ 1000) (hmn : 3 * m ≤ n1) :
    Calls Try.prog 4 #[.slice a0 n0 c0, .slice a1 n1 c1, .int .i64 m] w fun e w' => e = .returned (.bool true) ∧ Below w.heap.size w w' := by
  have HG : Hid (¬ ∀ z ∈ z0, 0 ≤ z ∧ z ≤ 16777215) := hg
  clear hg
  go_enter Try.func4, Try.ntmps4
  go_wp2_with (first
    | (at_builtin; refine wpList_append_rdI _ rfl (.tmp 18) (.tmp 19) 27 rfl w.heap.size 3 .i64 (.int .i64 0) 8 Try.underlying27 info3 rfl rfl rfl (OwnI.fresh w _ _ _ (Nat.le_refl _)) (r0.alloc _) rfl l0 (by omega) (by unfold maxLen; omega) (by simp) ?_; intro ao1 cap1 w1 ho1 hb1; have hB1 : Below w.heap.size w w1 := below_alloc hb1)
    | (go_at_call 7; refine (nums_bad _ _ _ z0 _ ho1.rd l0 (by omega) HG.out).mono ?_; rintro e w2 ⟨rfl, hb2⟩; have hB2 : Below w.heap.size w w2 := below_step hB1 hb2)
    | (go_at_call 9; refine (refNums_bad _ _ _ z0 _ (r0.below hB2) l0 (by omega) HG.out).mono ?_; rintro e w3 ⟨rfl, hb3⟩; have hB3 : Below w.heap.size w w3 := below_step hB2 hb3)
    | (go_at_call 8; refine (alive_any _).mono ?_; rintro e w4 ⟨rfl, hb4⟩; have hB4 : Below w.heap.size w w4 := below_step hB3 hb4; have hx1 := run_string_rd (P := Try.prog) (n := 0) 22 9 5 Try.underlying22 Try.underlying5 Try.underlying9 (RdI.empty w4 .u8) rfl)
    | (at_builtin; refine wpList_append_rdI _ rfl (.tmp 44) (.tmp 45) 22 rfl w4.heap.size 5 .u8 (.int .u8 0) 1 Try.underlying22 info5 rfl rfl rfl (OwnI.fresh w4 _ _ _ (Nat.le_refl _)) ((r1.below hB4).alloc _) rfl l1 (by omega) (by unfold maxLen; omega) (by simp) ?_; intro ao5 cap5 w5 ho5 hb5; have hB5 : Below w.heap.size w w5 := below_step hB4 (below_alloc hb5))
    | (go_at_call 10; refine (get_good _ _ _ m z1 _ ho5.rd l1 hb hm hmn (by omega)).mono ?_; rintro e w6 ⟨a6, c6, a7, c7, rfl, ho6, ho7, hb6⟩; have hB6 : Below w.heap.size w w6 := below_step hB5 hb6)
    | (go_at_call 11; refine (refGet_good _ _ _ m z1 _ (r1.below hB6) l1 hb hm hmn (by omega)).mono ?_; rintro e w7 ⟨a8, c8, a9, c9, rfl, ho8, ho9, hb7⟩; have hB7 : Below w.heap.size w w7 := below_step hB6 hb7)
    | (go_at_call 12; refine (sameInts_true _ _ _ _ _ (getN z1 m) _ (ho6.below hb7).rd ho8.rd (getN_length _ _) (by omega)).mono ?_; rintro e w' ⟨rfl, j, hw⟩; subst w'; have hx3 := run_string_rd (P := Try.prog) (n := n1 - 3 * m) 22 9 5 Try.underlying22 Try.underlying5 Try.underlying9 ((ho7.below hb7).rd.heap (w' := w7.drewN j) rfl) (by rw [List.length_drop]; omega); have hx4 := run_string_rd (P := Try.prog) (n := n1 - 3 * m) 22 9 5 Try.underlying22 Try.underlying5 Try.underlying9 (ho9.rd.heap (w' := w7.drewN j) rfl) (by rw [List.length_drop]; omega)))
  go_ret
  exact ⟨rfl, ⟨hB7.os, hB7.tape, hB7.output, hB7.size, hB7.block⟩⟩

set_option maxHeartbeats 1600000 in
theorem walkBB (a0 : Option Addr) (c0 n0 : Nat) (z0 : List Int) (a1 : Option Addr) (c1 n1 : Nat) (z1 : List Int) (m : Int) (w : World) (r0 : RdI w .i64 a0 c0 z0) (l0 : z0.length = n0) (s0 : n0 * 8 ≤ 140737488351232) (r1 : RdI w .u8 a1 c1 z1) (l1 : z1.length = n1) (hb : ∀ z ∈ z1, 0 ≤ z ∧ z < 256) (s1 : n1 * 1 ≤ 140737488351232) (hg : ¬ ∀ z ∈ z0, 0 ≤ z ∧ z ≤ 16777215) (hbad : m < 0 ∨ 1000 < m ∨ (n1 : Int) < 3 * m) :
    Calls Try.prog 4 #[.slice a0 n0 c0, .slice a1 n1 c1, .int .i64 m] w fun e w' => e = .returned (.bool true) ∧ Below w.heap.size w w' := by
  have HG : Hid (¬ ∀ z ∈ z0, 0 ≤ z ∧ z ≤ 16777215) := hg
  clear hg
  have HB : Hid (m < 0 ∨ 1000 < m ∨ (n1 : Int) < 3 * m) := hbad
  clear hbad
  go_enter Try.func4, Try.ntmps4
  go_wp2_with (first
    | (at_builtin; refine wpList_append_rdI _ rfl (.tmp 18) (.tmp 19) 27 rfl w.heap.size 3 .i64 (.int .i64 0) 8 Try.underlying27 info3 rfl rfl rfl (OwnI.fresh w _ _ _ (Nat.le_refl _)) (r0.alloc _) rfl l0 (by omega) (by unfold maxLen; omega) (by simp) ?_; intro ao1 cap1 w1 ho1 hb1; have hB1 : Below w.heap.size w w1 := below_alloc hb1)
    | (go_at_call 7; refine (nums_bad _ _ _ z0 _ ho1.rd l0 (by omega) HG.out).mono ?_; rintro e w2 ⟨rfl, hb2⟩; have hB2 : Below w.heap.size w w2 := below_step hB1 hb2)
    | (go_at_call 9; refine (refNums_bad _ _ _ z0 _ (r0.below hB2) l0 (by omega) HG.out).mono ?_; rintro e w3 ⟨rfl, hb3⟩; have hB3 : Below w.heap.size w w3 := below_step hB2 hb3)
    | (go_at_call 8; refine (alive_any _).mono ?_; rintro e w4 ⟨rfl, hb4⟩; have hB4 : Below w.heap.size w w4 := below_step hB3 hb4; have hx1 := run_string_rd (P := Try.prog) (n := 0) 22 9 5 Try.underlying22 Try.underlying5 Try.underlying9 (RdI.empty w4 .u8) rfl)
    | (at_builtin; refine wpList_append_rdI _ rfl (.tmp 44) (.tmp 45) 22 rfl w4.heap.size 5 .u8 (.int .u8 0) 1 Try.underlying22 info5 rfl rfl rfl (OwnI.fresh w4 _ _ _ (Nat.le_refl _)) ((r1.below hB4).alloc _) rfl l1 (by omega) (by unfold maxLen; omega) (by simp) ?_; intro ao5 cap5 w5 ho5 hb5; have hB5 : Below w.heap.size w w5 := below_step hB4 (below_alloc hb5))
    | (go_at_call 10; refine (get_bad _ _ _ m _ (by omega) HB.out).mono ?_; rintro e w' ⟨rfl, hw⟩; subst w')
    | (go_at_call 11; refine (refGet_bad _ _ _ m _ (by omega) HB.out).mono ?_; rintro e w' ⟨rfl, hw⟩; subst w')
    | (go_at_call 12; refine (sameInts_true none 0 0 none 0 [] w5 (RdI.empty w5 .i64) (RdI.empty w5 .i64) rfl (by omega)).mono ?_; rintro e w' ⟨rfl, j, hw⟩; subst w'; have hx3 := run_string_rd (P := Try.prog) (n := 0) 22 9 5 Try.underlying22 Try.underlying5 Try.underlying9 (RdI.empty (w5.drewN j) .u8) rfl))
  go_ret
  exact ⟨rfl, ⟨hB5.os, hB5.tape, hB5.output, hB5.size, hB5.block⟩⟩

theorem walk (a0 : Option Addr) (c0 n0 : Nat) (z0 : List Int) (a1 : Option Addr) (c1 n1 : Nat) (z1 : List Int) (a2 : Int) (w : World) (r0 : RdI w .i64 a0 c0 z0) (l0 : z0.length = n0) (b0 : ∀ z ∈ z0, (Lit.int .i64 z).wf = true) (s0 : n0 * 8 ≤ 140737488351232)
    (r1 : RdI w .u8 a1 c1 z1) (l1 : z1.length = n1) (b1 : ∀ z ∈ z1, (Lit.int .u8 z).wf = true) (s1 : n1 * 1 ≤ 140737488351232) (w2 : (Lit.int .i64 a2).wf = true) :
    Calls Try.prog 4 #[.slice a0 n0 c0, .slice a1 n1 c1, .int .i64 a2] w fun e w' => e = .returned (.bool true) ∧ Below w.heap.size w w' := by
  have hb := u8_bd b1
  by_cases hg : ∀ z ∈ z0, 0 ≤ z ∧ z ≤ 16777215
  · by_cases hm : 0 ≤ a2 ∧ a2 ≤ 1000 ∧ 3 * a2 ≤ n1
    · obtain ⟨m, rfl⟩ := Int.eq_ofNat_of_zero_le hm.1
      exact walkGG a0 c0 n0 z0 a1 c1 n1 z1 m w r0 l0 s0 r1 l1 hb s1 hg (by omega) (by omega)
    · exact walkGB a0 c0 n0 z0 a1 c1 n1 z1 a2 w r0 l0 s0 r1 l1 hb s1 hg (by omega)
  · by_cases hm : 0 ≤ a2 ∧ a2 ≤ 1000 ∧ 3 * a2 ≤ n1
    · obtain ⟨m, rfl⟩ := Int.eq_ofNat_of_zero_le hm.1
      exact walkBG a0 c0 n0 z0 a1 c1 n1 z1 m w r0 l0 s0 r1 l1 hb s1 hg (by omega) (by omega)
    · exact walkBB a0 c0 n0 z0 a1 c1 n1 z1 a2 w r0 l0 s0 r1 l1 hb s1 hg (by omega)

set_option maxRecDepth 100000 in
theorem lifted (os : Os) (started : os.Started) (H : Type) (enc : TypeId × Value → H) :
    ReturnsInHanded {} Try.checked os 4 .any (Rows.packNumsSpec.pre6 enc Try.prog Try.f4 Rows.packNumsRow.domain false) (Rows.packNumsSpec.post enc Try.prog Try.f4 false true false false) := by
  refine returnsInHanded_of_change_sized (C := Try.checked) own started (by kernel_rfl) Try.func4
    (ChangeSpec.witness6 (enc := enc) (C := Try.checked) false ⟨#[], #[.slice none 0 0, .slice none 0 0, .int .i64 0], []⟩ 8 (by kernel_rfl) (by kernel_rfl) (by kernel_rfl) (by kernel_rfl)) ?_
  intro W base args ds gs before hval0 hW hcnd hsz0 _
  have hval : ∀ (j : Nat) t v, Try.f4.params[j]? = some t → args[j]? = some v → Value.okWide Try.prog W .any base t v := hval0
  have hsz : (DataW.weightsEach Try.prog (Try.f4.params.toList ++ Rows.packNumsSpec.plain.varTypes Try.prog) (ds ++ gs)).all (· ≤ reachBytes) = true := hsz0
  have hW' := hW
  obtain ⟨p, q, hA0, hV, rfl, hfz, hnd⟩ := hW
  have hA : DataW.TrodAll enc Try.prog W 0 (fun _ => true) true Try.f4.params.toList args.toList ds p := hA0
  rw [Try.params4] at hA hval hsz
  obtain ⟨v0, vs0, d0, ds0, p0, q0, hargs, rfl, rfl, h0, r0⟩ := trodAll_cons hA
  obtain ⟨v1, vs1, d1, ds1, p1, q1, rfl, rfl, rfl, h1, r1⟩ := trodAll_cons r0
  obtain ⟨v2, vs2, d2, ds2, p2, q2, rfl, rfl, rfl, h2, r2⟩ := trodAll_cons r1
  obtain ⟨rfl, rfl, rfl⟩ := trodAll_nil r2
  obtain rfl : args = #[v0, v1, v2] := by cases args; simp_all
  obtain ⟨rfl, rfl⟩ := trodVars_none hV
  obtain ⟨a0, n0, c0, rfl⟩ := okWide_slice Try.underlying27 (hval 0 27 v0 rfl rfl)
  have k0 := h0
  have lt0 : ∀ x ∈ p0, x.block < W.heap.size := by obtain ⟨m, hm⟩ := k0; exact DataW.trod_lt m _ _ _ hm
  obtain ⟨z0, r0', l0, b0, s0⟩ : ∃ zs, RdI W .i64 a0 c0 zs ∧ zs.length = n0 ∧ (∀ z ∈ zs, (Lit.int .i64 z).wf = true) ∧ n0 * 8 ≤ 140737488351232 := by
    obtain ⟨fuel, hf⟩ := h0
    rcases open_ints Try.underlying27 Try.underlying3 (by kernel_rfl) hf with ⟨hcs, _⟩ | ⟨x, l, c, zs, hcs, _, hl, hm, hz, hx, hcell, hwz⟩
    · simp [Value.cells] at hcs
      obtain ⟨rfl, rfl, rfl⟩ := hcs
      exact ⟨[], RdI.empty W .i64, rfl, by simp, by omega⟩
    · simp [Value.cells] at hcs
      obtain ⟨rfl, rfl, rfl⟩ := hcs
      have hd : d0 = .slice (lits .i64 (zs.take n0)) (lits .i64 (zs.drop n0)) := (Prod.mk.inj hx).1
      have hs := sized_slice hsz (j := 0) (t := 27) (e := 3) rfl (by rw [hd]; rfl) Try.underlying27
      have hz2 : zs.length = c0 := by simpa using hz
      rw [bytes3] at hs
      simp only [lits, List.length_map, List.length_take, List.length_drop, reachBytes] at hs
      exact ⟨zs.take n0, rdI_of_row hl hm hz2 hcell, by simp; omega, fun z h => hwz z (List.mem_of_mem_take h), by omega⟩
  obtain ⟨a1, n1, c1, rfl⟩ := okWide_slice Try.underlying22 (hval 1 22 v1 rfl rfl)
  have k1 := h1
  have lt1 : ∀ x ∈ p1, x.block < W.heap.size := by obtain ⟨m, hm⟩ := k1; exact DataW.trod_lt m _ _ _ hm
  obtain ⟨z1, r1', l1, b1, s1⟩ : ∃ zs, RdI W .u8 a1 c1 zs ∧ zs.length = n1 ∧ (∀ z ∈ zs, (Lit.int .u8 z).wf = true) ∧ n1 * 1 ≤ 140737488351232 := by
    obtain ⟨fuel, hf⟩ := h1
    rcases open_ints Try.underlying22 Try.underlying5 (by kernel_rfl) hf with ⟨hcs, _⟩ | ⟨x, l, c, zs, hcs, _, hl, hm, hz, hx, hcell, hwz⟩
    · simp [Value.cells] at hcs
      obtain ⟨rfl, rfl, rfl⟩ := hcs
      exact ⟨[], RdI.empty W .u8, rfl, by simp, by omega⟩
    · simp [Value.cells] at hcs
      obtain ⟨rfl, rfl, rfl⟩ := hcs
      have hd : d1 = .slice (lits .u8 (zs.take n1)) (lits .u8 (zs.drop n1)) := (Prod.mk.inj hx).1
      have hs := sized_slice hsz (j := 1) (t := 22) (e := 5) rfl (by rw [hd]; rfl) Try.underlying22
      have hz2 : zs.length = c1 := by simpa using hz
      rw [bytes5] at hs
      simp only [lits, List.length_map, List.length_take, List.length_drop, reachBytes] at hs
      exact ⟨zs.take n1, rdI_of_row hl hm hz2 hcell, by simp; omega, fun z h => hwz z (List.mem_of_mem_take h), by omega⟩
  obtain ⟨a2, rfl, rfl, rfl, w2⟩ := open_int Try.underlying3 (hval 2 3 v2 rfl rfl) h2
  clear hA0 hval0
  refine (walk a0 c0 n0 z0 a1 c1 n1 z1 a2 W r0' l0 b0 s0 r1' l1 b1 s1 w2).mono fun e W' ⟨he, bel⟩ => ?_
  subst he
  exact ⟨_, rfl, _, _, _, [], _, [], hW', trodAll_mk1 (shut_bool Try.underlying4 _), (trodAll_cons_mk (Below.trod laidOut (by kernel_rfl) (of_decide_eq_true (by kernel_rfl)) k0 bel lt0) (trodAll_cons_mk (Below.trod laidOut (by kernel_rfl) (of_decide_eq_true (by kernel_rfl)) k1 bel lt1) (trodAll_cons_mk (shut_int Try.underlying3 w2) trodAll_mk0))), rfl, bel.frame _, fun h => by cases h⟩

theorem over : Rows.packNumsRow.holds Try.pinned (OpenSpec.ofChange Rows.packNumsSpec) :=
  OpenClaim.holds_of_wide 4 Try.f4 rfl rfl rfl rfl rfl rfl rfl ⟨rfl, rfl, rfl, rfl, rfl⟩ rfl rfl rfl rfl rfl (by kernel_rfl) Try.func4 (by kernel_rfl)
    (of_decide_eq_true (by kernel_rfl)) (by unfold Func.isWrapper; first | (rw [if_pos (by decide +kernel)]; kernel_rfl) | (rw [if_neg (by decide +kernel)]; exact ⟨rfl, rfl⟩))
    (fun os started H enc _ => lifted os started H enc)

theorem proved : Rows.PackNumsSaid := over
#print axioms proved
end Go.Proofs.Ytedpjlcidcjkiaa.packNums
