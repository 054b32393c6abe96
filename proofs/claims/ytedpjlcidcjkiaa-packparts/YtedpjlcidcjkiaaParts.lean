/- Numbers may be written at once, or one part behind the other, and read so; any of them that can't be spoils all: the law's function returns true for every two lists of numbers. Conditions: none. -/
import Derived.Test.YtedpjlcidcjkiaaRows
import Derived.Test.YtedpjlcidcjkiaaMath
import Derived.Test.YtedpjlcidcjkiaaLeaf
import Derived.Test.YtedpjlcidcjkiaaWalks
import Derived.Test.YtedpjlcidcjkiaaSl
import Derived.Test.YtedpjlcidcjkiaaPkm
import Derived.Test.YtedpjlcidcjkiaaPk1
import Derived.Test.YtedpjlcidcjkiaaPk2
import Derived.Test.YtedpjlcidcjkiaaPk3
import Derived.Test.YtedpjlcidcjkiaaPk4
import Derived.Test.YtedpjlcidcjkiaaPk5
import Derived.Test.YtedpjlcidcjkiaaPk6
import Derived.Test.YtedpjlcidcjkiaaPr1
import Derived.WalkKit
import Derived.ProofKit
import Derived.OpenShut
import Derived.ShutString
import Derived.ChangeOld
import Derived.SizedLaws
import Derived.Below
import Derived.Deep.QuietTactic
import Derived.BigQuiet
import Derived.Deep.RegionWith
import Derived.Deep.RegionHeld
namespace Go.Proofs.Ytedpjlcidcjkiaa.packParts
open Go.ChangeShapes Go.WideShapes Go.ChangeAt Go.RowKit
set_option linter.unusedVariables false

theorem own : ownKnob Try.prog.godebug = none := by kernel_rfl
theorem laidOut : laidOutB Try.prog = true := by kernel_rfl
theorem bytes3 : Try.prog.bytesOf 3 = 8 := by kernel_rfl

theorem formsN_cons (z : Int) (zs : List Int) : formsN (z :: zs) = wrN 3 z ++ formsN zs := by unfold formsN; rw [List.flatMap_cons]

theorem formsN_append (xs ys : List Int) : formsN (xs ++ ys) = formsN xs ++ formsN ys := by unfold formsN; rw [List.flatMap_append]

theorem formsN_drop (zs : List Int) : ∀ i, (formsN zs).drop (3 * i) = formsN (zs.drop i) := by
  induction zs with
  | nil => intro i; simp [formsN]
  | cons z zs ih =>
    intro i
    cases i with
    | zero => simp
    | succ i => rw [formsN_cons, List.drop_append, List.drop_of_length_le (by simp; omega), wrN_length, show 3 * (i + 1) - 3 = 3 * i by omega, ih i]; simp

theorem formsN_bd (zs : List Int) : ∀ z ∈ formsN zs, 0 ≤ z ∧ z < 256 := by
  intro z hz
  unfold formsN at hz
  obtain ⟨y, _, h⟩ := List.mem_flatMap.1 hz
  exact wrN_bd 3 y z h

theorem get_forms (zs ys : List Int) (n : Nat) (hn : zs.length = n) (hz : ∀ z ∈ zs, 0 ≤ z ∧ z ≤ 16777215) : getN (formsN zs ++ ys) n = zs := by
  subst hn
  apply List.ext_getElem (by simp)
  intro i h1 h2
  simp only [getN, List.getElem_map, List.getElem_range]
  rw [List.drop_append_of_le_length (by rw [formsN_length]; omega), formsN_drop, List.drop_eq_getElem_cons h2, formsN_cons, List.append_assoc, List.take_append_of_le_length (by simp), List.take_of_length_le (by simp)]
  have := hz zs[i] (List.getElem_mem _)
  exact rdN_wrN 3 _ this.1 (by have e : (256 : Int) ^ 3 = 16777216 := by decide
                               omega)

theorem rest_forms (xs ys : List Int) (n : Nat) (hn : xs.length = n) : (formsN xs ++ formsN ys).drop (3 * n) = formsN ys := by
  rw [List.drop_append_of_le_length (by rw [formsN_length]; omega), formsN_drop, List.drop_of_length_le (by omega)]; simp [formsN]

theorem get_parts (b : Option Addr) (d n0 n1 : Nat) (z0 z1 : List Int) (w : World) (hrd : RdI w .u8 b d (formsN (z0 ++ z1))) (l0 : z0.length = n0) (l1 : z1.length = n1) (s0 : n0 ≤ 400) (s1 : n1 ≤ 400) (hg : ∀ z ∈ z0, 0 ≤ z ∧ z ≤ 16777215) :
    Calls Try.prog 10 #[.slice b (3 * (n0 + n1)) d, .int .i64 n0] w fun e w' => ∃ a1 c1 a2 c2, e = .returned (.tuple #[.slice a1 n0 c1, .slice a2 (3 * n1) c2, .int .i64 0]) ∧
      OwnI w' w.heap.size 3 .i64 a1 c1 z0 ∧ OwnI w' w.heap.size 5 .u8 a2 c2 (formsN z1) ∧ Below w.heap.size w w' := by
  rw [formsN_append] at hrd
  have h := get_good b d (3 * (n0 + n1)) n0 (formsN z0 ++ formsN z1) w hrd (by rw [List.length_append, formsN_length, formsN_length]; omega) (by rw [← formsN_append]; exact formsN_bd _) (by omega) (by omega) (by omega)
  rw [get_forms z0 _ n0 l0 hg, rest_forms z0 z1 n0 l0, show 3 * (n0 + n1) - 3 * n0 = 3 * n1 by omega] at h
  exact h

theorem get_all (b : Option Addr) (d n1 : Nat) (z1 : List Int) (w : World) (hrd : RdI w .u8 b d (formsN z1)) (l1 : z1.length = n1) (s1 : n1 ≤ 400) (hg : ∀ z ∈ z1, 0 ≤ z ∧ z ≤ 16777215) :
    Calls Try.prog 10 #[.slice b (3 * n1) d, .int .i64 n1] w fun e w' => ∃ a1 c1 a2 c2, e = .returned (.tuple #[.slice a1 n1 c1, .slice a2 0 c2, .int .i64 0]) ∧
      OwnI w' w.heap.size 3 .i64 a1 c1 z1 ∧ Below w.heap.size w w' := by
  have e := List.append_nil (formsN z1)
  rw [← e] at hrd
  have h := get_good b d (3 * n1) n1 (formsN z1 ++ []) w hrd (by rw [e, formsN_length]; omega) (by rw [e]; exact formsN_bd _) (by omega) (by omega) (by omega)
  rw [get_forms z1 [] n1 l1 hg, Nat.sub_self] at h
  refine h.mono ?_
  rintro e' w' ⟨a1, c1, a2, c2, h1, h2, _, h3⟩
  exact ⟨a1, c1, a2, c2, h1, h2, h3⟩

theorem str_forms (xs ys : List Int) : strOfNums (formsN xs) ++ strOfNums (formsN ys) = strOfNums (formsN xs ++ formsN ys) := strOfNums_append _ _

set_option maxHeartbeats 1600000 in
theorem walkGG (a0 : Option Addr) (c0 n0 : Nat) (z0 : List Int) (a1 : Option Addr) (c1 n1 : Nat) (z1 : List Int) (w : World) (r0 : RdI w .i64 a0 c0 z0) (l0 : z0.length = n0) (r1 : RdI w .i64 a1 c1 z1) (l1 : z1.length = n1) (s0 : n0 ≤ 400) (s1 : n1 ≤ 400) (hg0 : ∀ z ∈ z0, 0 ≤ z ∧ z ≤ 16777215) (hg1 : ∀ z ∈ z1, 0 ≤ z ∧ z ≤ 16777215) :
    Calls Try.prog 6 #[.slice a0 n0 c0, .slice a1 n1 c1] w fun e w' => e = .returned (.bool true) ∧ Below w.heap.size w w' := by
  have HA : Hid (∀ z ∈ z0 ++ z1, 0 ≤ z ∧ z ≤ 16777215) := fun z hz => (List.mem_append.1 hz).elim (hg0 z) (hg1 z)
  have H0 : Hid (∀ z ∈ z0, 0 ≤ z ∧ z ≤ 16777215) := hg0
  have H1 : Hid (∀ z ∈ z1, 0 ≤ z ∧ z ≤ 16777215) := hg1
  clear hg0 hg1
  have hs1 : strOfNums (formsN z0) ++ strOfNums (formsN z1) = strOfNums (formsN z0 ++ formsN z1) := str_forms z0 z1
  have hs2 : ¬ 9223372036854775807 < (strOfNums (formsN z0)).size + (strOfNums (formsN z1)).size := by
    rw [strOfNums_size, strOfNums_size, formsN_length, formsN_length]; omega
  go_enter Try.func6, Try.ntmps6
  go_wp2_with (first
    | (go_at_call 8; refine (alive_any _).mono ?_; rintro e w1 ⟨rfl, hB1⟩)
    | (at_builtin; refine wpList_append_rdI _ rfl (.tmp 28) (.tmp 29) 27 rfl w1.heap.size 3 .i64 (.int .i64 0) 8 Try.underlying27 info3 rfl rfl rfl (OwnI.fresh w1 _ _ _ (Nat.le_refl _)) ((r0.below hB1).alloc _) rfl l0 (by omega) (by unfold maxLen; omega) (by simp) ?_; intro ao2 cap2 w2 ho2 hb2; have hB2 : Below w.heap.size w w2 := below_step hB1 (below_alloc hb2); have hS2 := (below_alloc hb2).size)
    | (at_builtin; refine wpList_append_rdI _ rfl (.tmp 30) (.tmp 31) 27 rfl w1.heap.size 3 .i64 (.int .i64 0) 8 Try.underlying27 info3 rfl rfl rfl ho2 (r1.below hB2) (by simpa using l0) l1 (by omega) (by unfold maxLen; omega) hS2 ?_; intro ao3 cap3 w3 ho3 hb3; have hB3 : Below w.heap.size w w3 := hB2.trans (hb3.mono hB1.size))
    | (go_at_call 7; refine (nums_good ao3 cap3 (n0 + n1) (z0 ++ z1) w5 ((ho3.below hb4).below hb5).rd (by rw [List.length_append]; omega) (by omega) HA.out).mono ?_; rintro e w6 ⟨b6, d6, rfl, ho6, hb6⟩; have hB6 : Below w.heap.size w w6 := below_step hB5 hb6)
    | (go_at_call 7; refine (nums_good a1 c1 n1 z1 w4 (r1.below hB4) l1 (by omega) H1.out).mono ?_; rintro e w5 ⟨b5, d5, rfl, ho5, hb5⟩; have hB5 : Below w.heap.size w w5 := below_step hB4 hb5)
    | (go_at_call 7; refine (nums_good a0 c0 n0 z0 w3 (r0.below hB3) l0 (by omega) H0.out).mono ?_; rintro e w4 ⟨b4, d4, rfl, ho4, hb4⟩; have hB4 : Below w.heap.size w w4 := below_step hB3 hb4)
    | (go_at_call_of 10 (Value.int IntKind.i64 (n0 : Int)); refine (get_parts b6 d6 n0 n1 z0 z1 w6 ho6.rd l0 l1 s0 s1 H0.out).mono ?_; rintro e w7 ⟨b7, d7, b8, d8, rfl, ho7, ho8, hb7⟩; have hB7 : Below w.heap.size w w7 := below_step hB6 hb7)
    | (go_at_call_of 10 (Value.int IntKind.i64 (n1 : Int)); refine (get_all b8 d8 n1 z1 w7 ho8.rd l1 s1 H1.out).mono ?_; rintro e w8 ⟨b9, d9, b10, d10, rfl, ho9, hb8⟩; have hB8 : Below w.heap.size w w8 := below_step hB7 hb8; have hx1 := run_string_rd (P := Try.prog) (n := 3 * (n0 + n1)) 22 9 5 Try.underlying22 Try.underlying5 Try.underlying9 ((ho6.below hb7).below hb8).rd (by rw [formsN_length, List.length_append]; omega); rw [formsN_append] at hx1; have hx2 := run_string_rd (P := Try.prog) (n := 3 * n0) 22 9 5 Try.underlying22 Try.underlying5 Try.underlying9 ((((ho4.below hb5).below hb6).below hb7).below hb8).rd (by rw [formsN_length]; omega); have hx3 := run_string_rd (P := Try.prog) (n := 3 * n1) 22 9 5 Try.underlying22 Try.underlying5 Try.underlying9 (((ho5.below hb6).below hb7).below hb8).rd (by rw [formsN_length]; omega))
    | (go_at_call_of 12 (Value.slice b7 n0 d7); refine (sameInts_true b7 d7 n0 a0 c0 z0 w8 (ho7.below hb8).rd (r0.below hB8) l0 (by omega)).mono ?_; rintro e w' ⟨rfl, j1, hw⟩; subst w')
    | (go_at_call_of 12 (Value.slice b9 n1 d9); refine (sameInts_true b9 d9 n1 a1 c1 z1 (w8.drewN j1) (ho9.rd.heap rfl) ((r1.below hB8).heap rfl) l1 (by omega)).mono ?_; rintro e w' ⟨rfl, j2, hw⟩; subst w'))
  go_ret
  exact ⟨rfl, ⟨hB8.os, hB8.tape, hB8.output, hB8.size, hB8.block⟩⟩

set_option maxHeartbeats 1600000 in
theorem walkGB (a0 : Option Addr) (c0 n0 : Nat) (z0 : List Int) (a1 : Option Addr) (c1 n1 : Nat) (z1 : List Int) (w : World) (r0 : RdI w .i64 a0 c0 z0) (l0 : z0.length = n0) (r1 : RdI w .i64 a1 c1 z1) (l1 : z1.length = n1) (s0 : n0 ≤ 400) (s1 : n1 ≤ 400) (hg0 : ∀ z ∈ z0, 0 ≤ z ∧ z ≤ 16777215) (hg1 : ¬ ∀ z ∈ z1, 0 ≤ z ∧ z ≤ 16777215) :
    Calls Try.prog 6 #[.slice a0 n0 c0, .slice a1 n1 c1] w fun e w' => e = .returned (.bool true) ∧ Below w.heap.size w w' := by
  have HA : Hid (¬ ∀ z ∈ z0 ++ z1, 0 ≤ z ∧ z ≤ 16777215) := fun h => hg1 fun z hz => h z (List.mem_append_right _ hz)
  have H0 : Hid (∀ z ∈ z0, 0 ≤ z ∧ z ≤ 16777215) := hg0
  have H1 : Hid (¬ ∀ z ∈ z1, 0 ≤ z ∧ z ≤ 16777215) := hg1
  clear hg0 hg1
  go_enter Try.func6, Try.ntmps6
  go_wp2_with (first
    | (go_at_call 8; refine (alive_any _).mono ?_; rintro e w1 ⟨rfl, hB1⟩)
    | (at_builtin; refine wpList_append_rdI _ rfl (.tmp 28) (.tmp 29) 27 rfl w1.heap.size 3 .i64 (.int .i64 0) 8 Try.underlying27 info3 rfl rfl rfl (OwnI.fresh w1 _ _ _ (Nat.le_refl _)) ((r0.below hB1).alloc _) rfl l0 (by omega) (by unfold maxLen; omega) (by simp) ?_; intro ao2 cap2 w2 ho2 hb2; have hB2 : Below w.heap.size w w2 := below_step hB1 (below_alloc hb2); have hS2 := (below_alloc hb2).size)
    | (at_builtin; refine wpList_append_rdI _ rfl (.tmp 30) (.tmp 31) 27 rfl w1.heap.size 3 .i64 (.int .i64 0) 8 Try.underlying27 info3 rfl rfl rfl ho2 (r1.below hB2) (by simpa using l0) l1 (by omega) (by unfold maxLen; omega) hS2 ?_; intro ao3 cap3 w3 ho3 hb3; have hB3 : Below w.heap.size w w3 := hB2.trans (hb3.mono hB1.size))
    | (go_at_call 7; refine (nums_bad ao3 cap3 (n0 + n1) (z0 ++ z1) w5 ((ho3.below hb4).below hb5).rd (by rw [List.length_append]; omega) (by omega) HA.out).mono ?_; rintro e w6 ⟨rfl, hb6⟩; have hB6 : Below w.heap.size w w6 := below_step hB5 hb6)
    | (go_at_call 7; refine (nums_bad a1 c1 n1 z1 w4 (r1.below hB4) l1 (by omega) H1.out).mono ?_; rintro e w5 ⟨rfl, hb5⟩; have hB5 : Below w.heap.size w w5 := below_step hB4 hb5)
    | (go_at_call 7; refine (nums_good a0 c0 n0 z0 w3 (r0.below hB3) l0 (by omega) H0.out).mono ?_; rintro e w4 ⟨b4, d4, rfl, ho4, hb4⟩; have hB4 : Below w.heap.size w w4 := below_step hB3 hb4))
  go_ret
  exact ⟨rfl, ⟨hB6.os, hB6.tape, hB6.output, hB6.size, hB6.block⟩⟩

set_option maxHeartbeats 1600000 in
theorem walkBG (a0 : Option Addr) (c0 n0 : Nat) (z0 : List Int) (a1 : Option Addr) (c1 n1 : Nat) (z1 : List Int) (w : World) (r0 : RdI w .i64 a0 c0 z0) (l0 : z0.length = n0) (r1 : RdI w .i64 a1 c1 z1) (l1 : z1.length = n1) (s0 : n0 ≤ 400) (s1 : n1 ≤ 400) (hg0 : ¬ ∀ z ∈ z0, 0 ≤ z ∧ z ≤ 16777215) (hg1 : ∀ z ∈ z1, 0 ≤ z ∧ z ≤ 16777215) :
    Calls Try.prog 6 #[.slice a0 n0 c0, .slice a1 n1 c1] w fun e w' => e = .returned (.bool true) ∧ Below w.heap.size w w' := by
  have HA : Hid (¬ ∀ z ∈ z0 ++ z1, 0 ≤ z ∧ z ≤ 16777215) := fun h => hg0 fun z hz => h z (List.mem_append_left _ hz)
  have H0 : Hid (¬ ∀ z ∈ z0, 0 ≤ z ∧ z ≤ 16777215) := hg0
  have H1 : Hid (∀ z ∈ z1, 0 ≤ z ∧ z ≤ 16777215) := hg1
  clear hg0 hg1
  go_enter Try.func6, Try.ntmps6
  go_wp2_with (first
    | (go_at_call 8; refine (alive_any _).mono ?_; rintro e w1 ⟨rfl, hB1⟩)
    | (at_builtin; refine wpList_append_rdI _ rfl (.tmp 28) (.tmp 29) 27 rfl w1.heap.size 3 .i64 (.int .i64 0) 8 Try.underlying27 info3 rfl rfl rfl (OwnI.fresh w1 _ _ _ (Nat.le_refl _)) ((r0.below hB1).alloc _) rfl l0 (by omega) (by unfold maxLen; omega) (by simp) ?_; intro ao2 cap2 w2 ho2 hb2; have hB2 : Below w.heap.size w w2 := below_step hB1 (below_alloc hb2); have hS2 := (below_alloc hb2).size)
    | (at_builtin; refine wpList_append_rdI _ rfl (.tmp 30) (.tmp 31) 27 rfl w1.heap.size 3 .i64 (.int .i64 0) 8 Try.underlying27 info3 rfl rfl rfl ho2 (r1.below hB2) (by simpa using l0) l1 (by omega) (by unfold maxLen; omega) hS2 ?_; intro ao3 cap3 w3 ho3 hb3; have hB3 : Below w.heap.size w w3 := hB2.trans (hb3.mono hB1.size))
    | (go_at_call 7; refine (nums_bad ao3 cap3 (n0 + n1) (z0 ++ z1) w5 ((ho3.below hb4).below hb5).rd (by rw [List.length_append]; omega) (by omega) HA.out).mono ?_; rintro e w6 ⟨rfl, hb6⟩; have hB6 : Below w.heap.size w w6 := below_step hB5 hb6)
    | (go_at_call 7; refine (nums_good a1 c1 n1 z1 w4 (r1.below hB4) l1 (by omega) H1.out).mono ?_; rintro e w5 ⟨b5, d5, rfl, ho5, hb5⟩; have hB5 : Below w.heap.size w w5 := below_step hB4 hb5)
    | (go_at_call 7; refine (nums_bad a0 c0 n0 z0 w3 (r0.below hB3) l0 (by omega) H0.out).mono ?_; rintro e w4 ⟨rfl, hb4⟩; have hB4 : Below w.heap.size w w4 := below_step hB3 hb4))
  go_ret
  exact ⟨rfl, ⟨hB6.os, hB6.tape, hB6.output, hB6.size, hB6.block⟩⟩

set_option maxHeartbeats 1600000 in
theorem walkBB (a0 : Option Addr) (c0 n0 : Nat) (z0 : List Int) (a1 : Option Addr) (c1 n1 : Nat) (z1 : List Int) (w : World) (r0 : RdI w .i64 a0 c0 z0) (l0 : z0.length = n0) (r1 : RdI w .i64 a1 c1 z1) (l1 : z1.length = n1) (s0 : n0 ≤ 400) (s1 : n1 ≤ 400) (hg0 : ¬ ∀ z ∈ z0, 0 ≤ z ∧ z ≤ 16777215) (hg1 : ¬ ∀ z ∈ z1, 0 ≤ z ∧ z ≤ 16777215) :
    Calls Try.prog 6 #[.slice a0 n0 c0, .slice a1 n1 c1] w fun e w' => e = .returned (.bool true) ∧ Below w.heap.size w w' := by
  have HA : Hid (¬ ∀ z ∈ z0 ++ z1, 0 ≤ z ∧ z ≤ 16777215) := fun h => hg0 fun z hz => h z (List.mem_append_left _ hz)
  have H0 : Hid (¬ ∀ z ∈ z0, 0 ≤ z ∧ z ≤ 16777215) := hg0
  have H1 : Hid (¬ ∀ z ∈ z1, 0 ≤ z ∧ z ≤ 16777215) := hg1
  clear hg0 hg1
  go_enter Try.func6, Try.ntmps6
  go_wp2_with (first
    | (go_at_call 8; refine (alive_any _).mono ?_; rintro e w1 ⟨rfl, hB1⟩)
    | (at_builtin; refine wpList_append_rdI _ rfl (.tmp 28) (.tmp 29) 27 rfl w1.heap.size 3 .i64 (.int .i64 0) 8 Try.underlying27 info3 rfl rfl rfl (OwnI.fresh w1 _ _ _ (Nat.le_refl _)) ((r0.below hB1).alloc _) rfl l0 (by omega) (by unfold maxLen; omega) (by simp) ?_; intro ao2 cap2 w2 ho2 hb2; have hB2 : Below w.heap.size w w2 := below_step hB1 (below_alloc hb2); have hS2 := (below_alloc hb2).size)
    | (at_builtin; refine wpList_append_rdI _ rfl (.tmp 30) (.tmp 31) 27 rfl w1.heap.size 3 .i64 (.int .i64 0) 8 Try.underlying27 info3 rfl rfl rfl ho2 (r1.below hB2) (by simpa using l0) l1 (by omega) (by unfold maxLen; omega) hS2 ?_; intro ao3 cap3 w3 ho3 hb3; have hB3 : Below w.heap.size w w3 := hB2.trans (hb3.mono hB1.size))
    | (go_at_call 7; refine (nums_bad ao3 cap3 (n0 + n1) (z0 ++ z1) w5 ((ho3.below hb4).below hb5).rd (by rw [List.length_append]; omega) (by omega) HA.out).mono ?_; rintro e w6 ⟨rfl, hb6⟩; have hB6 : Below w.heap.size w w6 := below_step hB5 hb6)
    | (go_at_call 7; refine (nums_bad a1 c1 n1 z1 w4 (r1.below hB4) l1 (by omega) H1.out).mono ?_; rintro e w5 ⟨rfl, hb5⟩; have hB5 : Below w.heap.size w w5 := below_step hB4 hb5)
    | (go_at_call 7; refine (nums_bad a0 c0 n0 z0 w3 (r0.below hB3) l0 (by omega) H0.out).mono ?_; rintro e w4 ⟨rfl, hb4⟩; have hB4 : Below w.heap.size w w4 := below_step hB3 hb4))
  go_ret
  exact ⟨rfl, ⟨hB6.os, hB6.tape, hB6.output, hB6.size, hB6.block⟩⟩

set_option maxHeartbeats 800000 in
theorem walkLong (a0 : Option Addr) (c0 n0 : Nat) (a1 : Option Addr) (c1 n1 : Nat) (w : World) (s0 : n0 ≤ 17592186044416) (s1 : n1 ≤ 17592186044416) (h : 400 < n0 ∨ 400 < n1) :
    Calls Try.prog 6 #[.slice a0 n0 c0, .slice a1 n1 c1] w fun e w' => e = .returned (.bool true) ∧ Below w.heap.size w w' := by
  by_cases h0 : (400 : Int) < (n0 : Int)
  · clear h
    go_enter Try.func6, Try.ntmps6
    go_wp2_with (go_at_call 8; refine (alive_any _).mono ?_; rintro e w1 ⟨rfl, hB1⟩)
    go_ret
    exact ⟨rfl, hB1⟩
  · have h1 : (400 : Int) < (n1 : Int) := by omega
    clear h
    go_enter Try.func6, Try.ntmps6
    go_wp2_with (go_at_call 8; refine (alive_any _).mono ?_; rintro e w1 ⟨rfl, hB1⟩)
    go_ret
    exact ⟨rfl, hB1⟩

theorem walk (a0 : Option Addr) (c0 n0 : Nat) (z0 : List Int) (a1 : Option Addr) (c1 n1 : Nat) (z1 : List Int) (w : World) (r0 : RdI w .i64 a0 c0 z0) (l0 : z0.length = n0) (b0 : ∀ z ∈ z0, (Lit.int .i64 z).wf = true) (s0 : n0 * 8 ≤ 140737488351232)
    (r1 : RdI w .i64 a1 c1 z1) (l1 : z1.length = n1) (b1 : ∀ z ∈ z1, (Lit.int .i64 z).wf = true) (s1 : n1 * 8 ≤ 140737488351232) :
    Calls Try.prog 6 #[.slice a0 n0 c0, .slice a1 n1 c1] w fun e w' => e = .returned (.bool true) ∧ Below w.heap.size w w' := by
  by_cases hl : 400 < n0 ∨ 400 < n1
  · exact walkLong a0 c0 n0 a1 c1 n1 w (by omega) (by omega) hl
  · by_cases hg0 : ∀ z ∈ z0, 0 ≤ z ∧ z ≤ 16777215
    · by_cases hg1 : ∀ z ∈ z1, 0 ≤ z ∧ z ≤ 16777215
      · exact walkGG a0 c0 n0 z0 a1 c1 n1 z1 w r0 l0 r1 l1 (by omega) (by omega) hg0 hg1
      · exact walkGB a0 c0 n0 z0 a1 c1 n1 z1 w r0 l0 r1 l1 (by omega) (by omega) hg0 hg1
    · by_cases hg1 : ∀ z ∈ z1, 0 ≤ z ∧ z ≤ 16777215
      · exact walkBG a0 c0 n0 z0 a1 c1 n1 z1 w r0 l0 r1 l1 (by omega) (by omega) hg0 hg1
      · exact walkBB a0 c0 n0 z0 a1 c1 n1 z1 w r0 l0 r1 l1 (by omega) (by omega) hg0 hg1

set_option maxRecDepth 100000 in
theorem lifted (os : Os) (started : os.Started) (H : Type) (enc : TypeId × Value → H) :
    ReturnsInHanded {} Try.checked os 6 .any (Rows.packPartsSpec.pre6 enc Try.prog Try.f6 Rows.packPartsRow.domain false) (Rows.packPartsSpec.post enc Try.prog Try.f6 false true false false) := by
  refine returnsInHanded_of_change_sized (C := Try.checked) own started (by kernel_rfl) Try.func6
    (ChangeSpec.witness6 (enc := enc) (C := Try.checked) false ⟨#[], #[.slice none 0 0, .slice none 0 0], []⟩ 8 (by kernel_rfl) (by kernel_rfl) (by kernel_rfl) (by kernel_rfl)) ?_
  intro W base args ds gs before hval0 hW hcnd hsz0 _
  have hval : ∀ (j : Nat) t v, Try.f6.params[j]? = some t → args[j]? = some v → Value.okWide Try.prog W .any base t v := hval0
  have hsz : (DataW.weightsEach Try.prog (Try.f6.params.toList ++ Rows.packPartsSpec.plain.varTypes Try.prog) (ds ++ gs)).all (· ≤ reachBytes) = true := hsz0
  have hW' := hW
  obtain ⟨p, q, hA0, hV, rfl, hfz, hnd⟩ := hW
  have hA : DataW.TrodAll enc Try.prog W 0 (fun _ => true) true Try.f6.params.toList args.toList ds p := hA0
  rw [Try.params6] at hA hval hsz
  obtain ⟨v0, vs0, d0, ds0, p0, q0, hargs, rfl, rfl, h0, r0⟩ := trodAll_cons hA
  obtain ⟨v1, vs1, d1, ds1, p1, q1, rfl, rfl, rfl, h1, r1⟩ := trodAll_cons r0
  obtain ⟨rfl, rfl, rfl⟩ := trodAll_nil r1
  obtain rfl : args = #[v0, v1] := by cases args; simp_all
  obtain ⟨rfl, rfl⟩ := trodVars_none hV
  obtain ⟨a0, n0, c0, rfl⟩ := okWide_slice Try.underlying27 (hval 0 27 v0 rfl rfl)
  have k0 := h0
  have lt0 : ∀ x ∈ p0, x.block < W.heap.size := by obtain ⟨m, hm⟩ := k0; exact DataW.trod_lt m _ _ _ hm
  obtain ⟨z0, r0', l0, b0, s0⟩ : ∃ zs, RdI W .i64 a0 c0 zs ∧ zs.length = n0 ∧ (∀ z ∈ zs, (Lit.int .i64 z).wf = true) ∧ n0 * 8 ≤ 140737488351232 := by
    obtain ⟨fuel, hf⟩ := h0
    rcases open_ints Try.underlying27 Try.underlying3 (by kernel_rfl) hf with ⟨hcs, _⟩ | ⟨x, l, c, zs, hcs, _, hl, hm, hz, hx, hcell, hwz⟩
    · simp [Value.cells] at hcs
      obtain ⟨rfl, rfl, rfl⟩ := hcs
      exact ⟨[], RdI.empty W .i64, rfl, by simp, by omega⟩
    · simp [Value.cells] at hcs
      obtain ⟨rfl, rfl, rfl⟩ := hcs
      have hd : d0 = .slice (lits .i64 (zs.take n0)) (lits .i64 (zs.drop n0)) := (Prod.mk.inj hx).1
      have hs := sized_slice hsz (j := 0) (t := 27) (e := 3) rfl (by rw [hd]; rfl) Try.underlying27
      have hz2 : zs.length = c0 := by simpa using hz
      rw [bytes3] at hs
      simp only [lits, List.length_map, List.length_take, List.length_drop, reachBytes] at hs
      exact ⟨zs.take n0, rdI_of_row hl hm hz2 hcell, by simp; omega, fun z h => hwz z (List.mem_of_mem_take h), by omega⟩
  obtain ⟨a1, n1, c1, rfl⟩ := okWide_slice Try.underlying27 (hval 1 27 v1 rfl rfl)
  have k1 := h1
  have lt1 : ∀ x ∈ p1, x.block < W.heap.size := by obtain ⟨m, hm⟩ := k1; exact DataW.trod_lt m _ _ _ hm
  obtain ⟨z1, r1', l1, b1, s1⟩ : ∃ zs, RdI W .i64 a1 c1 zs ∧ zs.length = n1 ∧ (∀ z ∈ zs, (Lit.int .i64 z).wf = true) ∧ n1 * 8 ≤ 140737488351232 := by
    obtain ⟨fuel, hf⟩ := h1
    rcases open_ints Try.underlying27 Try.underlying3 (by kernel_rfl) hf with ⟨hcs, _⟩ | ⟨x, l, c, zs, hcs, _, hl, hm, hz, hx, hcell, hwz⟩
    · simp [Value.cells] at hcs
      obtain ⟨rfl, rfl, rfl⟩ := hcs
      exact ⟨[], RdI.empty W .i64, rfl, by simp, by omega⟩
    · simp [Value.cells] at hcs
      obtain ⟨rfl, rfl, rfl⟩ := hcs
      have hd : d1 = .slice (lits .i64 (zs.take n1)) (lits .i64 (zs.drop n1)) := (Prod.mk.inj hx).1
      have hs := sized_slice hsz (j := 1) (t := 27) (e := 3) rfl (by rw [hd]; rfl) Try.underlying27
      have hz2 : zs.length = c1 := by simpa using hz
      rw [bytes3] at hs
      simp only [lits, List.length_map, List.length_take, List.length_drop, reachBytes] at hs
      exact ⟨zs.take n1, rdI_of_row hl hm hz2 hcell, by simp; omega, fun z h => hwz z (List.mem_of_mem_take h), by omega⟩
  clear hA0 hval0
  refine (walk a0 c0 n0 z0 a1 c1 n1 z1 W r0' l0 b0 s0 r1' l1 b1 s1).mono fun e W' ⟨he, bel⟩ => ?_
  subst he
  exact ⟨_, rfl, _, _, _, [], _, [], hW', trodAll_mk1 (shut_bool Try.underlying4 _), (trodAll_cons_mk (Below.trod laidOut (by kernel_rfl) (of_decide_eq_true (by kernel_rfl)) k0 bel lt0) (trodAll_cons_mk (Below.trod laidOut (by kernel_rfl) (of_decide_eq_true (by kernel_rfl)) k1 bel lt1) trodAll_mk0)), rfl, bel.frame _, fun h => by cases h⟩

theorem over : Rows.packPartsRow.holds Try.pinned (OpenSpec.ofChange Rows.packPartsSpec) :=
  OpenClaim.holds_of_wide 6 Try.f6 rfl rfl rfl rfl rfl rfl rfl ⟨rfl, rfl, rfl, rfl, rfl⟩ rfl rfl rfl rfl rfl (by kernel_rfl) Try.func6 (by kernel_rfl)
    (of_decide_eq_true (by kernel_rfl)) (by unfold Func.isWrapper; first | (rw [if_pos (by decide +kernel)]; kernel_rfl) | (rw [if_neg (by decide +kernel)]; exact ⟨rfl, rfl⟩))
    (fun os started H enc _ => lifted os started H enc)

theorem proved : Rows.PackPartsSaid := over
#print axioms proved
end Go.Proofs.Ytedpjlcidcjkiaa.packParts
