/- What the calls of package pack do, walked. -/
import Derived.Test.YtgeoeaadeemmcaaPk1
namespace Go.Proofs.Ytgeoeaadeemmcaa
open Go.RowKit
set_option linter.unusedVariables false

/-- Can the number be? -/
def canB (z : Int) : Bool := decide (0 ≤ z) && decide (z ≤ 16777215)

/-- The forms of the numbers. -/
def formsN (zs : List Int) : List Int := zs.flatMap (wrN 3)

theorem formsN_snoc (zs : List Int) (k : Nat) (h : k < zs.length) : formsN (zs.take k) ++ wrN 3 zs[k] = formsN (zs.take (k + 1)) := by
  rw [List.take_succ_eq_append_getElem h]; unfold formsN; rw [List.flatMap_append]; simp only [List.flatMap_cons, List.flatMap_nil, List.append_nil]

theorem formsN_length (zs : List Int) : (formsN zs).length = 3 * zs.length := by
  induction zs with
  | nil => rfl
  | cons z zs ih => simp only [formsN, List.flatMap_cons, List.length_append, wrN_length, List.length_cons] at *; omega

set_option maxHeartbeats 800000 in
theorem nums_good (ao : Option Addr) (cap n : Nat) (zs : List Int) (w : World) (hrd : RdI w .i64 ao cap zs) (hn : zs.length = n) (hlen : n * 8 ≤ 140737488355328) (hz : ∀ z ∈ zs, 0 ≤ z ∧ z ≤ 16777215) :
    Calls Try.prog 17 #[.slice ao n cap] w fun e w' => ∃ ao' cap', e = .returned (.tuple #[.slice ao' (3 * n) cap', .int .i64 0]) ∧ OwnI w' w.heap.size 5 .u8 ao' cap' (formsN zs) ∧ Below w.heap.size w w' := by
  have hle := hrd.le
  go_enter Try.func17, Try.ntmps17
  go_wp2_with (at_make; refine wpList_make0I _ rfl _ _ 22 rfl w.heap.size 5 .u8 (.int .u8 0) 1 Try.underlying22 info5 (3 * n) rfl rfl (by omega) (by omega) (by unfold maxLen; omega) (Nat.le_refl _) ?_; intro ao1 w1 ho1 hb1)
  go_loopw [4, 13] (fun t i wr => ∃ (k : Nat) (a : Option Addr) (c : Nat), k ≤ n ∧ i = .int .i64 k ∧ t = .slice a (3 * k) c ∧ OwnI wr w.heap.size 5 .u8 a c (formsN (zs.take k)) ∧ Below w.heap.size w wr) (fun _ i _ => n - (intOf i).toNat)
  case atStart => exact ⟨0, _, _, Nat.zero_le _, rfl, rfl, ho1, hb1⟩
  case round =>
    obtain ⟨k, a, c, hk, rfl, rfl, ho, hbel⟩ := hrel
    by_cases hlt : k < n
    · obtain ⟨b, off, rfl, _, hc⟩ := (hrd.below hbel).at (t := k) (by omega)
      have hc1 := hc k (by omega)
      have hzk := hz zs[k] (List.getElem_mem _)
      have hz1 := hzk.1
      have hz2 := hzk.2
      have hsz := hbel.size
      go_wp2_with (go_at_call 41; refine (appendForm_any w.heap.size a c (3 * k) (formsN (zs.take k)) zs[k] 3 _ ho (by rw [formsN_length, List.length_take]; omega) (by omega) (by omega) (by omega) (by omega) hsz).mono ?_; rintro e w2 ⟨ao2, cap2, rfl, ho2, hb2⟩)
      rw [formsN_snoc zs k (by omega)] at ho2
      go_roundw
      case rel => exact ⟨k + 1, _, _, by omega, by go_num, rfl, ho2, hbel.trans hb2⟩
      case measure => simp [intOf]; omega
    · go_wp2
      go_ret2
      have : k = n := by omega
      subst this
      exact ⟨_, _, rfl, by rw [List.take_of_length_le (by omega)] at ho; exact ho, hbel⟩

set_option maxHeartbeats 800000 in
theorem nums_bad (ao : Option Addr) (cap n : Nat) (zs : List Int) (w : World) (hrd : RdI w .i64 ao cap zs) (hn : zs.length = n) (hlen : n * 8 ≤ 140737488355328) (hbad : ¬ ∀ z ∈ zs, 0 ≤ z ∧ z ≤ 16777215) :
    Calls Try.prog 17 #[.slice ao n cap] w fun e w' => e = .returned (.tuple #[.slice none 0 0, .int .i64 21]) ∧ Below w.heap.size w w' := by
  have hle := hrd.le
  go_enter Try.func17, Try.ntmps17
  go_wp2_with (at_make; refine wpList_make0I _ rfl _ _ 22 rfl w.heap.size 5 .u8 (.int .u8 0) 1 Try.underlying22 info5 (3 * n) rfl rfl (by omega) (by omega) (by unfold maxLen; omega) (Nat.le_refl _) ?_; intro ao1 w1 ho1 hb1)
  go_loopw [4, 13] (fun t i wr => ∃ (k : Nat) (a : Option Addr) (c : Nat), k ≤ n ∧ i = .int .i64 k ∧ t = .slice a (3 * k) c ∧ OwnI wr w.heap.size 5 .u8 a c (formsN (zs.take k)) ∧ Below w.heap.size w wr ∧ ∀ z ∈ zs.take k, 0 ≤ z ∧ z ≤ 16777215) (fun _ i _ => n - (intOf i).toNat)
  case atStart => exact ⟨0, _, _, Nat.zero_le _, rfl, rfl, ho1, hb1, by simp⟩
  case round =>
    obtain ⟨k, a, c, hk, rfl, rfl, ho, hbel, hgd⟩ := hrel
    by_cases hlt : k < n
    · obtain ⟨b, off, rfl, _, hc⟩ := (hrd.below hbel).at (t := k) (by omega)
      have hc1 := hc k (by omega)
      have hsz := hbel.size
      have HB : Hid (¬ ∀ z ∈ zs, 0 ≤ z ∧ z ≤ 16777215) := hbad
      have HG : Hid (∀ z ∈ zs.take k, 0 ≤ z ∧ z ≤ 16777215) := hgd
      clear hbad hgd
      by_cases hz1 : 0 ≤ zs[k]
      · by_cases hz2 : zs[k] ≤ 16777215
        · go_wp2_with (go_at_call 41; refine (appendForm_any w.heap.size a c (3 * k) (formsN (zs.take k)) zs[k] 3 _ ho (by rw [formsN_length, List.length_take]; omega) (by omega) (by omega) (by omega) (by omega) hsz).mono ?_; rintro e w2 ⟨ao2, cap2, rfl, ho2, hb2⟩)
          rw [formsN_snoc zs k (by omega)] at ho2
          go_roundw
          case rel => exact ⟨k + 1, _, _, by omega, by go_num, rfl, ho2, hbel.trans hb2, by
            rw [List.take_succ_eq_append_getElem (by omega)]
            intro z hz
            rcases List.mem_append.1 hz with h | h
            · exact HG.out z h
            · simp at h; subst h; exact ⟨hz1, hz2⟩⟩
          case measure => simp [intOf]; omega
        · go_wp2
          go_ret2
          exact ⟨rfl, hbel⟩
      · go_wp2
        go_ret2
        exact ⟨rfl, hbel⟩
    · exact absurd (by rwa [List.take_of_length_le (by omega)] at hgd) hbad

/-- The numbers with which some bytes begin. -/
def getN (zs : List Int) (many : Nat) : List Int := (List.range many).map fun i => rdN ((zs.drop (3 * i)).take 3)

@[simp] theorem getN_length (zs : List Int) (many : Nat) : (getN zs many).length = many := by simp [getN]

set_option maxHeartbeats 800000 in
theorem get_bad (ao : Option Addr) (cap n : Nat) (m : Int) (w : World) (hn : n ≤ 9223372036854775807) (hbad : m < 0 ∨ 1000 < m ∨ (n : Int) < 3 * m) :
    Calls Try.prog 22 #[.slice ao n cap, .int .i64 m] w fun e w' => e = .returned (.tuple #[.slice none 0 0, .slice none 0 0, .int .i64 21]) ∧ w' = w := by
  by_cases h1 : m < 0
  · clear hbad
    go_enter Try.func22, Try.ntmps22
    go_wp2
    go_ret3
    exact ⟨rfl, rfl⟩
  · by_cases h2 : 1000 < m
    · clear hbad
      go_enter Try.func22, Try.ntmps22
      go_wp2
      go_ret3
      exact ⟨rfl, rfl⟩
    · have h3 : (n : Int) < 3 * m := by omega
      clear hbad
      go_enter Try.func22, Try.ntmps22
      go_wp2
      go_ret3
      exact ⟨rfl, rfl⟩

end Go.Proofs.Ytgeoeaadeemmcaa
