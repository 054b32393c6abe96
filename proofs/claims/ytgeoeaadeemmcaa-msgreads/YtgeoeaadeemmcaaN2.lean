/- What the document's answer for package pack does, walked: a value's bytes. -/
import Derived.Test.YtgeoeaadeemmcaaN1
namespace Go.Proofs.Ytgeoeaadeemmcaa
open Go.RowKit
set_option linter.unusedVariables false

theorem wrN_cons (k : Nat) : ∀ v : Int, wrN (k + 1) v = [v / 256 ^ k % 256] ++ wrN k v := by
  induction k with
  | zero => intro v; simp [wrN]
  | succ k ih =>
    intro v
    have e : wrN (k + 1 + 1) v = wrN (k + 1) (v / 256) ++ [v % 256] := rfl
    rw [e, ih (v / 256)]
    have e2 : wrN (k + 1) v = wrN k (v / 256) ++ [v % 256] := rfl
    rw [e2, List.append_assoc, Int.pow_succ, Int.mul_comm (256 ^ k) 256, Int.ediv_ediv_of_nonneg (by omega)]

theorem OwnI.one (w : World) (base : Nat) (e : TypeId) (k : IntKind) (z : Int) (hb : base ≤ w.heap.size) : OwnI (w.alloc (.cells #[.int k z] e)) base e k (some ⟨w.heap.size, 0, none⟩) 1 [z] := OwnS.built w base e [.int k z] (by simp [maxLen]) hb

set_option maxHeartbeats 400000 in
theorem refPart_any (v : Int) (h0 : 0 ≤ v) (h1 : v < 18446744073709551616) (w : World) :
    Calls Try.prog 68 #[.int .u64 v] w fun e w' => ∃ ao cap, e = .returned (.slice ao 8 cap) ∧ OwnI w' w.heap.size 5 .u8 ao cap (wrN 8 v) ∧ Below w.heap.size w w' := by
  go_enter Try.func68, Try.ntmps68
  go_wp2
  go_loopw [0, 3, 4] (fun n t i wr => ∃ (k : Nat) (a : Option Addr) (c : Nat), k ≤ 8 ∧ i = .int .i64 k ∧ n = .int .u64 (v / 256 ^ k) ∧ t = .slice a k c ∧ OwnI wr w.heap.size 5 .u8 a c (wrN k v) ∧ Below w.heap.size w wr) (fun _ _ i _ => 8 - (intOf i).toNat)
  case atStart => exact ⟨0, _, _, Nat.zero_le _, rfl, by simp, rfl, OwnI.fresh w _ _ _ (Nat.le_refl _), below_box _ _⟩
  case round =>
    obtain ⟨k, a, c, hk, rfl, rfl, rfl, ho, hbel⟩ := hrel
    have hsz := hbel.size
    by_cases hlt : k < 8
    · have HC : Hid ([v / 256 ^ k % 256] ++ wrN k v = wrN (k + 1) v) := (wrN_cons k v).symm
      have HD : Hid (v / 256 ^ k / 256 = v / 256 ^ (k + 1)) := by
        rw [Hid, Int.pow_succ, Int.ediv_ediv_of_nonneg (Int.le_of_lt (Int.pow_pos (by omega)))]
      have hp : (0 : Int) < 256 ^ k := Int.pow_pos (by omega)
      have q0 : 0 ≤ v / 256 ^ k := Int.ediv_nonneg h0 (Int.le_of_lt hp)
      have q1 : v / 256 ^ k < 18446744073709551616 := Int.lt_of_le_of_lt (Int.ediv_le_self _ h0) h1
      clear hp
      generalize v / 256 ^ k = r at *
      go_wp2_with (first
        | (at_builtin; refine wpList_append_rdI _ rfl (.tmp 13) (.tmp 14) 22 rfl w.heap.size 5 .u8 (.int .u8 0) 1 Try.underlying22 info5 rfl rfl rfl (OwnI.one wr w.heap.size 5 .u8 _ hsz) (ho.alloc _).rd rfl (wrN_length k v) (by omega) (by unfold maxLen; omega) (by simp; omega) ?_; intro ao2 cap2 w2 ho2 hb2)
        | (fail))
      go_roundw
      case rel => exact ⟨k + 1, ao2, cap2, by omega, by go_num, by rw [← HD.out], by rw [Nat.add_comm], by rw [← HC.out]; exact ho2, (hbel.alloc hsz _).trans hb2⟩
      case measure => simp [intOf]; omega
    · obtain rfl : k = 8 := by omega
      go_wp2
      go_ret
      exact ⟨_, _, rfl, ho, hbel⟩

set_option maxHeartbeats 400000 in
theorem refValue_any (a b : Nat) (w : World) (ha : a < 18446744073709551616) (hb : b < 18446744073709551616) :
    Calls Try.prog 54 #[.complex .f64 a b] w fun e w' => ∃ ao cap, e = .returned (.slice ao 16 cap) ∧ OwnI w' w.heap.size 5 .u8 ao cap (valN a b) ∧ Below w.heap.size w w' := by
  have fa := formN_lt a ha
  have fb := formN_lt b hb
  go_enter Try.func54, Try.ntmps54
  go_wp2_with (first
    | (go_at_call 67; refine (refBits_any a b ha hb _).mono ?_; rintro e w' ⟨rfl, hw⟩; subst w')
    | (at_builtin; refine wpList_append_rdI _ rfl (.tmp 11) (.tmp 13) 22 rfl w.heap.size 5 .u8 (.int .u8 0) 1 Try.underlying22 info5 rfl rfl rfl (ho1.below hb2) ho2.rd (wrN_length 8 _) (wrN_length 8 _) (by omega) (by unfold maxLen; omega) (below_step hb1 hb2).size ?_; intro ao3 cap3 w3 ho3 hb3)
    | (go_at_call_of 68 (Value.int IntKind.u64 (formN a : Int)); refine (refPart_any (formN a : Int) (by omega) (by omega) w).mono ?_; rintro e w1 ⟨ao1, cap1, rfl, ho1, hb1⟩)
    | (go_at_call 68; refine (refPart_any (formN b : Int) (by omega) (by omega) _).mono ?_; rintro e w2 ⟨ao2, cap2, rfl, ho2, hb2⟩))
  go_ret
  exact ⟨_, _, rfl, ho3, (below_step hb1 hb2).trans hb3⟩

set_option maxHeartbeats 400000 in
theorem refTake_short (ao : Option Addr) (cap n : Nat) (w : World) (h : n < 16) :
    Calls Try.prog 27 #[.slice ao n cap] w fun e w' => e = .returned (.tuple #[.complex .f64 0 0, .slice none 0 0, .int .i64 21]) ∧ w' = w := by
  go_enter Try.func27, Try.ntmps27
  go_wp2
  go_ret3
  exact ⟨rfl, rfl⟩

end Go.Proofs.Ytgeoeaadeemmcaa
