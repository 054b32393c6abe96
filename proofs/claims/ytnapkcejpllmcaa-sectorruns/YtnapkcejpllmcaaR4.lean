/- What the reference reads of a drive: Read, Loose; two lists of numbers compared. -/
import Derived.Test.YtnapkcejpllmcaaR2
import Derived.BigQuiet
namespace Go.Proofs.Ytnapkcejpllmcaa
open Go.RowKit
set_option linter.unusedVariables false

set_option maxHeartbeats 800000 in
theorem sameInts_true (a : Option Addr) (c n : Nat) (b : Option Addr) (d : Nat) (zs : List Int) (w : World) (ha : RdI w .i64 a c zs) (hb : RdI w .i64 b d zs) (hn : zs.length = n) (hm : n ≤ 9223372036854775807) :
    Calls Try.prog 22 #[.slice a n c, .slice b n d] w fun e w' => e = .returned (.bool true) ∧ ∃ j, w' = w.drewN j := by
  go_enter Try.func22, Try.ntmps22
  go_wp2
  go_loopw [13] (fun i wr => ∃ k j : Nat, k ≤ n ∧ i = .int .i64 k ∧ wr = w.drewN j) (fun i _ => n - (intOf i).toNat)
  case atStart => exact ⟨0, 0, Nat.zero_le _, rfl, rfl⟩
  case round =>
    obtain ⟨k, j, hk, rfl, rfl⟩ := hrel
    by_cases hlt : k < n
    · obtain ⟨b1, o1, rfl, _, hc1⟩ := ha.at (t := k) (by omega)
      obtain ⟨b2, o2, rfl, _, hc2⟩ := hb.at (t := k) (by omega)
      have hd1 := hc1 k (by omega)
      have hd2 := hc2 k (by omega)
      have hlt' : (k : Int) < (n : Int) := by omega
      go_wp2
      go_quiet (fail)
      go_wp2
      go_roundw
      case rel => exact ⟨k + 1, _, by omega, by go_num, rfl⟩
      case measure => simp [intOf]; omega
    · go_wp2
      go_ret
      exact ⟨rfl, _, rfl⟩

theorem hasB_f {L : List Sec} {i : Int} (h : hasB L i = false) : i < 0 ∨ (0 ≤ i ∧ (L.length : Int) ≤ i) := by
  simp [hasB] at h
  omega

set_option maxHeartbeats 800000 in
theorem refRead_ok (V : Nat → Prop) (a0 a1 a2 : Option Addr) (c0 c1 c2 n : Nat) (L : List Sec) (i : Nat) (w : World) (h : Ref w V a0 c0 a1 c1 a2 c2 L) (hn : L.length = n) (hi : i < n) :
    Calls Try.prog 19 #[.agg #[.slice a0 n c0, .slice a1 n c1, .slice a2 n c2], .int .i64 (i : Int)] w fun e w' => ∃ v, e = .returned (.tuple #[v, .int .i64 0]) ∧ Below w.heap.size w w' := by
  have hle := h.le
  obtain ⟨o0, o1, o2, rfl, rfl, rfl, hc, _⟩ := (h.below ((Below.refl _ _).alloc (Nat.le_refl _) (.cells #[.slice a0 n c0, .slice a1 n c1, .slice a2 n c2] 34))).pos (by intro e; subst e; simp at hn; omega)
  obtain ⟨ao, m, cap, h1, _⟩ := hc.cb i (by omega)
  go_enter Try.func19, Try.ntmps19
  go_wp2
  go_ret2
  exact ⟨_, rfl, (Below.refl _ _).alloc (Nat.le_refl _) _⟩

set_option maxHeartbeats 800000 in
theorem refRead_bad (a0 a1 a2 : Option Addr) (c0 c1 c2 n : Nat) (L : List Sec) (i : Int) (w : World) (hn : L.length = n) (hi : hasB L i = false) :
    Calls Try.prog 19 #[.agg #[.slice a0 n c0, .slice a1 n c1, .slice a2 n c2], .int .i64 i] w fun e w' => ∃ v, e = .returned (.tuple #[v, .int .i64 51]) ∧ Below w.heap.size w w' := by
  rcases hasB_f hi with h0 | ⟨h0, h1⟩
  · go_enter Try.func19, Try.ntmps19
    go_wp2
    go_ret2
    exact ⟨_, rfl, (Below.refl _ _).alloc (Nat.le_refl _) _⟩
  · rw [hn] at h1
    go_enter Try.func19, Try.ntmps19
    go_wp2
    go_ret2
    exact ⟨_, rfl, (Below.refl _ _).alloc (Nat.le_refl _) _⟩

set_option maxHeartbeats 1600000 in
theorem refLoose_any (V : Nat → Prop) (a0 a1 a2 : Option Addr) (c0 c1 c2 n : Nat) (L : List Sec) (w : World) (h : Ref w V a0 c0 a1 c1 a2 c2 L) (hn : L.length = n) :
    Calls Try.prog 24 #[.agg #[.slice a0 n c0, .slice a1 n c1, .slice a2 n c2]] w fun e w' => ∃ ao cap, e = .returned (.slice ao (looseK L n).length cap) ∧ OwnI w' w.heap.size 3 .i64 ao cap (looseK L n) ∧ Below w.heap.size w w' := by
  have hle := h.le
  have hW : Below w.heap.size w (w.alloc (.cells #[.slice a0 n c0, .slice a1 n c1, .slice a2 n c2] 34)) := (Below.refl _ _).alloc (Nat.le_refl _) _
  have hbx : (w.alloc (.cells #[.slice a0 n c0, .slice a1 n c1, .slice a2 n c2] 34)).heap[w.heap.size]? = some (.cells #[.slice a0 n c0, .slice a1 n c1, .slice a2 n c2] 34) := heap_alloc_new w _
  have HX : Hid ((w.alloc (.cells #[.slice a0 n c0, .slice a1 n c1, .slice a2 n c2] 34)).heap[w.heap.size]? = some (.cells #[.slice a0 n c0, .slice a1 n c1, .slice a2 n c2] 34)) := hbx
  clear hbx
  go_enter Try.func24, Try.ntmps24
  go_wp2
  go_loopw [3, 9] (fun t i wr => ∃ (k : Nat) (a : Option Addr) (c : Nat), k ≤ n ∧ i = .int .i64 k ∧ t = .slice a (looseK L k).length c ∧ OwnI wr (w.heap.size + 1) 3 .i64 a c (looseK L k) ∧ Below (w.heap.size + 1) (w.alloc (.cells #[.slice a0 n c0, .slice a1 n c1, .slice a2 n c2] 34)) wr) (fun _ i _ => n - (intOf i).toNat)
  case atStart =>
    refine ⟨0, _, _, Nat.zero_le _, rfl, rfl, ?_, (Below.refl _ _).alloc (by simp) _⟩
    have := OwnI.fresh (w.alloc (.cells #[.slice a0 n c0, .slice a1 n c1, .slice a2 n c2] 34)) (w.heap.size + 1) 3 .i64 (by simp)
    simpa [looseK] using this
  case round =>
    obtain ⟨k, a, c, hk, rfl, rfl, ho, hbel⟩ := hrel
    have hsz := hbel.size
    simp at hsz
    have hbr := hW.trans (hbel.mono (Nat.le_succ _))
    have hx := (hbel.block w.heap.size (by omega)).trans HX.out
    have hx2 : wr.cell? ⟨w.heap.size, 2, none⟩ = some (.slice a2 n c2) := by rw [cell_of_row _ _ _ _ _ _ hx]; rfl
    clear hx
    have hkl := looseK_length L k
    by_cases hlt : k < n
    · obtain ⟨o0, o1, o2, -, -, rfl, hc, -⟩ := (h.below hbr).pos (by intro e; subst e; simp at hn; omega)
      have hl := hc.cl k (by omega)
      cases hb : (L[k]'(by omega)).l
      · rw [hb] at hl
        go_wp2
        go_roundw
        case rel => exact ⟨k + 1, a, c, by omega, by go_num, by rw [looseK_f L k (by omega) hb], by rw [looseK_f L k (by omega) hb]; exact ho, hbel⟩
        case measure => simp [intOf]; omega
      · rw [hb] at hl
        go_wp2_with (at_builtin; refine wpList_append_rdI _ rfl (.tmp 17) (.tmp 19) 49 rfl (w.heap.size + 1) 3 .i64 (.int .i64 0) 8 Try.underlying49 info3 rfl rfl rfl (ho.alloc _) (RdI.one _ _ _ _) rfl rfl (by omega) (by unfold maxLen; omega) (by simp; omega) ?_; intro ao2 cap2 w2 ho2 hb2)
        rw [← looseK_t L k (by omega) hb] at ho2
        go_roundw
        case rel => exact ⟨k + 1, _, _, by omega, by go_num, by rw [looseK_t L k (by omega) hb]; simp, ho2, (hbel.alloc (by omega) _).trans hb2⟩
        case measure => simp [intOf]; omega
    · go_wp2
      go_ret
      have hkn : k = n := by omega
      subst hkn
      exact ⟨_, _, rfl, ho.mono (Nat.le_succ _), hbr⟩

end Go.Proofs.Ytnapkcejpllmcaa
