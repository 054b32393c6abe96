/- What Append does with an empty batch, and what Durable does, walked. -/
import Derived.Test.YthckdfggnmoaeaaX2
namespace Go.Proofs.Ythckdfggnmoaeaa
open Go.RowKit
set_option linter.unusedVariables false

set_option maxHeartbeats 400000 in
theorem append_empty (B gl g : Nat) (ao : Option Addr) (n cap : Nat) (bs : List Nat) (s r last : Nat) (w : World) (h : LogAt w B gl g ao n cap bs s r last) (hl : last < 16777215) :
    Calls Try.prog 19 #[tp gl, btV 0 0 0 0 none 0 0] w fun x w' => x = .returned (.tuple #[.int .i64 0, .int .i64 71]) ∧ Below w.heap.size w w' := by
  have q1 := h.l.c1
  have hlt := h.l.lt
  go_enter Try.func19, Try.ntmps19
  go_wp2_with (first
    | (go_at_call 38; refine (isCommit_no _ _ _ _ _ _ _ _ ⟨by omega, by omega⟩ (by omega)).mono ?_; rintro x w1 ⟨rfl, hb1⟩)
    | (fail))
  go_returns
  exact ⟨rfl, below_alloc (hb1.mono (by simp))⟩

theorem head_rd {w : World} {base : Nat} {ao : Option Addr} {n cap s : Nat} {L : List Bt} {rest : List Nat} (h : Own8 w base ao n cap (rowN L ++ rest)) (hs : s = (rowN L).length) (hn : s ≤ n) : Rd8 w ao s cap (rowN L) := by
  have h1 := h.rd.head s hn
  rw [hs, List.take_left] at h1
  rw [hs]
  exact h1

set_option maxHeartbeats 800000 in
theorem durable_log (B gl g : Nat) (ao : Option Addr) (n cap : Nat) (L : List Bt) (rest : List Nat) (s r last : Nat) (w : World) (h : LogAt w B gl g ao n cap (rowN L ++ rest) s r last) (hs : s = (rowN L).length) (hok : ∀ b ∈ L, BtOk b) (hch : Chain L) :
    Calls Try.prog 42 #[tp gl] w fun x w' => x = .returned (.int .i64 (lastL L : Int)) ∧ Below w.heap.size w w' := by
  have hD : LogAt w.drew B gl g ao n cap (rowN L ++ rest) s r last := h.below ((Below.refl _ _).drew)
  have q0 := h.l.c0
  have hle := h.t.le
  have hsl := h.t.sl
  have HS : Hid (s = (rowN L).length) := hs
  have hLL : L.length ≤ 20000 := by have := rowN_le L; omega
  have HOK : Hid (∀ b ∈ L, BtOk b) := hok
  have HC : Hid (Chain L) := hch
  clear hok hch hs
  go_enter Try.func42, Try.ntmps42
  go_wp2
  go_region_with (first
    | (go_at_call 29; refine (scan_ok L _ _ _ _ (head_rd ho1 HS.out hsl) HOK.out HC.out (by omega)).mono ?_; rintro x w2 ⟨v, rfl, hF2, hb2⟩)
    | (go_at_call 61; refine (safe_any _ _ _ _ _ _ _ _ _ hT1.t).mono ?_; rintro x w' ⟨rfl, hw⟩; subst w')
    | (go_at_call 61; refine (safe_any _ _ _ _ _ _ _ _ _ hD.t).mono ?_; rintro x w' ⟨rfl, hw⟩; subst w')
    | (go_at_call 30; refine (bytes_any _ _ _ _ _ _ _ _ _ hD.t).mono ?_; rintro x w1 ⟨ao1, cap1, rfl, ho1, hb1⟩; have hT1 := hD.below hb1; have q1 := hT1.l.c0; have hcp := ho1.rd.rd.le; rw [ci_length, ho1.len] at hcp))
  all_goals (
    go_wp2_with (first
      | (go_at_call 32; refine (lastLSN_any v L _ _ hF2 hLL).mono ?_; rintro x w' ⟨rfl, hw⟩; subst w')
      | (fail))
    go_ret
    exact ⟨rfl, below_step (below_drewn hb1) hb2⟩)

end Go.Proofs.Ythckdfggnmoaeaa
