/- What the functions of package crc do, walked: frames. -/
import Derived.Test.YtfllkhimlambhaaCr2
import Derived.Deep.QuietTactic
import Derived.BigQuiet
namespace Go.Proofs.Ytfllkhimlambhaa
open Go.RowKit
set_option linter.unusedVariables false

set_option maxHeartbeats 400000 in
theorem seal_any (ao : Option Addr) (n cap : Nat) (bs : List Nat) (w : World) (h : Rd8 w ao n cap bs) (hn : n + 2 ≤ 140737488355328) :
    Calls Try.prog 22 #[.slice ao n cap] w fun e w' => ∃ ao' cap', e = .returned (.slice ao' (n + 2) cap') ∧ Own8 w' w.heap.size ao' (n + 2) cap' (sealN bs) ∧ Below w.heap.size w w' := by
  have hl := h.len
  have hof := ofN_lt h.byte
  go_enter Try.func22, Try.ntmps22
  go_wp2_with (first
    | (go_at_call 32; refine (of_one _ _ _ _ _ h _).mono ?_; rintro e w' ⟨rfl, hw⟩; subst w')
    | (at_make; refine wpList_make0I _ rfl _ _ 33 rfl w.heap.size 5 .u8 (.int .u8 0) 1 Try.underlying33 info5 (n + 2) rfl rfl (by omega) (by omega) (by unfold maxLen; omega) (by simp) ?_; intro ao1 w1 ho1 hb1; have hB1 : Below w.heap.size w w1 := below_alloc hb1)
    | (at_builtin; refine wpList_append_rdI _ rfl (.tmp 12) (.tmp 13) 33 rfl w.heap.size 5 .u8 (.int .u8 0) 1 Try.underlying33 info5 rfl rfl rfl ho1 (h.below hB1).rd rfl (by rw [ci_length]; omega) (by omega) (by unfold maxLen; omega) hB1.size ?_; intro ao2 cap2 w2 ho2 hb2; have hB2 : Below w.heap.size w w2 := hB1.trans hb2)
    | (at_builtin; refine wpList_append_rdI _ rfl (.tmp 15) (.tmp 21) 33 rfl w.heap.size 5 .u8 (.int .u8 0) 1 Try.underlying33 info5 rfl rfl rfl (OwnI.alloc ho2 _) (RdI.built w2 5 .u8 _ 2 [_, _] rfl rfl (by decide)) (by simp [ci_length]; omega) rfl (by omega) (by unfold maxLen; omega) (by have := hB2.size; simp; omega) ?_; intro ao3 cap3 w3 ho3 hb3))
  go_ret
  refine ⟨_, _, rfl, ⟨?_, by rw [sealN_length, hl], sealN_bytes h.byte⟩, (hB2.alloc hB2.size _).trans hb3⟩
  have e : ci (sealN bs) = ci bs ++ [((ofN bs % 256 : Nat) : Int), ((ofN bs / 256 : Nat) : Int)] := by simp [ci, sealN]
  rw [e]
  simpa using ho3

theorem told_eq {lo hi : Nat} (h0 : lo < 256) (h1 : hi < 256) : bits .or .u16 (lo : Int) ((hi : Int) * 256) = ((lo + 256 * hi : Nat) : Int) := by
  have e1 : (hi : Int) * 256 = ((256 * hi : Nat) : Int) := by omega
  rw [e1, u16_or_nat _ _ (by omega) (by omega)]
  have := Nat.two_pow_add_eq_or_of_lt (i := 8) h0 hi
  rw [Nat.or_comm, show 256 * hi = 2 ^ 8 * hi by rfl, ← this, Nat.add_comm]

set_option maxHeartbeats 400000 in
theorem open_short (ao : Option Addr) (n cap : Nat) (w : World) (hn : n < 2) :
    Calls Try.prog 23 #[.slice ao n cap] w fun e w' => e = .returned (.tuple #[.slice none 0 0, .int .i64 31]) ∧ w' = w := by
  go_enter Try.func23, Try.ntmps23
  go_wp2
  go_ret2
  exact ⟨rfl, rfl⟩

theorem okN_at {fs : List Nat} {n m : Nat} (hl : fs.length = n) (hm : n = m + 2) (h0 : m < fs.length) (h1 : m + 1 < fs.length) : okN fs ↔ ofN (fs.take m) = fs[m] + 256 * fs[m + 1] := by
  unfold okN
  rw [show fs.length - 2 = m by omega, show fs.length - 1 = m + 1 by omega, List.getD_eq_getElem?_getD, List.getD_eq_getElem?_getD, List.getElem?_eq_getElem h0, List.getElem?_eq_getElem h1]
  rfl

set_option maxHeartbeats 400000 in
theorem open_ok (ao : Option Addr) (m n cap : Nat) (fs : List Nat) (w : World) (h : Rd8 w ao n cap fs) (hm : n = m + 2) (hn : n ≤ 140737488355328) (hok : okN fs) :
    Calls Try.prog 23 #[.slice ao n cap] w fun e w' => ∃ ao' cap', e = .returned (.tuple #[.slice ao' m cap', .int .i64 0]) ∧ Own8 w' w.heap.size ao' m cap' (fs.take m) ∧ Below w.heap.size w w' := by
  have hl := h.len
  have hcap := h.rd.le
  rw [ci_length, hl] at hcap
  have h0 := h.at (t := m) (by omega)
  have h1 := h.at (t := m + 1) (by omega)
  obtain ⟨b, off, rfl, hm0, hc0⟩ := h0
  obtain ⟨b', off', e', hm1, hc1⟩ := h1
  simp only [Option.some.injEq, Addr.mk.injEq] at e'
  obtain ⟨rfl, rfl, _⟩ := e'
  have hs : (n : Int) - 2 = (m : Int) := by omega
  have hy0 := h.byte fs[m] (List.getElem_mem _)
  have hy1 := h.byte fs[m + 1] (List.getElem_mem _)
  rw [okN_at hl hm hm0 hm1] at hok
  generalize fs[m] = lo at *
  generalize fs[m + 1] = hi at *
  have htold := told_eq hy0 hy1
  generalize lo + 256 * hi = T at *
  have hne : (((ofN (fs.take m) : Nat) : Int) != (T : Int)) = false := by rw [hok]; simp
  go_enter Try.func23, Try.ntmps23
  go_wp2
  go_quiet (fail)
  go_wp2_with (first
    | (go_at_call 32; refine (of_one _ _ _ _ _ ((h.heap (w' := w.drewN nq) rfl).head m (by omega)) _).mono ?_; rintro e w' ⟨rfl, hw⟩; subst w')
    | (go_at_call 33; refine (copied_any _ _ _ _ _ (((h.heap (w' := w.drewN nq) rfl).alloc _).head m (by omega)) (by omega)).mono ?_; rintro e w1 ⟨ao1, cap1, rfl, ho1, hb1⟩))
  go_ret2
  have hB : Below w.heap.size (w.drewN nq) w1 := ((Below.refl _ _).alloc (Nat.le_refl _) _).trans (hb1.mono (by simp))
  exact ⟨_, _, rfl, ⟨ho1.own.mono (by simp), ho1.len, ho1.byte⟩, below_drew hB⟩

set_option maxHeartbeats 400000 in
theorem open_bad (ao : Option Addr) (m n cap : Nat) (fs : List Nat) (w : World) (h : Rd8 w ao n cap fs) (hm : n = m + 2) (hn : n ≤ 140737488355328) (hok : ¬ okN fs) :
    Calls Try.prog 23 #[.slice ao n cap] w fun e w' => e = .returned (.tuple #[.slice none 0 0, .int .i64 31]) ∧ Below w.heap.size w w' := by
  have hl := h.len
  have hcap := h.rd.le
  rw [ci_length, hl] at hcap
  have h0 := h.at (t := m) (by omega)
  have h1 := h.at (t := m + 1) (by omega)
  obtain ⟨b, off, rfl, hm0, hc0⟩ := h0
  obtain ⟨b', off', e', hm1, hc1⟩ := h1
  simp only [Option.some.injEq, Addr.mk.injEq] at e'
  obtain ⟨rfl, rfl, _⟩ := e'
  have hs : (n : Int) - 2 = (m : Int) := by omega
  have hy0 := h.byte fs[m] (List.getElem_mem _)
  have hy1 := h.byte fs[m + 1] (List.getElem_mem _)
  rw [okN_at hl hm hm0 hm1] at hok
  generalize fs[m] = lo at *
  generalize fs[m + 1] = hi at *
  have htold := told_eq hy0 hy1
  generalize lo + 256 * hi = T at *
  have hne : (((ofN (fs.take m) : Nat) : Int) != (T : Int)) = true := by simp only [bne_iff_ne, ne_eq]; omega
  clear hok
  go_enter Try.func23, Try.ntmps23
  go_wp2
  go_quiet (fail)
  go_wp2_with (first
    | (go_at_call 32; refine (of_one _ _ _ _ _ ((h.heap (w' := w.drewN nq) rfl).head m (by omega)) _).mono ?_; rintro e w' ⟨rfl, hw⟩; subst w'))
  go_ret2
  exact ⟨rfl, below_drew (n := nq) ((Below.refl w.heap.size (w.drewN nq)).alloc (Nat.le_refl _) _)⟩

end Go.Proofs.Ytfllkhimlambhaa
