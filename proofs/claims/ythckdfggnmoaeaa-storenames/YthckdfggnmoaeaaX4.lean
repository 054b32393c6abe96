/- What IndexFunc and DeleteFunc do with commits and isMark; Commits of package wal, walked. -/
import Derived.Test.YthckdfggnmoaeaaX3
namespace Go.Proofs.Ythckdfggnmoaeaa
open Go.RowKit
set_option linter.unusedVariables false

set_option maxHeartbeats 400000 in
theorem index_none (v : Value) (L : List Bt) (base : Nat) (w : World) (h : Fnd w base v L) (hok : ∀ b ∈ L, BtOk b) (hl : L.length ≤ 20000) :
    Calls Try.prog 50 #[v, .func (.func 34) #[] #[]] w fun x w' => x = .returned (.int .i64 (-1)) ∧ Below w.heap.size w w' := by
  have HF : Hid (Fnd w base v L) := h
  have HOK : Hid (∀ b ∈ L, BtOk b) := hok
  obtain ⟨ao, cap, rfl, -⟩ := h.shape
  obtain ⟨m, hm⟩ : ∃ m, L.length = m := ⟨_, rfl⟩
  have HM : Hid (L.length = m) := hm
  rw [hm] at HF hl ⊢
  clear h hok hm
  go_enter Try.func50, Try.ntmps50
  go_wp2
  go_loopw [8] (fun i wr => ∃ k : Nat, k ≤ m ∧ i = .int .i64 k ∧ Below w.heap.size w wr) (fun i _ => m - (intOf i).toNat)
  case atStart => exact ⟨0, Nat.zero_le _, rfl, Below.refl _ _⟩
  case round =>
    obtain ⟨k, hk, rfl, hbel⟩ := hrel
    by_cases hlt : k < m
    · have hkl : k < L.length := by have := HM.out; omega
      obtain ⟨g, cap', ap, hv, hg, -, q0, q1, q2, q3, q4, -⟩ := (HF.out.below hbel).at k hkl
      rw [HM.out] at hv
      simp only [Value.slice.injEq, true_and] at hv
      obtain ⟨rfl, rfl⟩ := hv
      have hb := HOK.out L[k] (List.getElem_mem _)
      have hb1 := hb.lsn
      have hb2 := hb.tx
      generalize L[k] = b at *
      clear hb
      go_wp2_with (first
        | (go_at_call 34; refine (isMark_no _ _ _ _ _ _ _ _ ⟨by omega, by omega⟩ (by omega)).mono ?_; rintro x w1 ⟨rfl, hbb⟩)
        | (fail))
      go_roundw
      case rel => exact ⟨k + 1, by omega, by go_num, below_step hbel hbb⟩
      case measure => simp [intOf]; omega
    · go_wp2
      go_ret
      exact ⟨rfl, hbel⟩

set_option maxHeartbeats 400000 in
theorem delete_none (v : Value) (L : List Bt) (base : Nat) (w : World) (h : Fnd w base v L) (hok : ∀ b ∈ L, BtOk b) (hl : L.length ≤ 20000) :
    Calls Try.prog 33 #[v, .func (.func 34) #[] #[]] w fun x w' => x = .returned v ∧ Below w.heap.size w w' := by
  have HK : Hid (Calls Try.prog 50 #[v, .func (.func 34) #[] #[]] w fun x w' => x = .returned (.int .i64 (-1)) ∧ Below w.heap.size w w') := index_none v L base w h hok hl
  clear h hok hl
  go_enter Try.func33, Try.ntmps33
  go_wp2_with (first
    | (go_at_call 50; refine HK.out.mono ?_; rintro x w1 ⟨rfl, hb1⟩)
    | (fail))
  go_ret
  exact ⟨rfl, hb1⟩

set_option maxHeartbeats 400000 in
theorem commits_log (B gl g : Nat) (ao : Option Addr) (n cap : Nat) (L : List Bt) (s r last : Nat) (w : World) (h : LogAt w B gl g ao n cap (rowN L) s r last) (hok : ∀ b ∈ L, BtOk b) (hch : Chain L) :
    Calls Try.prog 14 #[tp gl] w fun x w' => ∃ v, x = .returned v ∧ Fnd w' w.heap.size v L ∧ Below w.heap.size w w' := by
  have q0 := h.l.c0
  have hle := h.t.le
  have hlen := h.t.own.len
  have hLL : L.length ≤ 20000 := by have := rowN_le L; omega
  have HOK : Hid (∀ b ∈ L, BtOk b) := hok
  have HC : Hid (Chain L) := hch
  clear hok hch hlen
  go_enter Try.func14, Try.ntmps14
  go_wp2_with (first
    | (go_at_call 33; refine (delete_none v L _ _ hF2 HOK.out hLL).mono ?_; rintro x w3 ⟨rfl, hb3⟩)
    | (go_at_call 29; refine (scan_ok L _ _ _ _ ho1.rd HOK.out HC.out hle).mono ?_; rintro x w2 ⟨v, rfl, hF2, hb2⟩)
    | (go_at_call 30; refine (bytes_any _ _ _ _ _ _ _ _ _ h.t).mono ?_; rintro x w1 ⟨ao1, cap1, rfl, ho1, hb1⟩)
    | (fail))
  go_ret
  exact ⟨v, rfl, (hF2.below hb3).mono hb1.size, below_step (below_step hb1 hb2) hb3⟩

end Go.Proofs.Ythckdfggnmoaeaa
