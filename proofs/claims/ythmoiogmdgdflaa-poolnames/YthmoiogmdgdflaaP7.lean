/- What slices.Sort does with one number, and what Dirty and Held of package pool do with one frame, walked. -/
import Derived.Test.YthmoiogmdgdflaaP6
import Derived.Lib.BitFns
namespace Go.Proofs.Ythmoiogmdgdflaa
open Go.RowKit
set_option linter.unusedVariables false

set_option maxRecDepth 100000 in
set_option maxHeartbeats 400000 in
theorem len64_one (w : World) : Calls Try.prog 75 #[.int .u64 1] w fun e w' => (∃ z, e = .returned (.int .i64 z)) ∧ w' = w := by
  go_enter Try.func75, Try.ntmps75
  go_wp2
  go_ret
  exact ⟨⟨_, rfl⟩, rfl⟩

theorem len_one (w : World) : Calls Try.prog 57 #[.int .u64 1] w fun e w' => (∃ z, e = .returned (.int .i64 z)) ∧ w' = w := by
  go_enter Try.func57, Try.ntmps57
  go_wp2_with (first
    | (go_at_call 75; refine (len64_one _).mono ?_; rintro e w' ⟨⟨z, rfl⟩, hw⟩; subst w')
    | fail)
  go_ret
  exact ⟨⟨_, rfl⟩, rfl⟩

set_option maxHeartbeats 400000 in
theorem insertion_one (ao : Option Addr) (cap : Nat) (w : World) : Calls Try.prog 65 #[.slice ao 1 cap, .int .i64 0, .int .i64 1] w fun e w' => e = .returned (.tuple #[]) ∧ w' = w := by
  go_enter Try.func65, Try.ntmps65
  go_wp2
  go_loopw [6] (fun s wr => s = .int .i64 1 ∧ wr = w) (fun _ _ => 0)
  case atStart => exact ⟨rfl, rfl⟩
  case round =>
    obtain ⟨rfl, rfl⟩ := hrel
    go_wp2
    go_end0
    exact ⟨rfl, rfl⟩

set_option maxHeartbeats 400000 in
theorem pdq_one (ao : Option Addr) (cap : Nat) (z : Int) (w : World) : Calls Try.prog 56 #[.slice ao 1 cap, .int .i64 0, .int .i64 1, .int .i64 z] w fun e w' => e = .returned (.tuple #[]) ∧ w' = w := by
  go_enter Try.func56, Try.ntmps56
  go_wp2
  go_loopw [1, 2] (fun a b wr => a = .int .i64 0 ∧ b = .int .i64 1 ∧ wr = w) (fun _ _ _ => 0)
  case atStart => exact ⟨rfl, rfl, rfl⟩
  case round =>
    obtain ⟨rfl, rfl, rfl⟩ := hrel
    go_wp2_with (first
      | (go_at_call 65; refine (insertion_one _ _ _).mono ?_; rintro e w' ⟨rfl, hw⟩; subst w')
      | fail)
    refine bodyPost_ret (results_none rfl _ _ _) rfl ?_
    exact ⟨rfl, rfl⟩

set_option maxHeartbeats 400000 in
theorem sort_one (ao : Option Addr) (cap : Nat) (w : World) : Calls Try.prog 48 #[.slice ao 1 cap] w fun e w' => e = .returned (.tuple #[]) ∧ w' = w := by
  go_enter Try.func48, Try.ntmps48
  go_wp2_with (first
    | (go_at_call 56; refine (pdq_one _ _ _ _).mono ?_; rintro e w' ⟨rfl, hw⟩; subst w')
    | (go_at_call 57; refine (len_one _).mono ?_; rintro e w' ⟨⟨z, rfl⟩, hw⟩; subst w')
    | fail)
  go_end0
  exact ⟨rfl, rfl⟩

set_option maxHeartbeats 400000 in
theorem dirty1_any (x : Fr) (w : World) : Calls Try.prog 36 #[.agg #[.bool x.fl, .int .i64 x.nm, .int .i64 x.l, .complex .f64 x.a.1 x.a.2, .complex .f64 x.b.1 x.b.2, .complex .f64 x.c.1 x.c.2, .complex .f64 x.d.1 x.d.2, .bool x.dr, .int .i64 (x.pn : Int), .bool x.us]] w fun e w' => e = .returned (.bool x.dr) ∧ Below w.heap.size w w' := by
  go_enter Try.func36, Try.ntmps36
  go_wp2
  go_ret
  refine ⟨rfl, ?_⟩
  go_grown

set_option maxHeartbeats 400000 in
theorem held1_any (x : Fr) (w : World) : Calls Try.prog 37 #[.agg #[.bool x.fl, .int .i64 x.nm, .int .i64 x.l, .complex .f64 x.a.1 x.a.2, .complex .f64 x.b.1 x.b.2, .complex .f64 x.c.1 x.c.2, .complex .f64 x.d.1 x.d.2, .bool x.dr, .int .i64 (x.pn : Int), .bool x.us]] w fun e w' => e = .returned (.bool x.fl) ∧ Below w.heap.size w w' := by
  go_enter Try.func37, Try.ntmps37
  go_wp2
  go_ret
  refine ⟨rfl, ?_⟩
  go_grown

/-- A frame as a value. -/
abbrev frV (x : Fr) : Value := .agg #[.bool x.fl, .int .i64 x.nm, .int .i64 x.l, .complex .f64 x.a.1 x.a.2, .complex .f64 x.b.1 x.b.2, .complex .f64 x.c.1 x.c.2, .complex .f64 x.d.1 x.d.2, .bool x.dr, .int .i64 (x.pn : Int), .bool x.us]

/-- A frame in a block. -/
abbrev frO (x : Fr) : Obj := .cells #[.bool x.fl, .int .i64 x.nm, .int .i64 x.l, .complex .f64 x.a.1 x.a.2, .complex .f64 x.b.1 x.b.2, .complex .f64 x.c.1 x.c.2, .complex .f64 x.d.1 x.d.2, .bool x.dr, .int .i64 (x.pn : Int), .bool x.us] 61

theorem frBox_nm (w : World) (x : Fr) (w1 : World) (hb : Below (w.alloc (frO x)).heap.size (w.alloc (frO x)) w1) : w1.cell? ⟨w.heap.size, 1, none⟩ = some (.int .i64 x.nm) := by
  have h := heap_alloc_new w (frO x)
  rw [hb.cell (by simp), cell_of_row _ _ _ _ _ _ h]
  rfl

set_option maxHeartbeats 800000 in
theorem numbers_dirty (gp gf g gl : Nat) (x : Fr) (w : World) (h : Pl w gp gf g gl [x] 0) (hx : x.dr = true) :
    Calls Try.prog 35 #[tp gp, .func (.func 36) #[] #[]] w fun e w' => ∃ ao cap, e = .returned (.slice ao 1 cap) ∧ Below w.heap.size w w' := by
  have H1 : Hid (∀ W, Calls Try.prog 36 #[frV x] W fun e w' => e = .returned (.bool true) ∧ Below W.heap.size W w') := fun W => by rw [← hx]; exact dirty1_any x W
  clear hx
  have h2 := h.c2
  simp only [List.length_cons, List.length_nil, Nat.zero_add] at h2
  have hst := fun (ad : Addr) (re im : Nat) (W : World) => run_store Try.prog W ad (.complex .f64 re im) .plain rfl
  go_enter Try.func35, Try.ntmps35
  go_wp2
  go_loopw [5, 13] (fun t s wr => ∃ (k : Nat) (a : Option Addr) (c : Nat), k ≤ 1 ∧ s = .int .i64 k ∧ t = .slice a k c ∧ OwnI wr w.heap.size 3 .i64 a c (if k = 0 then [] else [x.nm]) ∧ Below w.heap.size w wr) (fun _ s _ => 1 - (intOf s).toNat)
  case atStart => exact ⟨0, none, 0, Nat.zero_le _, rfl, rfl, OwnI.nil _ _ _ _, Below.refl _ _⟩
  case round =>
    obtain ⟨k, a, c, hk, rfl, rfl, ho, hbel⟩ := hrel
    obtain rfl | rfl : k = 0 ∨ k = 1 := by omega
    · simp only [if_true] at ho
      have hX := h.below hbel
      have hsz := hbel.size
      have c0 := hX.cell 0 (by simp) 0 _ rfl
      have c1 := hX.cell 0 (by simp) 1 _ rfl
      have c2 := hX.cell 0 (by simp) 2 _ rfl
      have c3 := hX.cell 0 (by simp) 3 _ rfl
      have c4 := hX.cell 0 (by simp) 4 _ rfl
      have c5 := hX.cell 0 (by simp) 5 _ rfl
      have c6 := hX.cell 0 (by simp) 6 _ rfl
      have c7 := hX.cell 0 (by simp) 7 _ rfl
      have c8 := hX.cell 0 (by simp) 8 _ rfl
      have c9 := hX.cell 0 (by simp) 9 _ rfl
      simp only [Nat.zero_mul, Nat.zero_add, Nat.add_zero, List.getElem_cons_zero] at c0 c1 c2 c3 c4 c5 c6 c7 c8 c9
      go_wp2_with (first
        | (go_at_call 36; refine (H1.out _).mono ?_; rintro e w1 ⟨rfl, hb1⟩; have hnm := frBox_nm wr x w1 hb1; have ho1 := ((ho.alloc (frO x)).below hb1).alloc (.cells #[.int .i64 x.nm] 3); have hB1 : Below w.heap.size w w1 := (hbel.alloc hsz _).trans (hb1.mono (by simp; omega)))
        | (at_builtin; refine wpList_append_rdI _ rfl (.tmp 20) (.tmp 23) 66 rfl w.heap.size 3 .i64 (.int .i64 0) 8 Try.underlying66 info3 rfl rfl rfl ho1 (RdI.one w1 3 .i64 x.nm) rfl rfl (by omega) (by unfold maxLen; omega) (by have := hB1.size; simp; omega) ?_; intro ao2 cap2 w2 ho2 hb2)
        | fail)
      go_roundw
      case rel => exact ⟨1, _, _, by omega, by go_num, rfl, ho2, (hB1.alloc hB1.size _).trans hb2⟩
      case measure => simp [intOf]
    · go_wp2_with (first
        | (go_at_call 48; refine (sort_one _ _ _).mono ?_; rintro e w' ⟨rfl, hw⟩; subst w')
        | fail)
      go_ret
      exact ⟨_, _, rfl, hbel⟩

set_option maxHeartbeats 800000 in
theorem numbers_held (gp gf g gl : Nat) (x : Fr) (w : World) (h : Pl w gp gf g gl [x] 0) (hx : x.fl = true) :
    Calls Try.prog 35 #[tp gp, .func (.func 37) #[] #[]] w fun e w' => ∃ ao cap, e = .returned (.slice ao 1 cap) ∧ Below w.heap.size w w' := by
  have H1 : Hid (∀ W, Calls Try.prog 37 #[frV x] W fun e w' => e = .returned (.bool true) ∧ Below W.heap.size W w') := fun W => by rw [← hx]; exact held1_any x W
  clear hx
  have h2 := h.c2
  simp only [List.length_cons, List.length_nil, Nat.zero_add] at h2
  have hst := fun (ad : Addr) (re im : Nat) (W : World) => run_store Try.prog W ad (.complex .f64 re im) .plain rfl
  go_enter Try.func35, Try.ntmps35
  go_wp2
  go_loopw [5, 13] (fun t s wr => ∃ (k : Nat) (a : Option Addr) (c : Nat), k ≤ 1 ∧ s = .int .i64 k ∧ t = .slice a k c ∧ OwnI wr w.heap.size 3 .i64 a c (if k = 0 then [] else [x.nm]) ∧ Below w.heap.size w wr) (fun _ s _ => 1 - (intOf s).toNat)
  case atStart => exact ⟨0, none, 0, Nat.zero_le _, rfl, rfl, OwnI.nil _ _ _ _, Below.refl _ _⟩
  case round =>
    obtain ⟨k, a, c, hk, rfl, rfl, ho, hbel⟩ := hrel
    obtain rfl | rfl : k = 0 ∨ k = 1 := by omega
    · simp only [if_true] at ho
      have hX := h.below hbel
      have hsz := hbel.size
      have c0 := hX.cell 0 (by simp) 0 _ rfl
      have c1 := hX.cell 0 (by simp) 1 _ rfl
      have c2 := hX.cell 0 (by simp) 2 _ rfl
      have c3 := hX.cell 0 (by simp) 3 _ rfl
      have c4 := hX.cell 0 (by simp) 4 _ rfl
      have c5 := hX.cell 0 (by simp) 5 _ rfl
      have c6 := hX.cell 0 (by simp) 6 _ rfl
      have c7 := hX.cell 0 (by simp) 7 _ rfl
      have c8 := hX.cell 0 (by simp) 8 _ rfl
      have c9 := hX.cell 0 (by simp) 9 _ rfl
      simp only [Nat.zero_mul, Nat.zero_add, Nat.add_zero, List.getElem_cons_zero] at c0 c1 c2 c3 c4 c5 c6 c7 c8 c9
      go_wp2_with (first
        | (go_at_call 37; refine (H1.out _).mono ?_; rintro e w1 ⟨rfl, hb1⟩; have hnm := frBox_nm wr x w1 hb1; have ho1 := ((ho.alloc (frO x)).below hb1).alloc (.cells #[.int .i64 x.nm] 3); have hB1 : Below w.heap.size w w1 := (hbel.alloc hsz _).trans (hb1.mono (by simp; omega)))
        | (at_builtin; refine wpList_append_rdI _ rfl (.tmp 20) (.tmp 23) 66 rfl w.heap.size 3 .i64 (.int .i64 0) 8 Try.underlying66 info3 rfl rfl rfl ho1 (RdI.one w1 3 .i64 x.nm) rfl rfl (by omega) (by unfold maxLen; omega) (by have := hB1.size; simp; omega) ?_; intro ao2 cap2 w2 ho2 hb2)
        | fail)
      go_roundw
      case rel => exact ⟨1, _, _, by omega, by go_num, rfl, ho2, (hB1.alloc hB1.size _).trans hb2⟩
      case measure => simp [intOf]
    · go_wp2_with (first
        | (go_at_call 48; refine (sort_one _ _ _).mono ?_; rintro e w' ⟨rfl, hw⟩; subst w')
        | fail)
      go_ret
      exact ⟨_, _, rfl, hbel⟩

set_option maxHeartbeats 400000 in
theorem dirty_one (gp gf g gl : Nat) (x : Fr) (w : World) (h : Pl w gp gf g gl [x] 0) (hx : x.dr = true) :
    Calls Try.prog 21 #[tp gp] w fun e w' => ∃ ao cap, e = .returned (.slice ao 1 cap) ∧ Below w.heap.size w w' := by
  have hmf : ∀ (fn : Fn) (first cap : Array Value) (w : World), (Instr.makeFunc fn first cap).run Try.prog w = .ok (.func fn first cap) w := fun _ _ _ _ => rfl
  go_enter Try.func21, Try.ntmps21
  go_wp2_with (first
    | (go_at_call 35; refine (numbers_dirty gp gf g gl x _ h hx).mono ?_; rintro e w1 ⟨ao1, cap1, rfl, hb1⟩)
    | fail)
  go_ret
  exact ⟨_, _, rfl, hb1⟩

set_option maxHeartbeats 400000 in
theorem held_one (gp gf g gl : Nat) (x : Fr) (w : World) (h : Pl w gp gf g gl [x] 0) (hx : x.fl = true) :
    Calls Try.prog 22 #[tp gp] w fun e w' => ∃ ao cap, e = .returned (.slice ao 1 cap) ∧ Below w.heap.size w w' := by
  have hmf : ∀ (fn : Fn) (first cap : Array Value) (w : World), (Instr.makeFunc fn first cap).run Try.prog w = .ok (.func fn first cap) w := fun _ _ _ _ => rfl
  go_enter Try.func22, Try.ntmps22
  go_wp2_with (first
    | (go_at_call 35; refine (numbers_held gp gf g gl x _ h hx).mono ?_; rintro e w1 ⟨ao1, cap1, rfl, hb1⟩)
    | fail)
  go_ret
  exact ⟨_, _, rfl, hb1⟩

end Go.Proofs.Ythmoiogmdgdflaa
