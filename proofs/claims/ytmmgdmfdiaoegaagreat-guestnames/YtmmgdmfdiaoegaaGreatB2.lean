/- Do of package agent, walked: what can't be asked, OpBegin, OpRead, OpAbort. -/
import Derived.Test.YtmmgdmfdiaoegaaGreatB1
namespace Go.Proofs.YtmmgdmfdiaoegaaGreat
open Go.RowKit
set_option linter.unusedVariables false
set_option maxRecDepth 8000

set_option maxHeartbeats 3200000 in
theorem do_place {w : World} {A : Nat → Prop} {a c : Nat} {pq ko : Option Addr} {kc : Nat} {s : As} (H : Ag w A a c pq ko kc s) (x : Og) (H9 : ∀ W, Calls Tryz.prog 23 #[opV x] W fun e w' => e = .returned (.bool false) ∧ Below W.heap.size W w') : Calls Tryz.prog 15 #[cp a, opV x] w fun e w' => e = .returned (.tuple #[.slice none 0 0, anV 172 z2 false]) ∧ Below w.heap.size w w' := by
  have hst := fun (ad : Addr) (re im : Nat) (W : World) => run_store Tryz.prog W ad (.complex .f64 re im) .plain rfl
  obtain ⟨xk, xp, xo, xv⟩ := x
  have HW : Hid _ := al2n w (opO ⟨xk, xp, xo, xv⟩) anZ
  have HA : Hid (Ag w A a c pq ko kc s ∧ ∀ W, Calls Tryz.prog 23 #[opV ⟨xk, xp, xo, xv⟩] W fun e w' => e = .returned (.bool false) ∧ Below W.heap.size W w') := ⟨H, H9⟩
  clear H H9
  go_enter Tryz.func15, Tryz.ntmps15
  go_upto_region 1 with fail
  show Code.wp _ _ _ _ ((w.alloc (opO ⟨xk, xp, xo, xv⟩)).alloc anZ)
  generalize (w.alloc (opO ⟨xk, xp, xo, xv⟩)).alloc anZ = W at *
  obtain ⟨g3, hg3⟩ : ∃ g, w.heap.size = g := ⟨_, rfl⟩
  obtain ⟨g4, hg4⟩ : ∃ g, w.heap.size + 1 = g := ⟨_, rfl⟩
  have HG : Hid (w.heap.size = g3 ∧ w.heap.size + 1 = g4 ∧ Below w.heap.size w W ∧ g4 < W.heap.size) := ⟨hg3, hg4, HW.out.2.2, (Array.getElem?_eq_some_iff.1 (hg4 ▸ HW.out.2.1)).1⟩
  have HL : Hid (W.heap[g3]? = some (opO ⟨xk, xp, xo, xv⟩) ∧ W.heap[g4]? = some anZ) := ⟨hg3 ▸ HW.out.1, hg4 ▸ HW.out.2.1⟩
  rw [hg4, hg3]
  clear hg3 hg4 HW
  obtain ⟨y0, y1, y2, y3⟩ := op_cells HL.out.1
  have HP : Hid (Calls Tryz.prog 23 #[opV ⟨xk, xp, xo, xv⟩] W fun e w' => e = .returned (.bool false) ∧ Hid (Below W.heap.size W w')) := by
    refine (HA.out.2 W).mono ?_
    rintro e w' ⟨rfl, hb⟩
    exact ⟨rfl, hb⟩
  go_upto_region 2 with (first
    | (go_at_call 23; refine HP.out.mono ?_; rintro e W1 ⟨rfl, HB1⟩)
    | fail)
  clear y0 y1 y2 y3 HP
  have HL1 : Hid (W1.heap[g4]? = some anZ) := (HB1.out.block g4 HG.out.2.2.2).trans HL.out.2
  obtain ⟨z0, z1, z2⟩ := an_cells HL1.out
  have zf := an_fz HL1.out
  go_wp2
  refine bodyPost_ret (by simp [results, Tryz.results15, go_sem, z0, z1, z2]; try rfl) rfl ?_
  refine ⟨rfl, off_below (g := g4) (below_step HG.out.2.2.1 HB1.out) (by have := HG.out; omega) ?_⟩
  repeat (first | (with_reducible exact OffS.refl _ _) | (with_reducible refine OffS.setCell (A := fun k => k = g4) ?_ rfl _))

set_option maxHeartbeats 3200000 in
theorem do_state {w : World} {A : Nat → Prop} {a c : Nat} {pq ko : Option Addr} {kc : Nat} {s : As} (H : Ag w A a c pq ko kc s) (x : Og) (H9 : ∀ W, Calls Tryz.prog 23 #[opV x] W fun e w' => e = .returned (.bool true) ∧ Below W.heap.size W w') (hm : mayB s x.k = false) : Calls Tryz.prog 15 #[cp a, opV x] w fun e w' => e = .returned (.tuple #[.slice none 0 0, anV 171 z2 false]) ∧ Below w.heap.size w w' := by
  have hst := fun (ad : Addr) (re im : Nat) (W : World) => run_store Tryz.prog W ad (.complex .f64 re im) .plain rfl
  obtain ⟨xk, xp, xo, xv⟩ := x
  have HW : Hid _ := al2n w (opO ⟨xk, xp, xo, xv⟩) anZ
  have HA : Hid (Ag w A a c pq ko kc s ∧ (∀ W, Calls Tryz.prog 23 #[opV ⟨xk, xp, xo, xv⟩] W fun e w' => e = .returned (.bool true) ∧ Below W.heap.size W w') ∧ mayB s xk = false ∧ True) := ⟨H, H9, hm, trivial⟩
  clear H H9 hm
  go_enter Tryz.func15, Tryz.ntmps15
  go_upto_region 1 with fail
  show Code.wp _ _ _ _ ((w.alloc (opO ⟨xk, xp, xo, xv⟩)).alloc anZ)
  generalize (w.alloc (opO ⟨xk, xp, xo, xv⟩)).alloc anZ = W at *
  obtain ⟨g3, hg3⟩ : ∃ g, w.heap.size = g := ⟨_, rfl⟩
  obtain ⟨g4, hg4⟩ : ∃ g, w.heap.size + 1 = g := ⟨_, rfl⟩
  have HG : Hid (w.heap.size = g3 ∧ w.heap.size + 1 = g4 ∧ Below w.heap.size w W ∧ g4 < W.heap.size) := ⟨hg3, hg4, HW.out.2.2, (Array.getElem?_eq_some_iff.1 (hg4 ▸ HW.out.2.1)).1⟩
  have HL : Hid (W.heap[g3]? = some (opO ⟨xk, xp, xo, xv⟩) ∧ W.heap[g4]? = some anZ) := ⟨hg3 ▸ HW.out.1, hg4 ▸ HW.out.2.1⟩
  rw [hg4, hg3]
  clear hg3 hg4 HW
  obtain ⟨y0, y1, y2, y3⟩ := op_cells HL.out.1
  have HP : Hid (Calls Tryz.prog 23 #[opV ⟨xk, xp, xo, xv⟩] W fun e w' => e = .returned (.bool true) ∧ Hid (Below W.heap.size W w')) := by
    refine (HA.out.2.1 W).mono ?_
    rintro e w' ⟨rfl, hb⟩
    exact ⟨rfl, hb⟩
  go_upto_region 3 with (first
    | (go_at_call 23; refine HP.out.mono ?_; rintro e W1 ⟨rfl, HB1⟩)
    | fail)
  clear y0 y1 y2 y3 HP
  have HL1 : Hid (W1.heap[g3]? = some (opO ⟨xk, xp, xo, xv⟩) ∧ W1.heap[g4]? = some anZ) := ⟨(HB1.out.block g3 (by have := HG.out; omega)).trans HL.out.1, (HB1.out.block g4 HG.out.2.2.2).trans HL.out.2⟩
  obtain ⟨y0, y1, y2, y3⟩ := op_cells HL1.out.1
  simp only at y0 y1 y2 y3
  have HMy : Hid (Calls Tryz.prog 24 #[cp a, .int .i64 xk] W1 fun e w' => e = .returned (.bool false) ∧ w' = W1) := by
    refine (mayDo_any (HA.out.1.below (below_step HG.out.2.2.1 HB1.out)) xk).mono ?_
    rintro e w' ⟨rfl, rfl⟩
    exact ⟨by rw [HA.out.2.2.1], rfl⟩
  obtain ⟨z0, z1, z2⟩ := an_cells HL1.out.2
  have zf := an_fz HL1.out.2
  go_wp2_with (first
    | (go_at_call 24; refine HMy.out.mono ?_; rintro e w2 ⟨rfl, hw⟩; subst w2)
    | fail)
  refine bodyPost_ret (by simp [results, Tryz.results15, go_sem, z0, z1, z2]; try rfl) rfl ?_
  refine ⟨rfl, off_below (g := g4) (below_step HG.out.2.2.1 HB1.out) (by have := HG.out; omega) ?_⟩
  repeat (first | (with_reducible exact OffS.refl _ _) | (with_reducible refine OffS.setCell (A := fun k => k = g4) ?_ rfl _))

/-- The agent behind OpBegin. -/
def begS (s : As) : As := { s with t := s.t + 1, op := true }

set_option maxHeartbeats 3200000 in
theorem do_begin {w : World} {A : Nat → Prop} {a c : Nat} {pq ko : Option Addr} {kc : Nat} {s : As} (H : Ag w A a c pq ko kc s) (x : Og) (hk : x.k = 0) (ht : 0 ≤ s.t) (hm : mayB s 0 = true) : Calls Tryz.prog 15 #[cp a, opV x] w fun e w' => e = .returned (.tuple #[.slice none 0 0, anV 0 z2 false]) ∧ Ng w w' A a (begS s) Rn := by
  have H9 : ∀ W, Calls Tryz.prog 23 #[opV x] W fun e w' => e = .returned (.bool true) ∧ Below W.heap.size W w' := by
    intro W
    have h := isPlace_k x (by rw [hk]; decide) (by rw [hk]; decide) W
    rw [hk] at h
    exact h
  have hst := fun (ad : Addr) (re im : Nat) (W : World) => run_store Tryz.prog W ad (.complex .f64 re im) .plain rfl
  obtain ⟨xk, xp, xo, xv⟩ := x
  have HW : Hid _ := al2n w (opO ⟨xk, xp, xo, xv⟩) anZ
  simp only at hk
  subst hk
  have htl : s.t < 16777215 := by
    unfold mayB at hm
    simp only [if_true, Bool.and_eq_true, decide_eq_true_eq] at hm
    exact hm.2
  have HA : Hid (Ag w A a c pq ko kc s ∧ (∀ W, Calls Tryz.prog 23 #[opV ⟨0, xp, xo, xv⟩] W fun e w' => e = .returned (.bool true) ∧ Below W.heap.size W w') ∧ mayB s 0 = true ∧ True) := ⟨H, H9, hm, trivial⟩
  clear H H9 hm
  go_enter Tryz.func15, Tryz.ntmps15
  go_upto_region 1 with fail
  show Code.wp _ _ _ _ ((w.alloc (opO ⟨0, xp, xo, xv⟩)).alloc anZ)
  generalize (w.alloc (opO ⟨0, xp, xo, xv⟩)).alloc anZ = W at *
  obtain ⟨g3, hg3⟩ : ∃ g, w.heap.size = g := ⟨_, rfl⟩
  obtain ⟨g4, hg4⟩ : ∃ g, w.heap.size + 1 = g := ⟨_, rfl⟩
  have HG : Hid (w.heap.size = g3 ∧ w.heap.size + 1 = g4 ∧ Below w.heap.size w W ∧ g4 < W.heap.size) := ⟨hg3, hg4, HW.out.2.2, (Array.getElem?_eq_some_iff.1 (hg4 ▸ HW.out.2.1)).1⟩
  have HL : Hid (W.heap[g3]? = some (opO ⟨0, xp, xo, xv⟩) ∧ W.heap[g4]? = some anZ) := ⟨hg3 ▸ HW.out.1, hg4 ▸ HW.out.2.1⟩
  rw [hg4, hg3]
  clear hg3 hg4 HW
  obtain ⟨y0, y1, y2, y3⟩ := op_cells HL.out.1
  have HP : Hid (Calls Tryz.prog 23 #[opV ⟨0, xp, xo, xv⟩] W fun e w' => e = .returned (.bool true) ∧ Hid (Below W.heap.size W w')) := by
    refine (HA.out.2.1 W).mono ?_
    rintro e w' ⟨rfl, hb⟩
    exact ⟨rfl, hb⟩
  go_upto_region 3 with (first
    | (go_at_call 23; refine HP.out.mono ?_; rintro e W1 ⟨rfl, HB1⟩)
    | fail)
  clear y0 y1 y2 y3 HP
  have HL1 : Hid (W1.heap[g3]? = some (opO ⟨0, xp, xo, xv⟩) ∧ W1.heap[g4]? = some anZ) := ⟨(HB1.out.block g3 (by have := HG.out; omega)).trans HL.out.1, (HB1.out.block g4 HG.out.2.2.2).trans HL.out.2⟩
  obtain ⟨y0, y1, y2, y3⟩ := op_cells HL1.out.1
  simp only at y0 y1 y2 y3
  have HMy : Hid (Calls Tryz.prog 24 #[cp a, .int .i64 0] W1 fun e w' => e = .returned (.bool true) ∧ w' = W1) := by
    refine (mayDo_any (HA.out.1.below (below_step HG.out.2.2.1 HB1.out)) 0).mono ?_
    rintro e w' ⟨rfl, rfl⟩
    exact ⟨by rw [HA.out.2.2.1], rfl⟩
  have h1 := HA.out.1.below (below_step HG.out.2.2.1 HB1.out)
  have c1 := h1.c1
  have c2 := h1.c2
  have f1 := h1.fz 1
  have f2 := h1.fz 2
  clear h1
  go_upto_region 9 with (first
    | (go_at_call 24; refine HMy.out.mono ?_; rintro e w2 ⟨rfl, hw⟩; subst w2)
    | fail)
  have HZ : Hid (Ag ((W1.setCell ⟨a, 1, none⟩ (.int .i64 (s.t + 1))).setCell ⟨a, 2, none⟩ (.bool true)) A a c pq ko kc (begS s) ∧ OffS A W1 ((W1.setCell ⟨a, 1, none⟩ (.int .i64 (s.t + 1))).setCell ⟨a, 2, none⟩ (.bool true)) ∧ ((W1.setCell ⟨a, 1, none⟩ (.int .i64 (s.t + 1))).setCell ⟨a, 2, none⟩ (.bool true)).heap[g4]? = some anZ) := by
    have h1 := HA.out.1.below (below_step HG.out.2.2.1 HB1.out)
    have h2 : Ag (W1.setCell ⟨a, 1, none⟩ (.int .i64 (s.t + 1))) A a c pq ko kc { s with t := s.t + 1 } := h1.write 1 _ _ rfl rfl rfl rfl rfl h1.dm
    have h3 : Ag ((W1.setCell ⟨a, 1, none⟩ (.int .i64 (s.t + 1))).setCell ⟨a, 2, none⟩ (.bool true)) A a c pq ko kc (begS s) := h2.write 2 _ _ rfl rfl rfl rfl rfl h1.dm
    have hne : g4 ≠ a := by have := HG.out; have := HA.out.1.sz; omega
    refine ⟨h3, ((OffS.refl A W1).setCell (a := ⟨a, 1, none⟩) HA.out.1.aa _).setCell (a := ⟨a, 2, none⟩) HA.out.1.aa _, ?_⟩
    rw [Below.heap_setCell _ _ _ _ hne, Below.heap_setCell _ _ _ _ hne]
    exact HL1.out.2
  generalize (W1.setCell ⟨a, 1, none⟩ (.int .i64 (s.t + 1))).setCell ⟨a, 2, none⟩ (.bool true) = W3 at *
  clear c1 c2 f1 f2
  obtain ⟨z0, z1, z2⟩ := an_cells HZ.out.2.2
  have zf := an_fz HZ.out.2.2
  go_wp2
  refine bodyPost_ret (by simp [results, Tryz.results15, go_sem, z0, z1, z2]; try rfl) rfl ?_
  have hb1 := below_step HG.out.2.2.1 HB1.out
  have hng : Ng W1 W3 A a (begS s) Rn := Ng.of HZ.out.1 (fun k hk => ⟨.inl hk, fun h => h⟩) HZ.out.2.1
  refine ⟨rfl, Ng.put HA.out.1.lt hb1 hng (OffS.mono (A := fun k => k = g4) ?_ fun k hk => ?_)⟩
  · repeat (first | (with_reducible exact OffS.refl _ _) | (with_reducible refine OffS.setCell (A := fun k => k = g4) ?_ rfl _))
  · have e : k = g4 := hk
    have := HG.out
    have := HB1.out.size
    show w.heap.size ≤ k ∧ k < W1.heap.size
    omega

set_option maxHeartbeats 3200000 in
theorem do_miss {w : World} {A : Nat → Prop} {a c : Nat} {pq ko : Option Addr} {kc : Nat} {s : As} (H : Ag w A a c pq ko kc s) (x : Og) (hk : x.k = 1) (H9 : ∀ W, Calls Tryz.prog 23 #[opV x] W fun e w' => e = .returned (.bool true) ∧ Below W.heap.size W w') (hm : mayB s 1 = true) (H20 : ∀ W, Below w.heap.size w W → Calls Tryz.prog 39 #[cp a, opV x] W fun e w' => e = .returned (.tuple #[anV 0 z2 false, .bool false]) ∧ Below W.heap.size W w') : Calls Tryz.prog 15 #[cp a, opV x] w fun e w' => ∃ b, e = .returned (.tuple #[.slice (some ⟨b, 0, none⟩) 1 1, anV 0 z2 true]) ∧ w.heap.size ≤ b ∧ RdR mgC w' (some ⟨b, 0, none⟩) 1 [⟨0, x.p, x.o, 0, 0, 0, false, [], z2, z2, z2, z2⟩] ∧ Ng w w' A a { s with q := some x } (Ro (some ⟨b, 0, none⟩)) := by
  have hst := fun (ad : Addr) (re im : Nat) (W : World) => run_store Tryz.prog W ad (.complex .f64 re im) .plain rfl
  obtain ⟨xk, xp, xo, xv⟩ := x
  have HW : Hid _ := al2n w (opO ⟨xk, xp, xo, xv⟩) anZ
  simp only at hk
  subst hk
  have HA : Hid (Ag w A a c pq ko kc s ∧ (∀ W, Calls Tryz.prog 23 #[opV ⟨1, xp, xo, xv⟩] W fun e w' => e = .returned (.bool true) ∧ Below W.heap.size W w') ∧ mayB s 1 = true ∧ (∀ W, Below w.heap.size w W → Calls Tryz.prog 39 #[cp a, opV ⟨1, xp, xo, xv⟩] W fun e w' => e = .returned (.tuple #[anV 0 z2 false, .bool false]) ∧ Below W.heap.size W w')) := ⟨H, H9, hm, H20⟩
  clear H H9 hm H20
  go_enter Tryz.func15, Tryz.ntmps15
  go_upto_region 1 with fail
  show Code.wp _ _ _ _ ((w.alloc (opO ⟨1, xp, xo, xv⟩)).alloc anZ)
  generalize (w.alloc (opO ⟨1, xp, xo, xv⟩)).alloc anZ = W at *
  obtain ⟨g3, hg3⟩ : ∃ g, w.heap.size = g := ⟨_, rfl⟩
  obtain ⟨g4, hg4⟩ : ∃ g, w.heap.size + 1 = g := ⟨_, rfl⟩
  have HG : Hid (w.heap.size = g3 ∧ w.heap.size + 1 = g4 ∧ Below w.heap.size w W ∧ g4 < W.heap.size) := ⟨hg3, hg4, HW.out.2.2, (Array.getElem?_eq_some_iff.1 (hg4 ▸ HW.out.2.1)).1⟩
  have HL : Hid (W.heap[g3]? = some (opO ⟨1, xp, xo, xv⟩) ∧ W.heap[g4]? = some anZ) := ⟨hg3 ▸ HW.out.1, hg4 ▸ HW.out.2.1⟩
  rw [hg4, hg3]
  clear hg3 hg4 HW
  obtain ⟨y0, y1, y2, y3⟩ := op_cells HL.out.1
  have HP : Hid (Calls Tryz.prog 23 #[opV ⟨1, xp, xo, xv⟩] W fun e w' => e = .returned (.bool true) ∧ Hid (Below W.heap.size W w')) := by
    refine (HA.out.2.1 W).mono ?_
    rintro e w' ⟨rfl, hb⟩
    exact ⟨rfl, hb⟩
  go_upto_region 3 with (first
    | (go_at_call 23; refine HP.out.mono ?_; rintro e W1 ⟨rfl, HB1⟩)
    | fail)
  clear y0 y1 y2 y3 HP
  have HL1 : Hid (W1.heap[g3]? = some (opO ⟨1, xp, xo, xv⟩) ∧ W1.heap[g4]? = some anZ) := ⟨(HB1.out.block g3 (by have := HG.out; omega)).trans HL.out.1, (HB1.out.block g4 HG.out.2.2.2).trans HL.out.2⟩
  obtain ⟨y0, y1, y2, y3⟩ := op_cells HL1.out.1
  simp only at y0 y1 y2 y3
  have HMy : Hid (Calls Tryz.prog 24 #[cp a, .int .i64 1] W1 fun e w' => e = .returned (.bool true) ∧ w' = W1) := by
    refine (mayDo_any (HA.out.1.below (below_step HG.out.2.2.1 HB1.out)) 1).mono ?_
    rintro e w' ⟨rfl, rfl⟩
    exact ⟨by rw [HA.out.2.2.1], rfl⟩
  have HK : Hid (Calls Tryz.prog 25 #[cp a, opV ⟨1, xp, xo, xv⟩] W1 fun e w' => ∃ b, e = .returned (.tuple #[.slice (some ⟨b, 0, none⟩) 1 1, anV 0 z2 true]) ∧ w'.heap[g4]? = some anZ ∧ Hid (W1.heap.size ≤ b ∧ RdR mgC w' (some ⟨b, 0, none⟩) 1 [⟨0, xp, xo, 0, 0, 0, false, [], z2, z2, z2, z2⟩] ∧ Ng W1 w' A a { s with q := some ⟨1, xp, xo, xv⟩ } (Ro (some ⟨b, 0, none⟩)))) := by
    have hb1 := below_step HG.out.2.2.1 HB1.out
    refine (touch_miss (HA.out.1.below hb1) ⟨1, xp, xo, xv⟩ rfl (fun U hU => HA.out.2.2.2 U (below_step hb1 hU))).mono ?_
    rintro e w' ⟨b, rfl, h1, h2, h3⟩
    exact ⟨b, rfl, h3.loc (fun e => by have := HA.out.1.lt g4 e; have := HG.out; omega) HL1.out.2, h1, h2, h3⟩
  go_wp2_with (first
    | (go_at_call 24; refine HMy.out.mono ?_; rintro e w2 ⟨rfl, hw⟩; subst w2)
    | (go_at_call 25; refine HK.out.mono ?_; rintro e W4 ⟨b, rfl, h4, HN⟩; obtain ⟨z0, z1, z2⟩ := an_cells h4; have zf := an_fz h4; clear h4)
    | fail)
  refine bodyPost_ret (by simp [results, Tryz.results15, go_sem, z0, z1, z2]; try rfl) rfl ?_
  refine ⟨b, rfl, sent_close (g := g4) HA.out.1.lt (below_step HG.out.2.2.1 HB1.out) ?_ HN.out.2.2 HN.out.1 HN.out.2.1 ?_⟩
  · have := HG.out
    have := HB1.out.size
    omega
  · repeat (first | (with_reducible exact OffS.refl _ _) | (with_reducible refine OffS.setCell (A := fun k => k = g4) ?_ rfl _))

set_option maxHeartbeats 3200000 in
theorem do_hit {w : World} {A : Nat → Prop} {a c : Nat} {pq ko : Option Addr} {kc : Nat} {s : As} (H : Ag w A a c pq ko kc s) (x : Og) (hk : x.k = 1) (H9 : ∀ W, Calls Tryz.prog 23 #[opV x] W fun e w' => e = .returned (.bool true) ∧ Below W.heap.size W w') (hm : mayB s 1 = true) (v : Nat × Nat) (s2 : As) (H20 : ∀ W, Below w.heap.size w W → Calls Tryz.prog 39 #[cp a, opV x] W fun e w' => e = .returned (.tuple #[anV 0 v false, .bool true]) ∧ Ng W w' A a s2 Rn) : Calls Tryz.prog 15 #[cp a, opV x] w fun e w' => e = .returned (.tuple #[.slice none 0 0, anV 0 v false]) ∧ Ng w w' A a s2 Rn := by
  have hst := fun (ad : Addr) (re im : Nat) (W : World) => run_store Tryz.prog W ad (.complex .f64 re im) .plain rfl
  obtain ⟨xk, xp, xo, xv⟩ := x
  have HW : Hid _ := al2n w (opO ⟨xk, xp, xo, xv⟩) anZ
  simp only at hk
  subst hk
  have HA : Hid (Ag w A a c pq ko kc s ∧ (∀ W, Calls Tryz.prog 23 #[opV ⟨1, xp, xo, xv⟩] W fun e w' => e = .returned (.bool true) ∧ Below W.heap.size W w') ∧ mayB s 1 = true ∧ (∀ W, Below w.heap.size w W → Calls Tryz.prog 39 #[cp a, opV ⟨1, xp, xo, xv⟩] W fun e w' => e = .returned (.tuple #[anV 0 v false, .bool true]) ∧ Ng W w' A a s2 Rn)) := ⟨H, H9, hm, H20⟩
  clear H H9 hm H20
  go_enter Tryz.func15, Tryz.ntmps15
  go_upto_region 1 with fail
  show Code.wp _ _ _ _ ((w.alloc (opO ⟨1, xp, xo, xv⟩)).alloc anZ)
  generalize (w.alloc (opO ⟨1, xp, xo, xv⟩)).alloc anZ = W at *
  obtain ⟨g3, hg3⟩ : ∃ g, w.heap.size = g := ⟨_, rfl⟩
  obtain ⟨g4, hg4⟩ : ∃ g, w.heap.size + 1 = g := ⟨_, rfl⟩
  have HG : Hid (w.heap.size = g3 ∧ w.heap.size + 1 = g4 ∧ Below w.heap.size w W ∧ g4 < W.heap.size) := ⟨hg3, hg4, HW.out.2.2, (Array.getElem?_eq_some_iff.1 (hg4 ▸ HW.out.2.1)).1⟩
  have HL : Hid (W.heap[g3]? = some (opO ⟨1, xp, xo, xv⟩) ∧ W.heap[g4]? = some anZ) := ⟨hg3 ▸ HW.out.1, hg4 ▸ HW.out.2.1⟩
  rw [hg4, hg3]
  clear hg3 hg4 HW
  obtain ⟨y0, y1, y2, y3⟩ := op_cells HL.out.1
  have HP : Hid (Calls Tryz.prog 23 #[opV ⟨1, xp, xo, xv⟩] W fun e w' => e = .returned (.bool true) ∧ Hid (Below W.heap.size W w')) := by
    refine (HA.out.2.1 W).mono ?_
    rintro e w' ⟨rfl, hb⟩
    exact ⟨rfl, hb⟩
  go_upto_region 3 with (first
    | (go_at_call 23; refine HP.out.mono ?_; rintro e W1 ⟨rfl, HB1⟩)
    | fail)
  clear y0 y1 y2 y3 HP
  have HL1 : Hid (W1.heap[g3]? = some (opO ⟨1, xp, xo, xv⟩) ∧ W1.heap[g4]? = some anZ) := ⟨(HB1.out.block g3 (by have := HG.out; omega)).trans HL.out.1, (HB1.out.block g4 HG.out.2.2.2).trans HL.out.2⟩
  obtain ⟨y0, y1, y2, y3⟩ := op_cells HL1.out.1
  simp only at y0 y1 y2 y3
  have HMy : Hid (Calls Tryz.prog 24 #[cp a, .int .i64 1] W1 fun e w' => e = .returned (.bool true) ∧ w' = W1) := by
    refine (mayDo_any (HA.out.1.below (below_step HG.out.2.2.1 HB1.out)) 1).mono ?_
    rintro e w' ⟨rfl, rfl⟩
    exact ⟨by rw [HA.out.2.2.1], rfl⟩
  have HK : Hid (Calls Tryz.prog 25 #[cp a, opV ⟨1, xp, xo, xv⟩] W1 fun e w' => e = .returned (.tuple #[.slice none 0 0, anV 0 v false]) ∧ w'.heap[g4]? = some anZ ∧ Hid (Ng W1 w' A a s2 Rn)) := by
    have hb1 := below_step HG.out.2.2.1 HB1.out
    refine (touch_hit (HA.out.1.below hb1) ⟨1, xp, xo, xv⟩ v s2 (fun U hU => HA.out.2.2.2 U (below_step hb1 hU))).mono ?_
    rintro e w' ⟨rfl, h3⟩
    exact ⟨rfl, h3.loc (fun e => by have := HA.out.1.lt g4 e; have := HG.out; omega) HL1.out.2, h3⟩
  go_wp2_with (first
    | (go_at_call 24; refine HMy.out.mono ?_; rintro e w2 ⟨rfl, hw⟩; subst w2)
    | (go_at_call 25; refine HK.out.mono ?_; rintro e W4 ⟨rfl, h4, HN⟩; obtain ⟨z0, z1, z2⟩ := an_cells h4; have zf := an_fz h4; clear h4)
    | fail)
  refine bodyPost_ret (by simp [results, Tryz.results15, go_sem, z0, z1, z2]; try rfl) rfl ?_
  refine ⟨rfl, Ng.put HA.out.1.lt (below_step HG.out.2.2.1 HB1.out) HN.out (OffS.mono (A := fun k => k = g4) ?_ fun k hk => ?_)⟩
  · repeat (first | (with_reducible exact OffS.refl _ _) | (with_reducible refine OffS.setCell (A := fun k => k = g4) ?_ rfl _))
  · have e : k = g4 := hk
    have := HG.out
    have := HB1.out.size
    show w.heap.size ≤ k ∧ k < W1.heap.size
    omega

theorem list_close {w W W4 w' : World} {A : Nat → Prop} {a : Nat} {s2 : As} {lo : Option Addr} {Ms : List Mg} {n : Nat} {g : Nat} (hlt : ∀ k, A k → k < w.heap.size) (hb : Below w.heap.size w W) (hg : w.heap.size ≤ g ∧ g < W.heap.size) (hn : Ng W W4 A a s2 (Ro lo)) (hbW : ∀ p, lo = some p → W.heap.size ≤ p.block) (hr : RdR mgC W4 lo n Ms) (h3 : OffS (fun k => k = g) W4 w') :
    RdR mgC w' lo n Ms ∧ Ng w w' A a s2 (Ro lo) ∧ ∀ p, lo = some p → w.heap.size ≤ p.block := by
  have hs := hb.size
  refine ⟨hr.keep h3.size fun p hp hl => h3.block _ hl ?_, Ng.put hlt hb hn (h3.mono fun k hk => ?_), fun p hp => Nat.le_trans hs (hbW p hp)⟩
  · intro e
    have e' : p.block = g := e
    have := hbW p hp
    omega
  · have e : k = g := hk
    show w.heap.size ≤ k ∧ k < W.heap.size
    omega

set_option maxHeartbeats 3200000 in
theorem do_abort {w : World} {A : Nat → Prop} {a c : Nat} {pq ko : Option Addr} {kc : Nat} {s : As} (H : Ag w A a c pq ko kc s) (x : Og) (hk : x.k = 4) (hm : mayB s 4 = true) (hK : ∀ M ∈ s.K, CallOk M) (hn : s.K.length ≤ 1000) : Calls Tryz.prog 15 #[cp a, opV x] w fun e w' => ∃ lo lc, e = .returned (.tuple #[.slice lo s.K.length lc, anV 0 z2 false]) ∧ RdR mgC w' lo lc (gvF (forS s) s.K).2 ∧ Ng w w' A a (endS s) (Ro lo) ∧ (∀ p, lo = some p → w.heap.size ≤ p.block) := by
  have H9 : ∀ W, Calls Tryz.prog 23 #[opV x] W fun e w' => e = .returned (.bool true) ∧ Below W.heap.size W w' := by
    intro W
    have h := isPlace_k x (by rw [hk]; decide) (by rw [hk]; decide) W
    rw [hk] at h
    exact h
  have hst := fun (ad : Addr) (re im : Nat) (W : World) => run_store Tryz.prog W ad (.complex .f64 re im) .plain rfl
  obtain ⟨xk, xp, xo, xv⟩ := x
  have HW : Hid _ := al2n w (opO ⟨xk, xp, xo, xv⟩) anZ
  simp only at hk
  subst hk
  obtain ⟨n, hln⟩ : ∃ n, s.K.length = n := ⟨_, rfl⟩
  have HA : Hid (Ag w A a c pq ko kc s ∧ (∀ W, Calls Tryz.prog 23 #[opV ⟨4, xp, xo, xv⟩] W fun e w' => e = .returned (.bool true) ∧ Below W.heap.size W w') ∧ mayB s 4 = true ∧ (∀ M ∈ s.K, CallOk M) ∧ s.K.length ≤ 1000 ∧ s.K.length = n) := ⟨H, H9, hm, hK, hn, hln⟩
  rw [hln]
  clear H H9 hm hK hn hln
  go_enter Tryz.func15, Tryz.ntmps15
  go_upto_region 1 with fail
  show Code.wp _ _ _ _ ((w.alloc (opO ⟨4, xp, xo, xv⟩)).alloc anZ)
  generalize (w.alloc (opO ⟨4, xp, xo, xv⟩)).alloc anZ = W at *
  obtain ⟨g3, hg3⟩ : ∃ g, w.heap.size = g := ⟨_, rfl⟩
  obtain ⟨g4, hg4⟩ : ∃ g, w.heap.size + 1 = g := ⟨_, rfl⟩
  have HG : Hid (w.heap.size = g3 ∧ w.heap.size + 1 = g4 ∧ Below w.heap.size w W ∧ g4 < W.heap.size) := ⟨hg3, hg4, HW.out.2.2, (Array.getElem?_eq_some_iff.1 (hg4 ▸ HW.out.2.1)).1⟩
  have HL : Hid (W.heap[g3]? = some (opO ⟨4, xp, xo, xv⟩) ∧ W.heap[g4]? = some anZ) := ⟨hg3 ▸ HW.out.1, hg4 ▸ HW.out.2.1⟩
  rw [hg4, hg3]
  clear hg3 hg4 HW
  obtain ⟨y0, y1, y2, y3⟩ := op_cells HL.out.1
  have HP : Hid (Calls Tryz.prog 23 #[opV ⟨4, xp, xo, xv⟩] W fun e w' => e = .returned (.bool true) ∧ Hid (Below W.heap.size W w')) := by
    refine (HA.out.2.1 W).mono ?_
    rintro e w' ⟨rfl, hb⟩
    exact ⟨rfl, hb⟩
  go_upto_region 3 with (first
    | (go_at_call 23; refine HP.out.mono ?_; rintro e W1 ⟨rfl, HB1⟩)
    | fail)
  clear y0 y1 y2 y3 HP
  have HL1 : Hid (W1.heap[g3]? = some (opO ⟨4, xp, xo, xv⟩) ∧ W1.heap[g4]? = some anZ) := ⟨(HB1.out.block g3 (by have := HG.out; omega)).trans HL.out.1, (HB1.out.block g4 HG.out.2.2.2).trans HL.out.2⟩
  obtain ⟨y0, y1, y2, y3⟩ := op_cells HL1.out.1
  simp only at y0 y1 y2 y3
  have HMy : Hid (Calls Tryz.prog 24 #[cp a, .int .i64 4] W1 fun e w' => e = .returned (.bool true) ∧ w' = W1) := by
    refine (mayDo_any (HA.out.1.below (below_step HG.out.2.2.1 HB1.out)) 4).mono ?_
    rintro e w' ⟨rfl, rfl⟩
    exact ⟨by rw [HA.out.2.2.1], rfl⟩
  have HK : Hid (Calls Tryz.prog 28 #[cp a] W1 fun e w' => ∃ lo lc, e = .returned (.slice lo n lc) ∧ w'.heap[g4]? = some anZ ∧ Hid (RdR mgC w' lo lc (gvF (forS s) s.K).2 ∧ Ng W1 w' A a (endS s) (Ro lo) ∧ (∀ p, lo = some p → W1.heap.size ≤ p.block))) := by
    have hb1 := below_step HG.out.2.2.1 HB1.out
    refine (end_any (HA.out.1.below hb1) HA.out.2.2.2.1 HA.out.2.2.2.2.1).mono ?_
    rintro e w' ⟨lo, lc, rfl, h1, h2, h3⟩
    exact ⟨lo, lc, ret_slice HA.out.2.2.2.2.2, h2.loc (fun e => by have := HA.out.1.lt g4 e; have := HG.out; omega) HL1.out.2, h1, h2, h3⟩
  go_wp2_with (first
    | (go_at_call 24; refine HMy.out.mono ?_; rintro e w2 ⟨rfl, hw⟩; subst w2)
    | (go_at_call 28; refine HK.out.mono ?_; rintro e W4 ⟨lo, lc, rfl, h4, HN⟩; obtain ⟨z0, z1, z2⟩ := an_cells h4; have zf := an_fz h4; clear h4)
    | fail)
  refine bodyPost_ret (by simp [results, Tryz.results15, go_sem, z0, z1, z2]; try rfl) rfl ?_
  refine ⟨lo, lc, rfl, list_close (g := g4) HA.out.1.lt (below_step HG.out.2.2.1 HB1.out) ?_ HN.out.2.1 HN.out.2.2 HN.out.1 ?_⟩
  · have := HG.out
    have := HB1.out.size
    omega
  · repeat (first | (with_reducible exact OffS.refl _ _) | (with_reducible refine OffS.setCell (A := fun k => k = g4) ?_ rfl _))

end Go.Proofs.YtmmgdmfdiaoegaaGreat
