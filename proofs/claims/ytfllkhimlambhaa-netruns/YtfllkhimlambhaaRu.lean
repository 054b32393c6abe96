/- The document's Take, walked; Double, Late and Spoil where there is none. -/
import Derived.Test.YtfllkhimlambhaaRt
namespace Go.Proofs.Ytfllkhimlambhaa
open Go.RowKit
set_option linter.unusedVariables false
set_option maxRecDepth 8000

set_option maxHeartbeats 1600000 in
theorem rtake_no (R : Nat → Rw) (z i : Int) (w : World) (h : hasR R z i = false) : Calls Try.prog 15 #[rnV R, .int .i64 z, .int .i64 i] w fun e w' => e = .returned (.tuple #[rnV R, .slice none 0 0, .bool false]) ∧ Below w.heap.size w w' := by
  obtain ⟨hb, hq3, hq6⟩ := two_al w (rnO R) (rnO r0)
  have HW : Hid (Below w.heap.size w ((w.alloc (rnO R)).alloc (rnO r0)) ∧ Bx ((w.alloc (rnO R)).alloc (rnO r0)) w.heap.size R ∧ Bx ((w.alloc (rnO R)).alloc (rnO r0)) (w.heap.size + 1) r0) := ⟨hb, Bx.of hq3, Bx.of hq6⟩
  clear hb hq3 hq6
  have HH : Hid (hasR R z i = false) := h
  clear h
  go_enter Try.func15, Try.ntmps15
  go_upto_region 1 with fail
  show Code.wp _ _ _ _ ((w.alloc (rnO R)).alloc (rnO r0))
  obtain ⟨q3, hq3⟩ : ∃ q, w.heap.size = q := ⟨_, rfl⟩
  obtain ⟨q6, hq6⟩ : ∃ q, w.heap.size + 1 = q := ⟨_, rfl⟩
  rw [hq6, hq3]
  have HW2 : Hid (Below w.heap.size w ((w.alloc (rnO R)).alloc (rnO r0)) ∧ Bx ((w.alloc (rnO R)).alloc (rnO r0)) q3 R ∧ Bx ((w.alloc (rnO R)).alloc (rnO r0)) q6 r0 ∧ w.heap.size = q3 ∧ w.heap.size + 1 = q6) := by rw [← hq3, ← hq6]; exact ⟨HW.out.1, HW.out.2.1, HW.out.2.2, rfl, rfl⟩
  clear HW hq3 hq6
  generalize (w.alloc (rnO R)).alloc (rnO r0) = W at *
  obtain ⟨b0, b1, b2, b3, b4, b5, b6, b7⟩ := HW2.out.2.1.all
  have HA : Hid (Calls Try.prog 28 #[rnV R, .int .i64 z, .int .i64 i] W fun e w' => e = .returned (.tuple #[.agg #[.slice none 0 0, .bool false], .bool false]) ∧ Hid (Below W.heap.size W w')) := at_no R z i W HH.out
  go_upto_region 2 with (first
    | (go_at_call 28; refine HA.out.mono ?_; rintro e W1 ⟨rfl, HB1⟩)
    | fail)
  show Code.wp _ _ _ _ (W1.alloc (.cells #[.slice none 0 0, .bool false] 39))
  have HB2 : Hid (Below W.heap.size W (W1.alloc (.cells #[.slice none 0 0, .bool false] 39))) := below_step HB1.out ((Below.refl _ _).alloc (Nat.le_refl _) _)
  have hnx := heap_alloc_new W1 (.cells #[.slice none 0 0, .bool false] 39)
  generalize W1.alloc (.cells #[.slice none 0 0, .bool false] 39) = W2 at *
  clear b0 b1 b2 b3 b4 b5 b6 b7 HA
  obtain ⟨b0, b1, b2, b3, b4, b5, b6, b7⟩ := (HW2.out.2.1.below HB2.out).all
  obtain ⟨d0, d1, d2, d3, d4, d5, d6, d7⟩ := (HW2.out.2.2.1.below HB2.out).all
  have f6 := (HW2.out.2.2.1.below HB2.out).fz
  have HZ : Hid (Bx (st8 W2 q6 R) q6 R ∧ Below w.heap.size w (st8 W2 q6 R)) := ⟨(st8_facts R (HW2.out.2.2.1.below HB2.out)).1, st8_below R (HW2.out.2.2.1.below HB2.out) (HW2.out.1.trans (HB2.out.mono HW2.out.1.size)) (by have := HW2.out; omega)⟩
  go_wp2
  unfold st8 at HZ
  generalize (((((((W2.setCell ⟨q6, 0, none⟩ (.slice (R 0).ao (R 0).n (R 0).cap)).setCell ⟨q6, 1, none⟩ (.slice (R 1).ao (R 1).n (R 1).cap)).setCell ⟨q6, 2, none⟩ (.slice (R 2).ao (R 2).n (R 2).cap)).setCell ⟨q6, 3, none⟩ (.slice (R 3).ao (R 3).n (R 3).cap)).setCell ⟨q6, 4, none⟩ (.slice (R 4).ao (R 4).n (R 4).cap)).setCell ⟨q6, 5, none⟩ (.slice (R 5).ao (R 5).n (R 5).cap)).setCell ⟨q6, 6, none⟩ (.slice (R 6).ao (R 6).n (R 6).cap)).setCell ⟨q6, 7, none⟩ (.slice (R 7).ao (R 7).n (R 7).cap) = W4 at *
  obtain ⟨u0, u1, u2, u3, u4, u5, u6, u7⟩ := HZ.out.1.all
  refine bodyPost_ret (by simp [results, Try.results15, go_sem, u0, u1, u2, u3, u4, u5, u6, u7]; try rfl) rfl ?_
  exact ⟨rfl, HZ.out.2⟩

set_option maxHeartbeats 1600000 in
theorem rdouble_no (R : Nat → Rw) (z i : Int) (w : World) (h : hasR R z i = false) : Calls Try.prog 17 #[rnV R, .int .i64 z, .int .i64 i] w fun e w' => e = .returned (.tuple #[rnV R, .bool false]) ∧ Below w.heap.size w w' := by
  obtain ⟨hb, hq3, hq6⟩ := two_al w (rnO R) (rnO r0)
  have HW : Hid (Below w.heap.size w ((w.alloc (rnO R)).alloc (rnO r0)) ∧ Bx ((w.alloc (rnO R)).alloc (rnO r0)) w.heap.size R ∧ Bx ((w.alloc (rnO R)).alloc (rnO r0)) (w.heap.size + 1) r0) := ⟨hb, Bx.of hq3, Bx.of hq6⟩
  clear hb hq3 hq6
  have HH : Hid (hasR R z i = false) := h
  clear h
  go_enter Try.func17, Try.ntmps17
  go_upto_region 1 with fail
  show Code.wp _ _ _ _ ((w.alloc (rnO R)).alloc (rnO r0))
  obtain ⟨q3, hq3⟩ : ∃ q, w.heap.size = q := ⟨_, rfl⟩
  obtain ⟨q6, hq6⟩ : ∃ q, w.heap.size + 1 = q := ⟨_, rfl⟩
  rw [hq6, hq3]
  have HW2 : Hid (Below w.heap.size w ((w.alloc (rnO R)).alloc (rnO r0)) ∧ Bx ((w.alloc (rnO R)).alloc (rnO r0)) q3 R ∧ Bx ((w.alloc (rnO R)).alloc (rnO r0)) q6 r0 ∧ w.heap.size = q3 ∧ w.heap.size + 1 = q6) := by rw [← hq3, ← hq6]; exact ⟨HW.out.1, HW.out.2.1, HW.out.2.2, rfl, rfl⟩
  clear HW hq3 hq6
  generalize (w.alloc (rnO R)).alloc (rnO r0) = W at *
  obtain ⟨b0, b1, b2, b3, b4, b5, b6, b7⟩ := HW2.out.2.1.all
  have HA : Hid (Calls Try.prog 28 #[rnV R, .int .i64 z, .int .i64 i] W fun e w' => e = .returned (.tuple #[.agg #[.slice none 0 0, .bool false], .bool false]) ∧ Hid (Below W.heap.size W w')) := at_no R z i W HH.out
  go_upto_region 2 with (first
    | (go_at_call 28; refine HA.out.mono ?_; rintro e W1 ⟨rfl, HB1⟩)
    | fail)
  show Code.wp _ _ _ _ (W1.alloc (.cells #[.slice none 0 0, .bool false] 39))
  have HB2 : Hid (Below W.heap.size W (W1.alloc (.cells #[.slice none 0 0, .bool false] 39))) := below_step HB1.out ((Below.refl _ _).alloc (Nat.le_refl _) _)
  have hnx := heap_alloc_new W1 (.cells #[.slice none 0 0, .bool false] 39)
  generalize W1.alloc (.cells #[.slice none 0 0, .bool false] 39) = W2 at *
  clear b0 b1 b2 b3 b4 b5 b6 b7 HA
  obtain ⟨b0, b1, b2, b3, b4, b5, b6, b7⟩ := (HW2.out.2.1.below HB2.out).all
  obtain ⟨d0, d1, d2, d3, d4, d5, d6, d7⟩ := (HW2.out.2.2.1.below HB2.out).all
  have f6 := (HW2.out.2.2.1.below HB2.out).fz
  have HZ : Hid (Bx (st8 W2 q6 R) q6 R ∧ Below w.heap.size w (st8 W2 q6 R)) := ⟨(st8_facts R (HW2.out.2.2.1.below HB2.out)).1, st8_below R (HW2.out.2.2.1.below HB2.out) (HW2.out.1.trans (HB2.out.mono HW2.out.1.size)) (by have := HW2.out; omega)⟩
  go_wp2
  unfold st8 at HZ
  generalize (((((((W2.setCell ⟨q6, 0, none⟩ (.slice (R 0).ao (R 0).n (R 0).cap)).setCell ⟨q6, 1, none⟩ (.slice (R 1).ao (R 1).n (R 1).cap)).setCell ⟨q6, 2, none⟩ (.slice (R 2).ao (R 2).n (R 2).cap)).setCell ⟨q6, 3, none⟩ (.slice (R 3).ao (R 3).n (R 3).cap)).setCell ⟨q6, 4, none⟩ (.slice (R 4).ao (R 4).n (R 4).cap)).setCell ⟨q6, 5, none⟩ (.slice (R 5).ao (R 5).n (R 5).cap)).setCell ⟨q6, 6, none⟩ (.slice (R 6).ao (R 6).n (R 6).cap)).setCell ⟨q6, 7, none⟩ (.slice (R 7).ao (R 7).n (R 7).cap) = W4 at *
  obtain ⟨u0, u1, u2, u3, u4, u5, u6, u7⟩ := HZ.out.1.all
  refine bodyPost_ret (by simp [results, Try.results17, go_sem, u0, u1, u2, u3, u4, u5, u6, u7]; try rfl) rfl ?_
  exact ⟨rfl, HZ.out.2⟩

set_option maxHeartbeats 1600000 in
theorem rlate_no (R : Nat → Rw) (z i : Int) (w : World) (h : hasR R z i = false) : Calls Try.prog 19 #[rnV R, .int .i64 z, .int .i64 i] w fun e w' => e = .returned (.tuple #[rnV R, .bool false]) ∧ Below w.heap.size w w' := by
  obtain ⟨hb, hq3, hq6⟩ := two_al w (rnO R) (rnO r0)
  have HW : Hid (Below w.heap.size w ((w.alloc (rnO R)).alloc (rnO r0)) ∧ Bx ((w.alloc (rnO R)).alloc (rnO r0)) w.heap.size R ∧ Bx ((w.alloc (rnO R)).alloc (rnO r0)) (w.heap.size + 1) r0) := ⟨hb, Bx.of hq3, Bx.of hq6⟩
  clear hb hq3 hq6
  have HH : Hid (hasR R z i = false) := h
  clear h
  go_enter Try.func19, Try.ntmps19
  go_upto_region 1 with fail
  show Code.wp _ _ _ _ ((w.alloc (rnO R)).alloc (rnO r0))
  obtain ⟨q3, hq3⟩ : ∃ q, w.heap.size = q := ⟨_, rfl⟩
  obtain ⟨q6, hq6⟩ : ∃ q, w.heap.size + 1 = q := ⟨_, rfl⟩
  rw [hq6, hq3]
  have HW2 : Hid (Below w.heap.size w ((w.alloc (rnO R)).alloc (rnO r0)) ∧ Bx ((w.alloc (rnO R)).alloc (rnO r0)) q3 R ∧ Bx ((w.alloc (rnO R)).alloc (rnO r0)) q6 r0 ∧ w.heap.size = q3 ∧ w.heap.size + 1 = q6) := by rw [← hq3, ← hq6]; exact ⟨HW.out.1, HW.out.2.1, HW.out.2.2, rfl, rfl⟩
  clear HW hq3 hq6
  generalize (w.alloc (rnO R)).alloc (rnO r0) = W at *
  obtain ⟨b0, b1, b2, b3, b4, b5, b6, b7⟩ := HW2.out.2.1.all
  have HA : Hid (Calls Try.prog 28 #[rnV R, .int .i64 z, .int .i64 i] W fun e w' => e = .returned (.tuple #[.agg #[.slice none 0 0, .bool false], .bool false]) ∧ Hid (Below W.heap.size W w')) := at_no R z i W HH.out
  go_upto_region 2 with (first
    | (go_at_call 28; refine HA.out.mono ?_; rintro e W1 ⟨rfl, HB1⟩)
    | fail)
  show Code.wp _ _ _ _ (W1.alloc (.cells #[.slice none 0 0, .bool false] 39))
  have HB2 : Hid (Below W.heap.size W (W1.alloc (.cells #[.slice none 0 0, .bool false] 39))) := below_step HB1.out ((Below.refl _ _).alloc (Nat.le_refl _) _)
  have hnx := heap_alloc_new W1 (.cells #[.slice none 0 0, .bool false] 39)
  generalize W1.alloc (.cells #[.slice none 0 0, .bool false] 39) = W2 at *
  clear b0 b1 b2 b3 b4 b5 b6 b7 HA
  obtain ⟨b0, b1, b2, b3, b4, b5, b6, b7⟩ := (HW2.out.2.1.below HB2.out).all
  obtain ⟨d0, d1, d2, d3, d4, d5, d6, d7⟩ := (HW2.out.2.2.1.below HB2.out).all
  have f6 := (HW2.out.2.2.1.below HB2.out).fz
  have HZ : Hid (Bx (st8 W2 q6 R) q6 R ∧ Below w.heap.size w (st8 W2 q6 R)) := ⟨(st8_facts R (HW2.out.2.2.1.below HB2.out)).1, st8_below R (HW2.out.2.2.1.below HB2.out) (HW2.out.1.trans (HB2.out.mono HW2.out.1.size)) (by have := HW2.out; omega)⟩
  go_wp2
  unfold st8 at HZ
  generalize (((((((W2.setCell ⟨q6, 0, none⟩ (.slice (R 0).ao (R 0).n (R 0).cap)).setCell ⟨q6, 1, none⟩ (.slice (R 1).ao (R 1).n (R 1).cap)).setCell ⟨q6, 2, none⟩ (.slice (R 2).ao (R 2).n (R 2).cap)).setCell ⟨q6, 3, none⟩ (.slice (R 3).ao (R 3).n (R 3).cap)).setCell ⟨q6, 4, none⟩ (.slice (R 4).ao (R 4).n (R 4).cap)).setCell ⟨q6, 5, none⟩ (.slice (R 5).ao (R 5).n (R 5).cap)).setCell ⟨q6, 6, none⟩ (.slice (R 6).ao (R 6).n (R 6).cap)).setCell ⟨q6, 7, none⟩ (.slice (R 7).ao (R 7).n (R 7).cap) = W4 at *
  obtain ⟨u0, u1, u2, u3, u4, u5, u6, u7⟩ := HZ.out.1.all
  refine bodyPost_ret (by simp [results, Try.results19, go_sem, u0, u1, u2, u3, u4, u5, u6, u7]; try rfl) rfl ?_
  exact ⟨rfl, HZ.out.2⟩

set_option maxHeartbeats 1600000 in
theorem rspoil_no (R : Nat → Rw) (z i : Int) (p : Int) (m : Value) (w : World) (h : hasR R z i = false) : Calls Try.prog 21 #[rnV R, .int .i64 z, .int .i64 i, .int .i64 p, m] w fun e w' => e = .returned (.tuple #[rnV R, .bool false]) ∧ Below w.heap.size w w' := by
  obtain ⟨hb, hq3, hq6⟩ := two_al w (rnO R) (rnO r0)
  have HW : Hid (Below w.heap.size w ((w.alloc (rnO R)).alloc (rnO r0)) ∧ Bx ((w.alloc (rnO R)).alloc (rnO r0)) w.heap.size R ∧ Bx ((w.alloc (rnO R)).alloc (rnO r0)) (w.heap.size + 1) r0) := ⟨hb, Bx.of hq3, Bx.of hq6⟩
  clear hb hq3 hq6
  have HH : Hid (hasR R z i = false) := h
  clear h
  go_enter Try.func21, Try.ntmps21
  go_upto_region 1 with fail
  show Code.wp _ _ _ _ ((w.alloc (rnO R)).alloc (rnO r0))
  obtain ⟨q3, hq3⟩ : ∃ q, w.heap.size = q := ⟨_, rfl⟩
  obtain ⟨q6, hq6⟩ : ∃ q, w.heap.size + 1 = q := ⟨_, rfl⟩
  rw [hq6, hq3]
  have HW2 : Hid (Below w.heap.size w ((w.alloc (rnO R)).alloc (rnO r0)) ∧ Bx ((w.alloc (rnO R)).alloc (rnO r0)) q3 R ∧ Bx ((w.alloc (rnO R)).alloc (rnO r0)) q6 r0 ∧ w.heap.size = q3 ∧ w.heap.size + 1 = q6) := by rw [← hq3, ← hq6]; exact ⟨HW.out.1, HW.out.2.1, HW.out.2.2, rfl, rfl⟩
  clear HW hq3 hq6
  generalize (w.alloc (rnO R)).alloc (rnO r0) = W at *
  obtain ⟨b0, b1, b2, b3, b4, b5, b6, b7⟩ := HW2.out.2.1.all
  have HA : Hid (Calls Try.prog 28 #[rnV R, .int .i64 z, .int .i64 i] W fun e w' => e = .returned (.tuple #[.agg #[.slice none 0 0, .bool false], .bool false]) ∧ Hid (Below W.heap.size W w')) := at_no R z i W HH.out
  go_upto_region 2 with (first
    | (go_at_call 28; refine HA.out.mono ?_; rintro e W1 ⟨rfl, HB1⟩)
    | fail)
  show Code.wp _ _ _ _ (W1.alloc (.cells #[.slice none 0 0, .bool false] 39))
  have HB2 : Hid (Below W.heap.size W (W1.alloc (.cells #[.slice none 0 0, .bool false] 39))) := below_step HB1.out ((Below.refl _ _).alloc (Nat.le_refl _) _)
  have hnx := heap_alloc_new W1 (.cells #[.slice none 0 0, .bool false] 39)
  generalize W1.alloc (.cells #[.slice none 0 0, .bool false] 39) = W2 at *
  clear b0 b1 b2 b3 b4 b5 b6 b7 HA
  obtain ⟨b0, b1, b2, b3, b4, b5, b6, b7⟩ := (HW2.out.2.1.below HB2.out).all
  obtain ⟨d0, d1, d2, d3, d4, d5, d6, d7⟩ := (HW2.out.2.2.1.below HB2.out).all
  have f6 := (HW2.out.2.2.1.below HB2.out).fz
  have HZ : Hid (Bx (st8 W2 q6 R) q6 R ∧ Below w.heap.size w (st8 W2 q6 R)) := ⟨(st8_facts R (HW2.out.2.2.1.below HB2.out)).1, st8_below R (HW2.out.2.2.1.below HB2.out) (HW2.out.1.trans (HB2.out.mono HW2.out.1.size)) (by have := HW2.out; omega)⟩
  go_wp2
  unfold st8 at HZ
  generalize (((((((W2.setCell ⟨q6, 0, none⟩ (.slice (R 0).ao (R 0).n (R 0).cap)).setCell ⟨q6, 1, none⟩ (.slice (R 1).ao (R 1).n (R 1).cap)).setCell ⟨q6, 2, none⟩ (.slice (R 2).ao (R 2).n (R 2).cap)).setCell ⟨q6, 3, none⟩ (.slice (R 3).ao (R 3).n (R 3).cap)).setCell ⟨q6, 4, none⟩ (.slice (R 4).ao (R 4).n (R 4).cap)).setCell ⟨q6, 5, none⟩ (.slice (R 5).ao (R 5).n (R 5).cap)).setCell ⟨q6, 6, none⟩ (.slice (R 6).ao (R 6).n (R 6).cap)).setCell ⟨q6, 7, none⟩ (.slice (R 7).ao (R 7).n (R 7).cap) = W4 at *
  obtain ⟨u0, u1, u2, u3, u4, u5, u6, u7⟩ := HZ.out.1.all
  refine bodyPost_ret (by simp [results, Try.results21, go_sem, u0, u1, u2, u3, u4, u5, u6, u7]; try rfl) rfl ?_
  exact ⟨rfl, HZ.out.2⟩

end Go.Proofs.Ytfllkhimlambhaa
