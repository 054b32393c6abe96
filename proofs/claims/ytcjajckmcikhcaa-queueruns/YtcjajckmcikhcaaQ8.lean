/- The chapter's example, walked; and what can't be. -/
import Derived.Test.YtcjajckmcikhcaaQ7
namespace Go.Proofs.Ytcjajckmcikhcaa
open Go.RowKit Go.Maps
set_option linter.unusedVariables false

abbrev a0 : Wt := ⟨0, 2, 1, true⟩
abbrev b0 : Wt := ⟨1, 2, 1, false⟩
def C0 : Cl := fun _ => none
def C1 : Cl := C0.set ⟨3, 2, 1, true⟩ (some false)
def C2 : Cl := C1.set ⟨3, 2, 1, true⟩ (some true)

theorem v1 : addB [] a0 = true := by decide +kernel
theorem v2 : addB [a0] b0 = true := by decide +kernel
theorem v3 : addB [a0, b0] b0 = false := by decide +kernel
theorem l1 : addL [] a0 = [a0] := by unfold addL; rw [v1]; rfl
theorem l2 : addL [a0] b0 = [a0, b0] := by unfold addL; rw [v2]; rfl
theorem l3 : addL [a0, b0] b0 = [a0, b0] := by unfold addL; rw [v3]; rfl
theorem v4 : callB C0 3 a0 = true := by decide +kernel
theorem v5 : callB C1 3 a0 = false := by decide +kernel
theorem l4 : callC C0 3 a0 = C1 := by unfold callC; rw [v4]; rfl
theorem l5 : callC C1 3 a0 = C1 := by unfold callC; rw [v5]; rfl
theorem v6 : (C1 (kyOf 3 a0)).isSome = true := by decide +kernel
theorem l6 : busyC C1 3 a0 = C2 := by unfold busyC; rw [v6]; rfl
theorem v7 : (C2 (kyOf 3 a0)).isSome = true := by decide +kernel
theorem v8 : decide (C2 (kyOf 3 a0) = some true) = true := by decide +kernel
theorem v9 : ahead [a0, b0] b0 = [0] := by decide +kernel
theorem v10 : ahead [a0, b0] a0 = [] := by decide +kernel
theorem v11 : resN 1 2 [a0, b0] = 2 := by decide +kernel
theorem v12 : hasB [a0, b0] 0 = true := by decide +kernel
theorem v13 : rmL [a0, b0] 0 = [b0] := by
  have : plN [a0, b0] 0 = 0 := by decide +kernel
  unfold rmL
  rw [this]
  rfl
theorem ok3 : (kyOf 3 a0).ok := by refine ⟨?_, ?_, ?_⟩ <;> (unfold inR; decide)

theorem rt2 : ∀ x ∈ [a0, b0], Rt x := by
  intro x hx
  simp only [List.mem_cons, List.not_mem_nil, or_false] at hx
  rcases hx with rfl | rfl <;> (unfold Rt; decide)

/-- A queue beside two wants in blocks of their own. -/
structure Ax (w W : World) (q g2 g3 : Nat) (L : List Wt) (C : Cl) (n : Nat) : Prop where
  qx : Qx w.heap.size (fun k => k = g2 ∨ k = g3) W q L C n
  h2 : W.heap[g2]? = some (wtO a0)
  h3 : W.heap[g3]? = some (wtO b0)
  bel : Below w.heap.size w W

section
variable {w W W' : World} {q g2 g3 : Nat} {L : List Wt} {C : Cl} {n : Nat}
theorem Ax.v (h : Ax w W q g2 g3 L C n) : ∀ k, (k = g2 ∨ k = g3) → k < W.heap.size := by
  rintro k (rfl | rfl)
  · exact (Array.getElem?_eq_some_iff.1 h.h2).1
  · exact (Array.getElem?_eq_some_iff.1 h.h3).1
theorem Ax.step {L' : List Wt} {C' : Cl} {n' : Nat} (h : Ax w W q g2 g3 L C n) (s : Sx w.heap.size (fun k => k = g2 ∨ k = g3) W W' q L' C' n') : Ax w W' q g2 g3 L' C' n' :=
  ⟨s.qx, (s.keep g2 (.inl rfl)).trans h.h2, (s.keep g3 (.inr rfl)).trans h.h3, h.bel.trans s.bel⟩
theorem Ax.below (h : Ax w W q g2 g3 L C n) (hb : Below W.heap.size W W') : Ax w W' q g2 g3 L C n :=
  ⟨h.qx.below hb, (hb.block g2 (h.v _ (.inl rfl))).trans h.h2, (hb.block g3 (h.v _ (.inr rfl))).trans h.h3, below_step h.bel hb⟩
theorem Ax.cells (h : Ax w W q g2 g3 L C n) : (W.cell? ⟨g2, 0, none⟩ = some (.int .i64 0) ∧ W.cell? ⟨g2, 1, none⟩ = some (.int .i64 2) ∧ W.cell? ⟨g2, 2, none⟩ = some (.int .i64 1) ∧ W.cell? ⟨g2, 3, none⟩ = some (.bool true)) ∧ W.cell? ⟨g3, 0, none⟩ = some (.int .i64 1) ∧ W.cell? ⟨g3, 1, none⟩ = some (.int .i64 2) ∧ W.cell? ⟨g3, 2, none⟩ = some (.int .i64 1) ∧ W.cell? ⟨g3, 3, none⟩ = some (.bool false) :=
  ⟨wt_cells (x := a0) h.h2 (Below.refl _ _), wt_cells (x := b0) h.h3 (Below.refl _ _)⟩
end

set_option maxHeartbeats 1600000 in
theorem alive_any (w : World) : Calls Try.prog 9 #[] w fun e w' => e = .returned (.bool true) ∧ Below w.heap.size w w' := by
  go_enter Try.func9, Try.ntmps9
  go_upto_region 3 with (first
    | (go_at_call 8; refine (newX w).mono ?_; rintro e w1 ⟨q, rfl, hq1, hb1⟩)
    | fail)
  have H0 : Hid (Ax w ((w1.alloc (wtO a0)).alloc (wtO b0)) q w1.heap.size (w1.heap.size + 1) [] C0 0) := by
    have hb2 : Below w1.heap.size w1 ((w1.alloc (wtO a0)).alloc (wtO b0)) := by go_grown
    refine ⟨(hq1.foreign hb2).less (by rintro k (rfl | rfl) <;> exact .inr (by omega)), ?_, ?_, below_step hb1 hb2⟩
    · rw [Below.heap_alloc _ _ _ (by simp)]; exact heap_alloc_new w1 _
    · have := heap_alloc_new (w1.alloc (wtO a0)) (wtO b0)
      simpa using this
  obtain ⟨g2, hg2⟩ : ∃ g, w1.heap.size = g := ⟨_, rfl⟩
  obtain ⟨g3, hg3⟩ : ∃ g, w1.heap.size + 1 = g := ⟨_, rfl⟩
  rw [hg3, hg2] at H0
  rw [hg3, hg2]
  clear hq1 hb1 hg2 hg3
  show Code.wp _ _ _ _ ((w1.alloc (wtO a0)).alloc (wtO b0))
  generalize (w1.alloc (wtO a0)).alloc (wtO b0) = W at *
  obtain ⟨⟨x0, x1, x2, x3⟩, x4, x5, x6, x7⟩ := H0.out.cells
  go_wp2_with (first
    | (go_at_call 10; refine (all_any _ _ _ _ _ _ (H12.out.qx : Qx _ _ _ _ _ _ _) (by decide)).mono ?_; rintro e w13 ⟨a13, c13, rfl, ho13, -, hb13⟩; clear ho13; have HB : Hid (Below w.heap.size w w13) := below_step H12.out.bel hb13; simp only [List.length_cons, List.length_nil])
    | (go_at_call 13; refine (removeX H11.out.qx H11.out.v H11.out.bel.size (by decide) 0).mono ?_; rw [v12, v13]; rintro e w12 ⟨rfl, s12⟩; have H12 : Hid (Ax w w12 q g2 g3 [b0] C2 3) := H11.out.step s12; clear s12)
    | (go_at_call 15; refine (reserved_any _ _ _ _ _ _ (H10.out.qx : Qx _ _ _ _ _ _ _) (by decide) rt2 1 2).mono ?_; rw [v11]; rintro e w11 ⟨rfl, hb11⟩; have H11 : Hid (Ax w w11 q g2 g3 [a0, b0] C2 3) := H10.out.below hb11; clear hb11)
    | (go_at_call 30; refine (ahead_any _ _ _ _ _ _ (H9.out.qx : Qx _ _ _ _ _ _ _) (by decide) a0).mono ?_; rw [v10]; rintro e w10 ⟨a10, c10, rfl, ho10, hb10⟩; clear ho10; have H10 : Hid (Ax w w10 q g2 g3 [a0, b0] C2 3) := H9.out.below hb10; clear hb10; simp only [List.length_nil])
    | (go_at_call 29; refine (sameInts_true a8 c8 1 _ _ [0] _ (hr8.alloc _) (RdI.one w8 3 .i64 0) rfl (by decide)).mono ?_; rintro e w9 ⟨rfl, hb9⟩; have H9 : Hid (Ax w w9 q g2 g3 [a0, b0] C2 3) := (H8.out.below ((Below.refl _ _).alloc (Nat.le_refl _) _)).below hb9; clear hb9; obtain ⟨⟨e0, e1, e2, e3⟩, -⟩ := H9.out.cells)
    | (go_at_call 30; refine (ahead_any _ _ _ _ _ _ (H7.out.qx : Qx _ _ _ _ _ _ _) (by decide) b0).mono ?_; rw [v9]; rintro e w8 ⟨a8, c8, rfl, ho8, hb8⟩; have hr8 := ho8.rd; clear ho8; have H8 : Hid (Ax w w8 q g2 g3 [a0, b0] C2 3) := H7.out.below hb8; clear hb8; simp only [List.length_cons, List.length_nil])
    | (go_at_call 24; refine (called_any _ _ _ _ _ _ (H6.out.qx : Qx _ _ _ _ _ _ _) 3 a0 ok3).mono ?_; rw [v7, v8]; rintro e w7 ⟨rfl, hb7⟩; have H7 : Hid (Ax w w7 q g2 g3 [a0, b0] C2 3) := H6.out.below hb7; clear hb7; obtain ⟨-, d4, d5, d6, d7⟩ := H7.out.cells)
    | (go_at_call 14; refine (busyX H5.out.qx H5.out.v H5.out.bel.size (by decide) 3 a0 ok3).mono ?_; rw [v6, l6]; rintro e w6 ⟨rfl, s6⟩; have H6 : Hid (Ax w w6 q g2 g3 [a0, b0] C2 3) := H5.out.step s6; clear s6; obtain ⟨⟨d0, d1, d2, d3⟩, -⟩ := H6.out.cells)
    | (go_at_call 12; refine (callX H4.out.qx H4.out.v H4.out.bel.size (by decide) 3 a0).mono ?_; rw [v5, l5]; rintro e w5 ⟨rfl, s5⟩; have H5 : Hid (Ax w w5 q g2 g3 [a0, b0] C1 2) := H4.out.step s5; clear s5; obtain ⟨⟨c0, c1, c2, c3⟩, -⟩ := H5.out.cells)
    | (go_at_call 12; refine (callX H3.out.qx H3.out.v H3.out.bel.size (by decide) 3 a0).mono ?_; rw [v4, l4]; rintro e w4 ⟨rfl, s4⟩; have H4 : Hid (Ax w w4 q g2 g3 [a0, b0] C1 1) := H3.out.step s4; clear s4; obtain ⟨⟨b0', b1, b2, b3⟩, -⟩ := H4.out.cells)
    | (go_at_call 11; refine (addX H2.out.qx H2.out.v H2.out.bel.size (by decide) b0).mono ?_; rw [v3, l3]; rintro e w3 ⟨rfl, s3⟩; have H3 : Hid (Ax w w3 q g2 g3 [a0, b0] C0 0) := H2.out.step s3; clear s3; obtain ⟨⟨z0, z1, z2, z3⟩, -⟩ := H3.out.cells)
    | (go_at_call 11; refine (addX H1.out.qx H1.out.v H1.out.bel.size (by decide) b0).mono ?_; rw [v2, l2]; rintro e w2 ⟨rfl, s2⟩; have H2 : Hid (Ax w w2 q g2 g3 [a0, b0] C0 0) := H1.out.step s2; clear s2; obtain ⟨-, y4, y5, y6, y7⟩ := H2.out.cells)
    | (go_at_call 11; refine (addX H0.out.qx H0.out.v H0.out.bel.size (by decide) a0).mono ?_; rw [v1, l1]; rintro e w1' ⟨rfl, s1⟩; have H1 : Hid (Ax w w1' q g2 g3 [a0] C0 0) := H0.out.step s1; clear s1; obtain ⟨-, q4, q5, q6, q7⟩ := H1.out.cells)
    | fail)
  go_ret
  exact ⟨rfl, HB.out⟩

end Go.Proofs.Ytcjajckmcikhcaa
