/- due of package desk, walked. -/
import Derived.Test.YtpofihiojhbfgaaGreatDoorC7
namespace Go.Proofs.YtpofihiojhbfgaaGreatDoor.Dsk
open Go.RowKit Go.Maps
set_option linter.unusedVariables false
set_option maxRecDepth 8000

theorem bel_at {b : Nat} {w W U : World} (hb : w.heap.size = b) (h : Below b w W) (k : Below W.heap.size W U) : Below w.heap.size w U := by subst hb; exact below_step h k
theorem bel_to {b : Nat} {w W U : World} (hb : w.heap.size = b) (h : Below b w W) (k : Below W.heap.size W U) : Below b w U := by subst hb; exact below_step h k
theorem orp16 : ∀ a < 16, ∀ o < 4, bits .or .i64 ((a : Nat) : Int) ((2 : Int) ^ o) = ((a ||| 2 ^ o : Nat) : Int) := by decide +kernel
theorem shl16 : ∀ o < 4, IntKind.i64.wrap ((2 : Int) ^ o) = (2 : Int) ^ o := by decide +kernel
theorem fr_lt (T : Nat → Nat) (hT : ∀ i, T i < 16) (c p : Int) : Tab.frI T c p < 16 := by
  unfold Tab.frI
  split
  · exact Tab.lsub (by decide) (Tab.orr_lt _ _ (fun d => hT _) _)
  · decide
set_option maxHeartbeats 6400000 in
theorem due_any {B : Nat} {V : Nat → Prop} {w : World} {d g q : Nat} {S : St} {n : Nat} (H : Dk B V w d g q S n) (x : Wt) (hx : Rt x) : Calls Tryz.prog 190 #[dp d, wtV x] w fun e w' => e = .returned (.tuple #[.int .i64 ((dueC S.T S.L x : Nat) : Int), .int .i64 ((dueO S.T S.L x : Nat) : Int)]) ∧ Below w.heap.size w w' := by
  have hb0 : Below w.heap.size w (w.alloc (wtO x)) := (Below.refl _ _).alloc (Nat.le_refl _) _
  have HW : Hid (Dk B V (w.alloc (wtO x)) d g q S n) := H.below hb0
  have HB : Hid (Below w.heap.size w (w.alloc (wtO x))) := hb0
  have HX0 : Hid (∀ U : World, Below (w.alloc (wtO x)).heap.size (w.alloc (wtO x)) U → U.cell? ⟨d, 0, none⟩ = some (Tab.tp g) ∧ U.cell? ⟨d, 1, none⟩ = some (qp q) ∧ U.cell? ⟨w.heap.size, 0, none⟩ = some (.int .i64 x.c) ∧ U.cell? ⟨w.heap.size, 1, none⟩ = some (.int .i64 x.p) ∧ U.cell? ⟨w.heap.size, 2, none⟩ = some (.int .i64 x.o) ∧ U.cell? ⟨w.heap.size, 3, none⟩ = some (.bool x.wr)) :=
    fun U hU => ⟨(HW.out.below hU).c0, (HW.out.below hU).c1, box_cells w x hU⟩
  have hF := fr_lt S.T H.tb.le x.c x.p
  have hR := resN_lt x.c x.p S.L H.nice.rt
  clear H hb0
  obtain ⟨xc, xp, xo, xw⟩ := x
  obtain ⟨⟨hc0, hc1⟩, hp0, hp1, ho0, ho1⟩ := hx
  simp only at hc0 hc1 hp0 hp1 ho0 ho1 hF hR
  obtain ⟨o, rfl⟩ : ∃ o : Nat, xo = o := ⟨xo.toNat, by omega⟩
  have ho : o < 4 := by omega
  clear hc0 hc1 hp0 hp1 ho0 ho1
  have hsh := shl16 o ho
  have HD : Hid (dueC S.T S.L ⟨xc, xp, (o : Int), xw⟩ = (if xw && (Tab.alI S.T xc xp && !othB S.L ⟨xc, xp, (o : Int), xw⟩) then 15 else Tab.sub (Tab.frI S.T xc xp) (resN xc xp S.L) ||| 2 ^ o) ∧ dueO S.T S.L ⟨xc, xp, (o : Int), xw⟩ = (if xw && (Tab.alI S.T xc xp && !othB S.L ⟨xc, xp, (o : Int), xw⟩) then 15 else if xw then 2 ^ o else 0)) := ⟨rfl, rfl⟩
  obtain ⟨CC, hCC⟩ : ∃ z, dueC S.T S.L ⟨xc, xp, (o : Int), xw⟩ = z := ⟨_, rfl⟩
  obtain ⟨OO, hOO⟩ : ∃ z, dueO S.T S.L ⟨xc, xp, (o : Int), xw⟩ = z := ⟨_, rfl⟩
  rw [hCC, hOO] at HD ⊢
  clear hCC hOO
  obtain ⟨F, hFF⟩ : ∃ F, Tab.frI S.T xc xp = F := ⟨_, rfl⟩
  obtain ⟨R, hRR⟩ : ∃ R, resN xc xp S.L = R := ⟨_, rfl⟩
  obtain ⟨A, hAA⟩ : ∃ A, Tab.alI S.T xc xp = A := ⟨_, rfl⟩
  obtain ⟨O, hOO⟩ : ∃ O, othB S.L ⟨xc, xp, (o : Int), xw⟩ = O := ⟨_, rfl⟩
  rw [hFF, hRR, hAA, hOO] at HD
  rw [hFF] at hF
  rw [hRR] at hR
  have hsub := Tab.bnot hF hR
  have hor := orp16 _ (Tab.lsub hF hR) o ho
  go_enter Tryz.func190, Tryz.ntmps190
  go_upto_region 1 with fail
  obtain ⟨b, hb⟩ : ∃ b, w.heap.size = b := ⟨_, rfl⟩
  rw [hb] at HX0 ⊢
  show Code.wp _ _ _ _ (w.alloc (wtO ⟨xc, xp, (o : Int), xw⟩))
  generalize w.alloc (wtO ⟨xc, xp, (o : Int), xw⟩) = W at *
  have HX : Hid (∀ U : World, Below W.heap.size W U → U.cell? ⟨d, 0, none⟩ = some (Tab.tp g) ∧ U.cell? ⟨d, 1, none⟩ = some (qp q) ∧ U.cell? ⟨b, 0, none⟩ = some (.int .i64 xc) ∧ U.cell? ⟨b, 1, none⟩ = some (.int .i64 xp) ∧ U.cell? ⟨b, 2, none⟩ = some (.int .i64 (o : Int)) ∧ U.cell? ⟨b, 3, none⟩ = some (.bool xw)) := HX0
  have HBb : Hid (Below b w W) := hb ▸ HB.out
  clear HX0 HB
  have HA : Hid (∀ U : World, Below W.heap.size W U → Calls Tryz.prog 201 #[Tab.tp g, .int .i64 xc, .int .i64 xp] U fun e w' => e = .returned (.bool A) ∧ Below W.heap.size W w') := fun U hU => by
    refine (Tab.alone_any U g S.T (HW.out.below hU).tb xc xp).mono ?_
    rw [hAA]
    rintro e w' ⟨rfl, h2⟩
    exact ⟨rfl, below_step hU h2⟩
  have HO : Hid (∀ U : World, Below W.heap.size W U → Calls Tryz.prog 202 #[dp d, .agg #[.int .i64 xc, .int .i64 xp, .int .i64 (o : Int), .bool xw]] U fun e w' => e = .returned (.bool O) ∧ Below W.heap.size W w') := fun U hU => by
    refine (othersWait_any (HW.out.below hU) ⟨xc, xp, (o : Int), xw⟩).mono ?_
    rw [hOO]
    rintro e w' ⟨rfl, h2⟩
    exact ⟨rfl, below_step hU h2⟩
  have HF : Hid (∀ U : World, Below W.heap.size W U → Calls Tryz.prog 203 #[Tab.tp g, .int .i64 xc, .int .i64 xp] U fun e w' => e = .returned (.int .i64 ((F : Nat) : Int)) ∧ Below W.heap.size W w') := fun U hU => by
    refine (Tab.free_any U g S.T (HW.out.below hU).tb xc xp).mono ?_
    rw [hFF]
    rintro e w' ⟨rfl, h2⟩
    exact ⟨rfl, below_step hU h2⟩
  have HR : Hid (∀ U : World, Below W.heap.size W U → Calls Tryz.prog 204 #[qp q, .int .i64 xc, .int .i64 xp] U fun e w' => e = .returned (.int .i64 ((R : Nat) : Int)) ∧ Below W.heap.size W w') := fun U hU => by
    refine (reservedK (HW.out.below hU) xc xp).mono ?_
    rw [hRR]
    rintro e w' ⟨rfl, h2⟩
    exact ⟨rfl, below_step hU h2⟩
  clear hFF hRR hAA hOO HW hF hR
  cases xw
  · clear HA HO
    refine wp_region_held (S := fun U => Below W.heap.size W U) (by kernel_rfl) ?_
    have hS : Below W.heap.size W W.drew := bel0 W
    refine held_val (i := 0) ?_ 7 rfl rfl (by kernel_rfl) (by kernel_rfl) (by kernel_rfl) (by rfl) (fun _ _ _ h => h) hS ?_ ?_
    rotate_left
    · (intro w hSw; go_simp; first | done | with_reducible rfl)
    simp only [Act.put, List.setIfInBounds_toArray, List.set_cons_zero, List.set_cons_succ]
    refine held_val (i := 1) (.bool false) 8 rfl rfl (by kernel_rfl) (by kernel_rfl) (by kernel_rfl) (by rfl) (fun _ _ _ h => h) hS ?_ ?_
    · (intro w hSw; obtain ⟨k0, k1, k2, k3, k4, k5⟩ := HX.out w hSw; go_simp; first | done | with_reducible rfl)
    simp only [Act.put, List.setIfInBounds_toArray, List.set_cons_zero, List.set_cons_succ]
    refine held_val (i := 2) (.bool false) 9 rfl rfl (by kernel_rfl) (by kernel_rfl) (by kernel_rfl) (by rfl) (fun _ _ _ h => h) hS ?_ ?_
    · (intro w hSw; go_simp; first | done | with_reducible rfl)
    simp only [Act.put, List.setIfInBounds_toArray, List.set_cons_zero, List.set_cons_succ]
    refine held_skip (i := 3) 10 rfl rfl (by kernel_rfl) (by kernel_rfl) (by kernel_rfl) (by rfl) (fun _ _ _ h => h) hS ?_
    simp only [Act.put, List.setIfInBounds_toArray, List.set_cons_zero, List.set_cons_succ]
    refine held_skip (i := 4) 11 rfl rfl (by kernel_rfl) (by kernel_rfl) (by kernel_rfl) (by rfl) (fun _ _ _ h => h) hS ?_
    simp only [Act.put, List.setIfInBounds_toArray, List.set_cons_zero, List.set_cons_succ]
    refine held_skip (i := 5) 12 rfl rfl (by kernel_rfl) (by kernel_rfl) (by kernel_rfl) (by rfl) (fun _ _ _ h => h) hS ?_
    simp only [Act.put, List.setIfInBounds_toArray, List.set_cons_zero, List.set_cons_succ]
    refine held_skip (i := 6) 13 rfl rfl (by kernel_rfl) (by kernel_rfl) (by kernel_rfl) (by rfl) (fun _ _ _ h => h) hS ?_
    simp only [Act.put, List.setIfInBounds_toArray, List.set_cons_zero, List.set_cons_succ]
    refine held_skip (i := 7) 14 rfl rfl (by kernel_rfl) (by kernel_rfl) (by kernel_rfl) (by rfl) (fun _ _ _ h => h) hS ?_
    simp only [Act.put, List.setIfInBounds_toArray, List.set_cons_zero, List.set_cons_succ]
    refine held_skip (i := 8) 15 rfl rfl (by kernel_rfl) (by kernel_rfl) (by kernel_rfl) (by rfl) (fun _ _ _ h => h) hS ?_
    simp only [Act.put, List.setIfInBounds_toArray, List.set_cons_zero, List.set_cons_succ]
    refine held_skip (i := 9) 16 rfl rfl (by kernel_rfl) (by kernel_rfl) (by kernel_rfl) (by rfl) (fun _ _ _ h => h) hS ?_
    simp only [Act.put, List.setIfInBounds_toArray, List.set_cons_zero, List.set_cons_succ]
    refine held_skip (i := 10) 17 rfl rfl (by kernel_rfl) (by kernel_rfl) (by kernel_rfl) (by rfl) (fun _ _ _ h => h) hS ?_
    simp only [Act.put, List.setIfInBounds_toArray, List.set_cons_zero, List.set_cons_succ]
    refine held_skip (i := 11) 18 rfl rfl (by kernel_rfl) (by kernel_rfl) (by kernel_rfl) (by rfl) (fun _ _ _ h => h) hS ?_
    simp only [Act.put, List.setIfInBounds_toArray, List.set_cons_zero, List.set_cons_succ]
    refine held_val (i := 12) (.bool false) 19 rfl rfl (by kernel_rfl) (by kernel_rfl) (by kernel_rfl) (by rfl) (fun _ _ _ h => h) hS ?_ ?_
    · (intro w hSw; go_simp; first | done | with_reducible rfl)
    simp only [Act.put, List.setIfInBounds_toArray, List.set_cons_zero, List.set_cons_succ]
    refine held_val (i := 13) (.bool false) 20 rfl rfl (by kernel_rfl) (by kernel_rfl) (by kernel_rfl) (by rfl) (fun _ _ _ h => h) hS ?_ ?_
    · (intro w hSw; go_simp; first | done | with_reducible rfl)
    simp only [Act.put, List.setIfInBounds_toArray, List.set_cons_zero, List.set_cons_succ]
    refine held_skip (i := 14) 21 rfl rfl (by kernel_rfl) (by kernel_rfl) (by kernel_rfl) (by rfl) (fun _ _ _ h => h) hS ?_
    simp only [Act.put, List.setIfInBounds_toArray, List.set_cons_zero, List.set_cons_succ]
    refine held_skip (i := 15) 22 rfl rfl (by kernel_rfl) (by kernel_rfl) (by kernel_rfl) (by rfl) (fun _ _ _ h => h) hS ?_
    simp only [Act.put, List.setIfInBounds_toArray, List.set_cons_zero, List.set_cons_succ]
    refine held_skip (i := 16) 23 rfl rfl (by kernel_rfl) (by kernel_rfl) (by kernel_rfl) (by rfl) (fun _ _ _ h => h) hS ?_
    simp only [Act.put, List.setIfInBounds_toArray, List.set_cons_zero, List.set_cons_succ]
    refine held_skip (i := 17) 24 rfl rfl (by kernel_rfl) (by kernel_rfl) (by kernel_rfl) (by rfl) (fun _ _ _ h => h) hS ?_
    simp only [Act.put, List.setIfInBounds_toArray, List.set_cons_zero, List.set_cons_succ]
    refine held_val (i := 18) (.bool false) 25 rfl rfl (by kernel_rfl) (by kernel_rfl) (by kernel_rfl) (by rfl) (fun _ _ _ h => h) hS ?_ ?_
    · (intro w hSw; go_simp; first | done | with_reducible rfl)
    simp only [Act.put, List.setIfInBounds_toArray, List.set_cons_zero, List.set_cons_succ]
    refine wpAnyH_done (by kernel_rfl) ?_ _
    have hW5 := hS
    clear hS
    have HZ : Hid (Below W.heap.size W W.drew) := hW5
    clear hW5
    go_upto_region 3 with fail
    refine wp_region_held (S := fun U => Below W.heap.size W U) (by kernel_rfl) ?_
    have hS : Below W.heap.size W W.drew.drew := below_step HZ.out (bel0 W.drew)
    refine held_val (i := 0) ?_ 26 rfl rfl (by kernel_rfl) (by kernel_rfl) (by kernel_rfl) (by rfl) (fun _ _ _ h => h) hS ?_ ?_
    rotate_left
    · (intro w hSw; go_simp; first | done | with_reducible rfl)
    simp only [Act.put, List.setIfInBounds_toArray, List.set_cons_zero, List.set_cons_succ]
    refine held_val (i := 1) ?_ 27 rfl rfl (by kernel_rfl) (by kernel_rfl) (by kernel_rfl) (by rfl) (fun _ _ _ h => h) hS ?_ ?_
    rotate_left
    · (intro w hSw; go_simp; first | done | with_reducible rfl)
    simp only [Act.put, List.setIfInBounds_toArray, List.set_cons_zero, List.set_cons_succ]
    refine held_val (i := 2) ?_ 28 rfl rfl (by kernel_rfl) (by kernel_rfl) (by kernel_rfl) (by rfl) (fun _ _ _ h => h) hS ?_ ?_
    rotate_left
    · (intro w hSw; go_simp; first | done | with_reducible rfl)
    simp only [Act.put, List.setIfInBounds_toArray, List.set_cons_zero, List.set_cons_succ]
    refine held_val (i := 3) ?_ 29 rfl rfl (by kernel_rfl) (by kernel_rfl) (by kernel_rfl) (by rfl) (fun _ _ _ h => h) hS ?_ ?_
    rotate_left
    · (intro w hSw; obtain ⟨k0, k1, k2, k3, k4, k5⟩ := HX.out w hSw; go_simp; first | done | with_reducible rfl)
    simp only [Act.put, List.setIfInBounds_toArray, List.set_cons_zero, List.set_cons_succ]
    refine held_val (i := 4) ?_ 30 rfl rfl (by kernel_rfl) (by kernel_rfl) (by kernel_rfl) (by rfl) (fun _ _ _ h => h) hS ?_ ?_
    rotate_left
    · (intro w hSw; go_simp; first | done | with_reducible rfl)
    simp only [Act.put, List.setIfInBounds_toArray, List.set_cons_zero, List.set_cons_succ]
    refine held_val (i := 5) ?_ 31 rfl rfl (by kernel_rfl) (by kernel_rfl) (by kernel_rfl) (by rfl) (fun _ _ _ h => h) hS ?_ ?_
    rotate_left
    · (intro w hSw; obtain ⟨k0, k1, k2, k3, k4, k5⟩ := HX.out w hSw; go_simp; first | done | with_reducible rfl)
    simp only [Act.put, List.setIfInBounds_toArray, List.set_cons_zero, List.set_cons_succ]
    refine held_val (i := 6) ?_ 32 rfl rfl (by kernel_rfl) (by kernel_rfl) (by kernel_rfl) (by rfl) (fun _ _ _ h => h) hS ?_ ?_
    rotate_left
    · (intro w hSw; go_simp; first | done | with_reducible rfl)
    simp only [Act.put, List.setIfInBounds_toArray, List.set_cons_zero, List.set_cons_succ]
    refine held_val (i := 7) ?_ 33 rfl rfl (by kernel_rfl) (by kernel_rfl) (by kernel_rfl) (by rfl) (fun _ _ _ h => h) hS ?_ ?_
    rotate_left
    · (intro w hSw; obtain ⟨k0, k1, k2, k3, k4, k5⟩ := HX.out w hSw; go_simp; first | done | with_reducible rfl)
    simp only [Act.put, List.setIfInBounds_toArray, List.set_cons_zero, List.set_cons_succ]
    refine held_val (i := 9) ?_ 35 rfl rfl (by kernel_rfl) (by kernel_rfl) (by kernel_rfl) (by rfl) (fun _ _ _ h => h) hS ?_ ?_
    rotate_left
    · (intro w hSw; go_simp; first | done | with_reducible rfl)
    simp only [Act.put, List.setIfInBounds_toArray, List.set_cons_zero, List.set_cons_succ]
    refine held_val (i := 10) ?_ 36 rfl rfl (by kernel_rfl) (by kernel_rfl) (by kernel_rfl) (by rfl) (fun _ _ _ h => h) hS ?_ ?_
    rotate_left
    · (intro w hSw; go_simp; first | done | with_reducible rfl)
    simp only [Act.put, List.setIfInBounds_toArray, List.set_cons_zero, List.set_cons_succ]
    refine held_val (i := 11) ?_ 37 rfl rfl (by kernel_rfl) (by kernel_rfl) (by kernel_rfl) (by rfl) (fun _ _ _ h => h) hS ?_ ?_
    rotate_left
    · (intro w hSw; go_simp; first | done | with_reducible rfl)
    simp only [Act.put, List.setIfInBounds_toArray, List.set_cons_zero, List.set_cons_succ]
    refine held_val (i := 12) ?_ 38 rfl rfl (by kernel_rfl) (by kernel_rfl) (by kernel_rfl) (by rfl) (fun _ _ _ h => h) hS ?_ ?_
    rotate_left
    · (intro w hSw; obtain ⟨k0, k1, k2, k3, k4, k5⟩ := HX.out w hSw; go_simp; first | done | with_reducible rfl)
    simp only [Act.put, List.setIfInBounds_toArray, List.set_cons_zero, List.set_cons_succ]
    refine held_val (i := 13) ?_ 39 rfl rfl (by kernel_rfl) (by kernel_rfl) (by kernel_rfl) (by rfl) (fun _ _ _ h => h) hS ?_ ?_
    rotate_left
    · (intro w hSw; go_simp; first | done | with_reducible rfl)
    simp only [Act.put, List.setIfInBounds_toArray, List.set_cons_zero, List.set_cons_succ]
    refine held_val (i := 14) ?_ 40 rfl rfl (by kernel_rfl) (by kernel_rfl) (by kernel_rfl) (by rfl) (fun _ _ _ h => h) hS ?_ ?_
    rotate_left
    · (intro w hSw; obtain ⟨k0, k1, k2, k3, k4, k5⟩ := HX.out w hSw; go_simp; first | done | with_reducible rfl)
    simp only [Act.put, List.setIfInBounds_toArray, List.set_cons_zero, List.set_cons_succ]
    refine held_val (i := 15) ?_ 41 rfl rfl (by kernel_rfl) (by kernel_rfl) (by kernel_rfl) (by rfl) (fun _ _ _ h => h) hS ?_ ?_
    rotate_left
    · (intro w hSw; go_simp; first | done | with_reducible rfl)
    simp only [Act.put, List.setIfInBounds_toArray, List.set_cons_zero, List.set_cons_succ]
    refine held_val (i := 16) ?_ 42 rfl rfl (by kernel_rfl) (by kernel_rfl) (by kernel_rfl) (by rfl) (fun _ _ _ h => h) hS ?_ ?_
    rotate_left
    · (intro w hSw; obtain ⟨k0, k1, k2, k3, k4, k5⟩ := HX.out w hSw; go_simp; first | done | with_reducible rfl)
    simp only [Act.put, List.setIfInBounds_toArray, List.set_cons_zero, List.set_cons_succ]
    refine held_val (i := 19) ?_ 45 rfl rfl (by kernel_rfl) (by kernel_rfl) (by kernel_rfl) (by rfl) (fun _ _ _ h => h) hS ?_ ?_
    rotate_left
    · (intro w hSw; go_simp; first | done | with_reducible rfl)
    simp only [Act.put, List.setIfInBounds_toArray, List.set_cons_zero, List.set_cons_succ]
    refine held_val (i := 20) ?_ 46 rfl rfl (by kernel_rfl) (by kernel_rfl) (by kernel_rfl) (by rfl) (fun _ _ _ h => h) hS ?_ ?_
    rotate_left
    · (intro w hSw; obtain ⟨k0, k1, k2, k3, k4, k5⟩ := HX.out w hSw; go_simp; first | done | with_reducible rfl)
    simp only [Act.put, List.setIfInBounds_toArray, List.set_cons_zero, List.set_cons_succ]
    refine held_val (i := 21) (.int .i64 ((2 : Int) ^ o)) 47 rfl rfl (by kernel_rfl) (by kernel_rfl) (by kernel_rfl) (by rfl) (fun _ _ _ h => h) hS ?_ ?_
    · (intro w hSw; go_simp; first | done | with_reducible rfl)
    simp only [Act.put, List.setIfInBounds_toArray, List.set_cons_zero, List.set_cons_succ]
    refine held_call (i := 8) 34 203 #[Tab.tp g, .int .i64 xc, .int .i64 xp] rfl rfl (by kernel_rfl) (by rfl) (by simp [go_sem]) (HF.out _ hS) ?_
    rintro e w8 ⟨rfl, hS8⟩
    refine ⟨_, rfl, hS8, ?_⟩
    have hS8 := hS8
    simp only [Act.put, List.setIfInBounds_toArray, List.set_cons_zero, List.set_cons_succ]
    refine held_call (i := 17) 43 204 #[qp q, .int .i64 xc, .int .i64 xp] rfl rfl (by kernel_rfl) (by rfl) (by simp [go_sem]) (HR.out _ hS8) ?_
    rintro e w17 ⟨rfl, hS17⟩
    refine ⟨_, rfl, hS17, ?_⟩
    have hS17 := hS17
    simp only [Act.put, List.setIfInBounds_toArray, List.set_cons_zero, List.set_cons_succ]
    refine held_val (i := 18) (.int .i64 ((Tab.sub F R : Nat) : Int)) 44 rfl rfl (by kernel_rfl) (by kernel_rfl) (by kernel_rfl) (by rfl) (fun _ _ _ h => h) hS17 ?_ ?_
    · (intro w hSw; go_simp; first | done | with_reducible rfl)
    simp only [Act.put, List.setIfInBounds_toArray, List.set_cons_zero, List.set_cons_succ]
    refine held_val (i := 22) (.int .i64 ((Tab.sub F R ||| 2 ^ o : Nat) : Int)) 48 rfl rfl (by kernel_rfl) (by kernel_rfl) (by kernel_rfl) (by rfl) (fun _ _ _ h => h) hS17 ?_ ?_
    · (intro w hSw; go_simp; first | done | with_reducible rfl)
    simp only [Act.put, List.setIfInBounds_toArray, List.set_cons_zero, List.set_cons_succ]
    refine held_val (i := 23) (.int .i64 ((Tab.sub F R ||| 2 ^ o : Nat) : Int)) 6 rfl rfl (by kernel_rfl) (by kernel_rfl) (by kernel_rfl) (by rfl) (fun _ _ _ h => h) hS17 ?_ ?_
    · (intro w hSw; go_simp; first | done | with_reducible rfl)
    simp only [Act.put, List.setIfInBounds_toArray, List.set_cons_zero, List.set_cons_succ]
    refine wpAnyH_done (by kernel_rfl) ?_ _
    have HZ6 : Hid (Below W.heap.size W w17) := hS17
    clear hS hS8 hS17 hsub hor
    have hw3 : w17.cell? ⟨b, 3, none⟩ = some (.bool false) := (HX.out w17 HZ6.out).2.2.2.2.2
    go_wp2
    go_ret2
    exact ⟨by rw [HD.out.1, HD.out.2]; rfl, by first | exact bel_at hb HBb.out HZ6.out | exact bel_to hb HBb.out HZ6.out⟩
  cases A
  · clear HO
    refine wp_region_held (S := fun U => Below W.heap.size W U) (by kernel_rfl) ?_
    have hS : Below W.heap.size W W.drew := bel0 W
    refine held_val (i := 0) ?_ 7 rfl rfl (by kernel_rfl) (by kernel_rfl) (by kernel_rfl) (by rfl) (fun _ _ _ h => h) hS ?_ ?_
    rotate_left
    · (intro w hSw; go_simp; first | done | with_reducible rfl)
    simp only [Act.put, List.setIfInBounds_toArray, List.set_cons_zero, List.set_cons_succ]
    refine held_val (i := 1) (.bool true) 8 rfl rfl (by kernel_rfl) (by kernel_rfl) (by kernel_rfl) (by rfl) (fun _ _ _ h => h) hS ?_ ?_
    · (intro w hSw; obtain ⟨k0, k1, k2, k3, k4, k5⟩ := HX.out w hSw; go_simp; first | done | with_reducible rfl)
    simp only [Act.put, List.setIfInBounds_toArray, List.set_cons_zero, List.set_cons_succ]
    refine held_val (i := 2) (.bool true) 9 rfl rfl (by kernel_rfl) (by kernel_rfl) (by kernel_rfl) (by rfl) (fun _ _ _ h => h) hS ?_ ?_
    · (intro w hSw; go_simp; first | done | with_reducible rfl)
    simp only [Act.put, List.setIfInBounds_toArray, List.set_cons_zero, List.set_cons_succ]
    refine held_val (i := 3) ?_ 10 rfl rfl (by kernel_rfl) (by kernel_rfl) (by kernel_rfl) (by rfl) (fun _ _ _ h => h) hS ?_ ?_
    rotate_left
    · (intro w hSw; go_simp; first | done | with_reducible rfl)
    simp only [Act.put, List.setIfInBounds_toArray, List.set_cons_zero, List.set_cons_succ]
    refine held_val (i := 4) ?_ 11 rfl rfl (by kernel_rfl) (by kernel_rfl) (by kernel_rfl) (by rfl) (fun _ _ _ h => h) hS ?_ ?_
    rotate_left
    · (intro w hSw; go_simp; first | done | with_reducible rfl)
    simp only [Act.put, List.setIfInBounds_toArray, List.set_cons_zero, List.set_cons_succ]
    refine held_val (i := 5) ?_ 12 rfl rfl (by kernel_rfl) (by kernel_rfl) (by kernel_rfl) (by rfl) (fun _ _ _ h => h) hS ?_ ?_
    rotate_left
    · (intro w hSw; go_simp; first | done | with_reducible rfl)
    simp only [Act.put, List.setIfInBounds_toArray, List.set_cons_zero, List.set_cons_succ]
    refine held_val (i := 6) ?_ 13 rfl rfl (by kernel_rfl) (by kernel_rfl) (by kernel_rfl) (by rfl) (fun _ _ _ h => h) hS ?_ ?_
    rotate_left
    · (intro w hSw; obtain ⟨k0, k1, k2, k3, k4, k5⟩ := HX.out w hSw; go_simp; first | done | with_reducible rfl)
    simp only [Act.put, List.setIfInBounds_toArray, List.set_cons_zero, List.set_cons_succ]
    refine held_val (i := 7) ?_ 14 rfl rfl (by kernel_rfl) (by kernel_rfl) (by kernel_rfl) (by rfl) (fun _ _ _ h => h) hS ?_ ?_
    rotate_left
    · (intro w hSw; go_simp; first | done | with_reducible rfl)
    simp only [Act.put, List.setIfInBounds_toArray, List.set_cons_zero, List.set_cons_succ]
    refine held_val (i := 8) ?_ 15 rfl rfl (by kernel_rfl) (by kernel_rfl) (by kernel_rfl) (by rfl) (fun _ _ _ h => h) hS ?_ ?_
    rotate_left
    · (intro w hSw; obtain ⟨k0, k1, k2, k3, k4, k5⟩ := HX.out w hSw; go_simp; first | done | with_reducible rfl)
    simp only [Act.put, List.setIfInBounds_toArray, List.set_cons_zero, List.set_cons_succ]
    refine held_val (i := 9) ?_ 16 rfl rfl (by kernel_rfl) (by kernel_rfl) (by kernel_rfl) (by rfl) (fun _ _ _ h => h) hS ?_ ?_
    rotate_left
    · (intro w hSw; go_simp; first | done | with_reducible rfl)
    simp only [Act.put, List.setIfInBounds_toArray, List.set_cons_zero, List.set_cons_succ]
    refine held_val (i := 10) ?_ 17 rfl rfl (by kernel_rfl) (by kernel_rfl) (by kernel_rfl) (by rfl) (fun _ _ _ h => h) hS ?_ ?_
    rotate_left
    · (intro w hSw; obtain ⟨k0, k1, k2, k3, k4, k5⟩ := HX.out w hSw; go_simp; first | done | with_reducible rfl)
    simp only [Act.put, List.setIfInBounds_toArray, List.set_cons_zero, List.set_cons_succ]
    refine held_call (i := 11) 18 201 #[Tab.tp g, .int .i64 xc, .int .i64 xp] rfl rfl (by kernel_rfl) (by rfl) (by simp [go_sem]) (HA.out _ hS) ?_
    rintro e w11 ⟨rfl, hS11⟩
    refine ⟨_, rfl, hS11, ?_⟩
    have hS11 := hS11
    simp only [Act.put, List.setIfInBounds_toArray, List.set_cons_zero, List.set_cons_succ]
    refine held_val (i := 12) (.bool false) 19 rfl rfl (by kernel_rfl) (by kernel_rfl) (by kernel_rfl) (by rfl) (fun _ _ _ h => h) hS11 ?_ ?_
    · (intro w hSw; go_simp; first | done | with_reducible rfl)
    simp only [Act.put, List.setIfInBounds_toArray, List.set_cons_zero, List.set_cons_succ]
    refine held_val (i := 13) (.bool false) 20 rfl rfl (by kernel_rfl) (by kernel_rfl) (by kernel_rfl) (by rfl) (fun _ _ _ h => h) hS11 ?_ ?_
    · (intro w hSw; go_simp; first | done | with_reducible rfl)
    simp only [Act.put, List.setIfInBounds_toArray, List.set_cons_zero, List.set_cons_succ]
    refine held_skip (i := 14) 21 rfl rfl (by kernel_rfl) (by kernel_rfl) (by kernel_rfl) (by rfl) (fun _ _ _ h => h) hS11 ?_
    simp only [Act.put, List.setIfInBounds_toArray, List.set_cons_zero, List.set_cons_succ]
    refine held_skip (i := 15) 22 rfl rfl (by kernel_rfl) (by kernel_rfl) (by kernel_rfl) (by rfl) (fun _ _ _ h => h) hS11 ?_
    simp only [Act.put, List.setIfInBounds_toArray, List.set_cons_zero, List.set_cons_succ]
    refine held_skip (i := 16) 23 rfl rfl (by kernel_rfl) (by kernel_rfl) (by kernel_rfl) (by rfl) (fun _ _ _ h => h) hS11 ?_
    simp only [Act.put, List.setIfInBounds_toArray, List.set_cons_zero, List.set_cons_succ]
    refine held_skip (i := 17) 24 rfl rfl (by kernel_rfl) (by kernel_rfl) (by kernel_rfl) (by rfl) (fun _ _ _ h => h) hS11 ?_
    simp only [Act.put, List.setIfInBounds_toArray, List.set_cons_zero, List.set_cons_succ]
    refine held_val (i := 18) (.bool false) 25 rfl rfl (by kernel_rfl) (by kernel_rfl) (by kernel_rfl) (by rfl) (fun _ _ _ h => h) hS11 ?_ ?_
    · (intro w hSw; go_simp; first | done | with_reducible rfl)
    simp only [Act.put, List.setIfInBounds_toArray, List.set_cons_zero, List.set_cons_succ]
    refine wpAnyH_done (by kernel_rfl) ?_ _
    have hW5 := hS11
    clear hS hS11
    generalize w11 = W5 at *
    have HZ : Hid (Below W.heap.size W W5) := hW5
    clear hW5
    go_upto_region 3 with fail
    refine wp_region_held (S := fun U => Below W.heap.size W U) (by kernel_rfl) ?_
    have hS : Below W.heap.size W W5.drew := below_step HZ.out (bel0 W5)
    refine held_val (i := 0) ?_ 26 rfl rfl (by kernel_rfl) (by kernel_rfl) (by kernel_rfl) (by rfl) (fun _ _ _ h => h) hS ?_ ?_
    rotate_left
    · (intro w hSw; go_simp; first | done | with_reducible rfl)
    simp only [Act.put, List.setIfInBounds_toArray, List.set_cons_zero, List.set_cons_succ]
    refine held_val (i := 1) ?_ 27 rfl rfl (by kernel_rfl) (by kernel_rfl) (by kernel_rfl) (by rfl) (fun _ _ _ h => h) hS ?_ ?_
    rotate_left
    · (intro w hSw; go_simp; first | done | with_reducible rfl)
    simp only [Act.put, List.setIfInBounds_toArray, List.set_cons_zero, List.set_cons_succ]
    refine held_val (i := 2) ?_ 28 rfl rfl (by kernel_rfl) (by kernel_rfl) (by kernel_rfl) (by rfl) (fun _ _ _ h => h) hS ?_ ?_
    rotate_left
    · (intro w hSw; go_simp; first | done | with_reducible rfl)
    simp only [Act.put, List.setIfInBounds_toArray, List.set_cons_zero, List.set_cons_succ]
    refine held_val (i := 3) ?_ 29 rfl rfl (by kernel_rfl) (by kernel_rfl) (by kernel_rfl) (by rfl) (fun _ _ _ h => h) hS ?_ ?_
    rotate_left
    · (intro w hSw; obtain ⟨k0, k1, k2, k3, k4, k5⟩ := HX.out w hSw; go_simp; first | done | with_reducible rfl)
    simp only [Act.put, List.setIfInBounds_toArray, List.set_cons_zero, List.set_cons_succ]
    refine held_val (i := 4) ?_ 30 rfl rfl (by kernel_rfl) (by kernel_rfl) (by kernel_rfl) (by rfl) (fun _ _ _ h => h) hS ?_ ?_
    rotate_left
    · (intro w hSw; go_simp; first | done | with_reducible rfl)
    simp only [Act.put, List.setIfInBounds_toArray, List.set_cons_zero, List.set_cons_succ]
    refine held_val (i := 5) ?_ 31 rfl rfl (by kernel_rfl) (by kernel_rfl) (by kernel_rfl) (by rfl) (fun _ _ _ h => h) hS ?_ ?_
    rotate_left
    · (intro w hSw; obtain ⟨k0, k1, k2, k3, k4, k5⟩ := HX.out w hSw; go_simp; first | done | with_reducible rfl)
    simp only [Act.put, List.setIfInBounds_toArray, List.set_cons_zero, List.set_cons_succ]
    refine held_val (i := 6) ?_ 32 rfl rfl (by kernel_rfl) (by kernel_rfl) (by kernel_rfl) (by rfl) (fun _ _ _ h => h) hS ?_ ?_
    rotate_left
    · (intro w hSw; go_simp; first | done | with_reducible rfl)
    simp only [Act.put, List.setIfInBounds_toArray, List.set_cons_zero, List.set_cons_succ]
    refine held_val (i := 7) ?_ 33 rfl rfl (by kernel_rfl) (by kernel_rfl) (by kernel_rfl) (by rfl) (fun _ _ _ h => h) hS ?_ ?_
    rotate_left
    · (intro w hSw; obtain ⟨k0, k1, k2, k3, k4, k5⟩ := HX.out w hSw; go_simp; first | done | with_reducible rfl)
    simp only [Act.put, List.setIfInBounds_toArray, List.set_cons_zero, List.set_cons_succ]
    refine held_val (i := 9) ?_ 35 rfl rfl (by kernel_rfl) (by kernel_rfl) (by kernel_rfl) (by rfl) (fun _ _ _ h => h) hS ?_ ?_
    rotate_left
    · (intro w hSw; go_simp; first | done | with_reducible rfl)
    simp only [Act.put, List.setIfInBounds_toArray, List.set_cons_zero, List.set_cons_succ]
    refine held_val (i := 10) ?_ 36 rfl rfl (by kernel_rfl) (by kernel_rfl) (by kernel_rfl) (by rfl) (fun _ _ _ h => h) hS ?_ ?_
    rotate_left
    · (intro w hSw; go_simp; first | done | with_reducible rfl)
    simp only [Act.put, List.setIfInBounds_toArray, List.set_cons_zero, List.set_cons_succ]
    refine held_val (i := 11) ?_ 37 rfl rfl (by kernel_rfl) (by kernel_rfl) (by kernel_rfl) (by rfl) (fun _ _ _ h => h) hS ?_ ?_
    rotate_left
    · (intro w hSw; go_simp; first | done | with_reducible rfl)
    simp only [Act.put, List.setIfInBounds_toArray, List.set_cons_zero, List.set_cons_succ]
    refine held_val (i := 12) ?_ 38 rfl rfl (by kernel_rfl) (by kernel_rfl) (by kernel_rfl) (by rfl) (fun _ _ _ h => h) hS ?_ ?_
    rotate_left
    · (intro w hSw; obtain ⟨k0, k1, k2, k3, k4, k5⟩ := HX.out w hSw; go_simp; first | done | with_reducible rfl)
    simp only [Act.put, List.setIfInBounds_toArray, List.set_cons_zero, List.set_cons_succ]
    refine held_val (i := 13) ?_ 39 rfl rfl (by kernel_rfl) (by kernel_rfl) (by kernel_rfl) (by rfl) (fun _ _ _ h => h) hS ?_ ?_
    rotate_left
    · (intro w hSw; go_simp; first | done | with_reducible rfl)
    simp only [Act.put, List.setIfInBounds_toArray, List.set_cons_zero, List.set_cons_succ]
    refine held_val (i := 14) ?_ 40 rfl rfl (by kernel_rfl) (by kernel_rfl) (by kernel_rfl) (by rfl) (fun _ _ _ h => h) hS ?_ ?_
    rotate_left
    · (intro w hSw; obtain ⟨k0, k1, k2, k3, k4, k5⟩ := HX.out w hSw; go_simp; first | done | with_reducible rfl)
    simp only [Act.put, List.setIfInBounds_toArray, List.set_cons_zero, List.set_cons_succ]
    refine held_val (i := 15) ?_ 41 rfl rfl (by kernel_rfl) (by kernel_rfl) (by kernel_rfl) (by rfl) (fun _ _ _ h => h) hS ?_ ?_
    rotate_left
    · (intro w hSw; go_simp; first | done | with_reducible rfl)
    simp only [Act.put, List.setIfInBounds_toArray, List.set_cons_zero, List.set_cons_succ]
    refine held_val (i := 16) ?_ 42 rfl rfl (by kernel_rfl) (by kernel_rfl) (by kernel_rfl) (by rfl) (fun _ _ _ h => h) hS ?_ ?_
    rotate_left
    · (intro w hSw; obtain ⟨k0, k1, k2, k3, k4, k5⟩ := HX.out w hSw; go_simp; first | done | with_reducible rfl)
    simp only [Act.put, List.setIfInBounds_toArray, List.set_cons_zero, List.set_cons_succ]
    refine held_val (i := 19) ?_ 45 rfl rfl (by kernel_rfl) (by kernel_rfl) (by kernel_rfl) (by rfl) (fun _ _ _ h => h) hS ?_ ?_
    rotate_left
    · (intro w hSw; go_simp; first | done | with_reducible rfl)
    simp only [Act.put, List.setIfInBounds_toArray, List.set_cons_zero, List.set_cons_succ]
    refine held_val (i := 20) ?_ 46 rfl rfl (by kernel_rfl) (by kernel_rfl) (by kernel_rfl) (by rfl) (fun _ _ _ h => h) hS ?_ ?_
    rotate_left
    · (intro w hSw; obtain ⟨k0, k1, k2, k3, k4, k5⟩ := HX.out w hSw; go_simp; first | done | with_reducible rfl)
    simp only [Act.put, List.setIfInBounds_toArray, List.set_cons_zero, List.set_cons_succ]
    refine held_val (i := 21) (.int .i64 ((2 : Int) ^ o)) 47 rfl rfl (by kernel_rfl) (by kernel_rfl) (by kernel_rfl) (by rfl) (fun _ _ _ h => h) hS ?_ ?_
    · (intro w hSw; go_simp; first | done | with_reducible rfl)
    simp only [Act.put, List.setIfInBounds_toArray, List.set_cons_zero, List.set_cons_succ]
    refine held_call (i := 8) 34 203 #[Tab.tp g, .int .i64 xc, .int .i64 xp] rfl rfl (by kernel_rfl) (by rfl) (by simp [go_sem]) (HF.out _ hS) ?_
    rintro e w8 ⟨rfl, hS8⟩
    refine ⟨_, rfl, hS8, ?_⟩
    have hS8 := hS8
    simp only [Act.put, List.setIfInBounds_toArray, List.set_cons_zero, List.set_cons_succ]
    refine held_call (i := 17) 43 204 #[qp q, .int .i64 xc, .int .i64 xp] rfl rfl (by kernel_rfl) (by rfl) (by simp [go_sem]) (HR.out _ hS8) ?_
    rintro e w17 ⟨rfl, hS17⟩
    refine ⟨_, rfl, hS17, ?_⟩
    have hS17 := hS17
    simp only [Act.put, List.setIfInBounds_toArray, List.set_cons_zero, List.set_cons_succ]
    refine held_val (i := 18) (.int .i64 ((Tab.sub F R : Nat) : Int)) 44 rfl rfl (by kernel_rfl) (by kernel_rfl) (by kernel_rfl) (by rfl) (fun _ _ _ h => h) hS17 ?_ ?_
    · (intro w hSw; go_simp; first | done | with_reducible rfl)
    simp only [Act.put, List.setIfInBounds_toArray, List.set_cons_zero, List.set_cons_succ]
    refine held_val (i := 22) (.int .i64 ((Tab.sub F R ||| 2 ^ o : Nat) : Int)) 48 rfl rfl (by kernel_rfl) (by kernel_rfl) (by kernel_rfl) (by rfl) (fun _ _ _ h => h) hS17 ?_ ?_
    · (intro w hSw; go_simp; first | done | with_reducible rfl)
    simp only [Act.put, List.setIfInBounds_toArray, List.set_cons_zero, List.set_cons_succ]
    refine held_val (i := 23) (.int .i64 ((Tab.sub F R ||| 2 ^ o : Nat) : Int)) 6 rfl rfl (by kernel_rfl) (by kernel_rfl) (by kernel_rfl) (by rfl) (fun _ _ _ h => h) hS17 ?_ ?_
    · (intro w hSw; go_simp; first | done | with_reducible rfl)
    simp only [Act.put, List.setIfInBounds_toArray, List.set_cons_zero, List.set_cons_succ]
    refine wpAnyH_done (by kernel_rfl) ?_ _
    have HZ6 : Hid (Below W.heap.size W w17) := hS17
    clear hS hS8 hS17 hsub hor
    have hw3 : w17.cell? ⟨b, 3, none⟩ = some (.bool true) := (HX.out w17 HZ6.out).2.2.2.2.2
    go_upto_region 5 with fail
    refine wp_region_held (S := fun U => Below W.heap.size W U) (by kernel_rfl) ?_
    have hS : Below W.heap.size W w17.drew := below_step HZ6.out (bel0 w17)
    refine held_val (i := 0) ?_ 51 rfl rfl (by kernel_rfl) (by kernel_rfl) (by kernel_rfl) (by rfl) (fun _ _ _ h => h) hS ?_ ?_
    rotate_left
    · (intro w hSw; go_simp; first | done | with_reducible rfl)
    simp only [Act.put, List.setIfInBounds_toArray, List.set_cons_zero, List.set_cons_succ]
    refine held_val (i := 1) ?_ 52 rfl rfl (by kernel_rfl) (by kernel_rfl) (by kernel_rfl) (by rfl) (fun _ _ _ h => h) hS ?_ ?_
    rotate_left
    · (intro w hSw; go_simp; first | done | with_reducible rfl)
    simp only [Act.put, List.setIfInBounds_toArray, List.set_cons_zero, List.set_cons_succ]
    refine held_val (i := 2) ?_ 53 rfl rfl (by kernel_rfl) (by kernel_rfl) (by kernel_rfl) (by rfl) (fun _ _ _ h => h) hS ?_ ?_
    rotate_left
    · (intro w hSw; obtain ⟨k0, k1, k2, k3, k4, k5⟩ := HX.out w hSw; go_simp; first | done | with_reducible rfl)
    simp only [Act.put, List.setIfInBounds_toArray, List.set_cons_zero, List.set_cons_succ]
    refine held_val (i := 3) (.int .i64 ((2 : Int) ^ o)) 54 rfl rfl (by kernel_rfl) (by kernel_rfl) (by kernel_rfl) (by rfl) (fun _ _ _ h => h) hS ?_ ?_
    · (intro w hSw; go_simp; first | done | with_reducible rfl)
    simp only [Act.put, List.setIfInBounds_toArray, List.set_cons_zero, List.set_cons_succ]
    refine held_val (i := 4) ?_ 4 rfl rfl (by kernel_rfl) (by kernel_rfl) (by kernel_rfl) (by rfl) (fun _ _ _ h => h) hS ?_ ?_
    rotate_left
    · (intro w hSw; go_simp; first | done | with_reducible rfl)
    simp only [Act.put, List.setIfInBounds_toArray, List.set_cons_zero, List.set_cons_succ]
    refine held_val (i := 5) (.int .i64 ((2 : Int) ^ o)) 5 rfl rfl (by kernel_rfl) (by kernel_rfl) (by kernel_rfl) (by rfl) (fun _ _ _ h => h) hS ?_ ?_
    · (intro w hSw; go_simp; first | done | with_reducible rfl)
    simp only [Act.put, List.setIfInBounds_toArray, List.set_cons_zero, List.set_cons_succ]
    refine wpAnyH_done (by kernel_rfl) ?_ _
    go_wp2
    go_ret2
    exact ⟨by rw [HD.out.1, HD.out.2]; simp, by first | exact bel_at hb HBb.out hS | exact bel_to hb HBb.out hS⟩
  cases O
  · refine wp_region_held (S := fun U => Below W.heap.size W U) (by kernel_rfl) ?_
    have hS : Below W.heap.size W W.drew := bel0 W
    refine held_val (i := 0) ?_ 7 rfl rfl (by kernel_rfl) (by kernel_rfl) (by kernel_rfl) (by rfl) (fun _ _ _ h => h) hS ?_ ?_
    rotate_left
    · (intro w hSw; go_simp; first | done | with_reducible rfl)
    simp only [Act.put, List.setIfInBounds_toArray, List.set_cons_zero, List.set_cons_succ]
    refine held_val (i := 1) (.bool true) 8 rfl rfl (by kernel_rfl) (by kernel_rfl) (by kernel_rfl) (by rfl) (fun _ _ _ h => h) hS ?_ ?_
    · (intro w hSw; obtain ⟨k0, k1, k2, k3, k4, k5⟩ := HX.out w hSw; go_simp; first | done | with_reducible rfl)
    simp only [Act.put, List.setIfInBounds_toArray, List.set_cons_zero, List.set_cons_succ]
    refine held_val (i := 2) (.bool true) 9 rfl rfl (by kernel_rfl) (by kernel_rfl) (by kernel_rfl) (by rfl) (fun _ _ _ h => h) hS ?_ ?_
    · (intro w hSw; go_simp; first | done | with_reducible rfl)
    simp only [Act.put, List.setIfInBounds_toArray, List.set_cons_zero, List.set_cons_succ]
    refine held_val (i := 3) ?_ 10 rfl rfl (by kernel_rfl) (by kernel_rfl) (by kernel_rfl) (by rfl) (fun _ _ _ h => h) hS ?_ ?_
    rotate_left
    · (intro w hSw; go_simp; first | done | with_reducible rfl)
    simp only [Act.put, List.setIfInBounds_toArray, List.set_cons_zero, List.set_cons_succ]
    refine held_val (i := 4) ?_ 11 rfl rfl (by kernel_rfl) (by kernel_rfl) (by kernel_rfl) (by rfl) (fun _ _ _ h => h) hS ?_ ?_
    rotate_left
    · (intro w hSw; go_simp; first | done | with_reducible rfl)
    simp only [Act.put, List.setIfInBounds_toArray, List.set_cons_zero, List.set_cons_succ]
    refine held_val (i := 5) ?_ 12 rfl rfl (by kernel_rfl) (by kernel_rfl) (by kernel_rfl) (by rfl) (fun _ _ _ h => h) hS ?_ ?_
    rotate_left
    · (intro w hSw; go_simp; first | done | with_reducible rfl)
    simp only [Act.put, List.setIfInBounds_toArray, List.set_cons_zero, List.set_cons_succ]
    refine held_val (i := 6) ?_ 13 rfl rfl (by kernel_rfl) (by kernel_rfl) (by kernel_rfl) (by rfl) (fun _ _ _ h => h) hS ?_ ?_
    rotate_left
    · (intro w hSw; obtain ⟨k0, k1, k2, k3, k4, k5⟩ := HX.out w hSw; go_simp; first | done | with_reducible rfl)
    simp only [Act.put, List.setIfInBounds_toArray, List.set_cons_zero, List.set_cons_succ]
    refine held_val (i := 7) ?_ 14 rfl rfl (by kernel_rfl) (by kernel_rfl) (by kernel_rfl) (by rfl) (fun _ _ _ h => h) hS ?_ ?_
    rotate_left
    · (intro w hSw; go_simp; first | done | with_reducible rfl)
    simp only [Act.put, List.setIfInBounds_toArray, List.set_cons_zero, List.set_cons_succ]
    refine held_val (i := 8) ?_ 15 rfl rfl (by kernel_rfl) (by kernel_rfl) (by kernel_rfl) (by rfl) (fun _ _ _ h => h) hS ?_ ?_
    rotate_left
    · (intro w hSw; obtain ⟨k0, k1, k2, k3, k4, k5⟩ := HX.out w hSw; go_simp; first | done | with_reducible rfl)
    simp only [Act.put, List.setIfInBounds_toArray, List.set_cons_zero, List.set_cons_succ]
    refine held_val (i := 9) ?_ 16 rfl rfl (by kernel_rfl) (by kernel_rfl) (by kernel_rfl) (by rfl) (fun _ _ _ h => h) hS ?_ ?_
    rotate_left
    · (intro w hSw; go_simp; first | done | with_reducible rfl)
    simp only [Act.put, List.setIfInBounds_toArray, List.set_cons_zero, List.set_cons_succ]
    refine held_val (i := 10) ?_ 17 rfl rfl (by kernel_rfl) (by kernel_rfl) (by kernel_rfl) (by rfl) (fun _ _ _ h => h) hS ?_ ?_
    rotate_left
    · (intro w hSw; obtain ⟨k0, k1, k2, k3, k4, k5⟩ := HX.out w hSw; go_simp; first | done | with_reducible rfl)
    simp only [Act.put, List.setIfInBounds_toArray, List.set_cons_zero, List.set_cons_succ]
    refine held_call (i := 11) 18 201 #[Tab.tp g, .int .i64 xc, .int .i64 xp] rfl rfl (by kernel_rfl) (by rfl) (by simp [go_sem]) (HA.out _ hS) ?_
    rintro e w11 ⟨rfl, hS11⟩
    refine ⟨_, rfl, hS11, ?_⟩
    have hS11 := hS11
    simp only [Act.put, List.setIfInBounds_toArray, List.set_cons_zero, List.set_cons_succ]
    refine held_val (i := 12) (.bool true) 19 rfl rfl (by kernel_rfl) (by kernel_rfl) (by kernel_rfl) (by rfl) (fun _ _ _ h => h) hS11 ?_ ?_
    · (intro w hSw; go_simp; first | done | with_reducible rfl)
    simp only [Act.put, List.setIfInBounds_toArray, List.set_cons_zero, List.set_cons_succ]
    refine held_val (i := 13) (.bool true) 20 rfl rfl (by kernel_rfl) (by kernel_rfl) (by kernel_rfl) (by rfl) (fun _ _ _ h => h) hS11 ?_ ?_
    · (intro w hSw; go_simp; first | done | with_reducible rfl)
    simp only [Act.put, List.setIfInBounds_toArray, List.set_cons_zero, List.set_cons_succ]
    refine held_val (i := 14) ?_ 21 rfl rfl (by kernel_rfl) (by kernel_rfl) (by kernel_rfl) (by rfl) (fun _ _ _ h => h) hS11 ?_ ?_
    rotate_left
    · (intro w hSw; go_simp; first | done | with_reducible rfl)
    simp only [Act.put, List.setIfInBounds_toArray, List.set_cons_zero, List.set_cons_succ]
    refine held_val (i := 15) ?_ 22 rfl rfl (by kernel_rfl) (by kernel_rfl) (by kernel_rfl) (by rfl) (fun _ _ _ h => h) hS11 ?_ ?_
    rotate_left
    · (intro w hSw; obtain ⟨k0, k1, k2, k3, k4, k5⟩ := HX.out w hSw; go_simp; first | done | with_reducible rfl)
    simp only [Act.put, List.setIfInBounds_toArray, List.set_cons_zero, List.set_cons_succ]
    refine held_call (i := 16) 23 202 #[dp d, .agg #[.int .i64 xc, .int .i64 xp, .int .i64 (o : Int), .bool true]] rfl rfl (by kernel_rfl) (by rfl) (by simp [go_sem]) (HO.out _ hS11) ?_
    rintro e w16 ⟨rfl, hS16⟩
    refine ⟨_, rfl, hS16, ?_⟩
    have hS16 := hS16
    simp only [Act.put, List.setIfInBounds_toArray, List.set_cons_zero, List.set_cons_succ]
    refine held_val (i := 17) (.bool true) 24 rfl rfl (by kernel_rfl) (by kernel_rfl) (by kernel_rfl) (by rfl) (fun _ _ _ h => h) hS16 ?_ ?_
    · (intro w hSw; go_simp; first | done | with_reducible rfl)
    simp only [Act.put, List.setIfInBounds_toArray, List.set_cons_zero, List.set_cons_succ]
    refine held_val (i := 18) (.bool true) 25 rfl rfl (by kernel_rfl) (by kernel_rfl) (by kernel_rfl) (by rfl) (fun _ _ _ h => h) hS16 ?_ ?_
    · (intro w hSw; go_simp; first | done | with_reducible rfl)
    simp only [Act.put, List.setIfInBounds_toArray, List.set_cons_zero, List.set_cons_succ]
    refine wpAnyH_done (by kernel_rfl) ?_ _
    have HZ : Hid (Below W.heap.size W w16) := hS16
    clear hS hS11 hS16 hsub hor
    go_wp2
    go_ret2
    exact ⟨by rw [HD.out.1, HD.out.2]; rfl, by first | exact bel_at hb HBb.out HZ.out | exact bel_to hb HBb.out HZ.out⟩
  · refine wp_region_held (S := fun U => Below W.heap.size W U) (by kernel_rfl) ?_
    have hS : Below W.heap.size W W.drew := bel0 W
    refine held_val (i := 0) ?_ 7 rfl rfl (by kernel_rfl) (by kernel_rfl) (by kernel_rfl) (by rfl) (fun _ _ _ h => h) hS ?_ ?_
    rotate_left
    · (intro w hSw; go_simp; first | done | with_reducible rfl)
    simp only [Act.put, List.setIfInBounds_toArray, List.set_cons_zero, List.set_cons_succ]
    refine held_val (i := 1) (.bool true) 8 rfl rfl (by kernel_rfl) (by kernel_rfl) (by kernel_rfl) (by rfl) (fun _ _ _ h => h) hS ?_ ?_
    · (intro w hSw; obtain ⟨k0, k1, k2, k3, k4, k5⟩ := HX.out w hSw; go_simp; first | done | with_reducible rfl)
    simp only [Act.put, List.setIfInBounds_toArray, List.set_cons_zero, List.set_cons_succ]
    refine held_val (i := 2) (.bool true) 9 rfl rfl (by kernel_rfl) (by kernel_rfl) (by kernel_rfl) (by rfl) (fun _ _ _ h => h) hS ?_ ?_
    · (intro w hSw; go_simp; first | done | with_reducible rfl)
    simp only [Act.put, List.setIfInBounds_toArray, List.set_cons_zero, List.set_cons_succ]
    refine held_val (i := 3) ?_ 10 rfl rfl (by kernel_rfl) (by kernel_rfl) (by kernel_rfl) (by rfl) (fun _ _ _ h => h) hS ?_ ?_
    rotate_left
    · (intro w hSw; go_simp; first | done | with_reducible rfl)
    simp only [Act.put, List.setIfInBounds_toArray, List.set_cons_zero, List.set_cons_succ]
    refine held_val (i := 4) ?_ 11 rfl rfl (by kernel_rfl) (by kernel_rfl) (by kernel_rfl) (by rfl) (fun _ _ _ h => h) hS ?_ ?_
    rotate_left
    · (intro w hSw; go_simp; first | done | with_reducible rfl)
    simp only [Act.put, List.setIfInBounds_toArray, List.set_cons_zero, List.set_cons_succ]
    refine held_val (i := 5) ?_ 12 rfl rfl (by kernel_rfl) (by kernel_rfl) (by kernel_rfl) (by rfl) (fun _ _ _ h => h) hS ?_ ?_
    rotate_left
    · (intro w hSw; go_simp; first | done | with_reducible rfl)
    simp only [Act.put, List.setIfInBounds_toArray, List.set_cons_zero, List.set_cons_succ]
    refine held_val (i := 6) ?_ 13 rfl rfl (by kernel_rfl) (by kernel_rfl) (by kernel_rfl) (by rfl) (fun _ _ _ h => h) hS ?_ ?_
    rotate_left
    · (intro w hSw; obtain ⟨k0, k1, k2, k3, k4, k5⟩ := HX.out w hSw; go_simp; first | done | with_reducible rfl)
    simp only [Act.put, List.setIfInBounds_toArray, List.set_cons_zero, List.set_cons_succ]
    refine held_val (i := 7) ?_ 14 rfl rfl (by kernel_rfl) (by kernel_rfl) (by kernel_rfl) (by rfl) (fun _ _ _ h => h) hS ?_ ?_
    rotate_left
    · (intro w hSw; go_simp; first | done | with_reducible rfl)
    simp only [Act.put, List.setIfInBounds_toArray, List.set_cons_zero, List.set_cons_succ]
    refine held_val (i := 8) ?_ 15 rfl rfl (by kernel_rfl) (by kernel_rfl) (by kernel_rfl) (by rfl) (fun _ _ _ h => h) hS ?_ ?_
    rotate_left
    · (intro w hSw; obtain ⟨k0, k1, k2, k3, k4, k5⟩ := HX.out w hSw; go_simp; first | done | with_reducible rfl)
    simp only [Act.put, List.setIfInBounds_toArray, List.set_cons_zero, List.set_cons_succ]
    refine held_val (i := 9) ?_ 16 rfl rfl (by kernel_rfl) (by kernel_rfl) (by kernel_rfl) (by rfl) (fun _ _ _ h => h) hS ?_ ?_
    rotate_left
    · (intro w hSw; go_simp; first | done | with_reducible rfl)
    simp only [Act.put, List.setIfInBounds_toArray, List.set_cons_zero, List.set_cons_succ]
    refine held_val (i := 10) ?_ 17 rfl rfl (by kernel_rfl) (by kernel_rfl) (by kernel_rfl) (by rfl) (fun _ _ _ h => h) hS ?_ ?_
    rotate_left
    · (intro w hSw; obtain ⟨k0, k1, k2, k3, k4, k5⟩ := HX.out w hSw; go_simp; first | done | with_reducible rfl)
    simp only [Act.put, List.setIfInBounds_toArray, List.set_cons_zero, List.set_cons_succ]
    refine held_call (i := 11) 18 201 #[Tab.tp g, .int .i64 xc, .int .i64 xp] rfl rfl (by kernel_rfl) (by rfl) (by simp [go_sem]) (HA.out _ hS) ?_
    rintro e w11 ⟨rfl, hS11⟩
    refine ⟨_, rfl, hS11, ?_⟩
    have hS11 := hS11
    simp only [Act.put, List.setIfInBounds_toArray, List.set_cons_zero, List.set_cons_succ]
    refine held_val (i := 12) (.bool true) 19 rfl rfl (by kernel_rfl) (by kernel_rfl) (by kernel_rfl) (by rfl) (fun _ _ _ h => h) hS11 ?_ ?_
    · (intro w hSw; go_simp; first | done | with_reducible rfl)
    simp only [Act.put, List.setIfInBounds_toArray, List.set_cons_zero, List.set_cons_succ]
    refine held_val (i := 13) (.bool true) 20 rfl rfl (by kernel_rfl) (by kernel_rfl) (by kernel_rfl) (by rfl) (fun _ _ _ h => h) hS11 ?_ ?_
    · (intro w hSw; go_simp; first | done | with_reducible rfl)
    simp only [Act.put, List.setIfInBounds_toArray, List.set_cons_zero, List.set_cons_succ]
    refine held_val (i := 14) ?_ 21 rfl rfl (by kernel_rfl) (by kernel_rfl) (by kernel_rfl) (by rfl) (fun _ _ _ h => h) hS11 ?_ ?_
    rotate_left
    · (intro w hSw; go_simp; first | done | with_reducible rfl)
    simp only [Act.put, List.setIfInBounds_toArray, List.set_cons_zero, List.set_cons_succ]
    refine held_val (i := 15) ?_ 22 rfl rfl (by kernel_rfl) (by kernel_rfl) (by kernel_rfl) (by rfl) (fun _ _ _ h => h) hS11 ?_ ?_
    rotate_left
    · (intro w hSw; obtain ⟨k0, k1, k2, k3, k4, k5⟩ := HX.out w hSw; go_simp; first | done | with_reducible rfl)
    simp only [Act.put, List.setIfInBounds_toArray, List.set_cons_zero, List.set_cons_succ]
    refine held_call (i := 16) 23 202 #[dp d, .agg #[.int .i64 xc, .int .i64 xp, .int .i64 (o : Int), .bool true]] rfl rfl (by kernel_rfl) (by rfl) (by simp [go_sem]) (HO.out _ hS11) ?_
    rintro e w16 ⟨rfl, hS16⟩
    refine ⟨_, rfl, hS16, ?_⟩
    have hS16 := hS16
    simp only [Act.put, List.setIfInBounds_toArray, List.set_cons_zero, List.set_cons_succ]
    refine held_val (i := 17) (.bool false) 24 rfl rfl (by kernel_rfl) (by kernel_rfl) (by kernel_rfl) (by rfl) (fun _ _ _ h => h) hS16 ?_ ?_
    · (intro w hSw; go_simp; first | done | with_reducible rfl)
    simp only [Act.put, List.setIfInBounds_toArray, List.set_cons_zero, List.set_cons_succ]
    refine held_val (i := 18) (.bool false) 25 rfl rfl (by kernel_rfl) (by kernel_rfl) (by kernel_rfl) (by rfl) (fun _ _ _ h => h) hS16 ?_ ?_
    · (intro w hSw; go_simp; first | done | with_reducible rfl)
    simp only [Act.put, List.setIfInBounds_toArray, List.set_cons_zero, List.set_cons_succ]
    refine wpAnyH_done (by kernel_rfl) ?_ _
    have hW5 := hS16
    clear hS hS11 hS16
    generalize w16 = W5 at *
    have HZ : Hid (Below W.heap.size W W5) := hW5
    clear hW5
    go_upto_region 3 with fail
    refine wp_region_held (S := fun U => Below W.heap.size W U) (by kernel_rfl) ?_
    have hS : Below W.heap.size W W5.drew := below_step HZ.out (bel0 W5)
    refine held_val (i := 0) ?_ 26 rfl rfl (by kernel_rfl) (by kernel_rfl) (by kernel_rfl) (by rfl) (fun _ _ _ h => h) hS ?_ ?_
    rotate_left
    · (intro w hSw; go_simp; first | done | with_reducible rfl)
    simp only [Act.put, List.setIfInBounds_toArray, List.set_cons_zero, List.set_cons_succ]
    refine held_val (i := 1) ?_ 27 rfl rfl (by kernel_rfl) (by kernel_rfl) (by kernel_rfl) (by rfl) (fun _ _ _ h => h) hS ?_ ?_
    rotate_left
    · (intro w hSw; go_simp; first | done | with_reducible rfl)
    simp only [Act.put, List.setIfInBounds_toArray, List.set_cons_zero, List.set_cons_succ]
    refine held_val (i := 2) ?_ 28 rfl rfl (by kernel_rfl) (by kernel_rfl) (by kernel_rfl) (by rfl) (fun _ _ _ h => h) hS ?_ ?_
    rotate_left
    · (intro w hSw; go_simp; first | done | with_reducible rfl)
    simp only [Act.put, List.setIfInBounds_toArray, List.set_cons_zero, List.set_cons_succ]
    refine held_val (i := 3) ?_ 29 rfl rfl (by kernel_rfl) (by kernel_rfl) (by kernel_rfl) (by rfl) (fun _ _ _ h => h) hS ?_ ?_
    rotate_left
    · (intro w hSw; obtain ⟨k0, k1, k2, k3, k4, k5⟩ := HX.out w hSw; go_simp; first | done | with_reducible rfl)
    simp only [Act.put, List.setIfInBounds_toArray, List.set_cons_zero, List.set_cons_succ]
    refine held_val (i := 4) ?_ 30 rfl rfl (by kernel_rfl) (by kernel_rfl) (by kernel_rfl) (by rfl) (fun _ _ _ h => h) hS ?_ ?_
    rotate_left
    · (intro w hSw; go_simp; first | done | with_reducible rfl)
    simp only [Act.put, List.setIfInBounds_toArray, List.set_cons_zero, List.set_cons_succ]
    refine held_val (i := 5) ?_ 31 rfl rfl (by kernel_rfl) (by kernel_rfl) (by kernel_rfl) (by rfl) (fun _ _ _ h => h) hS ?_ ?_
    rotate_left
    · (intro w hSw; obtain ⟨k0, k1, k2, k3, k4, k5⟩ := HX.out w hSw; go_simp; first | done | with_reducible rfl)
    simp only [Act.put, List.setIfInBounds_toArray, List.set_cons_zero, List.set_cons_succ]
    refine held_val (i := 6) ?_ 32 rfl rfl (by kernel_rfl) (by kernel_rfl) (by kernel_rfl) (by rfl) (fun _ _ _ h => h) hS ?_ ?_
    rotate_left
    · (intro w hSw; go_simp; first | done | with_reducible rfl)
    simp only [Act.put, List.setIfInBounds_toArray, List.set_cons_zero, List.set_cons_succ]
    refine held_val (i := 7) ?_ 33 rfl rfl (by kernel_rfl) (by kernel_rfl) (by kernel_rfl) (by rfl) (fun _ _ _ h => h) hS ?_ ?_
    rotate_left
    · (intro w hSw; obtain ⟨k0, k1, k2, k3, k4, k5⟩ := HX.out w hSw; go_simp; first | done | with_reducible rfl)
    simp only [Act.put, List.setIfInBounds_toArray, List.set_cons_zero, List.set_cons_succ]
    refine held_val (i := 9) ?_ 35 rfl rfl (by kernel_rfl) (by kernel_rfl) (by kernel_rfl) (by rfl) (fun _ _ _ h => h) hS ?_ ?_
    rotate_left
    · (intro w hSw; go_simp; first | done | with_reducible rfl)
    simp only [Act.put, List.setIfInBounds_toArray, List.set_cons_zero, List.set_cons_succ]
    refine held_val (i := 10) ?_ 36 rfl rfl (by kernel_rfl) (by kernel_rfl) (by kernel_rfl) (by rfl) (fun _ _ _ h => h) hS ?_ ?_
    rotate_left
    · (intro w hSw; go_simp; first | done | with_reducible rfl)
    simp only [Act.put, List.setIfInBounds_toArray, List.set_cons_zero, List.set_cons_succ]
    refine held_val (i := 11) ?_ 37 rfl rfl (by kernel_rfl) (by kernel_rfl) (by kernel_rfl) (by rfl) (fun _ _ _ h => h) hS ?_ ?_
    rotate_left
    · (intro w hSw; go_simp; first | done | with_reducible rfl)
    simp only [Act.put, List.setIfInBounds_toArray, List.set_cons_zero, List.set_cons_succ]
    refine held_val (i := 12) ?_ 38 rfl rfl (by kernel_rfl) (by kernel_rfl) (by kernel_rfl) (by rfl) (fun _ _ _ h => h) hS ?_ ?_
    rotate_left
    · (intro w hSw; obtain ⟨k0, k1, k2, k3, k4, k5⟩ := HX.out w hSw; go_simp; first | done | with_reducible rfl)
    simp only [Act.put, List.setIfInBounds_toArray, List.set_cons_zero, List.set_cons_succ]
    refine held_val (i := 13) ?_ 39 rfl rfl (by kernel_rfl) (by kernel_rfl) (by kernel_rfl) (by rfl) (fun _ _ _ h => h) hS ?_ ?_
    rotate_left
    · (intro w hSw; go_simp; first | done | with_reducible rfl)
    simp only [Act.put, List.setIfInBounds_toArray, List.set_cons_zero, List.set_cons_succ]
    refine held_val (i := 14) ?_ 40 rfl rfl (by kernel_rfl) (by kernel_rfl) (by kernel_rfl) (by rfl) (fun _ _ _ h => h) hS ?_ ?_
    rotate_left
    · (intro w hSw; obtain ⟨k0, k1, k2, k3, k4, k5⟩ := HX.out w hSw; go_simp; first | done | with_reducible rfl)
    simp only [Act.put, List.setIfInBounds_toArray, List.set_cons_zero, List.set_cons_succ]
    refine held_val (i := 15) ?_ 41 rfl rfl (by kernel_rfl) (by kernel_rfl) (by kernel_rfl) (by rfl) (fun _ _ _ h => h) hS ?_ ?_
    rotate_left
    · (intro w hSw; go_simp; first | done | with_reducible rfl)
    simp only [Act.put, List.setIfInBounds_toArray, List.set_cons_zero, List.set_cons_succ]
    refine held_val (i := 16) ?_ 42 rfl rfl (by kernel_rfl) (by kernel_rfl) (by kernel_rfl) (by rfl) (fun _ _ _ h => h) hS ?_ ?_
    rotate_left
    · (intro w hSw; obtain ⟨k0, k1, k2, k3, k4, k5⟩ := HX.out w hSw; go_simp; first | done | with_reducible rfl)
    simp only [Act.put, List.setIfInBounds_toArray, List.set_cons_zero, List.set_cons_succ]
    refine held_val (i := 19) ?_ 45 rfl rfl (by kernel_rfl) (by kernel_rfl) (by kernel_rfl) (by rfl) (fun _ _ _ h => h) hS ?_ ?_
    rotate_left
    · (intro w hSw; go_simp; first | done | with_reducible rfl)
    simp only [Act.put, List.setIfInBounds_toArray, List.set_cons_zero, List.set_cons_succ]
    refine held_val (i := 20) ?_ 46 rfl rfl (by kernel_rfl) (by kernel_rfl) (by kernel_rfl) (by rfl) (fun _ _ _ h => h) hS ?_ ?_
    rotate_left
    · (intro w hSw; obtain ⟨k0, k1, k2, k3, k4, k5⟩ := HX.out w hSw; go_simp; first | done | with_reducible rfl)
    simp only [Act.put, List.setIfInBounds_toArray, List.set_cons_zero, List.set_cons_succ]
    refine held_val (i := 21) (.int .i64 ((2 : Int) ^ o)) 47 rfl rfl (by kernel_rfl) (by kernel_rfl) (by kernel_rfl) (by rfl) (fun _ _ _ h => h) hS ?_ ?_
    · (intro w hSw; go_simp; first | done | with_reducible rfl)
    simp only [Act.put, List.setIfInBounds_toArray, List.set_cons_zero, List.set_cons_succ]
    refine held_call (i := 8) 34 203 #[Tab.tp g, .int .i64 xc, .int .i64 xp] rfl rfl (by kernel_rfl) (by rfl) (by simp [go_sem]) (HF.out _ hS) ?_
    rintro e w8 ⟨rfl, hS8⟩
    refine ⟨_, rfl, hS8, ?_⟩
    have hS8 := hS8
    simp only [Act.put, List.setIfInBounds_toArray, List.set_cons_zero, List.set_cons_succ]
    refine held_call (i := 17) 43 204 #[qp q, .int .i64 xc, .int .i64 xp] rfl rfl (by kernel_rfl) (by rfl) (by simp [go_sem]) (HR.out _ hS8) ?_
    rintro e w17 ⟨rfl, hS17⟩
    refine ⟨_, rfl, hS17, ?_⟩
    have hS17 := hS17
    simp only [Act.put, List.setIfInBounds_toArray, List.set_cons_zero, List.set_cons_succ]
    refine held_val (i := 18) (.int .i64 ((Tab.sub F R : Nat) : Int)) 44 rfl rfl (by kernel_rfl) (by kernel_rfl) (by kernel_rfl) (by rfl) (fun _ _ _ h => h) hS17 ?_ ?_
    · (intro w hSw; go_simp; first | done | with_reducible rfl)
    simp only [Act.put, List.setIfInBounds_toArray, List.set_cons_zero, List.set_cons_succ]
    refine held_val (i := 22) (.int .i64 ((Tab.sub F R ||| 2 ^ o : Nat) : Int)) 48 rfl rfl (by kernel_rfl) (by kernel_rfl) (by kernel_rfl) (by rfl) (fun _ _ _ h => h) hS17 ?_ ?_
    · (intro w hSw; go_simp; first | done | with_reducible rfl)
    simp only [Act.put, List.setIfInBounds_toArray, List.set_cons_zero, List.set_cons_succ]
    refine held_val (i := 23) (.int .i64 ((Tab.sub F R ||| 2 ^ o : Nat) : Int)) 6 rfl rfl (by kernel_rfl) (by kernel_rfl) (by kernel_rfl) (by rfl) (fun _ _ _ h => h) hS17 ?_ ?_
    · (intro w hSw; go_simp; first | done | with_reducible rfl)
    simp only [Act.put, List.setIfInBounds_toArray, List.set_cons_zero, List.set_cons_succ]
    refine wpAnyH_done (by kernel_rfl) ?_ _
    have HZ6 : Hid (Below W.heap.size W w17) := hS17
    clear hS hS8 hS17 hsub hor
    have hw3 : w17.cell? ⟨b, 3, none⟩ = some (.bool true) := (HX.out w17 HZ6.out).2.2.2.2.2
    go_upto_region 5 with fail
    refine wp_region_held (S := fun U => Below W.heap.size W U) (by kernel_rfl) ?_
    have hS : Below W.heap.size W w17.drew := below_step HZ6.out (bel0 w17)
    refine held_val (i := 0) ?_ 51 rfl rfl (by kernel_rfl) (by kernel_rfl) (by kernel_rfl) (by rfl) (fun _ _ _ h => h) hS ?_ ?_
    rotate_left
    · (intro w hSw; go_simp; first | done | with_reducible rfl)
    simp only [Act.put, List.setIfInBounds_toArray, List.set_cons_zero, List.set_cons_succ]
    refine held_val (i := 1) ?_ 52 rfl rfl (by kernel_rfl) (by kernel_rfl) (by kernel_rfl) (by rfl) (fun _ _ _ h => h) hS ?_ ?_
    rotate_left
    · (intro w hSw; go_simp; first | done | with_reducible rfl)
    simp only [Act.put, List.setIfInBounds_toArray, List.set_cons_zero, List.set_cons_succ]
    refine held_val (i := 2) ?_ 53 rfl rfl (by kernel_rfl) (by kernel_rfl) (by kernel_rfl) (by rfl) (fun _ _ _ h => h) hS ?_ ?_
    rotate_left
    · (intro w hSw; obtain ⟨k0, k1, k2, k3, k4, k5⟩ := HX.out w hSw; go_simp; first | done | with_reducible rfl)
    simp only [Act.put, List.setIfInBounds_toArray, List.set_cons_zero, List.set_cons_succ]
    refine held_val (i := 3) (.int .i64 ((2 : Int) ^ o)) 54 rfl rfl (by kernel_rfl) (by kernel_rfl) (by kernel_rfl) (by rfl) (fun _ _ _ h => h) hS ?_ ?_
    · (intro w hSw; go_simp; first | done | with_reducible rfl)
    simp only [Act.put, List.setIfInBounds_toArray, List.set_cons_zero, List.set_cons_succ]
    refine held_val (i := 4) ?_ 4 rfl rfl (by kernel_rfl) (by kernel_rfl) (by kernel_rfl) (by rfl) (fun _ _ _ h => h) hS ?_ ?_
    rotate_left
    · (intro w hSw; go_simp; first | done | with_reducible rfl)
    simp only [Act.put, List.setIfInBounds_toArray, List.set_cons_zero, List.set_cons_succ]
    refine held_val (i := 5) (.int .i64 ((2 : Int) ^ o)) 5 rfl rfl (by kernel_rfl) (by kernel_rfl) (by kernel_rfl) (by rfl) (fun _ _ _ h => h) hS ?_ ?_
    · (intro w hSw; go_simp; first | done | with_reducible rfl)
    simp only [Act.put, List.setIfInBounds_toArray, List.set_cons_zero, List.set_cons_succ]
    refine wpAnyH_done (by kernel_rfl) ?_ _
    go_wp2
    go_ret2
    exact ⟨by rw [HD.out.1, HD.out.2]; simp, by first | exact bel_at hb HBb.out hS | exact bel_to hb HBb.out hS⟩

end Go.Proofs.YtpofihiojhbfgaaGreatDoor.Dsk
