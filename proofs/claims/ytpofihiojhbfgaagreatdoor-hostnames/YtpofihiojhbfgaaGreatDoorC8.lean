/- give of package desk, walked. call of package desk, walked. -/
import Derived.Test.YtpofihiojhbfgaaGreatDoorD2
import Derived.Laws.Tables
namespace Go.Proofs.YtpofihiojhbfgaaGreatDoor.Dsk
open Go.RowKit Go.Maps
set_option linter.unusedVariables false
set_option maxRecDepth 8000

theorem wp_store_row {P : Program} {op : Oper} {a : Act} {w : World} {K : Act → World → Prop} {Q : Exit → Act → World → Prop} (ty : TypeId) (x y : Operand) (ho : op.op = .store ty x y)
    (b : Nat) (old cells : Array Value) (hx : a.eval x = .pointer (some ⟨b, 0, none⟩)) (hy : a.eval y = .agg cells)
    (hg : w.heap[b]? = some (.cells old ty (0, 0))) (hi : (P.info? ty).map (·.size) = some cells.size) (hs : old.size = cells.size) (h1 : cells.all (·.oneCell') = true)
    (h : K (a.put op.dst undef) (w.setRow b cells)) : op.wp P a w K Q := by
  unfold Oper.wp execOp
  simp only [ho, hx, hy, Instr.storeAt, Instr.sureAddr, Sem.run_bind, Sem.run_pure, Result.andThen_ok, run_storeVar_row w b ty ty old cells hg hi hs h1]
  exact h

def Bx (d g q b : Nat) (x : Wt) (U : World) : Prop := U.cell? ⟨d, 0, none⟩ = some (Tab.tp g) ∧ U.cell? ⟨d, 1, none⟩ = some (qp q) ∧ U.cell? ⟨b, 0, none⟩ = some (.int .i64 x.c) ∧ U.cell? ⟨b, 1, none⟩ = some (.int .i64 x.p) ∧ U.cell? ⟨b, 2, none⟩ = some (.int .i64 x.o) ∧ U.cell? ⟨b, 3, none⟩ = some (.bool x.wr)
section
variable {B : Nat} {V V1 : Nat → Prop} {w W W8 W9 U : World} {d g q b : Nat} {S S0 : St} {n n0 : Nat} {x : Wt}
theorem Dk.bx (h : Dk B V U d g q S n) (hb : U.heap[b]? = some (wtO x)) : Bx d g q b x U :=
  ⟨h.c0, h.c1, wt_cells hb (Below.refl _ _)⟩
theorem Dx.bx (h : Dx B V W U d g q S n) (hb : W.heap[b]? = some (wtO x)) (hv : V b) : Bx d g q b x U := h.dk.bx ((h.keep b hv).trans hb)
theorem Dx.close (h : Dx B V1 W W8 d g q S n) (hsub : ∀ k, V k → V1 k) (hW : Below w.heap.size w W) (hV : ∀ k, V k → k < w.heap.size) (hB : B ≤ w.heap.size) (hb9 : Below w.heap.size W8 W9) (hk : ∀ k, k < W8.heap.size → ¬ V1 k → W9.heap[k]? = W8.heap[k]?) : Dx B V w W9 d g q S n :=
  ⟨h.dk.move hb9.size hk fun k hk => .inl (hsub k hk), fun k hk => (hb9.block k (hV k hk)).trans ((h.keep k (hsub k hk)).trans (hW.block k (hV k hk))), ((hW.mono hB).trans h.bel).trans (hb9.mono hB)⟩
theorem Dx.more (h : Dx B V W W8 d g q S n) (hV : ∀ k, V k → k < W.heap.size) (hb : Below W8.heap.size W8 W9) : Dx B V W W9 d g q S n :=
  h.trans (h.dk.dx hb fun k hk => Nat.lt_of_lt_of_le (hV k hk) h.size)
end

set_option maxHeartbeats 6400000 in
theorem give_any {B : Nat} {V : Nat → Prop} {w : World} {d g q : Nat} {S : St} {n : Nat} (H : Dk B V w d g q S n) (hV : ∀ k, V k → k < w.heap.size) (x : Wt) (hx : Rt x) : Calls Tryz.prog 174 #[dp d, wtV x] w fun e w' => e = .returned (saV (givA S x)) ∧ Dx B V w w' d g q (givS S x) n := by
  have hbA : Below w.heap.size w ((w.alloc (wtO x)).alloc (saO ⟨0, 0, 0, 0, 0, 0, false⟩)) := ((Below.refl _ _).alloc (Nat.le_refl _) _).alloc (by simp) _
  obtain ⟨V1, hV1⟩ : ∃ V1 : Nat → Prop, V1 = fun k => V k ∨ k = w.heap.size ∨ k = w.heap.size + 1 := ⟨_, rfl⟩
  have HW : Hid (Dk B V1 ((w.alloc (wtO x)).alloc (saO ⟨0, 0, 0, 0, 0, 0, false⟩)) d g q S n) := H.more hbA (by
    subst hV1
    rintro k (h | h | h)
    · exact .inl h
    · exact .inr (by omega)
    · exact .inr (by omega))
  have HV : Hid ((∀ k, V k → V1 k) ∧ V1 w.heap.size ∧ V1 (w.heap.size + 1) ∧ (∀ k, V1 k → k < ((w.alloc (wtO x)).alloc (saO ⟨0, 0, 0, 0, 0, 0, false⟩)).heap.size)) := by
    subst hV1
    refine ⟨fun k h => .inl h, .inr (.inl rfl), .inr (.inr rfl), ?_⟩
    rintro k (h | h | h)
    · have := hV k h; simp; omega
    · simp; omega
    · simp; omega
  have HB : Hid (Below w.heap.size w ((w.alloc (wtO x)).alloc (saO ⟨0, 0, 0, 0, 0, 0, false⟩)) ∧ B ≤ w.heap.size ∧ (∀ k, V k → k < w.heap.size)) := ⟨hbA, H.hB, hV⟩
  have h1 := heap_alloc_new (w.alloc (wtO x)) (saO ⟨0, 0, 0, 0, 0, 0, false⟩)
  rw [show (w.alloc (wtO x)).heap.size = w.heap.size + 1 from by simp] at h1
  have h0 : ((w.alloc (wtO x)).alloc (saO ⟨0, 0, 0, 0, 0, 0, false⟩)).heap[w.heap.size]? = some (wtO x) := (((Below.refl _ _).alloc (Nat.le_refl _) _ : Below (w.alloc (wtO x)).heap.size (w.alloc (wtO x)) _).block _ (by simp)).trans (heap_alloc_new w (wtO x))
  have HM : Hid (((w.alloc (wtO x)).alloc (saO ⟨0, 0, 0, 0, 0, 0, false⟩)).heap[w.heap.size]? = some (wtO x) ∧ ((w.alloc (wtO x)).alloc (saO ⟨0, 0, 0, 0, 0, 0, false⟩)).heap[w.heap.size + 1]? = some (saO ⟨0, 0, 0, 0, 0, 0, false⟩)) := ⟨h0, h1⟩
  clear h0 h1 hbA hV1 H hV
  go_enter Tryz.func174, Tryz.ntmps174
  go_upto_region 1 with fail
  obtain ⟨b, hb⟩ : ∃ b, w.heap.size = b := ⟨_, rfl⟩
  rw [hb] at HM HV ⊢
  have HBb : Hid (w.heap.size = b) := hb
  clear hb
  show Code.wp _ _ _ _ ((w.alloc (wtO x)).alloc (saO ⟨0, 0, 0, 0, 0, 0, false⟩))
  generalize (w.alloc (wtO x)).alloc (saO ⟨0, 0, 0, 0, 0, 0, false⟩) = W at *
  have HC1 : Hid (Calls Tryz.prog 109 #[qp q, .int .i64 x.c] W.drew fun e w' => e = .returned (.bool (hasB S.L x.c)) ∧ Bx d g q b x w' ∧ Hid (Dx B V1 W w' d g q (outS S x.c) n)) := by
    refine (removeK (HW.out.below (bel0 W)) HV.out.2.2.2 x.c).mono ?_
    rintro e w' ⟨rfl, h⟩
    have h' : Dx B V1 W w' d g q (outS S x.c) n := (HW.out.dx (bel0 W) HV.out.2.2.2).trans h
    exact ⟨rfl, h'.bx HM.out.1 HV.out.2.1, h'⟩
  refine wp_region_held (S := Bx d g q b x) (by kernel_rfl) ?_
  have hS : Bx d g q b x W.drew := (HW.out.below (bel0 W)).bx HM.out.1
  refine held_val (i := 0) ?_ 7 rfl rfl (by kernel_rfl) (by kernel_rfl) (by kernel_rfl) (by rfl) (fun _ _ _ h => h) hS ?_ ?_
  rotate_left
  · (intro w hSw; go_simp; first | done | with_reducible rfl)
  simp only [Act.put, List.setIfInBounds_toArray, List.set_cons_zero, List.set_cons_succ]
  refine held_val (i := 1) ?_ 8 rfl rfl (by kernel_rfl) (by kernel_rfl) (by kernel_rfl) (by rfl) (fun _ _ _ h => h) hS ?_ ?_
  rotate_left
  · (intro w hSw; go_simp; first | done | with_reducible rfl)
  simp only [Act.put, List.setIfInBounds_toArray, List.set_cons_zero, List.set_cons_succ]
  refine held_val (i := 2) ?_ 9 rfl rfl (by kernel_rfl) (by kernel_rfl) (by kernel_rfl) (by rfl) (fun _ _ _ h => h) hS ?_ ?_
  rotate_left
  · (intro w hSw; go_simp; first | done | with_reducible rfl)
  simp only [Act.put, List.setIfInBounds_toArray, List.set_cons_zero, List.set_cons_succ]
  refine held_val (i := 3) ?_ 10 rfl rfl (by kernel_rfl) (by kernel_rfl) (by kernel_rfl) (by rfl) (fun _ _ _ h => h) hS ?_ ?_
  rotate_left
  · (intro w hSw; obtain ⟨k0, k1, k2, k3, k4, k5⟩ := hSw; go_simp; first | done | with_reducible rfl)
  simp only [Act.put, List.setIfInBounds_toArray, List.set_cons_zero, List.set_cons_succ]
  refine held_val (i := 4) ?_ 11 rfl rfl (by kernel_rfl) (by kernel_rfl) (by kernel_rfl) (by rfl) (fun _ _ _ h => h) hS ?_ ?_
  rotate_left
  · (intro w hSw; go_simp; first | done | with_reducible rfl)
  simp only [Act.put, List.setIfInBounds_toArray, List.set_cons_zero, List.set_cons_succ]
  refine held_val (i := 5) ?_ 12 rfl rfl (by kernel_rfl) (by kernel_rfl) (by kernel_rfl) (by rfl) (fun _ _ _ h => h) hS ?_ ?_
  rotate_left
  · (intro w hSw; obtain ⟨k0, k1, k2, k3, k4, k5⟩ := hSw; go_simp; first | done | with_reducible rfl)
  simp only [Act.put, List.setIfInBounds_toArray, List.set_cons_zero, List.set_cons_succ]
  refine held_call (i := 6) 13 109 #[qp q, .int .i64 x.c] rfl rfl (by kernel_rfl) (by rfl) (by simp [go_sem]) HC1.out ?_
  rintro e w6 ⟨rfl, hS6, HD6⟩
  refine ⟨_, rfl, hS6, ?_⟩
  have hS6 := hS6
  simp only [Act.put, List.setIfInBounds_toArray, List.set_cons_zero, List.set_cons_succ]
  refine wpAnyH_done (by kernel_rfl) ?_ _
  clear hS hS6 HC1
  have HDue : Hid (Calls Tryz.prog 190 #[dp d, wtV x] w6 fun e w' => e = .returned (.tuple #[.int .i64 ((dueC S.T (rmL S.L x.c) x : Nat) : Int), .int .i64 ((dueO S.T (rmL S.L x.c) x : Nat) : Int)]) ∧ Below w6.heap.size w6 w') := due_any HD6.out.dk x hx
  obtain ⟨k0, k1, k2, k3, k4, k5⟩ := HD6.out.bx HM.out.1 HV.out.2.1
  obtain ⟨CC, hCC⟩ : ∃ z, ((dueC S.T (rmL S.L x.c) x : Nat) : Int) = z := ⟨_, rfl⟩
  obtain ⟨OO, hOO⟩ : ∃ z, ((dueO S.T (rmL S.L x.c) x : Nat) : Int) = z := ⟨_, rfl⟩
  have HCO : Hid (((dueC S.T (rmL S.L x.c) x : Nat) : Int) = CC ∧ ((dueO S.T (rmL S.L x.c) x : Nat) : Int) = OO) := ⟨hCC, hOO⟩
  rw [hCC, hOO] at HDue
  clear hCC hOO hS6
  go_upto_region 3 with (first
    | (go_at_call 190; refine HDue.out.mono ?_; rintro e w7 ⟨rfl, hb7⟩)
    | fail)
  have HD7 : Hid (Dx B V1 W w7 d g q (outS S x.c) n) := HD6.out.more HV.out.2.2.2 hb7
  clear hb7 HDue k0 k1 k2 k3 k4 k5 HD6
  have HC3 : Hid (Calls Tryz.prog 191 #[Tab.tp g, .int .i64 x.c, .int .i64 x.p, .int .i64 CC, .int .i64 OO] w7.drew fun e w' => (∃ u, e = .returned (.bool u)) ∧ Bx d g q b x w' ∧ Hid (Dx B V1 W w' d g q (givS S x) n)) := by
    have hVl : ∀ k, V1 k → k < w7.heap.size := fun k hk => Nat.lt_of_lt_of_le (HV.out.2.2.2 k hk) HD7.out.size
    refine (grantK (HD7.out.dk.below (bel0 w7)) hVl x.c x.p CC OO _ rfl).mono ?_
    rintro e w' ⟨rfl, h⟩
    have h' : Dx B V1 W w' d g q (givS S x) n := by
      have h2 := (HD7.out.more HV.out.2.2.2 (bel0 w7)).trans h
      rw [← HCO.out.1, ← HCO.out.2] at h2
      exact h2
    exact ⟨⟨_, rfl⟩, h'.bx HM.out.1 HV.out.2.1, h'⟩
  refine wp_region_held (S := Bx d g q b x) (by kernel_rfl) ?_
  have hS : Bx d g q b x w7.drew := (HD7.out.more HV.out.2.2.2 (bel0 w7)).bx HM.out.1 HV.out.2.1
  refine held_val (i := 0) ?_ 20 rfl rfl (by kernel_rfl) (by kernel_rfl) (by kernel_rfl) (by rfl) (fun _ _ _ h => h) hS ?_ ?_
  rotate_left
  · (intro w hSw; go_simp; first | done | with_reducible rfl)
  simp only [Act.put, List.setIfInBounds_toArray, List.set_cons_zero, List.set_cons_succ]
  refine held_val (i := 1) ?_ 21 rfl rfl (by kernel_rfl) (by kernel_rfl) (by kernel_rfl) (by rfl) (fun _ _ _ h => h) hS ?_ ?_
  rotate_left
  · (intro w hSw; go_simp; first | done | with_reducible rfl)
  simp only [Act.put, List.setIfInBounds_toArray, List.set_cons_zero, List.set_cons_succ]
  refine held_val (i := 2) ?_ 22 rfl rfl (by kernel_rfl) (by kernel_rfl) (by kernel_rfl) (by rfl) (fun _ _ _ h => h) hS ?_ ?_
  rotate_left
  · (intro w hSw; go_simp; first | done | with_reducible rfl)
  simp only [Act.put, List.setIfInBounds_toArray, List.set_cons_zero, List.set_cons_succ]
  refine held_val (i := 3) ?_ 23 rfl rfl (by kernel_rfl) (by kernel_rfl) (by kernel_rfl) (by rfl) (fun _ _ _ h => h) hS ?_ ?_
  rotate_left
  · (intro w hSw; obtain ⟨k0, k1, k2, k3, k4, k5⟩ := hSw; go_simp; first | done | with_reducible rfl)
  simp only [Act.put, List.setIfInBounds_toArray, List.set_cons_zero, List.set_cons_succ]
  refine held_val (i := 4) ?_ 24 rfl rfl (by kernel_rfl) (by kernel_rfl) (by kernel_rfl) (by rfl) (fun _ _ _ h => h) hS ?_ ?_
  rotate_left
  · (intro w hSw; go_simp; first | done | with_reducible rfl)
  simp only [Act.put, List.setIfInBounds_toArray, List.set_cons_zero, List.set_cons_succ]
  refine held_val (i := 5) ?_ 25 rfl rfl (by kernel_rfl) (by kernel_rfl) (by kernel_rfl) (by rfl) (fun _ _ _ h => h) hS ?_ ?_
  rotate_left
  · (intro w hSw; obtain ⟨k0, k1, k2, k3, k4, k5⟩ := hSw; go_simp; first | done | with_reducible rfl)
  simp only [Act.put, List.setIfInBounds_toArray, List.set_cons_zero, List.set_cons_succ]
  refine held_val (i := 6) ?_ 26 rfl rfl (by kernel_rfl) (by kernel_rfl) (by kernel_rfl) (by rfl) (fun _ _ _ h => h) hS ?_ ?_
  rotate_left
  · (intro w hSw; go_simp; first | done | with_reducible rfl)
  simp only [Act.put, List.setIfInBounds_toArray, List.set_cons_zero, List.set_cons_succ]
  refine held_val (i := 7) ?_ 27 rfl rfl (by kernel_rfl) (by kernel_rfl) (by kernel_rfl) (by rfl) (fun _ _ _ h => h) hS ?_ ?_
  rotate_left
  · (intro w hSw; obtain ⟨k0, k1, k2, k3, k4, k5⟩ := hSw; go_simp; first | done | with_reducible rfl)
  simp only [Act.put, List.setIfInBounds_toArray, List.set_cons_zero, List.set_cons_succ]
  refine held_val (i := 8) ?_ 28 rfl rfl (by kernel_rfl) (by kernel_rfl) (by kernel_rfl) (by rfl) (fun _ _ _ h => h) hS ?_ ?_
  rotate_left
  · (intro w hSw; go_simp; first | done | with_reducible rfl)
  simp only [Act.put, List.setIfInBounds_toArray, List.set_cons_zero, List.set_cons_succ]
  refine held_val (i := 9) ?_ 29 rfl rfl (by kernel_rfl) (by kernel_rfl) (by kernel_rfl) (by rfl) (fun _ _ _ h => h) hS ?_ ?_
  rotate_left
  · (intro w hSw; go_simp; first | done | with_reducible rfl)
  simp only [Act.put, List.setIfInBounds_toArray, List.set_cons_zero, List.set_cons_succ]
  refine held_call (i := 10) 30 191 #[Tab.tp g, .int .i64 x.c, .int .i64 x.p, .int .i64 CC, .int .i64 OO] rfl rfl (by kernel_rfl) (by rfl) (by simp [go_sem]) HC3.out ?_
  rintro e w10 ⟨⟨u, rfl⟩, hS10, HD8⟩
  refine ⟨_, rfl, hS10, ?_⟩
  have hS10 := hS10
  simp only [Act.put, List.setIfInBounds_toArray, List.set_cons_zero, List.set_cons_succ]
  refine wpAnyH_done (by kernel_rfl) ?_ _
  clear hS hS10 HC3 HD7
  go_upto_region 4 with fail
  obtain ⟨CP, hCP⟩ : ∃ z, ((Tab.cpI (givS S x).T x.c x.p : Nat) : Int) = z := ⟨_, rfl⟩
  obtain ⟨OW, hOW⟩ : ∃ z, ((Tab.owI (givS S x).T x.c x.p : Nat) : Int) = z := ⟨_, rfl⟩
  have HA : Hid (saV (givA S x) = .agg #[.int .i64 x.c, .int .i64 5, .int .i64 x.p, .int .i64 0, .int .i64 0, .int .i64 CP, .int .i64 OW, .bool false, .slice none 0 0, .complex .f64 0 0, .complex .f64 0 0, .complex .f64 0 0, .complex .f64 0 0]) := by
    show saV (givA S x) = _
    rw [← hCP, ← hOW]
    rfl
  have HC4 : Hid (Calls Tryz.prog 158 #[Tab.tp g, .int .i64 x.c, .int .i64 x.p] w10.drew fun e w' => e = .returned (.int .i64 CP) ∧ w' = w10.drew) := Tab.copies_is _ g _ (HD8.out.dk.below (bel0 w10)).tb x.c x.p CP hCP
  have HC5 : Hid (Calls Tryz.prog 34 #[Tab.tp g, .int .i64 x.c, .int .i64 x.p] w10.drew fun e w' => e = .returned (.int .i64 OW) ∧ w' = w10.drew) := Tab.own_is _ g _ (HD8.out.dk.below (bel0 w10)).tb x.c x.p OW hOW
  clear hCP hOW
  have HS1 : Hid (w10.drew.heap[b + 1]? = some (saO ⟨0, 0, 0, 0, 0, 0, false⟩)) := (HD8.out.keep (b + 1) HV.out.2.2.1).trans HM.out.2
  refine wp_region_held (S := fun U => Bx d g q b x U) (by kernel_rfl) ?_
  have hS : Bx d g q b x w10.drew := (HD8.out.more HV.out.2.2.2 (bel0 w10)).bx HM.out.1 HV.out.2.1
  refine held_val (i := 0) ?_ 31 rfl rfl (by kernel_rfl) (by kernel_rfl) (by kernel_rfl) (by rfl) (fun _ _ _ h => h) hS ?_ ?_
  rotate_left
  · (intro w hSw; go_simp; first | done | with_reducible rfl)
  simp only [Act.put, List.setIfInBounds_toArray, List.set_cons_zero, List.set_cons_succ]
  refine held_val (i := 1) ?_ 32 rfl rfl (by kernel_rfl) (by kernel_rfl) (by kernel_rfl) (by rfl) (fun _ _ _ h => h) hS ?_ ?_
  rotate_left
  · (intro w hSw; obtain ⟨k0, k1, k2, k3, k4, k5⟩ := hSw; go_simp; first | done | with_reducible rfl)
  simp only [Act.put, List.setIfInBounds_toArray, List.set_cons_zero, List.set_cons_succ]
  refine held_val (i := 2) ?_ 33 rfl rfl (by kernel_rfl) (by kernel_rfl) (by kernel_rfl) (by rfl) (fun _ _ _ h => h) hS ?_ ?_
  rotate_left
  · (intro w hSw; go_simp; first | done | with_reducible rfl)
  simp only [Act.put, List.setIfInBounds_toArray, List.set_cons_zero, List.set_cons_succ]
  refine held_val (i := 3) ?_ 34 rfl rfl (by kernel_rfl) (by kernel_rfl) (by kernel_rfl) (by rfl) (fun _ _ _ h => h) hS ?_ ?_
  rotate_left
  · (intro w hSw; obtain ⟨k0, k1, k2, k3, k4, k5⟩ := hSw; go_simp; first | done | with_reducible rfl)
  simp only [Act.put, List.setIfInBounds_toArray, List.set_cons_zero, List.set_cons_succ]
  refine held_val (i := 4) ?_ 35 rfl rfl (by kernel_rfl) (by kernel_rfl) (by kernel_rfl) (by rfl) (fun _ _ _ h => h) hS ?_ ?_
  rotate_left
  · (intro w hSw; go_simp; first | done | with_reducible rfl)
  simp only [Act.put, List.setIfInBounds_toArray, List.set_cons_zero, List.set_cons_succ]
  refine held_val (i := 5) ?_ 36 rfl rfl (by kernel_rfl) (by kernel_rfl) (by kernel_rfl) (by rfl) (fun _ _ _ h => h) hS ?_ ?_
  rotate_left
  · (intro w hSw; go_simp; first | done | with_reducible rfl)
  simp only [Act.put, List.setIfInBounds_toArray, List.set_cons_zero, List.set_cons_succ]
  refine held_val (i := 6) ?_ 37 rfl rfl (by kernel_rfl) (by kernel_rfl) (by kernel_rfl) (by rfl) (fun _ _ _ h => h) hS ?_ ?_
  rotate_left
  · (intro w hSw; go_simp; first | done | with_reducible rfl)
  simp only [Act.put, List.setIfInBounds_toArray, List.set_cons_zero, List.set_cons_succ]
  refine held_val (i := 7) ?_ 38 rfl rfl (by kernel_rfl) (by kernel_rfl) (by kernel_rfl) (by rfl) (fun _ _ _ h => h) hS ?_ ?_
  rotate_left
  · (intro w hSw; obtain ⟨k0, k1, k2, k3, k4, k5⟩ := hSw; go_simp; first | done | with_reducible rfl)
  simp only [Act.put, List.setIfInBounds_toArray, List.set_cons_zero, List.set_cons_succ]
  refine held_val (i := 8) ?_ 39 rfl rfl (by kernel_rfl) (by kernel_rfl) (by kernel_rfl) (by rfl) (fun _ _ _ h => h) hS ?_ ?_
  rotate_left
  · (intro w hSw; go_simp; first | done | with_reducible rfl)
  simp only [Act.put, List.setIfInBounds_toArray, List.set_cons_zero, List.set_cons_succ]
  refine held_val (i := 9) ?_ 40 rfl rfl (by kernel_rfl) (by kernel_rfl) (by kernel_rfl) (by rfl) (fun _ _ _ h => h) hS ?_ ?_
  rotate_left
  · (intro w hSw; obtain ⟨k0, k1, k2, k3, k4, k5⟩ := hSw; go_simp; first | done | with_reducible rfl)
  simp only [Act.put, List.setIfInBounds_toArray, List.set_cons_zero, List.set_cons_succ]
  refine held_val (i := 10) ?_ 41 rfl rfl (by kernel_rfl) (by kernel_rfl) (by kernel_rfl) (by rfl) (fun _ _ _ h => h) hS ?_ ?_
  rotate_left
  · (intro w hSw; go_simp; first | done | with_reducible rfl)
  simp only [Act.put, List.setIfInBounds_toArray, List.set_cons_zero, List.set_cons_succ]
  refine held_val (i := 11) ?_ 42 rfl rfl (by kernel_rfl) (by kernel_rfl) (by kernel_rfl) (by rfl) (fun _ _ _ h => h) hS ?_ ?_
  rotate_left
  · (intro w hSw; obtain ⟨k0, k1, k2, k3, k4, k5⟩ := hSw; go_simp; first | done | with_reducible rfl)
  simp only [Act.put, List.setIfInBounds_toArray, List.set_cons_zero, List.set_cons_succ]
  refine held_val (i := 13) ?_ 44 rfl rfl (by kernel_rfl) (by kernel_rfl) (by kernel_rfl) (by rfl) (fun _ _ _ h => h) hS ?_ ?_
  rotate_left
  · (intro w hSw; go_simp; first | done | with_reducible rfl)
  simp only [Act.put, List.setIfInBounds_toArray, List.set_cons_zero, List.set_cons_succ]
  refine held_val (i := 14) ?_ 45 rfl rfl (by kernel_rfl) (by kernel_rfl) (by kernel_rfl) (by rfl) (fun _ _ _ h => h) hS ?_ ?_
  rotate_left
  · (intro w hSw; go_simp; first | done | with_reducible rfl)
  simp only [Act.put, List.setIfInBounds_toArray, List.set_cons_zero, List.set_cons_succ]
  refine held_val (i := 15) ?_ 46 rfl rfl (by kernel_rfl) (by kernel_rfl) (by kernel_rfl) (by rfl) (fun _ _ _ h => h) hS ?_ ?_
  rotate_left
  · (intro w hSw; go_simp; first | done | with_reducible rfl)
  simp only [Act.put, List.setIfInBounds_toArray, List.set_cons_zero, List.set_cons_succ]
  refine held_val (i := 16) ?_ 47 rfl rfl (by kernel_rfl) (by kernel_rfl) (by kernel_rfl) (by rfl) (fun _ _ _ h => h) hS ?_ ?_
  rotate_left
  · (intro w hSw; obtain ⟨k0, k1, k2, k3, k4, k5⟩ := hSw; go_simp; first | done | with_reducible rfl)
  simp only [Act.put, List.setIfInBounds_toArray, List.set_cons_zero, List.set_cons_succ]
  refine held_val (i := 17) ?_ 48 rfl rfl (by kernel_rfl) (by kernel_rfl) (by kernel_rfl) (by rfl) (fun _ _ _ h => h) hS ?_ ?_
  rotate_left
  · (intro w hSw; go_simp; first | done | with_reducible rfl)
  simp only [Act.put, List.setIfInBounds_toArray, List.set_cons_zero, List.set_cons_succ]
  refine held_val (i := 18) ?_ 49 rfl rfl (by kernel_rfl) (by kernel_rfl) (by kernel_rfl) (by rfl) (fun _ _ _ h => h) hS ?_ ?_
  rotate_left
  · (intro w hSw; obtain ⟨k0, k1, k2, k3, k4, k5⟩ := hSw; go_simp; first | done | with_reducible rfl)
  simp only [Act.put, List.setIfInBounds_toArray, List.set_cons_zero, List.set_cons_succ]
  refine held_val (i := 19) ?_ 50 rfl rfl (by kernel_rfl) (by kernel_rfl) (by kernel_rfl) (by rfl) (fun _ _ _ h => h) hS ?_ ?_
  rotate_left
  · (intro w hSw; go_simp; first | done | with_reducible rfl)
  simp only [Act.put, List.setIfInBounds_toArray, List.set_cons_zero, List.set_cons_succ]
  refine held_val (i := 20) ?_ 51 rfl rfl (by kernel_rfl) (by kernel_rfl) (by kernel_rfl) (by rfl) (fun _ _ _ h => h) hS ?_ ?_
  rotate_left
  · (intro w hSw; obtain ⟨k0, k1, k2, k3, k4, k5⟩ := hSw; go_simp; first | done | with_reducible rfl)
  simp only [Act.put, List.setIfInBounds_toArray, List.set_cons_zero, List.set_cons_succ]
  refine held_call (i := 12) 43 158 #[Tab.tp g, .int .i64 x.c, .int .i64 x.p] rfl rfl (by kernel_rfl) (by rfl) (by simp [go_sem]) HC4.out ?_
  rintro e w12 ⟨rfl, rfl⟩
  refine ⟨_, rfl, hS, ?_⟩
  simp only [Act.put, List.setIfInBounds_toArray, List.set_cons_zero, List.set_cons_succ]
  refine held_call (i := 21) 52 34 #[Tab.tp g, .int .i64 x.c, .int .i64 x.p] rfl rfl (by kernel_rfl) (by rfl) (by simp [go_sem]) HC5.out ?_
  rintro e w21 ⟨rfl, rfl⟩
  refine ⟨_, rfl, hS, ?_⟩
  simp only [Act.put, List.setIfInBounds_toArray, List.set_cons_zero, List.set_cons_succ]
  refine held_val (i := 22) ?_ 53 rfl rfl (by kernel_rfl) (by kernel_rfl) (by kernel_rfl) (by rfl) (fun _ _ _ h => h) hS ?_ ?_
  rotate_left
  · (intro w hSw; go_simp; first | done | with_reducible rfl)
  simp only [Act.put, List.setIfInBounds_toArray, List.set_cons_zero, List.set_cons_succ]
  refine held_val (i := 23) (.agg #[.int .i64 x.c, .int .i64 5, .int .i64 x.p, .int .i64 0, .int .i64 0, .int .i64 CP, .int .i64 OW, .bool false, .slice none 0 0, .complex .f64 0 0, .complex .f64 0 0, .complex .f64 0 0, .complex .f64 0 0]) 54 rfl rfl (by kernel_rfl) (by kernel_rfl) (by kernel_rfl) (by rfl) (fun _ _ _ h => h) hS ?_ ?_
  · (intro w hSw; go_simp; first | done | with_reducible rfl)
  simp only [Act.put, List.setIfInBounds_toArray, List.set_cons_zero, List.set_cons_succ]
  have HX9 : Hid (Bx d g q b x (w10.drew.setRow (b + 1) #[.int .i64 x.c, .int .i64 5, .int .i64 x.p, .int .i64 0, .int .i64 0, .int .i64 CP, .int .i64 OW, .bool false, .slice none 0 0, .complex .f64 0 0, .complex .f64 0 0, .complex .f64 0 0, .complex .f64 0 0])) := by
    have e : ∀ k, k ≠ b + 1 → (w10.drew.setRow (b + 1) #[.int .i64 x.c, .int .i64 5, .int .i64 x.p, .int .i64 0, .int .i64 0, .int .i64 CP, .int .i64 OW, .bool false, .slice none 0 0, .complex .f64 0 0, .complex .f64 0 0, .complex .f64 0 0, .complex .f64 0 0]).heap[k]? = w10.heap[k]? := fun k hk => setRow_other _ _ _ _ hk
    have hbl := (HD8.out.keep b HV.out.2.1).trans HM.out.1
    have hd1 : d ≠ b + 1 := fun e => HD8.out.dk.vd (e ▸ HV.out.2.2.1)
    refine ⟨?_, ?_, wt_cells ((e b (by omega)).trans hbl) (Below.refl _ _)⟩
    · rw [cell_of_row _ _ _ _ _ _ ((e d hd1).trans HD8.out.dk.blk)]; rfl
    · rw [cell_of_row _ _ _ _ _ _ ((e d hd1).trans HD8.out.dk.blk)]; rfl
  refine held_last (i := 24) (w10.drew.setRow (b + 1) #[.int .i64 x.c, .int .i64 5, .int .i64 x.p, .int .i64 0, .int .i64 0, .int .i64 CP, .int .i64 OW, .bool false, .slice none 0 0, .complex .f64 0 0, .complex .f64 0 0, .complex .f64 0 0, .complex .f64 0 0]) rfl (by kernel_rfl) (by rfl) (wp_store_row 151 _ _ rfl (b + 1) _ _ (by rfl) (by rfl) HS1.out (by kernel_rfl) (by rfl) (by simp [Value.oneCell']) ⟨rfl, rfl⟩) HX9.out ?_
  refine wpAnyH_done (by kernel_rfl) ?_ _
  have hg9 := setRow_heap w10.drew (b + 1) _ #[.int .i64 x.c, .int .i64 5, .int .i64 x.p, .int .i64 0, .int .i64 0, .int .i64 CP, .int .i64 OW, .bool false, .slice none 0 0, .complex .f64 0 0, .complex .f64 0 0, .complex .f64 0 0, .complex .f64 0 0] 151 (0, 0) HS1.out
  have HE : Hid (Dx B V w (w10.drew.setRow (b + 1) #[.int .i64 x.c, .int .i64 5, .int .i64 x.p, .int .i64 0, .int .i64 0, .int .i64 CP, .int .i64 OW, .bool false, .slice none 0 0, .complex .f64 0 0, .complex .f64 0 0, .complex .f64 0 0, .complex .f64 0 0]) d g q (givS S x) n) := by
    obtain ⟨e1, e2, e3⟩ := HB.out
    have hbe := HBb.out
    refine (HD8.out.more HV.out.2.2.2 (bel0 w10)).close HV.out.1 e1 e3 e2 ⟨rfl, rfl, rfl, by simp [World.setRow], fun k hk => setRow_other _ _ _ _ (by omega)⟩ fun k hk hn => setRow_other _ _ _ _ ?_
    rintro rfl
    exact hn HV.out.2.2.1
  generalize w10.drew.setRow (b + 1) #[.int .i64 x.c, .int .i64 5, .int .i64 x.p, .int .i64 0, .int .i64 0, .int .i64 CP, .int .i64 OW, .bool false, .slice none 0 0, .complex .f64 0 0, .complex .f64 0 0, .complex .f64 0 0, .complex .f64 0 0] = W9 at *
  have r0 : W9.cell? ⟨b + 1, 0, none⟩ = some (.int .i64 x.c) := by rw [cell_of_row _ _ _ _ _ _ hg9]; rfl
  have r1 : W9.cell? ⟨b + 1, 1, none⟩ = some (.int .i64 5) := by rw [cell_of_row _ _ _ _ _ _ hg9]; rfl
  have r2 : W9.cell? ⟨b + 1, 2, none⟩ = some (.int .i64 x.p) := by rw [cell_of_row _ _ _ _ _ _ hg9]; rfl
  have r3 : W9.cell? ⟨b + 1, 3, none⟩ = some (.int .i64 0) := by rw [cell_of_row _ _ _ _ _ _ hg9]; rfl
  have r4 : W9.cell? ⟨b + 1, 4, none⟩ = some (.int .i64 0) := by rw [cell_of_row _ _ _ _ _ _ hg9]; rfl
  have r5 : W9.cell? ⟨b + 1, 5, none⟩ = some (.int .i64 CP) := by rw [cell_of_row _ _ _ _ _ _ hg9]; rfl
  have r6 : W9.cell? ⟨b + 1, 6, none⟩ = some (.int .i64 OW) := by rw [cell_of_row _ _ _ _ _ _ hg9]; rfl
  have r7 : W9.cell? ⟨b + 1, 7, none⟩ = some (.bool false) := by rw [cell_of_row _ _ _ _ _ _ hg9]; rfl
  have r8 : W9.cell? ⟨b + 1, 8, none⟩ = some (.slice none 0 0) := by rw [cell_of_row _ _ _ _ _ _ hg9]; rfl
  have r9 : W9.cell? ⟨b + 1, 9, none⟩ = some (.complex .f64 0 0) := by rw [cell_of_row _ _ _ _ _ _ hg9]; rfl
  have r10 : W9.cell? ⟨b + 1, 10, none⟩ = some (.complex .f64 0 0) := by rw [cell_of_row _ _ _ _ _ _ hg9]; rfl
  have r11 : W9.cell? ⟨b + 1, 11, none⟩ = some (.complex .f64 0 0) := by rw [cell_of_row _ _ _ _ _ _ hg9]; rfl
  have r12 : W9.cell? ⟨b + 1, 12, none⟩ = some (.complex .f64 0 0) := by rw [cell_of_row _ _ _ _ _ _ hg9]; rfl
  clear hg9 HS1 hS
  go_wp2
  refine bodyPost_ret (by simp [results, Tryz.results174, go_sem, r0, r1, r2, r3, r4, r5, r6, r7, r8, r9, r10, r11, r12]; try rfl) rfl ?_
  exact ⟨congrArg Ending.returned HA.out.symm, HE.out⟩

end Go.Proofs.YtpofihiojhbfgaaGreatDoor.Dsk

namespace Go.Proofs.YtpofihiojhbfgaaGreatDoor.Dsk
open Go.RowKit Go.Maps
set_option linter.unusedVariables false
set_option maxRecDepth 8000

def Va (V : Nat → Prop) (a : Option Addr) : Nat → Prop := fun k => V k ∨ ∃ y, a = some y ∧ k = y.block
structure Dr (B : Nat) (V : Nat → Prop) (W W' : World) (d g q : Nat) (S : St) (n : Nat) (a : Option Addr) (c : Nat) (A : List Sa) : Prop where
  dk : Dk B (Va V a) W' d g q S n
  keep : ∀ k, V k → W'.heap[k]? = W.heap[k]?
  bel : Below B W W'
  own : OwR saC 13 151 W' a c A
  new : ∀ y, a = some y → W.heap.size ≤ y.block
  hB : B ≤ W.heap.size
section
variable {B : Nat} {V V1 : Nat → Prop} {w W w1 w2 w3 : World} {d g q b : Nat} {S S2 : St} {n n2 : Nat} {x : Wt} {a a2 : Option Addr} {c c2 : Nat} {A A2 : List Sa}
theorem Dk.dr (h : Dk B V W d g q S n) (hV : ∀ k, V k → k < W.heap.size) (hb : Below W.heap.size W w1) : Dr B V W w1 d g q S n none 0 [] :=
  ⟨(h.below hb).less (by rintro k (h | ⟨y, h, _⟩); exact h; cases h), fun k hk => hb.block k (hV k hk), hb.mono h.hB, OwR.nil _ _, (fun y h => by cases h), h.hB⟩
theorem Dr.size (h : Dr B V W w1 d g q S n a c A) : W.heap.size ≤ w1.heap.size := h.bel.size
theorem Dr.lt (h : Dr B V W w1 d g q S n a c A) (hV : ∀ k, V k → k < W.heap.size) : ∀ k, Va V a k → k < w1.heap.size := by
  rintro k (h' | ⟨y, rfl, rfl⟩)
  · exact Nat.lt_of_lt_of_le (hV k h') h.size
  · exact (h.own.lt y rfl).1
theorem Dr.step (h : Dr B V W w1 d g q S n a c A) (h2 : Dx B (Va V a) w1 w2 d g q S2 n2) : Dr B V W w2 d g q S2 n2 a c A :=
  ⟨h2.dk, fun k hk => (h2.keep k (.inl hk)).trans (h.keep k hk), h.bel.trans h2.bel, h.own.keep fun y hy _ => h2.keep y.block (.inr ⟨y, hy, rfl⟩), h.new, h.hB⟩
theorem Dr.more (h : Dr B V W w1 d g q S n a c A) (hV : ∀ k, V k → k < W.heap.size) (hb : Below w1.heap.size w1 w2) : Dr B V W w2 d g q S n a c A := h.step (h.dk.dx hb (h.lt hV))
theorem Dr.le (h : Dr B V W w1 d g q S n a c A) {m : Nat} (hm : n ≤ m) : Dr B V W w1 d g q S m a c A := ⟨h.dk.le hm, h.keep, h.bel, h.own, h.new, h.hB⟩
theorem Dr.bx (h : Dr B V W w1 d g q S n a c A) (hb : W.heap[b]? = some (wtO x)) (hv : V b) : Bx d g q b x w1 := h.dk.bx ((h.keep b hv).trans hb)
theorem Dr.app (h : Dr B V W w1 d g q S n a c A) (hV : ∀ k, V k → k < W.heap.size) (hb : Below w1.heap.size w1 w2) (hg : w2.grownBy w3 (a.map (·.block))) (ho : OwR saC 13 151 w3 a2 c2 A2) (hl : a2 = a ∨ a2 = some ⟨w2.heap.size, 0, none⟩) : Dr B V W w3 d g q S n a2 c2 A2 := by
  have h1 := h.more hV hb
  have hW := h.size
  have hs2 := hb.size
  have hne : ∀ k, V k → some k ≠ a.map (·.block) := by
    intro k hk e
    cases ha : a with
    | none => rw [ha] at e; cases e
    | some y =>
      rw [ha] at e
      cases e
      have h2 := h.new y ha
      have h3 : y.block < _ := hV _ hk
      omega
  refine ⟨?_, fun k hk => (hg.block k (by have := hV k hk; omega) (fun e => hne k hk e)).trans (h1.keep k hk), h1.bel.trans ⟨hg.os, hg.tape, hg.output, hg.size, fun k hk => hg.block k (by have := h1.dk.hB; omega) ?_⟩, ho, ?_, h.hB⟩
  · refine h1.dk.move hg.size (fun k hk hn => hg.block k hk fun e => hn ?_) ?_
    · cases ha : a with
      | none => rw [ha] at e; cases e
      | some y => rw [ha] at e; cases e; exact .inr ⟨y, rfl, rfl⟩
    · rintro k (h' | ⟨y, hy, rfl⟩)
      · exact .inl (.inl h')
      · rcases hl with rfl | rfl
        · exact .inl (.inr ⟨y, hy, rfl⟩)
        · cases hy
          exact .inr (Nat.le_refl _)
  · intro e
    cases ha : a with
    | none => rw [ha] at e; cases e
    | some y =>
      rw [ha] at e
      cases e
      have h2 := h.new y ha
      have h3 := h.hB
      have h4 : y.block < B := hk
      omega
  · intro y hy
    rcases hl with rfl | rfl
    · exact h.new y hy
    · cases hy
      show W.heap.size ≤ w2.heap.size
      omega
theorem Dr.close (h : Dr B V1 W w1 d g q S n a c A) (hsub : ∀ k, V k → V1 k) (hW : Below w.heap.size w W) (hV : ∀ k, V k → k < w.heap.size) (hB : B ≤ w.heap.size) : Dr B V w w1 d g q S n a c A :=
  ⟨h.dk.less (by rintro k (h' | h'); exact .inl (hsub k h'); exact .inr h'), fun k hk => (h.keep k (hsub k hk)).trans (hW.block k (hV k hk)), (hW.mono hB).trans h.bel, h.own, fun y hy => Nat.le_trans hW.size (h.new y hy), hB⟩
end

theorem _root_.Go.Proofs.YtpofihiojhbfgaaGreatDoor.RdS.keep {w w' : World} {ao : Option Addr} {cap : Nat} {xs : List Value} (h : RdS w ao cap xs) (hs : w.heap.size ≤ w'.heap.size) (hb : ∀ y, ao = some y → w'.heap[y.block]? = w.heap[y.block]?) : RdS w' ao cap xs := by
  refine ⟨h.le, h.mx, h.nil, fun hx => ?_⟩
  obtain ⟨b1, off, e, hl1, hc⟩ := h.cell hx
  exact ⟨b1, off, e, Nat.lt_of_lt_of_le hl1 hs, fun j hj => (World.cell?_of_block (w := w) (w' := w') (a := ⟨b1, off + j, none⟩) (hb ⟨b1, off, none⟩ e)).trans (hc j hj)⟩

theorem cals_step (x : Wt) (hs : List Int) (s : List Ck × List Sa) {k : Nat} (hk : k < hs.length) : cals x (hs.drop k) s = cals x (hs.drop (k + 1)) (calK s.1 (kyOf hs[k] x), if calB s.1 (kyOf hs[k] x) then s.2 ++ [calA hs[k] x] else s.2) := by
  rw [List.drop_eq_getElem_cons hk]
  rfl

set_option maxHeartbeats 6400000 in
theorem call_desk {B : Nat} {V : Nat → Prop} {w : World} {d g q : Nat} {S : St} {n : Nat} (H : Dk B V w d g q S n) (hV : ∀ k, V k → k < w.heap.size) (hn : n ≤ 900000) (x : Wt) (ao : Option Addr) (m cap : Nat) (hs : List Int) (hr : RdI w .i64 ao cap hs) (hm : hs.length = m) (hm4 : m ≤ 4) (hva : ∀ y, ao = some y → V y.block) :
    Calls Tryz.prog 175 #[dp d, .slice ao m cap, wtV x] w fun e w' => ∃ a c, e = .returned (.slice a (cals x hs (S.K, [])).2.length c) ∧ Dr B V w w' d g q ⟨S.T, S.L, (cals x hs (S.K, [])).1⟩ (n + 4) a c (cals x hs (S.K, [])).2 ∧ (cals x hs (S.K, [])).2.length ≤ 4 := by
  have hbA : Below w.heap.size w (w.alloc (wtO x)) := (Below.refl _ _).alloc (Nat.le_refl _) _
  obtain ⟨V1, hV1⟩ : ∃ V1 : Nat → Prop, V1 = fun k => V k ∨ k = w.heap.size := ⟨_, rfl⟩
  have HW : Hid (Dk B V1 (w.alloc (wtO x)) d g q S n) := H.more hbA (by
    subst hV1
    rintro k (h | h)
    · exact .inl h
    · exact .inr (by omega))
  have HV : Hid ((∀ k, V k → V1 k) ∧ V1 w.heap.size ∧ (∀ k, V1 k → k < (w.alloc (wtO x)).heap.size)) := by
    subst hV1
    refine ⟨fun k h => .inl h, .inr rfl, ?_⟩
    rintro k (h | h)
    · have := hV k h; simp; omega
    · simp; omega
  have HB : Hid (Below w.heap.size w (w.alloc (wtO x)) ∧ B ≤ w.heap.size ∧ (∀ k, V k → k < w.heap.size)) := ⟨hbA, H.hB, hV⟩
  have HM : Hid ((w.alloc (wtO x)).heap[w.heap.size]? = some (wtO x)) := heap_alloc_new w (wtO x)
  have HR : Hid (RdI (w.alloc (wtO x)) .i64 ao cap hs ∧ hs.length = m ∧ (∀ y, ao = some y → V1 y.block)) := ⟨hr.below hbA, hm, fun y hy => HV.out.1 _ (hva y hy)⟩
  clear hbA hV1 H hV hr hm hva
  go_enter Tryz.func175, Tryz.ntmps175
  go_wp2
  obtain ⟨b, hb⟩ : ∃ b, w.heap.size = b := ⟨_, rfl⟩
  rw [hb] at HM HV ⊢
  have HBb : Hid (w.heap.size = b) := hb
  clear hb
  generalize w.alloc (wtO x) = W at *
  go_loopw [7, 12] (fun v i wr => ∃ (k : Nat) (a : Option Addr) (c l : Nat) (K : List Ck) (A : List Sa), k ≤ m ∧ i = .int .i64 k ∧ v = .slice a l c ∧ Hid (A.length = l ∧ l ≤ k ∧ Dr B V1 W wr d g q ⟨S.T, S.L, K⟩ (n + k) a c A ∧ cals x hs (S.K, []) = cals x (hs.drop k) (K, A))) (fun _ i _ => m - (intOf i).toNat)
  case atStart => exact ⟨0, none, 0, 0, S.K, [], Nat.zero_le _, rfl, rfl, ⟨rfl, Nat.le_refl _, HW.out.dr HV.out.2.2 (Below.refl _ _), rfl⟩⟩
  case round =>
    obtain ⟨k, a, c, l, K, A, hk, rfl, rfl, HI⟩ := hrel
    rename World => wr
    by_cases hlt : k < m
    · have hkl : k < hs.length := by have := HR.out.2.1; omega
      have hrd : RdI wr .i64 ao cap hs := RdS.keep HR.out.1 HI.out.2.2.1.size fun y hy => HI.out.2.2.1.keep y.block (HR.out.2.2 y hy)
      obtain ⟨bk, off, rfl, -, hcc⟩ := hrd.at hkl
      have z0 := hcc k hkl
      have HS : Hid (cals x hs (S.K, []) = cals x (hs.drop (k + 1)) (calK K (kyOf hs[k] x), if calB K (kyOf hs[k] x) then A ++ [calA hs[k] x] else A)) := HI.out.2.2.2.trans (cals_step x hs (K, A) hkl)
      clear hcc hrd
      generalize hs[k] = h at *
      have HC : Hid (Calls Tryz.prog 192 #[qp q, .int .i64 h, wtV x] wr.drew fun e w' => e = .returned (.bool (calB K (kyOf h x))) ∧ Bx d g q b x w' ∧ Hid (Dr B V1 W w' d g q ⟨S.T, S.L, calK K (kyOf h x)⟩ (n + (k + 1)) a c A)) := by
        have h0 := HI.out.2.2.1.more HV.out.2.2 (bel0 wr)
        refine (callK h0.dk (h0.lt HV.out.2.2) (by omega) h x).mono ?_
        rintro e w' ⟨rfl, h1⟩
        have h2 := h0.step h1
        exact ⟨rfl, h2.bx HM.out HV.out.2.1, h2⟩
      have HX : Hid (Bx d g q b x wr.drew) := (HI.out.2.2.1.more HV.out.2.2 (bel0 wr)).bx HM.out HV.out.2.1
      have HL : Hid (A.length = l ∧ l ≤ k) := ⟨HI.out.1, HI.out.2.1⟩
      clear HI
      have e0' : decide ((k : Int) < m) = true := by simp; omega
      cases hcb : calB K (kyOf h x)
      · have HS2 : Hid (cals x hs (S.K, []) = cals x (hs.drop (k + 1)) (calK K (kyOf h x), A)) := by have := HS.out; rw [hcb] at this; exact this
        rw [hcb] at HC
        clear HS hcb
        go_upto_region 5 with fail
        refine wp_region_held (S := Bx d g q b x) (by kernel_rfl) ?_
        have hS := HX.out
        refine held_val (i := 0) ?_ 16 rfl rfl (by kernel_rfl) (by kernel_rfl) (by kernel_rfl) (by rfl) (fun _ _ _ h => h) hS ?_ ?_
        rotate_left
        · (intro w hSw; go_simp; first | done | with_reducible rfl)
        simp only [Act.put, List.setIfInBounds_toArray, List.set_cons_zero, List.set_cons_succ]
        refine held_val (i := 1) ?_ 17 rfl rfl (by kernel_rfl) (by kernel_rfl) (by kernel_rfl) (by rfl) (fun _ _ _ h => h) hS ?_ ?_
        rotate_left
        · (intro w hSw; go_simp; first | done | with_reducible rfl)
        simp only [Act.put, List.setIfInBounds_toArray, List.set_cons_zero, List.set_cons_succ]
        refine held_val (i := 2) ?_ 18 rfl rfl (by kernel_rfl) (by kernel_rfl) (by kernel_rfl) (by rfl) (fun _ _ _ h => h) hS ?_ ?_
        rotate_left
        · (intro w hSw; go_simp; first | done | with_reducible rfl)
        simp only [Act.put, List.setIfInBounds_toArray, List.set_cons_zero, List.set_cons_succ]
        refine held_val (i := 3) ?_ 19 rfl rfl (by kernel_rfl) (by kernel_rfl) (by kernel_rfl) (by rfl) (fun _ _ _ h => h) hS ?_ ?_
        rotate_left
        · (intro w hSw; obtain ⟨k0, k1, k2, k3, k4, k5⟩ := hSw; go_simp; first | done | with_reducible rfl)
        simp only [Act.put, List.setIfInBounds_toArray, List.set_cons_zero, List.set_cons_succ]
        refine held_val (i := 4) ?_ 20 rfl rfl (by kernel_rfl) (by kernel_rfl) (by kernel_rfl) (by rfl) (fun _ _ _ h => h) hS ?_ ?_
        rotate_left
        · (intro w hSw; go_simp; first | done | with_reducible rfl)
        simp only [Act.put, List.setIfInBounds_toArray, List.set_cons_zero, List.set_cons_succ]
        refine held_val (i := 5) ?_ 21 rfl rfl (by kernel_rfl) (by kernel_rfl) (by kernel_rfl) (by rfl) (fun _ _ _ h => h) hS ?_ ?_
        rotate_left
        · (intro w hSw; obtain ⟨k0, k1, k2, k3, k4, k5⟩ := hSw; go_simp; first | done | with_reducible rfl)
        simp only [Act.put, List.setIfInBounds_toArray, List.set_cons_zero, List.set_cons_succ]
        refine held_call (i := 6) 22 192 #[qp q, .int .i64 h, wtV x] rfl rfl (by kernel_rfl) (by rfl) (by simp [go_sem]) HC.out ?_
        rintro e w6 ⟨rfl, hS6, HD6⟩
        refine ⟨_, rfl, hS6, ?_⟩
        have hS6 := hS6
        simp only [Act.put, List.setIfInBounds_toArray, List.set_cons_zero, List.set_cons_succ]
        refine wpAnyH_done (by kernel_rfl) ?_ _
        clear hS hS6 HC HX
        go_wp2
        go_roundw
        case rel => exact ⟨k + 1, a, c, l, _, A, by omega, by go_num, rfl, ⟨HL.out.1, by have := HL.out.2; omega, HD6.out, HS2.out⟩⟩
        case measure => simp [intOf]; omega
      · have HS2 : Hid (cals x hs (S.K, []) = cals x (hs.drop (k + 1)) (calK K (kyOf h x), A ++ [calA h x])) := by have := HS.out; rw [hcb] at this; exact this
        rw [hcb] at HC
        clear HS hcb
        go_upto_region 5 with fail
        refine wp_region_held (S := Bx d g q b x) (by kernel_rfl) ?_
        have hS := HX.out
        refine held_val (i := 0) ?_ 16 rfl rfl (by kernel_rfl) (by kernel_rfl) (by kernel_rfl) (by rfl) (fun _ _ _ h => h) hS ?_ ?_
        rotate_left
        · (intro w hSw; go_simp; first | done | with_reducible rfl)
        simp only [Act.put, List.setIfInBounds_toArray, List.set_cons_zero, List.set_cons_succ]
        refine held_val (i := 1) ?_ 17 rfl rfl (by kernel_rfl) (by kernel_rfl) (by kernel_rfl) (by rfl) (fun _ _ _ h => h) hS ?_ ?_
        rotate_left
        · (intro w hSw; go_simp; first | done | with_reducible rfl)
        simp only [Act.put, List.setIfInBounds_toArray, List.set_cons_zero, List.set_cons_succ]
        refine held_val (i := 2) ?_ 18 rfl rfl (by kernel_rfl) (by kernel_rfl) (by kernel_rfl) (by rfl) (fun _ _ _ h => h) hS ?_ ?_
        rotate_left
        · (intro w hSw; go_simp; first | done | with_reducible rfl)
        simp only [Act.put, List.setIfInBounds_toArray, List.set_cons_zero, List.set_cons_succ]
        refine held_val (i := 3) ?_ 19 rfl rfl (by kernel_rfl) (by kernel_rfl) (by kernel_rfl) (by rfl) (fun _ _ _ h => h) hS ?_ ?_
        rotate_left
        · (intro w hSw; obtain ⟨k0, k1, k2, k3, k4, k5⟩ := hSw; go_simp; first | done | with_reducible rfl)
        simp only [Act.put, List.setIfInBounds_toArray, List.set_cons_zero, List.set_cons_succ]
        refine held_val (i := 4) ?_ 20 rfl rfl (by kernel_rfl) (by kernel_rfl) (by kernel_rfl) (by rfl) (fun _ _ _ h => h) hS ?_ ?_
        rotate_left
        · (intro w hSw; go_simp; first | done | with_reducible rfl)
        simp only [Act.put, List.setIfInBounds_toArray, List.set_cons_zero, List.set_cons_succ]
        refine held_val (i := 5) ?_ 21 rfl rfl (by kernel_rfl) (by kernel_rfl) (by kernel_rfl) (by rfl) (fun _ _ _ h => h) hS ?_ ?_
        rotate_left
        · (intro w hSw; obtain ⟨k0, k1, k2, k3, k4, k5⟩ := hSw; go_simp; first | done | with_reducible rfl)
        simp only [Act.put, List.setIfInBounds_toArray, List.set_cons_zero, List.set_cons_succ]
        refine held_call (i := 6) 22 192 #[qp q, .int .i64 h, wtV x] rfl rfl (by kernel_rfl) (by rfl) (by simp [go_sem]) HC.out ?_
        rintro e w6 ⟨rfl, hS6, HD6⟩
        refine ⟨_, rfl, hS6, ?_⟩
        have hS6 := hS6
        simp only [Act.put, List.setIfInBounds_toArray, List.set_cons_zero, List.set_cons_succ]
        refine wpAnyH_done (by kernel_rfl) ?_ _
        obtain ⟨k0, k1, k2, k3, k4, k5⟩ := hS6
        clear hS HC HX
        have hl4 : l ≤ 4 := by have := HL.out.2; omega
        go_wp2_with (first
          | (at_builtin; refine wpList_append_R saE _ rfl _ _ 102 rfl 151 _ 152 Tryz.underlying102 info34 rfl (L := A) (M := [calA h x]) (n := l) (m := 1) rfl rfl ((HD6.out.more HV.out.2.2 ((Below.refl _ _).alloc (Nat.le_refl _) _)).own) (RdR.built saE w6 151 #[.int .i64 h, .int .i64 6, .int .i64 x.p, .int .i64 x.o, .int .i64 0, .int .i64 0, .int .i64 0, .bool x.wr, .slice none 0 0, .complex .f64 0 0, .complex .f64 0 0, .complex .f64 0 0, .complex .f64 0 0] [calA h x] rfl 1 rfl (by unfold maxLen; omega)) HL.out.1 rfl (by omega) (by unfold maxLen; omega) ?_; intro a2 c2 w8 ho8 hg8 hl8)
          | fail)
        have HD8 : Hid (Dr B V1 W w8 d g q ⟨S.T, S.L, calK K (kyOf h x)⟩ (n + (k + 1)) a2 c2 (A ++ [calA h x])) := HD6.out.app HV.out.2.2 ((Below.refl _ _).alloc (Nat.le_refl _) _) hg8 ho8 hl8
        clear k0 k1 k2 k3 k4 k5 ho8 hg8 hl8 HD6
        go_roundw
        case rel => exact ⟨k + 1, a2, c2, l + 1, _, A ++ [calA h x], by omega, by go_num, rfl, ⟨by rw [List.length_append, HL.out.1]; rfl, by have := HL.out.2; omega, HD8.out, HS2.out⟩⟩
        case measure => simp [intOf]; omega
    · obtain rfl : k = m := by omega
      have e0' : decide ((k : Int) < k) = false := by simp
      have hd : hs.drop k = [] := List.drop_eq_nil_of_le (by have := HR.out.2.1; omega)
      have HF : Hid (cals x hs (S.K, []) = (K, A)) := by have := HI.out.2.2.2; rw [hd] at this; exact this
      have HE : Hid (Dr B V w wr d g q ⟨S.T, S.L, K⟩ (n + 4) a c A ∧ A.length = l ∧ l ≤ 4) := ⟨(HI.out.2.2.1.close HV.out.1 HB.out.1 HB.out.2.2 HB.out.2.1).le (by omega), HI.out.1, by have := HI.out.2.1; omega⟩
      clear HI hd
      go_wp2
      go_ret
      refine ⟨a, c, ?_, ?_, ?_⟩
      · rw [HF.out, HE.out.2.1]; rfl
      · rw [HF.out]; exact HE.out.1
      · rw [HF.out, HE.out.2.1]; exact HE.out.2.2

end Go.Proofs.YtpofihiojhbfgaaGreatDoor.Dsk
