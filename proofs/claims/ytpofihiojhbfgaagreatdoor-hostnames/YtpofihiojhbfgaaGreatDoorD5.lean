/- serveOne of package desk, walked. -/
import Derived.Test.YtpofihiojhbfgaaGreatDoorA7
import Derived.Test.YtpofihiojhbfgaaGreatDoorC8
namespace Go.Proofs.YtpofihiojhbfgaaGreatDoor.Dsk
open Go.RowKit Go.Maps
set_option linter.unusedVariables false
set_option maxRecDepth 8000

section
variable {B : Nat} {V V1 : Nat → Prop} {w W w1 w2 : World} {d g q : Nat} {S S2 : St} {n n2 : Nat} {a : Option Addr} {c : Nat} {A : List Sa}
theorem Dr.dx (h : Dr B V W w1 d g q S n a c A) : Dx B V W w1 d g q S n := ⟨h.dk.less fun k hk => .inl hk, h.keep, h.bel⟩
theorem Dr.far (h : Dr B V W w1 d g q S n a c A) (hV : ∀ k, V k → k < W.heap.size) (hb : Below w1.heap.size w1 w) (h2 : Dx B V1 w w2 d g q S2 n2) (hs : ∀ k, Va V a k → V1 k) : Dr B V W w2 d g q S2 n2 a c A :=
  h.step ((h.dk.dx hb (h.lt hV)).trans (h2.less hs))
end
theorem pass_step (S : St) (M : List Wt) (s : List Ck × List Sa) {k : Nat} (hk : k < M.length) : pass S (M.drop k) s = if skipB S s.1 M[k] then pass S (M.drop (k + 1)) s else if (hoS S M[k]).length = 0 then (s, some M[k]) else pass S (M.drop (k + 1)) ((cals M[k] (hoS S M[k]) (s.1, [])).1, s.2 ++ (cals M[k] (hoS S M[k]) (s.1, [])).2) := by
  rw [List.drop_eq_getElem_cons hk]
  rfl
theorem ho_le (S : St) (x : Wt) : (hoS S x).length ≤ 4 := Tab.hoI_len _ _ _ _ _

set_option maxHeartbeats 12800000 in
theorem serveOne_any {B : Nat} {V : Nat → Prop} {w : World} {d g q : Nat} {S : St} {n : Nat} (H : Dk B V w d g q S n) (hV : ∀ k, V k → k < w.heap.size) (hn : n ≤ 800000) : Calls Tryz.prog 140 #[dp d] w fun e w' => ∃ a c, e = .returned (.tuple #[.slice a (pas S).2.1.length c, .bool (pas S).2.2]) ∧ Dr B V w w' d g q (pas S).1 (n + 20) a c (pas S).2.1 ∧ (pas S).2.1.length ≤ 17 := by
  have h1 := H.c1
  obtain ⟨m, hm⟩ : ∃ m, S.L.length = m := ⟨_, rfl⟩
  have hm4 : m ≤ 4 := hm ▸ H.len
  have HA : Hid (Calls Tryz.prog 144 #[qp q] w fun e w' => ∃ a c, e = .returned (.slice a m c) ∧ Hid (Below w.heap.size w w' ∧ RdR wtC w' a c S.L ∧ Dk B (Va V a) w' d g q S n ∧ ∀ k, Va V a k → k < w'.heap.size)) := by
    refine (allK H).mono ?_
    rintro e w' ⟨a, c, rfl, h2, h3, h4⟩
    refine ⟨a, c, by rw [hm], h4, h2.rd, H.more h4 ?_, ?_⟩
    · rintro k (h | ⟨y, rfl, rfl⟩)
      · exact .inl h
      · exact .inr (by rw [h3 y rfl]; exact Nat.le_refl _)
    · rintro k (h | ⟨y, rfl, rfl⟩)
      · exact Nat.lt_of_lt_of_le (hV k h) h4.size
      · exact (h2.lt y rfl).1
  have HB : Hid (B ≤ w.heap.size ∧ (∀ k, V k → k < w.heap.size) ∧ S.L.length = m ∧ Nice S.L) := ⟨H.hB, hV, hm, H.nice⟩
  clear H hV hm
  go_enter Tryz.func140, Tryz.ntmps140
  go_wp2_with (first
    | (go_at_call 144; refine HA.out.mono ?_; rintro e W ⟨aw, cw, rfl, HW⟩)
    | fail)
  obtain ⟨V1, hV1⟩ : ∃ V1, Va V aw = V1 := ⟨_, rfl⟩
  rw [hV1] at HW
  have HVV : Hid ((∀ k, V k → V1 k) ∧ ∀ y, aw = some y → V1 y.block) := by subst hV1; exact ⟨fun k h => .inl h, fun y h => .inr ⟨y, h, rfl⟩⟩
  clear hV1 h1 HA
  go_loopw [4, 14] (fun v i wr => ∃ (k : Nat) (a : Option Addr) (c l : Nat) (K : List Ck) (A : List Sa), k ≤ m ∧ i = .int .i64 k ∧ v = .slice a l c ∧ Hid (A.length = l ∧ l ≤ 4 * k ∧ Dr B V1 W wr d g q ⟨S.T, S.L, K⟩ (n + 4 * k) a c A ∧ pass S S.L (S.K, []) = pass S (S.L.drop k) (K, A))) (fun _ i _ => m - (intOf i).toNat)
  case atStart => exact ⟨0, none, 0, 0, S.K, [], Nat.zero_le _, rfl, rfl, ⟨rfl, Nat.le_refl _, HW.out.2.2.1.dr HW.out.2.2.2 (Below.refl _ _), rfl⟩⟩
  case round =>
    obtain ⟨k, a, c, l, K, A, hk, rfl, rfl, HI⟩ := hrel
    rename World => wr
    by_cases hlt : k < m
    · have hkl : k < S.L.length := by have := HB.out.2.2.1; omega
      have hrd : RdR wtC wr aw cw S.L := HW.out.2.1.keep HI.out.2.2.1.size fun y hy _ => HI.out.2.2.1.keep y.block (HVV.out.2 y hy)
      obtain ⟨bk, off, rfl, -, hcc⟩ := hrd.at wtE hkl
      obtain ⟨z0, z1, z2, z3⟩ := wtIn _ _ _ _ hcc
      have HS := HI.out.2.2.2.trans (pass_step S S.L (K, A) hkl)
      have hRt : Rt S.L[k] := HB.out.2.2.2.rt _ (List.getElem_mem hkl)
      have HRt : Hid (Rt S.L[k]) := hRt
      replace HS : Hid (pass S S.L (S.K, []) = _) := HS
      clear hcc hrd hRt
      generalize S.L[k] = y at *
      have e0' : decide ((k : Int) < m) = true := by simp; omega
      go_upto_region 5 with fail
      obtain ⟨b, hb⟩ : ∃ b, wr.heap.size = b := ⟨_, rfl⟩
      have hbA : Below wr.heap.size wr (wr.alloc (wtO y)) := (Below.refl _ _).alloc (Nat.le_refl _) _
      have hbx : (wr.alloc (wtO y)).heap[wr.heap.size]? = some (wtO y) := heap_alloc_new wr (wtO y)
      have hsz : wr.heap.size < (wr.alloc (wtO y)).heap.size := by simp
      rw [hb] at hbx hsz ⊢
      have HBb : Hid (wr.heap.size = b) := hb
      have HBA : Hid (Below wr.heap.size wr (wr.alloc (wtO y)) ∧ (wr.alloc (wtO y)).heap[b]? = some (wtO y) ∧ b < (wr.alloc (wtO y)).heap.size) := ⟨hbA, hbx, hsz⟩
      clear hb hbA hbx hsz z0 z1 z2 z3
      show Code.wp _ _ _ _ (wr.alloc (wtO y))
      generalize wr.alloc (wtO y) = W2 at *
      obtain ⟨V2, hV2⟩ : ∃ V2 : Nat → Prop, V2 = fun k => Va V1 a k ∨ k = b := ⟨_, rfl⟩
      have HD2 : Hid (Dk B V2 W2 d g q ⟨S.T, S.L, K⟩ (n + 4 * k)) := HI.out.2.2.1.dk.more HBA.out.1 (by
        subst hV2
        rintro j (h | h)
        · exact .inl h
        · exact .inr (by have := HBb.out; omega))
      have HV2 : Hid ((∀ j, Va V1 a j → V2 j) ∧ V2 b ∧ ∀ j, V2 j → j < W2.heap.size) := by
        subst hV2
        refine ⟨fun j h => .inl h, .inr rfl, ?_⟩
        rintro j (h | h)
        · exact Nat.lt_of_lt_of_le (HI.out.2.2.1.lt HW.out.2.2.2 j h) HBA.out.1.size
        · rw [h]; exact HBA.out.2.2
      clear hV2
      have HX : Hid (∀ U : World, Below W2.heap.size W2 U → Bx d g q b y U) := fun U hU => (HD2.out.below hU).bx ((hU.block b HBA.out.2.2).trans HBA.out.2.1)
      obtain ⟨al, hal⟩ : ∃ al, (ahead S.L y).length = al := ⟨_, rfl⟩
      have HAh : Hid (∀ U : World, Below W2.heap.size W2 U → Calls Tryz.prog 147 #[qp q, .agg #[.int .i64 y.c, .int .i64 y.p, .int .i64 y.o, .bool y.wr]] U fun e w' => ∃ aa ca, e = .returned (.slice aa al ca) ∧ Below W2.heap.size W2 w') := fun U hU => by
        refine (aheadK (HD2.out.below hU) y).mono ?_
        rintro e w' ⟨aa, ca, rfl, -, h2⟩
        exact ⟨aa, ca, by rw [← hal], below_step hU h2⟩
      have HOu : Hid (∀ U : World, Below W2.heap.size W2 U → Calls Tryz.prog 173 #[qp q, .int .i64 y.c, .int .i64 y.p] U fun e w' => e = .returned (.bool (routB K y.c y.p)) ∧ Below W2.heap.size W2 w') := fun U hU => by
        refine (outK (HD2.out.below hU) y.c y.p).mono ?_
        rintro e w' ⟨rfl, h2⟩
        exact ⟨rfl, below_step hU h2⟩
      have HSk : Hid (skipB S K y = (decide (0 < al) || routB K y.c y.p)) := by show skipB S K y = _; unfold skipB; rw [hal]
      clear hal
      by_cases hz : 0 < al
      · have hgt : decide (0 < (al : Int)) = true := by simp; omega
        have HS2 : Hid (pass S S.L (S.K, []) = pass S (S.L.drop (k + 1)) (K, A)) := HS.out.trans (if_pos (by rw [HSk.out]; simp [hz]))
        clear HS HSk HOu
        refine wp_region_held (S := fun U => Below W2.heap.size W2 U) (by kernel_rfl) ?_
        have hS : Below W2.heap.size W2 W2.drew := bel0 W2
        refine held_val (i := 0) ?_ 18 rfl rfl (by kernel_rfl) (by kernel_rfl) (by kernel_rfl) (by rfl) (fun _ _ _ h => h) hS ?_ ?_
        rotate_left
        · (intro w hSw; go_simp; first | done | with_reducible rfl)
        simp only [Act.put, List.setIfInBounds_toArray, List.set_cons_zero, List.set_cons_succ]
        refine held_val (i := 1) ?_ 19 rfl rfl (by kernel_rfl) (by kernel_rfl) (by kernel_rfl) (by rfl) (fun _ _ _ h => h) hS ?_ ?_
        rotate_left
        · (intro w hSw; go_simp; first | done | with_reducible rfl)
        simp only [Act.put, List.setIfInBounds_toArray, List.set_cons_zero, List.set_cons_succ]
        refine held_val (i := 2) ?_ 20 rfl rfl (by kernel_rfl) (by kernel_rfl) (by kernel_rfl) (by rfl) (fun _ _ _ h => h) hS ?_ ?_
        rotate_left
        · (intro w hSw; go_simp; first | done | with_reducible rfl)
        simp only [Act.put, List.setIfInBounds_toArray, List.set_cons_zero, List.set_cons_succ]
        refine held_val (i := 3) ?_ 21 rfl rfl (by kernel_rfl) (by kernel_rfl) (by kernel_rfl) (by rfl) (fun _ _ _ h => h) hS ?_ ?_
        rotate_left
        · (intro w hSw; obtain ⟨k0, k1, k2, k3, k4, k5⟩ := HX.out w hSw; go_simp; first | done | with_reducible rfl)
        simp only [Act.put, List.setIfInBounds_toArray, List.set_cons_zero, List.set_cons_succ]
        refine held_val (i := 4) ?_ 22 rfl rfl (by kernel_rfl) (by kernel_rfl) (by kernel_rfl) (by rfl) (fun _ _ _ h => h) hS ?_ ?_
        rotate_left
        · (intro w hSw; obtain ⟨k0, k1, k2, k3, k4, k5⟩ := HX.out w hSw; go_simp; first | done | with_reducible rfl)
        simp only [Act.put, List.setIfInBounds_toArray, List.set_cons_zero, List.set_cons_succ]
        refine held_call (i := 5) 23 147 #[qp q, .agg #[.int .i64 y.c, .int .i64 y.p, .int .i64 y.o, .bool y.wr]] rfl rfl (by kernel_rfl) (by rfl) (by simp [go_sem]) (HAh.out _ hS) ?_
        rintro e w5 ⟨aa, ca, rfl, hS5⟩
        refine ⟨_, rfl, hS5, ?_⟩
        have hS5 := hS5
        simp only [Act.put, List.setIfInBounds_toArray, List.set_cons_zero, List.set_cons_succ]
        refine held_val (i := 6) ?_ 24 rfl rfl (by kernel_rfl) (by kernel_rfl) (by kernel_rfl) (by rfl) (fun _ _ _ h => h) hS5 ?_ ?_
        rotate_left
        · (intro w hSw; go_simp; first | done | with_reducible rfl)
        simp only [Act.put, List.setIfInBounds_toArray, List.set_cons_zero, List.set_cons_succ]
        refine held_val (i := 7) (.bool true) 25 rfl rfl (by kernel_rfl) (by kernel_rfl) (by kernel_rfl) (by rfl) (fun _ _ _ h => h) hS5 ?_ ?_
        · (intro w hSw; go_simp; first | done | with_reducible rfl)
        simp only [Act.put, List.setIfInBounds_toArray, List.set_cons_zero, List.set_cons_succ]
        refine held_val (i := 8) (.bool true) 26 rfl rfl (by kernel_rfl) (by kernel_rfl) (by kernel_rfl) (by rfl) (fun _ _ _ h => h) hS5 ?_ ?_
        · (intro w hSw; go_simp; first | done | with_reducible rfl)
        simp only [Act.put, List.setIfInBounds_toArray, List.set_cons_zero, List.set_cons_succ]
        refine held_skip (i := 9) 27 rfl rfl (by kernel_rfl) (by kernel_rfl) (by kernel_rfl) (by rfl) (fun _ _ _ h => h) hS5 ?_
        simp only [Act.put, List.setIfInBounds_toArray, List.set_cons_zero, List.set_cons_succ]
        refine held_skip (i := 10) 28 rfl rfl (by kernel_rfl) (by kernel_rfl) (by kernel_rfl) (by rfl) (fun _ _ _ h => h) hS5 ?_
        simp only [Act.put, List.setIfInBounds_toArray, List.set_cons_zero, List.set_cons_succ]
        refine held_skip (i := 11) 29 rfl rfl (by kernel_rfl) (by kernel_rfl) (by kernel_rfl) (by rfl) (fun _ _ _ h => h) hS5 ?_
        simp only [Act.put, List.setIfInBounds_toArray, List.set_cons_zero, List.set_cons_succ]
        refine held_skip (i := 12) 30 rfl rfl (by kernel_rfl) (by kernel_rfl) (by kernel_rfl) (by rfl) (fun _ _ _ h => h) hS5 ?_
        simp only [Act.put, List.setIfInBounds_toArray, List.set_cons_zero, List.set_cons_succ]
        refine held_skip (i := 13) 31 rfl rfl (by kernel_rfl) (by kernel_rfl) (by kernel_rfl) (by rfl) (fun _ _ _ h => h) hS5 ?_
        simp only [Act.put, List.setIfInBounds_toArray, List.set_cons_zero, List.set_cons_succ]
        refine held_skip (i := 14) 32 rfl rfl (by kernel_rfl) (by kernel_rfl) (by kernel_rfl) (by rfl) (fun _ _ _ h => h) hS5 ?_
        simp only [Act.put, List.setIfInBounds_toArray, List.set_cons_zero, List.set_cons_succ]
        refine held_skip (i := 15) 33 rfl rfl (by kernel_rfl) (by kernel_rfl) (by kernel_rfl) (by rfl) (fun _ _ _ h => h) hS5 ?_
        simp only [Act.put, List.setIfInBounds_toArray, List.set_cons_zero, List.set_cons_succ]
        refine held_skip (i := 16) 34 rfl rfl (by kernel_rfl) (by kernel_rfl) (by kernel_rfl) (by rfl) (fun _ _ _ h => h) hS5 ?_
        simp only [Act.put, List.setIfInBounds_toArray, List.set_cons_zero, List.set_cons_succ]
        refine held_skip (i := 17) 35 rfl rfl (by kernel_rfl) (by kernel_rfl) (by kernel_rfl) (by rfl) (fun _ _ _ h => h) hS5 ?_
        simp only [Act.put, List.setIfInBounds_toArray, List.set_cons_zero, List.set_cons_succ]
        refine held_val (i := 18) (.bool true) 36 rfl rfl (by kernel_rfl) (by kernel_rfl) (by kernel_rfl) (by rfl) (fun _ _ _ h => h) hS5 ?_ ?_
        · (intro w hSw; go_simp; first | done | with_reducible rfl)
        simp only [Act.put, List.setIfInBounds_toArray, List.set_cons_zero, List.set_cons_succ]
        refine wpAnyH_done (by kernel_rfl) ?_ _
        have HE : Hid (Dr B V1 W w5 d g q ⟨S.T, S.L, K⟩ (n + 4 * (k + 1)) a c A) := (HI.out.2.2.1.more HW.out.2.2.2 (below_step HBA.out.1 hS5)).le (by omega)
        clear hS hS5 HAh HX
        go_wp2
        go_roundw
        case rel => exact ⟨k + 1, a, c, l, K, A, by omega, by go_num, rfl, ⟨HI.out.1, by have := HI.out.2.1; omega, HE.out, HS2.out⟩⟩
        case measure => simp [intOf]; omega
      · obtain rfl : al = 0 := by omega
        cases hou : routB K y.c y.p
        · rw [hou] at HOu
          have HS3 : Hid (pass S S.L (S.K, []) = if (hoS S y).length = 0 then ((K, A), some y) else pass S (S.L.drop (k + 1)) ((cals y (hoS S y) (K, [])).1, A ++ (cals y (hoS S y) (K, [])).2)) := HS.out.trans (if_neg (by rw [HSk.out, hou]; simp))
          clear HS HSk hou
          refine wp_region_held (S := fun U => Below W2.heap.size W2 U) (by kernel_rfl) ?_
          have hS : Below W2.heap.size W2 W2.drew := bel0 W2
          refine held_val (i := 0) ?_ 18 rfl rfl (by kernel_rfl) (by kernel_rfl) (by kernel_rfl) (by rfl) (fun _ _ _ h => h) hS ?_ ?_
          rotate_left
          · (intro w hSw; go_simp; first | done | with_reducible rfl)
          simp only [Act.put, List.setIfInBounds_toArray, List.set_cons_zero, List.set_cons_succ]
          refine held_val (i := 1) ?_ 19 rfl rfl (by kernel_rfl) (by kernel_rfl) (by kernel_rfl) (by rfl) (fun _ _ _ h => h) hS ?_ ?_
          rotate_left
          · (intro w hSw; go_simp; first | done | with_reducible rfl)
          simp only [Act.put, List.setIfInBounds_toArray, List.set_cons_zero, List.set_cons_succ]
          refine held_val (i := 2) ?_ 20 rfl rfl (by kernel_rfl) (by kernel_rfl) (by kernel_rfl) (by rfl) (fun _ _ _ h => h) hS ?_ ?_
          rotate_left
          · (intro w hSw; go_simp; first | done | with_reducible rfl)
          simp only [Act.put, List.setIfInBounds_toArray, List.set_cons_zero, List.set_cons_succ]
          refine held_val (i := 3) ?_ 21 rfl rfl (by kernel_rfl) (by kernel_rfl) (by kernel_rfl) (by rfl) (fun _ _ _ h => h) hS ?_ ?_
          rotate_left
          · (intro w hSw; obtain ⟨k0, k1, k2, k3, k4, k5⟩ := HX.out w hSw; go_simp; first | done | with_reducible rfl)
          simp only [Act.put, List.setIfInBounds_toArray, List.set_cons_zero, List.set_cons_succ]
          refine held_val (i := 4) ?_ 22 rfl rfl (by kernel_rfl) (by kernel_rfl) (by kernel_rfl) (by rfl) (fun _ _ _ h => h) hS ?_ ?_
          rotate_left
          · (intro w hSw; obtain ⟨k0, k1, k2, k3, k4, k5⟩ := HX.out w hSw; go_simp; first | done | with_reducible rfl)
          simp only [Act.put, List.setIfInBounds_toArray, List.set_cons_zero, List.set_cons_succ]
          refine held_call (i := 5) 23 147 #[qp q, .agg #[.int .i64 y.c, .int .i64 y.p, .int .i64 y.o, .bool y.wr]] rfl rfl (by kernel_rfl) (by rfl) (by simp [go_sem]) (HAh.out _ hS) ?_
          rintro e w5 ⟨aa, ca, rfl, hS5⟩
          refine ⟨_, rfl, hS5, ?_⟩
          have hS5 := hS5
          simp only [Act.put, List.setIfInBounds_toArray, List.set_cons_zero, List.set_cons_succ]
          refine held_val (i := 6) ?_ 24 rfl rfl (by kernel_rfl) (by kernel_rfl) (by kernel_rfl) (by rfl) (fun _ _ _ h => h) hS5 ?_ ?_
          rotate_left
          · (intro w hSw; go_simp; first | done | with_reducible rfl)
          simp only [Act.put, List.setIfInBounds_toArray, List.set_cons_zero, List.set_cons_succ]
          refine held_val (i := 7) (.bool false) 25 rfl rfl (by kernel_rfl) (by kernel_rfl) (by kernel_rfl) (by rfl) (fun _ _ _ h => h) hS5 ?_ ?_
          · (intro w hSw; go_simp; first | done | with_reducible rfl)
          simp only [Act.put, List.setIfInBounds_toArray, List.set_cons_zero, List.set_cons_succ]
          refine held_val (i := 8) (.bool false) 26 rfl rfl (by kernel_rfl) (by kernel_rfl) (by kernel_rfl) (by rfl) (fun _ _ _ h => h) hS5 ?_ ?_
          · (intro w hSw; go_simp; first | done | with_reducible rfl)
          simp only [Act.put, List.setIfInBounds_toArray, List.set_cons_zero, List.set_cons_succ]
          refine held_val (i := 9) ?_ 27 rfl rfl (by kernel_rfl) (by kernel_rfl) (by kernel_rfl) (by rfl) (fun _ _ _ h => h) hS5 ?_ ?_
          rotate_left
          · (intro w hSw; go_simp; first | done | with_reducible rfl)
          simp only [Act.put, List.setIfInBounds_toArray, List.set_cons_zero, List.set_cons_succ]
          refine held_val (i := 10) ?_ 28 rfl rfl (by kernel_rfl) (by kernel_rfl) (by kernel_rfl) (by rfl) (fun _ _ _ h => h) hS5 ?_ ?_
          rotate_left
          · (intro w hSw; go_simp; first | done | with_reducible rfl)
          simp only [Act.put, List.setIfInBounds_toArray, List.set_cons_zero, List.set_cons_succ]
          refine held_val (i := 11) ?_ 29 rfl rfl (by kernel_rfl) (by kernel_rfl) (by kernel_rfl) (by rfl) (fun _ _ _ h => h) hS5 ?_ ?_
          rotate_left
          · (intro w hSw; go_simp; first | done | with_reducible rfl)
          simp only [Act.put, List.setIfInBounds_toArray, List.set_cons_zero, List.set_cons_succ]
          refine held_val (i := 12) ?_ 30 rfl rfl (by kernel_rfl) (by kernel_rfl) (by kernel_rfl) (by rfl) (fun _ _ _ h => h) hS5 ?_ ?_
          rotate_left
          · (intro w hSw; obtain ⟨k0, k1, k2, k3, k4, k5⟩ := HX.out w hSw; go_simp; first | done | with_reducible rfl)
          simp only [Act.put, List.setIfInBounds_toArray, List.set_cons_zero, List.set_cons_succ]
          refine held_val (i := 13) ?_ 31 rfl rfl (by kernel_rfl) (by kernel_rfl) (by kernel_rfl) (by rfl) (fun _ _ _ h => h) hS5 ?_ ?_
          rotate_left
          · (intro w hSw; go_simp; first | done | with_reducible rfl)
          simp only [Act.put, List.setIfInBounds_toArray, List.set_cons_zero, List.set_cons_succ]
          refine held_val (i := 14) ?_ 32 rfl rfl (by kernel_rfl) (by kernel_rfl) (by kernel_rfl) (by rfl) (fun _ _ _ h => h) hS5 ?_ ?_
          rotate_left
          · (intro w hSw; obtain ⟨k0, k1, k2, k3, k4, k5⟩ := HX.out w hSw; go_simp; first | done | with_reducible rfl)
          simp only [Act.put, List.setIfInBounds_toArray, List.set_cons_zero, List.set_cons_succ]
          refine held_val (i := 15) ?_ 33 rfl rfl (by kernel_rfl) (by kernel_rfl) (by kernel_rfl) (by rfl) (fun _ _ _ h => h) hS5 ?_ ?_
          rotate_left
          · (intro w hSw; go_simp; first | done | with_reducible rfl)
          simp only [Act.put, List.setIfInBounds_toArray, List.set_cons_zero, List.set_cons_succ]
          refine held_val (i := 16) ?_ 34 rfl rfl (by kernel_rfl) (by kernel_rfl) (by kernel_rfl) (by rfl) (fun _ _ _ h => h) hS5 ?_ ?_
          rotate_left
          · (intro w hSw; obtain ⟨k0, k1, k2, k3, k4, k5⟩ := HX.out w hSw; go_simp; first | done | with_reducible rfl)
          simp only [Act.put, List.setIfInBounds_toArray, List.set_cons_zero, List.set_cons_succ]
          refine held_call (i := 17) 35 173 #[qp q, .int .i64 y.c, .int .i64 y.p] rfl rfl (by kernel_rfl) (by rfl) (by simp [go_sem]) (HOu.out _ hS5) ?_
          rintro e w17 ⟨rfl, hS17⟩
          refine ⟨_, rfl, hS17, ?_⟩
          have hS17 := hS17
          simp only [Act.put, List.setIfInBounds_toArray, List.set_cons_zero, List.set_cons_succ]
          refine held_val (i := 18) (.bool false) 36 rfl rfl (by kernel_rfl) (by kernel_rfl) (by kernel_rfl) (by rfl) (fun _ _ _ h => h) hS17 ?_ ?_
          · (intro w hSw; go_simp; first | done | with_reducible rfl)
          simp only [Act.put, List.setIfInBounds_toArray, List.set_cons_zero, List.set_cons_succ]
          refine wpAnyH_done (by kernel_rfl) ?_ _
          have HD17 : Hid (Dk B V2 w17 d g q ⟨S.T, S.L, K⟩ (n + 4 * k) ∧ Below wr.heap.size wr w17 ∧ Below W2.heap.size W2 w17) := ⟨HD2.out.below hS17, below_step HBA.out.1 hS17, hS17⟩
          obtain ⟨k0, k1, k2, k3, k4, k5⟩ := HX.out w17 hS17
          obtain ⟨hl, hhl⟩ : ∃ hl, (hoS S y).length = hl := ⟨_, rfl⟩
          have HHo : Hid (Calls Tryz.prog 145 #[dp d, wtV y] w17 fun e w' => ∃ ah ch, e = .returned (.slice ah hl ch) ∧ Hid (OwnI w' w17.heap.size 3 .i64 ah ch (hoS S y)) ∧ Hid (Below w17.heap.size w17 w') ∧ Bx d g q b y w') := by
            refine (holdersFor_any HD17.out.1 y).mono ?_
            rintro e w' ⟨ah, ch, rfl, h2, h3⟩
            exact ⟨ah, ch, by rw [← hhl]; rfl, h2, h3, HX.out w' (below_step HD17.out.2.2 h3)⟩
          have HHl : Hid ((hoS S y).length = hl ∧ hl ≤ 4) := ⟨hhl, hhl ▸ ho_le S y⟩
          clear hhl hS hS5 hS17 HAh HOu
          by_cases hz2 : hl = 0
          · subst hz2
            have HF : Hid (pas S = (givS ⟨S.T, S.L, K⟩ y, A ++ [givA ⟨S.T, S.L, K⟩ y], true)) := by
              have h := HS3.out
              rw [if_pos HHl.out.1] at h
              show pas S = _
              unfold pas
              rw [h]
              rfl
            clear HS3
            obtain ⟨ga, hga⟩ : ∃ ga, givA ⟨S.T, S.L, K⟩ y = ga := ⟨_, rfl⟩
            rw [hga] at HF
            have HG : Hid (∀ U : World, Below w17.heap.size w17 U → Calls Tryz.prog 174 #[dp d, wtV y] U fun e w' => e = .returned (saV ga) ∧ Hid (Dr B V1 W w' d g q (givS ⟨S.T, S.L, K⟩ y) (n + 4 * k) a c A)) := fun U hU => by
              refine (give_any (HD17.out.1.below hU) (fun j hj => Nat.lt_of_lt_of_le (HV2.out.2.2 j hj) (below_step HD17.out.2.2 hU).size) y HRt.out).mono ?_
              rw [hga]
              rintro e w' ⟨rfl, h⟩
              exact ⟨rfl, HI.out.2.2.1.far HW.out.2.2.2 (below_step HD17.out.2.1 hU) h HV2.out.1⟩
            clear hga
            have HL : Hid (A.length = l ∧ l ≤ 16) := ⟨HI.out.1, by have := HI.out.2.1; omega⟩
            have hl16 : l ≤ 16 := HL.out.2
            go_upto_region 8 with (first
              | (go_at_call 145; refine HHo.out.mono ?_; rintro e w18 ⟨ah, ch, rfl, HO18, HB18, hx18⟩; obtain ⟨j0, j1, j2, j3, j4, j5⟩ := hx18)
              | fail)
            clear k0 k1 k2 k3 k4 k5 HI HX HHo
            go_wp2_with (first
              | (go_at_call 174; refine (HG.out w18 HB18.out).mono ?_; rintro e w19 ⟨rfl, HD19⟩)
              | (at_builtin; refine wpList_append_R saE _ rfl _ _ 102 rfl 151 _ 152 Tryz.underlying102 info34 rfl (L := A) (M := [ga]) (n := l) (m := 1) rfl rfl ((HD19.out.more HW.out.2.2.2 ((Below.refl _ _).alloc (Nat.le_refl _) _)).own) (RdR.built saE w19 151 #[.int .i64 ga.c, .int .i64 ga.k, .int .i64 ga.p, .int .i64 ga.o, .int .i64 0, .int .i64 ga.cp, .int .i64 ga.ow, .bool ga.wr, .slice none 0 0, .complex .f64 0 0, .complex .f64 0 0, .complex .f64 0 0, .complex .f64 0 0] [ga] rfl 1 rfl (by unfold maxLen; omega)) HL.out.1 rfl (by omega) (by unfold maxLen; omega) ?_; intro a2 c2 w8 ho8 hg8 hl8)
              | fail)
            have HD8 : Hid (Dr B V1 W w8 d g q (givS ⟨S.T, S.L, K⟩ y) (n + 4 * k) a2 c2 (A ++ [ga])) := HD19.out.app HW.out.2.2.2 ((Below.refl _ _).alloc (Nat.le_refl _) _) hg8 ho8 hl8
            clear ho8 hg8 hl8
            go_ret2
            refine ⟨a2, c2, ?_, ?_, ?_⟩
            · rw [HF.out]; simp only [List.length_append, HL.out.1]; rfl
            · rw [HF.out]; exact (HD8.out.close HVV.out.1 HW.out.1 HB.out.2.1 HB.out.1).le (by omega)
            · rw [HF.out]; simp only [List.length_append, HL.out.1, List.length_singleton]; omega
          · have HS4 : Hid (pass S S.L (S.K, []) = pass S (S.L.drop (k + 1)) ((cals y (hoS S y) (K, [])).1, A ++ (cals y (hoS S y) (K, [])).2)) := HS3.out.trans (if_neg (by rw [HHl.out.1]; exact hz2))
            clear HS3
            have hz3 : ((hl : Int) == 0) = false := by simp; omega
            have hn' : n + 4 * k ≤ 900000 := by omega
            have HG : Hid (∀ (U : World) (ah : Option Addr) (ch : Nat), Below w17.heap.size w17 U → OwnI U w17.heap.size 3 .i64 ah ch (hoS S y) → Calls Tryz.prog 175 #[dp d, .slice ah hl ch, wtV y] U fun e w' => ∃ a3 c3 l3, e = .returned (.slice a3 l3 c3) ∧ Hid (Dr B V1 W w' d g q ⟨S.T, S.L, (cals y (hoS S y) (K, [])).1⟩ (n + 4 * (k + 1)) a c A ∧ RdR saC w' a3 c3 (cals y (hoS S y) (K, [])).2 ∧ (cals y (hoS S y) (K, [])).2.length = l3) ∧ l3 ≤ 4) := fun U ah ch hU ho => by
              have hbk := ho.blk
              have hlt2 : ∀ j, V2 j → j < w17.heap.size := fun j hj => Nat.lt_of_lt_of_le (HV2.out.2.2 j hj) HD17.out.2.2.size
              refine (call_desk (V := Va V2 ah) (HD17.out.1.more hU ?_) ?_ hn' y ah hl ch (hoS S y) ho.rd HHl.out.1 HHl.out.2 fun z hz => .inr ⟨z, hz, rfl⟩).mono ?_
              · rintro j (h | ⟨z, hz, rfl⟩)
                · exact .inl h
                · exact .inr (hbk z hz).1
              · rintro j (h | ⟨z, hz, rfl⟩)
                · exact Nat.lt_of_lt_of_le (hlt2 j h) hU.size
                · exact (hbk z hz).2
              · rintro e w' ⟨a3, c3, rfl, h3, h4⟩
                refine ⟨a3, c3, _, rfl, ⟨?_, h3.own.rd, rfl⟩, h4⟩
                exact (HI.out.2.2.1.far HW.out.2.2.2 (below_step HD17.out.2.1 hU) h3.dx fun j hj => .inl (HV2.out.1 j hj)).le (by omega)
            have HL : Hid (A.length = l ∧ l ≤ 4 * k) := ⟨HI.out.1, HI.out.2.1⟩
            have hl16 : l ≤ 16 := by have := HL.out.2; omega
            go_upto_region 9 with (first
              | (go_at_call 145; refine HHo.out.mono ?_; rintro e w18 ⟨ah, ch, rfl, HO18, HB18, hx18⟩; obtain ⟨j0, j1, j2, j3, j4, j5⟩ := hx18)
              | fail)
            clear k0 k1 k2 k3 k4 k5 HI HX HHo
            go_wp2_with (first
              | (go_at_call 175; refine (HG.out w18 ah ch HB18.out HO18.out).mono ?_; rintro e w19 ⟨a3, c3, l3, rfl, HD19, hl3⟩)
              | (at_builtin; refine wpList_append_R saE _ rfl _ _ 102 rfl 151 _ 152 Tryz.underlying102 info34 rfl (L := A) (M := (cals y (hoS S y) (K, [])).2) (n := l) (m := l3) rfl rfl HD19.out.1.own HD19.out.2.1 HL.out.1 HD19.out.2.2 (by omega) (by unfold maxLen; omega) ?_; intro a2 c2 w8 ho8 hg8 hl8)
              | fail)
            have HD8 : Hid (Dr B V1 W w8 d g q ⟨S.T, S.L, (cals y (hoS S y) (K, [])).1⟩ (n + 4 * (k + 1)) a2 c2 (A ++ (cals y (hoS S y) (K, [])).2)) := HD19.out.1.app HW.out.2.2.2 (Below.refl _ _) hg8 ho8 hl8
            have HL8 : Hid ((A ++ (cals y (hoS S y) (K, [])).2).length = l + l3) := by show _ = _; rw [List.length_append, HL.out.1, HD19.out.2.2]
            clear ho8 hg8 hl8 HG
            go_roundw
            case rel => exact ⟨k + 1, a2, c2, l + l3, _, _, by omega, by go_num, rfl, ⟨HL8.out, by have := HL.out.2; omega, HD8.out, HS4.out⟩⟩
            case measure => simp [intOf]; omega
        · rw [hou] at HOu
          have HS2 : Hid (pass S S.L (S.K, []) = pass S (S.L.drop (k + 1)) (K, A)) := HS.out.trans (if_pos (by rw [HSk.out, hou]; simp))
          clear HS HSk hou
          refine wp_region_held (S := fun U => Below W2.heap.size W2 U) (by kernel_rfl) ?_
          have hS : Below W2.heap.size W2 W2.drew := bel0 W2
          refine held_val (i := 0) ?_ 18 rfl rfl (by kernel_rfl) (by kernel_rfl) (by kernel_rfl) (by rfl) (fun _ _ _ h => h) hS ?_ ?_
          rotate_left
          · (intro w hSw; go_simp; first | done | with_reducible rfl)
          simp only [Act.put, List.setIfInBounds_toArray, List.set_cons_zero, List.set_cons_succ]
          refine held_val (i := 1) ?_ 19 rfl rfl (by kernel_rfl) (by kernel_rfl) (by kernel_rfl) (by rfl) (fun _ _ _ h => h) hS ?_ ?_
          rotate_left
          · (intro w hSw; go_simp; first | done | with_reducible rfl)
          simp only [Act.put, List.setIfInBounds_toArray, List.set_cons_zero, List.set_cons_succ]
          refine held_val (i := 2) ?_ 20 rfl rfl (by kernel_rfl) (by kernel_rfl) (by kernel_rfl) (by rfl) (fun _ _ _ h => h) hS ?_ ?_
          rotate_left
          · (intro w hSw; go_simp; first | done | with_reducible rfl)
          simp only [Act.put, List.setIfInBounds_toArray, List.set_cons_zero, List.set_cons_succ]
          refine held_val (i := 3) ?_ 21 rfl rfl (by kernel_rfl) (by kernel_rfl) (by kernel_rfl) (by rfl) (fun _ _ _ h => h) hS ?_ ?_
          rotate_left
          · (intro w hSw; obtain ⟨k0, k1, k2, k3, k4, k5⟩ := HX.out w hSw; go_simp; first | done | with_reducible rfl)
          simp only [Act.put, List.setIfInBounds_toArray, List.set_cons_zero, List.set_cons_succ]
          refine held_val (i := 4) ?_ 22 rfl rfl (by kernel_rfl) (by kernel_rfl) (by kernel_rfl) (by rfl) (fun _ _ _ h => h) hS ?_ ?_
          rotate_left
          · (intro w hSw; obtain ⟨k0, k1, k2, k3, k4, k5⟩ := HX.out w hSw; go_simp; first | done | with_reducible rfl)
          simp only [Act.put, List.setIfInBounds_toArray, List.set_cons_zero, List.set_cons_succ]
          refine held_call (i := 5) 23 147 #[qp q, .agg #[.int .i64 y.c, .int .i64 y.p, .int .i64 y.o, .bool y.wr]] rfl rfl (by kernel_rfl) (by rfl) (by simp [go_sem]) (HAh.out _ hS) ?_
          rintro e w5 ⟨aa, ca, rfl, hS5⟩
          refine ⟨_, rfl, hS5, ?_⟩
          have hS5 := hS5
          simp only [Act.put, List.setIfInBounds_toArray, List.set_cons_zero, List.set_cons_succ]
          refine held_val (i := 6) ?_ 24 rfl rfl (by kernel_rfl) (by kernel_rfl) (by kernel_rfl) (by rfl) (fun _ _ _ h => h) hS5 ?_ ?_
          rotate_left
          · (intro w hSw; go_simp; first | done | with_reducible rfl)
          simp only [Act.put, List.setIfInBounds_toArray, List.set_cons_zero, List.set_cons_succ]
          refine held_val (i := 7) (.bool false) 25 rfl rfl (by kernel_rfl) (by kernel_rfl) (by kernel_rfl) (by rfl) (fun _ _ _ h => h) hS5 ?_ ?_
          · (intro w hSw; go_simp; first | done | with_reducible rfl)
          simp only [Act.put, List.setIfInBounds_toArray, List.set_cons_zero, List.set_cons_succ]
          refine held_val (i := 8) (.bool false) 26 rfl rfl (by kernel_rfl) (by kernel_rfl) (by kernel_rfl) (by rfl) (fun _ _ _ h => h) hS5 ?_ ?_
          · (intro w hSw; go_simp; first | done | with_reducible rfl)
          simp only [Act.put, List.setIfInBounds_toArray, List.set_cons_zero, List.set_cons_succ]
          refine held_val (i := 9) ?_ 27 rfl rfl (by kernel_rfl) (by kernel_rfl) (by kernel_rfl) (by rfl) (fun _ _ _ h => h) hS5 ?_ ?_
          rotate_left
          · (intro w hSw; go_simp; first | done | with_reducible rfl)
          simp only [Act.put, List.setIfInBounds_toArray, List.set_cons_zero, List.set_cons_succ]
          refine held_val (i := 10) ?_ 28 rfl rfl (by kernel_rfl) (by kernel_rfl) (by kernel_rfl) (by rfl) (fun _ _ _ h => h) hS5 ?_ ?_
          rotate_left
          · (intro w hSw; go_simp; first | done | with_reducible rfl)
          simp only [Act.put, List.setIfInBounds_toArray, List.set_cons_zero, List.set_cons_succ]
          refine held_val (i := 11) ?_ 29 rfl rfl (by kernel_rfl) (by kernel_rfl) (by kernel_rfl) (by rfl) (fun _ _ _ h => h) hS5 ?_ ?_
          rotate_left
          · (intro w hSw; go_simp; first | done | with_reducible rfl)
          simp only [Act.put, List.setIfInBounds_toArray, List.set_cons_zero, List.set_cons_succ]
          refine held_val (i := 12) ?_ 30 rfl rfl (by kernel_rfl) (by kernel_rfl) (by kernel_rfl) (by rfl) (fun _ _ _ h => h) hS5 ?_ ?_
          rotate_left
          · (intro w hSw; obtain ⟨k0, k1, k2, k3, k4, k5⟩ := HX.out w hSw; go_simp; first | done | with_reducible rfl)
          simp only [Act.put, List.setIfInBounds_toArray, List.set_cons_zero, List.set_cons_succ]
          refine held_val (i := 13) ?_ 31 rfl rfl (by kernel_rfl) (by kernel_rfl) (by kernel_rfl) (by rfl) (fun _ _ _ h => h) hS5 ?_ ?_
          rotate_left
          · (intro w hSw; go_simp; first | done | with_reducible rfl)
          simp only [Act.put, List.setIfInBounds_toArray, List.set_cons_zero, List.set_cons_succ]
          refine held_val (i := 14) ?_ 32 rfl rfl (by kernel_rfl) (by kernel_rfl) (by kernel_rfl) (by rfl) (fun _ _ _ h => h) hS5 ?_ ?_
          rotate_left
          · (intro w hSw; obtain ⟨k0, k1, k2, k3, k4, k5⟩ := HX.out w hSw; go_simp; first | done | with_reducible rfl)
          simp only [Act.put, List.setIfInBounds_toArray, List.set_cons_zero, List.set_cons_succ]
          refine held_val (i := 15) ?_ 33 rfl rfl (by kernel_rfl) (by kernel_rfl) (by kernel_rfl) (by rfl) (fun _ _ _ h => h) hS5 ?_ ?_
          rotate_left
          · (intro w hSw; go_simp; first | done | with_reducible rfl)
          simp only [Act.put, List.setIfInBounds_toArray, List.set_cons_zero, List.set_cons_succ]
          refine held_val (i := 16) ?_ 34 rfl rfl (by kernel_rfl) (by kernel_rfl) (by kernel_rfl) (by rfl) (fun _ _ _ h => h) hS5 ?_ ?_
          rotate_left
          · (intro w hSw; obtain ⟨k0, k1, k2, k3, k4, k5⟩ := HX.out w hSw; go_simp; first | done | with_reducible rfl)
          simp only [Act.put, List.setIfInBounds_toArray, List.set_cons_zero, List.set_cons_succ]
          refine held_call (i := 17) 35 173 #[qp q, .int .i64 y.c, .int .i64 y.p] rfl rfl (by kernel_rfl) (by rfl) (by simp [go_sem]) (HOu.out _ hS5) ?_
          rintro e w17 ⟨rfl, hS17⟩
          refine ⟨_, rfl, hS17, ?_⟩
          have hS17 := hS17
          simp only [Act.put, List.setIfInBounds_toArray, List.set_cons_zero, List.set_cons_succ]
          refine held_val (i := 18) (.bool true) 36 rfl rfl (by kernel_rfl) (by kernel_rfl) (by kernel_rfl) (by rfl) (fun _ _ _ h => h) hS17 ?_ ?_
          · (intro w hSw; go_simp; first | done | with_reducible rfl)
          simp only [Act.put, List.setIfInBounds_toArray, List.set_cons_zero, List.set_cons_succ]
          refine wpAnyH_done (by kernel_rfl) ?_ _
          have HE : Hid (Dr B V1 W w17 d g q ⟨S.T, S.L, K⟩ (n + 4 * (k + 1)) a c A) := (HI.out.2.2.1.more HW.out.2.2.2 (below_step HBA.out.1 hS17)).le (by omega)
          clear hS hS5 hS17 HAh HOu HX
          go_wp2
          go_roundw
          case rel => exact ⟨k + 1, a, c, l, K, A, by omega, by go_num, rfl, ⟨HI.out.1, by have := HI.out.2.1; omega, HE.out, HS2.out⟩⟩
          case measure => simp [intOf]; omega
    · obtain rfl : k = m := by omega
      have e0' : decide ((k : Int) < k) = false := by simp
      have hd : S.L.drop k = [] := List.drop_eq_nil_of_le (by have := HB.out.2.2.1; omega)
      have HF : Hid (pas S = (⟨S.T, S.L, K⟩, A, false)) := by
        have h := HI.out.2.2.2
        rw [hd] at h
        show pas S = _
        unfold pas
        rw [h]
        rfl
      have HE : Hid (Dr B V w wr d g q ⟨S.T, S.L, K⟩ (n + 20) a c A ∧ A.length = l ∧ l ≤ 17) := ⟨(HI.out.2.2.1.close HVV.out.1 HW.out.1 HB.out.2.1 HB.out.1).le (by omega), HI.out.1, by have := HI.out.2.1; omega⟩
      clear HI hd
      go_wp2
      go_ret2
      refine ⟨a, c, ?_, ?_, ?_⟩
      · rw [HF.out]; simp only [HE.out.2.1]; rfl
      · rw [HF.out]; exact HE.out.1
      · rw [HF.out]; simp only [HE.out.2.1]; exact HE.out.2.2

end Go.Proofs.YtpofihiojhbfgaaGreatDoor.Dsk
