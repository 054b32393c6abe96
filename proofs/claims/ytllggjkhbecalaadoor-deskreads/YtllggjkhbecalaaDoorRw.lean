/- DeskReads, walked. -/
import Derived.Test.YtllggjkhbecalaaDoorAl
import Derived.Test.YtllggjkhbecalaaDoorRm
import Derived.Test.YtllggjkhbecalaaDoorRs
namespace Go.Proofs.YtllggjkhbecalaaDoor
open Go.RowKit Go.Maps
set_option linter.unusedVariables false
set_option maxRecDepth 8000

set_option maxHeartbeats 6400000 in
theorem reads_main (ao : Option Addr) (cap m : Nat) (A : List Wt) (w : World) (hA : RdR wtC w ao cap A) (hm : A.length = m) (hok : ∀ x ∈ A, x.ok) (H : Wai.Tz w) : Calls Tryd.prog 4 #[.slice ao m cap] w fun e w' => e = .returned (.bool true) ∧ Below w.heap.size w w' := by
  have hst := fun (ad : Addr) (re im : Nat) (W : World) => run_store Tryd.prog W ad (.complex .f64 re im) .plain rfl
  have HA : Hid (RdR wtC w ao cap A ∧ A.length = m ∧ (∀ x ∈ A, x.ok) ∧ Wai.Tz w) := ⟨hA, hm, hok, H⟩
  clear hA hm hok H
  by_cases h60 : 60 < m
  · have q : decide (60 < (m : Int)) = true := by simp; omega
    go_enter Tryd.func4, Tryd.ntmps4
    go_wp2_with (first
      | (go_at_call 8; refine (alive_any w HA.out.2.2.2).mono ?_; rintro e w1 ⟨rfl, hb1⟩)
      | fail)
    go_ret
    exact ⟨rfl, hb1⟩
  have q : decide (60 < (m : Int)) = false := by simp; omega
  go_enter Tryd.func4, Tryd.ntmps4
  go_wp2_with (first
    | (go_at_call 8; refine (alive_any w HA.out.2.2.2).mono ?_; rintro e w1 ⟨rfl, hb1⟩)
    | (go_at_call 5; refine (new_alone w1 (HA.out.2.2.2.on hb1)).mono ?_; rintro e w2 ⟨d, g, q', rfl, HK⟩)
    | fail)
  have HB1 : Hid (Below w.heap.size w w1) := hb1
  obtain ⟨B, hB⟩ : ∃ B, w1.heap.size = B := ⟨_, rfl⟩
  rw [hB] at HK
  have HBe : Hid (w1.heap.size = B) := hB
  clear hb1 hB
  go_loopw [16] (fun i wr => ∃ (k n : Nat) (T : Nat → Nat), k ≤ m ∧ i = .int .i64 k ∧ Hid (NoOwn T ∧ n ≤ 700 * k ∧ Da B wr d g q' ⟨T, [], []⟩ n ∧ Below B w1 wr)) (fun i _ => m - (intOf i).toNat)
  case atStart => exact ⟨0, 0, T0, Nat.zero_le _, rfl, ⟨fun _ _ => rfl, Nat.le_refl _, HK.out.1, HK.out.2⟩⟩
  case round =>
    clear HK
    obtain ⟨k, n, T, hk, rfl, HI⟩ := hrel
    rename World => wr
    have HBW : Hid (Below w.heap.size w wr) := HB1.out.trans (HI.out.2.2.2.mono (by rw [← HBe.out]; exact HB1.out.size))
    by_cases hlt : k < m
    · have hkl : k < A.length := by have := HA.out.2.1; omega
      obtain ⟨bk, off, rfl, -, hcc⟩ := (HA.out.1.below HBW.out).at wtE hkl
      obtain ⟨z0, z1, z2, z3⟩ := wtIn _ _ _ _ hcc
      have HOk : Hid (A[k].ok) := HA.out.2.2.1 _ (List.getElem_mem hkl)
      clear hcc
      generalize A[k] = x at *
      have e0' : decide ((k : Int) < m) = true := by simp; omega
      go_upto_region 10 with fail
      have hbA : Below wr.heap.size wr ((wr.alloc (wtO x)).alloc (.cells #[.int .i64 0, .int .i64 x.p, .int .i64 x.o, .int .i64 0, .int .i64 0, .int .i64 0, .bool false, .slice none 0 0, .complex .f64 0 0, .complex .f64 0 0, .complex .f64 0 0, .complex .f64 0 0] 30)) := ((Below.refl _ _).alloc (Nat.le_refl _) _).alloc (by simp) _
      have h0 : ((wr.alloc (wtO x)).alloc (.cells #[.int .i64 0, .int .i64 x.p, .int .i64 x.o, .int .i64 0, .int .i64 0, .int .i64 0, .bool false, .slice none 0 0, .complex .f64 0 0, .complex .f64 0 0, .complex .f64 0 0, .complex .f64 0 0] 30)).heap[wr.heap.size]? = some (wtO x) := (((Below.refl _ _).alloc (Nat.le_refl _) _ : Below (wr.alloc (wtO x)).heap.size (wr.alloc (wtO x)) _).block _ (by simp)).trans (heap_alloc_new wr (wtO x))
      have h1 := heap_alloc_new (wr.alloc (wtO x)) (.cells #[.int .i64 0, .int .i64 x.p, .int .i64 x.o, .int .i64 0, .int .i64 0, .int .i64 0, .bool false, .slice none 0 0, .complex .f64 0 0, .complex .f64 0 0, .complex .f64 0 0, .complex .f64 0 0] 30)
      rw [show (wr.alloc (wtO x)).heap.size = wr.heap.size + 1 from by simp] at h1
      have hs : wr.heap.size + 1 < ((wr.alloc (wtO x)).alloc (.cells #[.int .i64 0, .int .i64 x.p, .int .i64 x.o, .int .i64 0, .int .i64 0, .int .i64 0, .bool false, .slice none 0 0, .complex .f64 0 0, .complex .f64 0 0, .complex .f64 0 0, .complex .f64 0 0] 30)).heap.size := by simp
      obtain ⟨b, hb⟩ : ∃ b, wr.heap.size = b := ⟨_, rfl⟩
      rw [hb] at h0 h1 hs ⊢
      have HBb : Hid (wr.heap.size = b) := hb
      have HW : Hid (Below wr.heap.size wr ((wr.alloc (wtO x)).alloc (.cells #[.int .i64 0, .int .i64 x.p, .int .i64 x.o, .int .i64 0, .int .i64 0, .int .i64 0, .bool false, .slice none 0 0, .complex .f64 0 0, .complex .f64 0 0, .complex .f64 0 0, .complex .f64 0 0] 30)) ∧ ((wr.alloc (wtO x)).alloc (.cells #[.int .i64 0, .int .i64 x.p, .int .i64 x.o, .int .i64 0, .int .i64 0, .int .i64 0, .bool false, .slice none 0 0, .complex .f64 0 0, .complex .f64 0 0, .complex .f64 0 0, .complex .f64 0 0] 30)).heap[b]? = some (wtO x) ∧ ((wr.alloc (wtO x)).alloc (.cells #[.int .i64 0, .int .i64 x.p, .int .i64 x.o, .int .i64 0, .int .i64 0, .int .i64 0, .bool false, .slice none 0 0, .complex .f64 0 0, .complex .f64 0 0, .complex .f64 0 0, .complex .f64 0 0] 30)).heap[b + 1]? = some (.cells #[.int .i64 0, .int .i64 x.p, .int .i64 x.o, .int .i64 0, .int .i64 0, .int .i64 0, .bool false, .slice none 0 0, .complex .f64 0 0, .complex .f64 0 0, .complex .f64 0 0, .complex .f64 0 0] 30) ∧ b + 1 < ((wr.alloc (wtO x)).alloc (.cells #[.int .i64 0, .int .i64 x.p, .int .i64 x.o, .int .i64 0, .int .i64 0, .int .i64 0, .bool false, .slice none 0 0, .complex .f64 0 0, .complex .f64 0 0, .complex .f64 0 0, .complex .f64 0 0] 30)).heap.size) := ⟨hbA, h0, h1, hs⟩
      show Code.wp _ _ _ _ ((wr.alloc (wtO x)).alloc (.cells #[.int .i64 0, .int .i64 x.p, .int .i64 x.o, .int .i64 0, .int .i64 0, .int .i64 0, .bool false, .slice none 0 0, .complex .f64 0 0, .complex .f64 0 0, .complex .f64 0 0, .complex .f64 0 0] 30))
      clear hbA h0 h1 hs hb z0 z1 z2 z3
      generalize (wr.alloc (wtO x)).alloc (.cells #[.int .i64 0, .int .i64 x.p, .int .i64 x.o, .int .i64 0, .int .i64 0, .int .i64 0, .bool false, .slice none 0 0, .complex .f64 0 0, .complex .f64 0 0, .complex .f64 0 0, .complex .f64 0 0] 30) = W2 at *
      have HX : Hid (∀ U : World, Below W2.heap.size W2 U → U.cell? ⟨b, 0, none⟩ = some (.int .i64 x.c) ∧ U.cell? ⟨b + 1, 0, none⟩ = some (.int .i64 0) ∧ U.cell? ⟨b + 1, 1, none⟩ = some (.int .i64 x.p) ∧ U.cell? ⟨b + 1, 2, none⟩ = some (.int .i64 x.o) ∧ U.cell? ⟨b + 1, 3, none⟩ = some (.int .i64 0) ∧ U.cell? ⟨b + 1, 4, none⟩ = some (.int .i64 0) ∧ U.cell? ⟨b + 1, 5, none⟩ = some (.int .i64 0) ∧ U.cell? ⟨b + 1, 6, none⟩ = some (.bool false) ∧ U.cell? ⟨b + 1, 7, none⟩ = some (.slice none 0 0) ∧ U.cell? ⟨b + 1, 8, none⟩ = some (.complex .f64 0 0) ∧ U.cell? ⟨b + 1, 9, none⟩ = some (.complex .f64 0 0) ∧ U.cell? ⟨b + 1, 10, none⟩ = some (.complex .f64 0 0) ∧ U.cell? ⟨b + 1, 11, none⟩ = some (.complex .f64 0 0)) := fun U hU => by
        have g0 := (hU.block b (by have := HW.out.2.2.2; omega)).trans HW.out.2.1
        have g1 := (hU.block (b + 1) HW.out.2.2.2).trans HW.out.2.2.1
        refine ⟨?_, ?_, ?_, ?_, ?_, ?_, ?_, ?_, ?_, ?_, ?_, ?_, ?_⟩
        · rw [cell_of_row _ _ _ _ _ _ g0]; rfl
        all_goals rw [cell_of_row _ _ _ _ _ _ g1]; rfl
      have HN : Hid (∀ U : World, Below W2.heap.size W2 U → NoOwn T ∧ n ≤ 700 * (k + 1) ∧ Da B U d g q' ⟨T, [], []⟩ n ∧ Below B w1 U) := fun U hU => ⟨HI.out.1, by have := HI.out.2.1; omega, HI.out.2.2.1.below (below_step HW.out.1 hU), HI.out.2.2.2.trans ((below_step HW.out.1 hU).mono (HI.out.2.2.1.dk.hB))⟩
      obtain ⟨c0, m0, m1, m2, m3, m4, m5, m6, m7, m8, m9, m10, m11⟩ := HX.out W2 (Below.refl _ _)
      by_cases g0 : x.c < 0
      · have f0 : decide (x.c < 0) = true := by simp; omega
        clear HX
        go_wp2
        go_roundw
        case rel => exact ⟨k + 1, n, T, by omega, by go_num, HN.out _ (Below.refl _ _)⟩
        case measure => simp [intOf]; omega
      have f0 : decide (x.c < 0) = false := by simp; omega
      by_cases g3 : 3 < x.c
      · have f3 : decide (3 < x.c) = true := by simp; omega
        clear HX
        go_wp2
        go_roundw
        case rel => exact ⟨k + 1, n, T, by omega, by go_num, HN.out _ (Below.refl _ _)⟩
        case measure => simp [intOf]; omega
      have f3 : decide (3 < x.c) = false := by simp; omega
      cases hr : rrB x.p x.o
      · have HR : Hid (Calls Tryd.prog 12 #[.agg #[.int .i64 0, .int .i64 x.p, .int .i64 x.o, .int .i64 0, .int .i64 0, .int .i64 0, .bool false, .slice none 0 0, .complex .f64 0 0, .complex .f64 0 0, .complex .f64 0 0, .complex .f64 0 0]] W2 fun e w' => e = .returned (.bool false) ∧ Below W2.heap.size W2 w') := by have := right0 x.p x.o W2; rw [hr] at this; exact this
        clear HX
        go_wp2_with (first
          | (go_at_call 12; refine HR.out.mono ?_; rintro e w3 ⟨rfl, hb3⟩)
          | fail)
        go_roundw
        case rel => exact ⟨k + 1, n, T, by omega, by go_num, HN.out _ hb3⟩
        case measure => simp [intOf]; omega
      · have HR : Hid (Calls Tryd.prog 12 #[.agg #[.int .i64 0, .int .i64 x.p, .int .i64 x.o, .int .i64 0, .int .i64 0, .int .i64 0, .bool false, .slice none 0 0, .complex .f64 0 0, .complex .f64 0 0, .complex .f64 0 0, .complex .f64 0 0]] W2 fun e w' => e = .returned (.bool true) ∧ Below W2.heap.size W2 w') := by have := right0 x.p x.o W2; rw [hr] at this; exact this
        have hpo : (0 ≤ x.p ∧ x.p ≤ 5) ∧ 0 ≤ x.o ∧ x.o ≤ 3 := by
          have h := hr
          unfold rrB at h
          simp at h
          omega
        clear hr
        obtain ⟨xc, xp, xo, xw⟩ := x
        simp only at g0 g3 hpo f0 f3
        obtain ⟨c, rfl⟩ : ∃ c : Nat, xc = c := ⟨xc.toNat, by omega⟩
        obtain ⟨p, rfl⟩ : ∃ p : Nat, xp = p := ⟨xp.toNat, by omega⟩
        obtain ⟨o, rfl⟩ : ∃ o : Nat, xo = o := ⟨xo.toNat, by omega⟩
        obtain ⟨T', hT1, hT2⟩ := reads_math HI.out.1 HI.out.2.2.1.dk.tb.le c p o (by omega) (by omega) (by omega)
        have HH : Hid (∀ U : World, Below W2.heap.size W2 U → Calls Tryd.prog 6 #[dp d, .int .i64 (c : Int), .agg #[.int .i64 0, .int .i64 (p : Int), .int .i64 (o : Int), .int .i64 0, .int .i64 0, .int .i64 0, .bool false, .slice none 0 0, .complex .f64 0 0, .complex .f64 0 0, .complex .f64 0 0, .complex .f64 0 0]] U fun e w' => ∃ a cc, e = .returned (.slice a 1 cc) ∧ Hid ((NoOwn T' ∧ n + 700 ≤ 700 * (k + 1) ∧ Da B w' d g q' ⟨T', [], []⟩ (n + 700) ∧ Below B w1 w') ∧ OwR saC 13 34 w' a cc [⟨(c : Int), 5, (p : Int), 0, 15, 0, false⟩] ∧ w'.heap[b]? = some (wtO ⟨(c : Int), (p : Int), (o : Int), xw⟩))) := fun U hU => by
          have hD := HI.out.2.2.1
          have hn := HI.out.2.1
          have hbb := HBb.out
          have hbU := below_step HW.out.1 hU
          have hbs := hbU.size
          have hlt2 : b < U.heap.size := by have := HW.out.2.2.2; have := hU.size; omega
          refine (handle_any (V := fun k => k = b) (hD.dk.more hbU (by rintro j rfl; exact .inr (by omega))) (by rintro j rfl; exact hlt2) (by omega) (hD.tz.on hbU) hD.b2 c 0 p o 0 0 0 false none 0 0 0 0 0 0 0 0 0 0 (in_small (by omega)) (in_small (by omega)) (in_small (by omega))).mono ?_
          rw [hT2]
          rintro e w' ⟨a, cc, rfl, h⟩
          refine ⟨a, cc, rfl, ⟨⟨hT1, by omega, ⟨h.dk.less fun j hj => hj.elim, (hD.tz.on hbU).below hD.b2 h.bel, hD.b2⟩, ((HN.out U hU).2.2.2).trans h.bel⟩, h.own, ?_⟩⟩
          exact (h.keep b rfl).trans ((hU.block b (by have := HW.out.2.2.2; omega)).trans HW.out.2.1)
        clear hT1 hT2
        go_upto_region 12 with (first
          | (go_at_call 12; refine HR.out.mono ?_; rintro e w3 ⟨rfl, hb3⟩; obtain ⟨n0, nA, nB, nC, nD, nE, nF, nG, nH, nI, nJ, nK, nL⟩ := HX.out w3 hb3)
          | (go_at_call 6; refine (HH.out w3 hb3).mono ?_; rintro e w4 ⟨a4, cc, rfl, HD4⟩)
          | fail)
        obtain ⟨bl, rfl, hcc1, -, -, -, -⟩ := HD4.out.2.1.one
        have HY : Hid (∀ U : World, Below w4.heap.size w4 U → U.cell? ⟨bl, 0, none⟩ = some (.int .i64 (c : Int)) ∧ U.cell? ⟨bl, 1, none⟩ = some (.int .i64 5) ∧ U.cell? ⟨bl, 5, none⟩ = some (.int .i64 15) ∧ U.cell? ⟨bl, 6, none⟩ = some (.int .i64 0) ∧ U.cell? ⟨b, 0, none⟩ = some (.int .i64 (c : Int))) := fun U hU => by
          obtain ⟨b', e', _, l0, l1, l5, l6⟩ := (HD4.out.2.1.below hU).one
          obtain rfl : bl = b' := by simpa using e'
          refine ⟨l0, l1, l5, l6, ?_⟩
          have hbx := (hU.block b (Array.getElem?_eq_some_iff.1 HD4.out.2.2).1).trans HD4.out.2.2
          rw [cell_of_row _ _ _ _ _ _ hbx]; rfl
        have HWa : Hid (∀ U : World, Below w4.heap.size w4 U → Calls Tryd.prog 10 #[dp d] U fun e w' => ∃ aa ca, e = .returned (.slice aa 0 ca) ∧ Below w4.heap.size w4 w') := fun U hU => by
          refine (wants_any (HD4.out.1.2.2.1.below hU).dk).mono ?_
          rintro e w' ⟨aa, ca, rfl, -, -, h⟩
          exact ⟨aa, ca, rfl, below_step hU h⟩
        have hne : (((c : Nat) : Int) != c) = false := by simp
        clear HR HH HX HN
        refine wp_region_held (S := fun U => Below w4.heap.size w4 U) (by kernel_rfl) ?_
        have hS : Below w4.heap.size w4 w4.drew := bel0 w4
        refine held_val (i := 0) ?_ 43 rfl rfl (by kernel_rfl) (by kernel_rfl) (by kernel_rfl) (by rfl) (fun _ _ _ h => h) hS ?_ ?_
        rotate_left
        · (intro w hSw; go_simp; first | done | with_reducible rfl)
        simp only [Act.put, List.setIfInBounds_toArray, List.set_cons_zero, List.set_cons_succ]
        refine held_val (i := 1) ?_ 44 rfl rfl (by kernel_rfl) (by kernel_rfl) (by kernel_rfl) (by rfl) (fun _ _ _ h => h) hS ?_ ?_
        rotate_left
        · (intro w hSw; go_simp; first | done | with_reducible rfl)
        simp only [Act.put, List.setIfInBounds_toArray, List.set_cons_zero, List.set_cons_succ]
        refine held_val (i := 2) (.bool false) 45 rfl rfl (by kernel_rfl) (by kernel_rfl) (by kernel_rfl) (by rfl) (fun _ _ _ h => h) hS ?_ ?_
        · (intro w hSw; go_simp; first | done | with_reducible rfl)
        simp only [Act.put, List.setIfInBounds_toArray, List.set_cons_zero, List.set_cons_succ]
        refine held_val (i := 3) (.bool false) 46 rfl rfl (by kernel_rfl) (by kernel_rfl) (by kernel_rfl) (by rfl) (fun _ _ _ h => h) hS ?_ ?_
        · (intro w hSw; go_simp; first | done | with_reducible rfl)
        simp only [Act.put, List.setIfInBounds_toArray, List.set_cons_zero, List.set_cons_succ]
        refine held_val (i := 4) ?_ 47 rfl rfl (by kernel_rfl) (by kernel_rfl) (by kernel_rfl) (by rfl) (fun _ _ _ h => h) hS ?_ ?_
        rotate_left
        · (intro w hSw; go_simp; first | done | with_reducible rfl)
        simp only [Act.put, List.setIfInBounds_toArray, List.set_cons_zero, List.set_cons_succ]
        refine held_val (i := 5) ?_ 48 rfl rfl (by kernel_rfl) (by kernel_rfl) (by kernel_rfl) (by rfl) (fun _ _ _ h => h) hS ?_ ?_
        rotate_left
        · (intro w hSw; go_simp; first | done | with_reducible rfl)
        simp only [Act.put, List.setIfInBounds_toArray, List.set_cons_zero, List.set_cons_succ]
        refine held_val (i := 6) ?_ 49 rfl rfl (by kernel_rfl) (by kernel_rfl) (by kernel_rfl) (by rfl) (fun _ _ _ h => h) hS ?_ ?_
        rotate_left
        · (intro w hSw; go_simp; first | done | with_reducible rfl)
        simp only [Act.put, List.setIfInBounds_toArray, List.set_cons_zero, List.set_cons_succ]
        refine held_val (i := 7) ?_ 50 rfl rfl (by kernel_rfl) (by kernel_rfl) (by kernel_rfl) (by rfl) (fun _ _ _ h => h) hS ?_ ?_
        rotate_left
        · (intro w hSw; obtain ⟨k0, k1, k2, k3, k4⟩ := HY.out w hSw; go_simp; first | done | with_reducible rfl)
        simp only [Act.put, List.setIfInBounds_toArray, List.set_cons_zero, List.set_cons_succ]
        refine held_val (i := 8) ?_ 51 rfl rfl (by kernel_rfl) (by kernel_rfl) (by kernel_rfl) (by rfl) (fun _ _ _ h => h) hS ?_ ?_
        rotate_left
        · (intro w hSw; go_simp; first | done | with_reducible rfl)
        simp only [Act.put, List.setIfInBounds_toArray, List.set_cons_zero, List.set_cons_succ]
        refine held_val (i := 9) ?_ 52 rfl rfl (by kernel_rfl) (by kernel_rfl) (by kernel_rfl) (by rfl) (fun _ _ _ h => h) hS ?_ ?_
        rotate_left
        · (intro w hSw; obtain ⟨k0, k1, k2, k3, k4⟩ := HY.out w hSw; go_simp; first | done | with_reducible rfl)
        simp only [Act.put, List.setIfInBounds_toArray, List.set_cons_zero, List.set_cons_succ]
        refine held_val (i := 10) (.bool false) 53 rfl rfl (by kernel_rfl) (by kernel_rfl) (by kernel_rfl) (by rfl) (fun _ _ _ h => h) hS ?_ ?_
        · (intro w hSw; go_simp; first | done | with_reducible rfl)
        simp only [Act.put, List.setIfInBounds_toArray, List.set_cons_zero, List.set_cons_succ]
        refine held_val (i := 11) (.bool false) 54 rfl rfl (by kernel_rfl) (by kernel_rfl) (by kernel_rfl) (by rfl) (fun _ _ _ h => h) hS ?_ ?_
        · (intro w hSw; go_simp; first | done | with_reducible rfl)
        simp only [Act.put, List.setIfInBounds_toArray, List.set_cons_zero, List.set_cons_succ]
        refine held_val (i := 12) (.bool false) 55 rfl rfl (by kernel_rfl) (by kernel_rfl) (by kernel_rfl) (by rfl) (fun _ _ _ h => h) hS ?_ ?_
        · (intro w hSw; go_simp; first | done | with_reducible rfl)
        simp only [Act.put, List.setIfInBounds_toArray, List.set_cons_zero, List.set_cons_succ]
        refine held_val (i := 13) ?_ 56 rfl rfl (by kernel_rfl) (by kernel_rfl) (by kernel_rfl) (by rfl) (fun _ _ _ h => h) hS ?_ ?_
        rotate_left
        · (intro w hSw; go_simp; first | done | with_reducible rfl)
        simp only [Act.put, List.setIfInBounds_toArray, List.set_cons_zero, List.set_cons_succ]
        refine held_val (i := 14) ?_ 57 rfl rfl (by kernel_rfl) (by kernel_rfl) (by kernel_rfl) (by rfl) (fun _ _ _ h => h) hS ?_ ?_
        rotate_left
        · (intro w hSw; go_simp; first | done | with_reducible rfl)
        simp only [Act.put, List.setIfInBounds_toArray, List.set_cons_zero, List.set_cons_succ]
        refine held_val (i := 15) ?_ 58 rfl rfl (by kernel_rfl) (by kernel_rfl) (by kernel_rfl) (by rfl) (fun _ _ _ h => h) hS ?_ ?_
        rotate_left
        · (intro w hSw; go_simp; first | done | with_reducible rfl)
        simp only [Act.put, List.setIfInBounds_toArray, List.set_cons_zero, List.set_cons_succ]
        refine held_val (i := 16) ?_ 59 rfl rfl (by kernel_rfl) (by kernel_rfl) (by kernel_rfl) (by rfl) (fun _ _ _ h => h) hS ?_ ?_
        rotate_left
        · (intro w hSw; go_simp; first | done | with_reducible rfl)
        simp only [Act.put, List.setIfInBounds_toArray, List.set_cons_zero, List.set_cons_succ]
        refine held_val (i := 17) ?_ 60 rfl rfl (by kernel_rfl) (by kernel_rfl) (by kernel_rfl) (by rfl) (fun _ _ _ h => h) hS ?_ ?_
        rotate_left
        · (intro w hSw; obtain ⟨k0, k1, k2, k3, k4⟩ := HY.out w hSw; go_simp; first | done | with_reducible rfl)
        simp only [Act.put, List.setIfInBounds_toArray, List.set_cons_zero, List.set_cons_succ]
        refine held_val (i := 18) (.bool false) 61 rfl rfl (by kernel_rfl) (by kernel_rfl) (by kernel_rfl) (by rfl) (fun _ _ _ h => h) hS ?_ ?_
        · (intro w hSw; go_simp; first | done | with_reducible rfl)
        simp only [Act.put, List.setIfInBounds_toArray, List.set_cons_zero, List.set_cons_succ]
        refine held_val (i := 19) (.bool false) 62 rfl rfl (by kernel_rfl) (by kernel_rfl) (by kernel_rfl) (by rfl) (fun _ _ _ h => h) hS ?_ ?_
        · (intro w hSw; go_simp; first | done | with_reducible rfl)
        simp only [Act.put, List.setIfInBounds_toArray, List.set_cons_zero, List.set_cons_succ]
        refine held_val (i := 20) (.bool false) 63 rfl rfl (by kernel_rfl) (by kernel_rfl) (by kernel_rfl) (by rfl) (fun _ _ _ h => h) hS ?_ ?_
        · (intro w hSw; go_simp; first | done | with_reducible rfl)
        simp only [Act.put, List.setIfInBounds_toArray, List.set_cons_zero, List.set_cons_succ]
        refine held_val (i := 21) ?_ 64 rfl rfl (by kernel_rfl) (by kernel_rfl) (by kernel_rfl) (by rfl) (fun _ _ _ h => h) hS ?_ ?_
        rotate_left
        · (intro w hSw; go_simp; first | done | with_reducible rfl)
        simp only [Act.put, List.setIfInBounds_toArray, List.set_cons_zero, List.set_cons_succ]
        refine held_val (i := 22) ?_ 65 rfl rfl (by kernel_rfl) (by kernel_rfl) (by kernel_rfl) (by rfl) (fun _ _ _ h => h) hS ?_ ?_
        rotate_left
        · (intro w hSw; go_simp; first | done | with_reducible rfl)
        simp only [Act.put, List.setIfInBounds_toArray, List.set_cons_zero, List.set_cons_succ]
        refine held_val (i := 23) ?_ 66 rfl rfl (by kernel_rfl) (by kernel_rfl) (by kernel_rfl) (by rfl) (fun _ _ _ h => h) hS ?_ ?_
        rotate_left
        · (intro w hSw; go_simp; first | done | with_reducible rfl)
        simp only [Act.put, List.setIfInBounds_toArray, List.set_cons_zero, List.set_cons_succ]
        refine held_val (i := 24) ?_ 67 rfl rfl (by kernel_rfl) (by kernel_rfl) (by kernel_rfl) (by rfl) (fun _ _ _ h => h) hS ?_ ?_
        rotate_left
        · (intro w hSw; go_simp; first | done | with_reducible rfl)
        simp only [Act.put, List.setIfInBounds_toArray, List.set_cons_zero, List.set_cons_succ]
        refine held_val (i := 25) ?_ 68 rfl rfl (by kernel_rfl) (by kernel_rfl) (by kernel_rfl) (by rfl) (fun _ _ _ h => h) hS ?_ ?_
        rotate_left
        · (intro w hSw; obtain ⟨k0, k1, k2, k3, k4⟩ := HY.out w hSw; go_simp; first | done | with_reducible rfl)
        simp only [Act.put, List.setIfInBounds_toArray, List.set_cons_zero, List.set_cons_succ]
        refine held_val (i := 26) (.bool false) 69 rfl rfl (by kernel_rfl) (by kernel_rfl) (by kernel_rfl) (by rfl) (fun _ _ _ h => h) hS ?_ ?_
        · (intro w hSw; go_simp; first | done | with_reducible rfl)
        simp only [Act.put, List.setIfInBounds_toArray, List.set_cons_zero, List.set_cons_succ]
        refine held_val (i := 27) (.bool false) 70 rfl rfl (by kernel_rfl) (by kernel_rfl) (by kernel_rfl) (by rfl) (fun _ _ _ h => h) hS ?_ ?_
        · (intro w hSw; go_simp; first | done | with_reducible rfl)
        simp only [Act.put, List.setIfInBounds_toArray, List.set_cons_zero, List.set_cons_succ]
        refine held_val (i := 28) (.bool false) 71 rfl rfl (by kernel_rfl) (by kernel_rfl) (by kernel_rfl) (by rfl) (fun _ _ _ h => h) hS ?_ ?_
        · (intro w hSw; go_simp; first | done | with_reducible rfl)
        simp only [Act.put, List.setIfInBounds_toArray, List.set_cons_zero, List.set_cons_succ]
        refine held_val (i := 29) ?_ 72 rfl rfl (by kernel_rfl) (by kernel_rfl) (by kernel_rfl) (by rfl) (fun _ _ _ h => h) hS ?_ ?_
        rotate_left
        · (intro w hSw; go_simp; first | done | with_reducible rfl)
        simp only [Act.put, List.setIfInBounds_toArray, List.set_cons_zero, List.set_cons_succ]
        refine held_val (i := 30) ?_ 73 rfl rfl (by kernel_rfl) (by kernel_rfl) (by kernel_rfl) (by rfl) (fun _ _ _ h => h) hS ?_ ?_
        rotate_left
        · (intro w hSw; go_simp; first | done | with_reducible rfl)
        simp only [Act.put, List.setIfInBounds_toArray, List.set_cons_zero, List.set_cons_succ]
        refine held_val (i := 31) ?_ 74 rfl rfl (by kernel_rfl) (by kernel_rfl) (by kernel_rfl) (by rfl) (fun _ _ _ h => h) hS ?_ ?_
        rotate_left
        · (intro w hSw; go_simp; first | done | with_reducible rfl)
        simp only [Act.put, List.setIfInBounds_toArray, List.set_cons_zero, List.set_cons_succ]
        refine held_val (i := 32) ?_ 75 rfl rfl (by kernel_rfl) (by kernel_rfl) (by kernel_rfl) (by rfl) (fun _ _ _ h => h) hS ?_ ?_
        rotate_left
        · (intro w hSw; go_simp; first | done | with_reducible rfl)
        simp only [Act.put, List.setIfInBounds_toArray, List.set_cons_zero, List.set_cons_succ]
        refine held_val (i := 33) ?_ 76 rfl rfl (by kernel_rfl) (by kernel_rfl) (by kernel_rfl) (by rfl) (fun _ _ _ h => h) hS ?_ ?_
        rotate_left
        · (intro w hSw; obtain ⟨k0, k1, k2, k3, k4⟩ := HY.out w hSw; go_simp; first | done | with_reducible rfl)
        simp only [Act.put, List.setIfInBounds_toArray, List.set_cons_zero, List.set_cons_succ]
        refine held_val (i := 34) (.bool false) 77 rfl rfl (by kernel_rfl) (by kernel_rfl) (by kernel_rfl) (by rfl) (fun _ _ _ h => h) hS ?_ ?_
        · (intro w hSw; go_simp; first | done | with_reducible rfl)
        simp only [Act.put, List.setIfInBounds_toArray, List.set_cons_zero, List.set_cons_succ]
        refine held_val (i := 35) (.bool false) 78 rfl rfl (by kernel_rfl) (by kernel_rfl) (by kernel_rfl) (by rfl) (fun _ _ _ h => h) hS ?_ ?_
        · (intro w hSw; go_simp; first | done | with_reducible rfl)
        simp only [Act.put, List.setIfInBounds_toArray, List.set_cons_zero, List.set_cons_succ]
        refine held_val (i := 36) (.bool false) 79 rfl rfl (by kernel_rfl) (by kernel_rfl) (by kernel_rfl) (by rfl) (fun _ _ _ h => h) hS ?_ ?_
        · (intro w hSw; go_simp; first | done | with_reducible rfl)
        simp only [Act.put, List.setIfInBounds_toArray, List.set_cons_zero, List.set_cons_succ]
        refine held_val (i := 37) ?_ 80 rfl rfl (by kernel_rfl) (by kernel_rfl) (by kernel_rfl) (by rfl) (fun _ _ _ h => h) hS ?_ ?_
        rotate_left
        · (intro w hSw; go_simp; first | done | with_reducible rfl)
        simp only [Act.put, List.setIfInBounds_toArray, List.set_cons_zero, List.set_cons_succ]
        refine held_call (i := 38) 81 10 #[dp d] rfl rfl (by kernel_rfl) (by rfl) (by simp [go_sem]) (HWa.out _ hS) ?_
        rintro e w38 ⟨aa, ca, rfl, hS38⟩
        refine ⟨_, rfl, hS38, ?_⟩
        have hS38 := hS38
        simp only [Act.put, List.setIfInBounds_toArray, List.set_cons_zero, List.set_cons_succ]
        refine held_val (i := 39) ?_ 82 rfl rfl (by kernel_rfl) (by kernel_rfl) (by kernel_rfl) (by rfl) (fun _ _ _ h => h) hS38 ?_ ?_
        rotate_left
        · (intro w hSw; go_simp; first | done | with_reducible rfl)
        simp only [Act.put, List.setIfInBounds_toArray, List.set_cons_zero, List.set_cons_succ]
        refine held_val (i := 40) (.bool false) 83 rfl rfl (by kernel_rfl) (by kernel_rfl) (by kernel_rfl) (by rfl) (fun _ _ _ h => h) hS38 ?_ ?_
        · (intro w hSw; go_simp; first | done | with_reducible rfl)
        simp only [Act.put, List.setIfInBounds_toArray, List.set_cons_zero, List.set_cons_succ]
        refine held_val (i := 41) (.bool false) 84 rfl rfl (by kernel_rfl) (by kernel_rfl) (by kernel_rfl) (by rfl) (fun _ _ _ h => h) hS38 ?_ ?_
        · (intro w hSw; go_simp; first | done | with_reducible rfl)
        simp only [Act.put, List.setIfInBounds_toArray, List.set_cons_zero, List.set_cons_succ]
        refine wpAnyH_done (by kernel_rfl) ?_ _
        have HE : Hid (NoOwn T' ∧ n + 700 ≤ 700 * (k + 1) ∧ Da B w38 d g q' ⟨T', [], []⟩ (n + 700) ∧ Below B w1 w38) := ⟨HD4.out.1.1, HD4.out.1.2.1, HD4.out.1.2.2.1.below hS38, HD4.out.1.2.2.2.trans (hS38.mono HD4.out.1.2.2.1.dk.hB)⟩
        clear hS hS38 HY HWa
        go_wp2
        go_roundw
        case rel => exact ⟨k + 1, n + 700, T', by omega, by go_num, HE.out⟩
        case measure => simp [intOf]; omega
    · obtain rfl : k = m := by omega
      have e0' : decide ((k : Int) < k) = false := by simp
      go_wp2
      go_ret
      exact ⟨rfl, HBW.out⟩

end Go.Proofs.YtllggjkhbecalaaDoor
