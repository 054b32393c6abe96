/- Put of package cache, walked. -/
import Derived.Test.YtmmgdmfdiaoegaaGreatC6
namespace Go.Proofs.YtmmgdmfdiaoegaaGreat
open Go.RowKit
set_option linter.unusedVariables false
set_option maxRecDepth 8000

theorem vaCells {w : World} {g : Nat} {v : Nat → Nat × Nat} (h : w.heap[g]? = some (vaO v)) : w.cell? ⟨g, 0, none⟩ = some (.complex .f64 (v 0).1 (v 0).2) ∧ w.cell? ⟨g, 1, none⟩ = some (.complex .f64 (v 1).1 (v 1).2) ∧ w.cell? ⟨g, 2, none⟩ = some (.complex .f64 (v 2).1 (v 2).2) ∧ w.cell? ⟨g, 3, none⟩ = some (.complex .f64 (v 3).1 (v 3).2) := by
  refine ⟨?_, ?_, ?_, ?_⟩
  all_goals rw [cell_of_row _ _ _ _ _ _ h]; rfl

/-- What may be put: a page, masks of which the first holds the second, some copies. -/
structure PutOk (p cm om : Nat) : Prop where
  p6 : p < 6
  c16 : cm < 16
  o16 : om < 16
  c0 : cm ≠ 0
  sub : bits .andNot .i64 (om : Int) (cm : Int) = 0

set_option maxHeartbeats 1600000 in
theorem put_there (w : World) (A : Nat → Prop) (hA : ∀ k, A k → k < w.heap.size) (c : Nat) (room : Int) (g cap : Nat) (L : List En) (H : Ca w A c room (some ⟨g, 0, none⟩) cap L) (hl : L.length ≤ 1000000) (p cm om : Nat) (hp : PutOk p cm om) (v : Nat → Nat × Nat) (ks : Value) (k : Nat) (x : En) (hx : L[k]? = some x) (hk : plN L p = k) :
    Calls Tryz.prog 78 #[cp c, .int .i64 (p : Int), .int .i64 (cm : Int), .int .i64 (om : Int), vaV v, ks] w fun e w' => e = .returned (.tuple #[.int .i64 (-1), .bool true]) ∧ Ca w' A c room (some ⟨g, 0, none⟩) cap (L.take k ++ L.drop (k + 1) ++ [fillE x cm om v]) ∧ OffS A w w' := by
  obtain ⟨hkl, -⟩ := List.getElem?_eq_some_iff.1 hx
  have h1 : pgB p = true := by have := hp.p6; simp [pgB]; omega
  have h2 : mkB cm = true := by have := hp.c16; simp [mkB]; omega
  have h3 : mkB om = true := by have := hp.o16; simp [mkB]; omega
  have h4 : (bits .andNot .i64 (om : Int) (cm : Int) != 0) = false := by rw [hp.sub]; rfl
  have h5 : ((cm : Int) == 0) = false := by have := hp.c0; simp; omega
  have hb0 : Below w.heap.size w (w.alloc (vaO v)) := (Below.refl _ _).alloc (Nat.le_refl _) _
  have hz : plZ L p = (k : Int) := by rw [plZ, hk, if_pos hkl]
  obtain ⟨q, hq⟩ : ∃ q, L.length = q + 1 := ⟨L.length - 1, by omega⟩
  have HP : Hid (Calls Tryz.prog 83 #[cp c, .int .i64 (p : Int)] (w.alloc (vaO v)) fun e w' => e = .returned (.int .i64 (k : Int)) ∧ Ca w' A c room (some ⟨g, 0, none⟩) cap L ∧ OffS A w w' ∧ w'.heap[w.heap.size]? = some (vaO v)) := by
    refine (place_any _ A c room _ cap L (H.below hb0) hl p).mono ?_
    rintro e w' ⟨rfl, hb⟩
    have hb' := below_step hb0 hb
    exact ⟨ret_int hz, H.below hb', .of_below hb', (hb.block _ (by simp)).trans (heap_alloc_new w _)⟩
  have HQ : Hid (L.length = q + 1 ∧ L[k]? = some x ∧ q ≤ 1000000 ∧ cm < 16 ∧ (∀ j, A j → j < w.heap.size) ∧ k < q + 1) := ⟨hq, hx, by omega, hp.c16, hA, by omega⟩
  have hst := fun (ad : Addr) (re im : Nat) (W : World) => run_store Tryz.prog W ad (.complex .f64 re im) .plain rfl
  have hk0 : ¬ (k : Int) < 0 := by omega
  clear H hx hk hl hA hb0 hz hq hkl hp
  go_enter Tryz.func78, Tryz.ntmps78
  go_upto_region 15 with (first
    | (go_at_call 95; refine (isPage_any _ _).mono ?_; rw [h1]; rintro e w1 ⟨rfl, hw1⟩; subst w1)
    | (go_at_call 84; refine (isMask_any _ _).mono ?_; (first | rw [h2] | rw [h3]); rintro e w2 ⟨rfl, hw2⟩; subst w2)
    | (go_at_call 83; refine HP.out.mono ?_; rintro e W ⟨rfl, hW1, hW2, hW3⟩)
    | fail)
  obtain ⟨n10, hn⟩ : ∃ n, w.heap.size = n := ⟨_, rfl⟩
  rw [hn] at hW3 HQ ⊢
  have HBX : Hid (W.heap[n10]? = some (vaO v)) := hW3
  have HW : Hid (Ca W A c room (some ⟨g, 0, none⟩) cap L ∧ OffS A w W) := ⟨hW1, hW2⟩
  clear hW1 hW2 hW3 HP hn
  have hbd : Below W.heap.size W W.drew := ⟨rfl, rfl, rfl, Nat.le_refl _, fun _ _ => rfl⟩
  have HU : Hid (Calls Tryz.prog 97 #[cp c, .int .i64 (k : Int)] W.drew fun e w' => e = .returned (.pointer (some ⟨g, q * 7, none⟩)) ∧ Ca w' A c room (some ⟨g, 0, none⟩) cap (L.take k ++ L.drop (k + 1) ++ [x]) ∧ OffS A w w' ∧ w'.heap[n10]? = some (vaO v)) := by
    refine (use_any W.drew A c room g cap L (HW.out.1.below hbd) q HQ.out.1 HQ.out.2.2.1 k HQ.out.2.2.2.2.2 x HQ.out.2.1).mono ?_
    rintro e w' ⟨rfl, u1, u2⟩
    have hlt : n10 < W.heap.size := (Array.getElem?_eq_some_iff.1 HBX.out).1
    exact ⟨rfl, u1, HW.out.2.trans (OffS.mono (A := A) ⟨u2.os, u2.tape, u2.output, u2.size, u2.block⟩ fun _ h => .inl h), (u2.block n10 hlt (fun h => by have := HQ.out.2.2.2.2.1 _ h; omega)).trans HBX.out⟩
  have HF : Hid (∀ W2 : World, Ca W2 A c room (some ⟨g, 0, none⟩) cap (L.take k ++ L.drop (k + 1) ++ [x]) → OffS A w W2 → W2.heap[n10]? = some (vaO v) → Calls Tryz.prog 98 #[.pointer (some ⟨g, q * 7, none⟩), .int .i64 (cm : Int), .int .i64 (om : Int), vaV v] W2 fun e w' => e = .returned (.tuple #[]) ∧ Ca w' A c room (some ⟨g, 0, none⟩) cap (L.take k ++ L.drop (k + 1) ++ [fillE x cm om v]) ∧ OffS A w w' ∧ w'.heap[n10]? = some (vaO v)) := fun W2 a1 a2 a3 => by
    refine (fill_any W2 A c room g cap _ x a1 q (q * 7) (by rw [List.length_append, List.length_take, List.length_drop, HQ.out.1]; have := HQ.out.2.2.2.2.2; omega) rfl cm om HQ.out.2.2.2.1 v).mono ?_
    rintro e w' ⟨rfl, u1, u2⟩
    have hlt : n10 < W2.heap.size := (Array.getElem?_eq_some_iff.1 a3).1
    exact ⟨rfl, u1, a2.trans (u2.mono fun _ h => .inl h), (u2.block n10 hlt (fun h => by have := HQ.out.2.2.2.2.1 _ h; omega)).trans a3⟩
  refine wp_region_held (S := fun U => U.heap[n10]? = some (vaO v)) (by kernel_rfl) ?_
  have hS : (W).drew.heap[n10]? = some (vaO v) := HBX.out
  refine held_val (i := 0) ?_ 70 rfl rfl (by kernel_rfl) (by kernel_rfl) (by kernel_rfl) (by rfl) (fun _ _ _ h => h) hS ?_ ?_
  rotate_left
  · (intro w hSw; go_simp; first | done | with_reducible rfl)
  simp only [Act.put, List.setIfInBounds_toArray, List.set_cons_zero, List.set_cons_succ]
  refine held_val (i := 1) ?_ 71 rfl rfl (by kernel_rfl) (by kernel_rfl) (by kernel_rfl) (by rfl) (fun _ _ _ h => h) hS ?_ ?_
  rotate_left
  · (intro w hSw; go_simp; first | done | with_reducible rfl)
  simp only [Act.put, List.setIfInBounds_toArray, List.set_cons_zero, List.set_cons_succ]
  refine held_val (i := 3) ?_ 73 rfl rfl (by kernel_rfl) (by kernel_rfl) (by kernel_rfl) (by rfl) (fun _ _ _ h => h) hS ?_ ?_
  rotate_left
  · (intro w hSw; go_simp; first | done | with_reducible rfl)
  simp only [Act.put, List.setIfInBounds_toArray, List.set_cons_zero, List.set_cons_succ]
  refine held_val (i := 4) ?_ 74 rfl rfl (by kernel_rfl) (by kernel_rfl) (by kernel_rfl) (by rfl) (fun _ _ _ h => h) hS ?_ ?_
  rotate_left
  · (intro w hSw; go_simp; first | done | with_reducible rfl)
  simp only [Act.put, List.setIfInBounds_toArray, List.set_cons_zero, List.set_cons_succ]
  refine held_val (i := 5) (vaV v) 75 rfl rfl (by kernel_rfl) (by kernel_rfl) (by kernel_rfl) (by rfl) (fun _ _ _ h => h) hS ?_ ?_
  skip
  · (intro w hSw; obtain ⟨k0, k1, k2, k3⟩ := vaCells hSw; go_simp; first | done | with_reducible rfl)
  simp only [Act.put, List.setIfInBounds_toArray, List.set_cons_zero, List.set_cons_succ]
  refine held_call (i := 2) 72 97 #[cp c, .int .i64 (k : Int)] rfl rfl (by kernel_rfl) (by rfl) (by simp [go_sem]) HU.out ?_
  rintro e w2 ⟨rfl, hc2, ho2, hs2⟩
  refine ⟨_, rfl, hs2, ?_⟩
  simp only [Act.put, List.setIfInBounds_toArray, List.set_cons_zero, List.set_cons_succ]
  refine held_call (i := 6) 76 98 #[.pointer (some ⟨g, q * 7, none⟩), .int .i64 (cm : Int), .int .i64 (om : Int), vaV v] rfl rfl (by kernel_rfl) (by rfl) (by simp [go_sem]) (HF.out w2 hc2 ho2 hs2) ?_
  rintro e w6 ⟨rfl, hc6, ho6, hs6⟩
  refine ⟨_, rfl, hs6, ?_⟩
  simp only [Act.put, List.setIfInBounds_toArray, List.set_cons_zero, List.set_cons_succ]
  refine wpAnyH_done (by kernel_rfl) ?_ _
  have HE : Hid (Ca w6 A c room (some ⟨g, 0, none⟩) cap (L.take k ++ L.drop (k + 1) ++ [fillE x cm om v]) ∧ OffS A w w6) := ⟨hc6, ho6⟩
  clear hc6 ho6 hc2 ho2 hs2 hs6 hS HU HF HBX
  go_wp2
  go_ret2
  exact ⟨rfl, HE.out⟩

end Go.Proofs.YtmmgdmfdiaoegaaGreat
