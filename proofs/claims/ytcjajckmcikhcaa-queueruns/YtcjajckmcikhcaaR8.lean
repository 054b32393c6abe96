/- The document's Called, walked. -/
import Derived.Test.YtcjajckmcikhcaaR6
namespace Go.Proofs.Ytcjajckmcikhcaa
open Go.RowKit Go.Maps
set_option linter.unusedVariables false

theorem pair_new (w : World) (a1 : Option Addr) (n1 c1 : Nat) (a2 : Option Addr) (n2 c2 : Nat) (x : Wt) : P2 ((w.alloc (rqO a1 n1 c1 a2 n2 c2)).alloc (wtO x)) w.heap.size (.slice a1 n1 c1) (.slice a2 n2 c2) ∧ ((w.alloc (rqO a1 n1 c1 a2 n2 c2)).alloc (wtO x)).heap[w.heap.size + 1]? = some (wtO x) ∧ Below w.heap.size w ((w.alloc (rqO a1 n1 c1 a2 n2 c2)).alloc (wtO x)) := by
  refine ⟨⟨?_⟩, ?_, by go_grown⟩
  · rw [Below.heap_alloc _ _ _ (by simp)]
    exact heap_alloc_new w _
  · have := heap_alloc_new (w.alloc (rqO a1 n1 c1 a2 n2 c2)) (wtO x)
    simpa using this

def wasB (K : List Ck) (x : Wt) : Bool := if h : fdN K x < K.length then K[fdN K x].u else false

set_option maxRecDepth 100000 in
set_option maxHeartbeats 3200000 in
theorem rcalled_any (a1 : Option Addr) (n1 c1 : Nat) (a2 : Option Addr) (n2 c2 : Nat) (K : List Ck) (h : Int) (x : Wt) (w : World) (hK : RdR ckC w a2 c2 K) (hn : K.length = n2) (hl : n2 ≤ 1000) :
    Calls Try.prog 25 #[rqV a1 n1 c1 a2 n2 c2, .int .i64 h, wtV x] w fun e w' => e = .returned (.tuple #[.bool (busB K (kyOf h x)), .bool (wasB K (kyOf h x))]) ∧ Below w.heap.size w w' := by
  have HK : Hid (RdR ckC w a2 c2 K ∧ K.length = n2) := ⟨hK, hn⟩
  have HW0 : Hid (P2 ((w.alloc (rqO a1 n1 c1 a2 n2 c2)).alloc (wtO x)) w.heap.size (.slice a1 n1 c1) (.slice a2 n2 c2) ∧ ((w.alloc (rqO a1 n1 c1 a2 n2 c2)).alloc (wtO x)).heap[w.heap.size + 1]? = some (wtO x) ∧ Below w.heap.size w ((w.alloc (rqO a1 n1 c1 a2 n2 c2)).alloc (wtO x))) := pair_new w a1 n1 c1 a2 n2 c2 x
  clear hK hn
  obtain ⟨xc, xp, xo, xw⟩ := x
  show Calls Try.prog 25 #[rqV a1 n1 c1 a2 n2 c2, .int .i64 h, .agg #[.int .i64 xc, .int .i64 xp, .int .i64 xo, .bool xw]] w fun e w' => e = .returned (.tuple #[.bool (busB K ⟨h, xp, xo, xw⟩), .bool (wasB K ⟨h, xp, xo, xw⟩)]) ∧ Below w.heap.size w w'
  go_enter Try.func25, Try.ntmps25
  go_upto_region 1 with fail
  generalize (w.alloc (rqO a1 n1 c1 a2 n2 c2)).alloc (wtO ⟨xc, xp, xo, xw⟩) = W0 at *
  obtain ⟨g2, hg2⟩ : ∃ g, w.heap.size = g := ⟨_, rfl⟩
  obtain ⟨g3, hg3⟩ : ∃ g, w.heap.size + 1 = g := ⟨_, rfl⟩
  have HQ : Hid (P2 W0 g2 (.slice a1 n1 c1) (.slice a2 n2 c2) ∧ W0.heap[g3]? = some (wtO ⟨xc, xp, xo, xw⟩) ∧ Below w.heap.size w W0) := by
    obtain ⟨h1, h2, h4⟩ := HW0.out
    rw [hg3] at h2
    rw [hg2] at h1
    exact ⟨h1, h2, h4⟩
  rw [hg3, hg2]
  clear hg2 hg3 HW0
  have HN : Hid (∀ W : World, Below W0.heap.size W0 W → P2 W g2 (.slice a1 n1 c1) (.slice a2 n2 c2) ∧ W.heap[g3]? = some (wtO ⟨xc, xp, xo, xw⟩) ∧ Below w.heap.size w W) := fun W hW =>
    ⟨HQ.out.1.below hW, (hW.block _ (Array.getElem?_eq_some_iff.1 HQ.out.2.1).1).trans HQ.out.2.1, below_step HQ.out.2.2 hW⟩
  obtain ⟨x0, x1, x2, x3⟩ := wt_cells HQ.out.2.1 (Below.refl _ _)
  simp only at x0 x1 x2 x3
  have q0 := HQ.out.1.c0
  have q1 := HQ.out.1.c1
  by_cases hh : 0 ≤ fdZ K ⟨h, xp, xo, xw⟩
  · obtain ⟨i, hi, hfz, hfn, hki⟩ := fdZ_ge hh
    have HR : Hid (busB K ⟨h, xp, xo, xw⟩ = true ∧ wasB K ⟨h, xp, xo, xw⟩ = K[i].u) := by
      refine ⟨by unfold busB; simpa using hh, ?_⟩
      unfold wasB
      rw [dif_pos (by rw [hfn]; exact hi)]
      simp only [hfn]
    have hin : i < n2 := by have := HK.out.2; omega
    have e1' : decide ((i : Int) < 0) = false := by simp
    clear hh hfn hki
    go_upto_region 4 with (first
      | (go_at_call 39; refine (find_any a1 n1 c1 a2 n2 c2 K ⟨h, xp, xo, xw⟩ _ (HK.out.1.below HQ.out.2.2) HK.out.2 (by omega)).mono ?_; rw [hfz]; rintro e w2 ⟨rfl, hb2⟩; have HB2 : Hid (Below W0.heap.size W0 w2) := hb2; clear hb2)
      | fail)
    clear hfz
    obtain ⟨bk, off, rfl, -, hcc⟩ := (HK.out.1.below (HN.out _ HB2.out).2.2).at ckE hi
    obtain ⟨z0, z1, z2, z3, z4⟩ := ckIn _ _ _ _ hcc
    have t0 := (HN.out _ HB2.out).1.c1
    clear hcc
    generalize K[i] = yy at *
    obtain ⟨⟨yc, yp, yo, yw⟩, yu⟩ := yy
    simp only at z0 z1 z2 z3 z4 HR
    have hlt' : (i : Int) < (n2 : Int) := by omega
    go_quiet (fail)
    go_wp2
    refine bodyPost_ret (by simp [results, Try.results25, go_sem]; try rfl) rfl ?_
    rw [HR.out.1, HR.out.2]
    exact ⟨rfl, below_step (HN.out _ HB2.out).2.2 ⟨rfl, rfl, rfl, Nat.le_refl _, fun _ _ => rfl⟩⟩
  · obtain ⟨fz, hfz⟩ : ∃ fz, fdZ K ⟨h, xp, xo, xw⟩ = fz := ⟨_, rfl⟩
    have HR : Hid (busB K ⟨h, xp, xo, xw⟩ = false ∧ wasB K ⟨h, xp, xo, xw⟩ = false) := by
      refine ⟨by unfold busB; simpa using hh, ?_⟩
      unfold wasB
      rw [dif_neg]
      intro e
      unfold fdZ at hh
      rw [if_pos e] at hh
      omega
    rw [hfz] at hh
    have e1' : decide (fz < 0) = true := by simp; omega
    clear hh
    go_upto_region 3 with (first
      | (go_at_call 39; refine (find_any a1 n1 c1 a2 n2 c2 K ⟨h, xp, xo, xw⟩ _ (HK.out.1.below HQ.out.2.2) HK.out.2 (by omega)).mono ?_; rw [hfz]; rintro e w2 ⟨rfl, hb2⟩; have HB2 : Hid (Below W0.heap.size W0 w2) := hb2; clear hb2)
      | fail)
    clear hfz
    go_wp2
    refine bodyPost_ret (by simp [results, Try.results25, go_sem]; try rfl) rfl ?_
    rw [HR.out.1, HR.out.2]
    exact ⟨rfl, (HN.out _ HB2.out).2.2⟩

end Go.Proofs.Ytcjajckmcikhcaa
