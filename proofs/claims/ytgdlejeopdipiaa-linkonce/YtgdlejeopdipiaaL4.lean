/- What packet and Packets of package link do, walked. -/
import Derived.Test.YtgdlejeopdipiaaPm
namespace Go.Proofs.Ytgdlejeopdipiaa
open Go.RowKit
set_option linter.unusedVariables false

/-- The packet of a body. -/
def mkPk (I : LkI) (h : Nat) (sq : Int) (bs : List Nat) : PkG := ⟨I.cl, I.ep, I.bo, sq, (h : Int), I.sv, bs⟩

abbrev pkZ : Obj := .cells #[.int .i64 0, .int .i64 0, .int .i64 0, .int .i64 0, .int .i64 0, .bool false, .slice none 0 0] 30

theorem put7_other (w : World) (N g : Nat) (hne : g ≠ N) (v0 v1 v2 v3 v4 v5 v6 : Value) : (((((((w.setCell ⟨N, 0, none⟩ v0).setCell ⟨N, 1, none⟩ v1).setCell ⟨N, 2, none⟩ v2).setCell ⟨N, 3, none⟩ v3).setCell ⟨N, 4, none⟩ v4).setCell ⟨N, 5, none⟩ v5).setCell ⟨N, 6, none⟩ v6).heap[g]? = w.heap[g]? := by
  have h := fun (W : World) (j : Nat) (v : Value) => Below.heap_setCell W ⟨N, j, none⟩ v g hne
  simp only [h]

theorem put7_in (w : World) (N : Nat) (P Q : PkG) (u z : Value) (h : PkIn w N 0 Q z) : PkIn (((((((w.setCell ⟨N, 0, none⟩ (.int .i64 P.cl)).setCell ⟨N, 1, none⟩ (.int .i64 P.ep)).setCell ⟨N, 2, none⟩ (.int .i64 P.bo)).setCell ⟨N, 3, none⟩ (.int .i64 P.sq)).setCell ⟨N, 4, none⟩ (.int .i64 P.ak)).setCell ⟨N, 5, none⟩ (.bool P.sv)).setCell ⟨N, 6, none⟩ u) N 0 P u := by
  have p := fun (W : World) (i j : Nat) (v : Value) (hne : j ≠ i) => put_other W N i j v hne
  have h0 := h.c0
  have h1 := h.c1
  have h2 := h.c2
  have h3 := h.c3
  have h4 := h.c4
  have h5 := h.c5
  have h6 := h.c6
  simp only [Nat.zero_add] at h1 h2 h3 h4 h5 h6
  refine ⟨?_, ?_, ?_, ?_, ?_, ?_, ?_⟩
  · rw [p _ 6 0 _ (by omega), p _ 5 0 _ (by omega), p _ 4 0 _ (by omega), p _ 3 0 _ (by omega), p _ 2 0 _ (by omega), p _ 1 0 _ (by omega)]
    exact World.cell?_setCell_same _ _ _ (by exact h0)
  · simp only [Nat.zero_add]
    rw [p _ 6 1 _ (by omega), p _ 5 1 _ (by omega), p _ 4 1 _ (by omega), p _ 3 1 _ (by omega), p _ 2 1 _ (by omega)]
    exact World.cell?_setCell_same _ _ _ (by rw [p _ 0 1 _ (by omega)]; exact h1)
  · simp only [Nat.zero_add]
    rw [p _ 6 2 _ (by omega), p _ 5 2 _ (by omega), p _ 4 2 _ (by omega), p _ 3 2 _ (by omega)]
    exact World.cell?_setCell_same _ _ _ (by rw [p _ 1 2 _ (by omega), p _ 0 2 _ (by omega)]; exact h2)
  · simp only [Nat.zero_add]
    rw [p _ 6 3 _ (by omega), p _ 5 3 _ (by omega), p _ 4 3 _ (by omega)]
    exact World.cell?_setCell_same _ _ _ (by rw [p _ 2 3 _ (by omega), p _ 1 3 _ (by omega), p _ 0 3 _ (by omega)]; exact h3)
  · simp only [Nat.zero_add]
    rw [p _ 6 4 _ (by omega), p _ 5 4 _ (by omega)]
    exact World.cell?_setCell_same _ _ _ (by rw [p _ 3 4 _ (by omega), p _ 2 4 _ (by omega), p _ 1 4 _ (by omega), p _ 0 4 _ (by omega)]; exact h4)
  · simp only [Nat.zero_add]
    rw [p _ 6 5 _ (by omega)]
    exact World.cell?_setCell_same _ _ _ (by rw [p _ 4 5 _ (by omega), p _ 3 5 _ (by omega), p _ 2 5 _ (by omega), p _ 1 5 _ (by omega), p _ 0 5 _ (by omega)]; exact h5)
  · simp only [Nat.zero_add]
    exact World.cell?_setCell_same _ _ _ (by rw [p _ 5 6 _ (by omega), p _ 4 6 _ (by omega), p _ 3 6 _ (by omega), p _ 2 6 _ (by omega), p _ 1 6 _ (by omega), p _ 0 6 _ (by omega)]; exact h6)

theorem put7_size (w : World) (N : Nat) (v0 v1 v2 v3 v4 v5 v6 : Value) : (((((((w.setCell ⟨N, 0, none⟩ v0).setCell ⟨N, 1, none⟩ v1).setCell ⟨N, 2, none⟩ v2).setCell ⟨N, 3, none⟩ v3).setCell ⟨N, 4, none⟩ v4).setCell ⟨N, 5, none⟩ v5).setCell ⟨N, 6, none⟩ v6).heap.size = w.heap.size := by simp [World.setCell]

theorem put7_below (B : Nat) (w0 w : World) (N : Nat) (hN : B ≤ N) (h : Below B w0 w) (v0 v1 v2 v3 v4 v5 v6 : Value) : Below B w0 (((((((w.setCell ⟨N, 0, none⟩ v0).setCell ⟨N, 1, none⟩ v1).setCell ⟨N, 2, none⟩ v2).setCell ⟨N, 3, none⟩ v3).setCell ⟨N, 4, none⟩ v4).setCell ⟨N, 5, none⟩ v5).setCell ⟨N, 6, none⟩ v6) :=
  ((((((h.setCell (p := ⟨N, 0, none⟩) hN v0).setCell (p := ⟨N, 1, none⟩) hN v1).setCell (p := ⟨N, 2, none⟩) hN v2).setCell (p := ⟨N, 3, none⟩) hN v3).setCell (p := ⟨N, 4, none⟩) hN v4).setCell (p := ⟨N, 5, none⟩) hN v5).setCell (p := ⟨N, 6, none⟩) hN v6

set_option maxHeartbeats 1600000 in
theorem packet_any (w : World) (B g : Nat) (ao : Option Addr) (n cap : Nat) (V : Nat → Prop) (I : LkI) (L : List (List Nat)) (s h : Nat) (H : Lk w B g ao n cap V I L s h) (sq : Int) (ax : Option Addr) (m cx : Nat) (bs : List Nat) (hr : Rd8 w ax m cx bs) (hm : m ≤ 140737488355328) :
    Calls Try.prog 25 #[lp g, .int .i64 sq, .slice ax m cx] w fun e w' => ∃ u, e = .returned (pkV (mkPk I h sq bs) u) ∧ By w' (fun k => w.heap.size ≤ k) u bs ∧ Below w.heap.size w w' := by
  have hg := H.hd.lt
  have HS : Hid (∀ W : World, W.heap[g]? = w.heap[g]? → (W.cell? ⟨g, 0, none⟩ = some (.int .i64 I.cl) ∧ W.cell? ⟨g, 1, none⟩ = some (.int .i64 I.ep) ∧ W.cell? ⟨g, 2, none⟩ = some (.int .i64 I.bo) ∧ W.cell? ⟨g, 6, none⟩ = some (.int .i64 (h : Int)) ∧ W.cell? ⟨g, 3, none⟩ = some (.bool I.sv))) := fun W hW => by
    have t := H.hd.keep hW
    exact ⟨t.c0, t.c1, t.c2, t.c6, t.c3⟩
  have hA : (w.alloc pkZ).drew.heap[g]? = w.heap[g]? := heap_alloc_old w _ hg
  have HC : Hid (Calls Try.prog 21 #[.slice ax m cx] (w.alloc pkZ).drew fun e w' => ∃ a1 c1, e = .returned (.slice a1 m c1) ∧ Below w.heap.size w w' ∧ By w' (fun k => w.heap.size ≤ k) (.slice a1 m c1) bs ∧ PkIn w' w.heap.size 0 ⟨0, 0, 0, 0, 0, false, []⟩ (.slice none 0 0) ∧ (∃ cs, w'.heap[w.heap.size]? = some (.cells cs 30 (0, 0))) ∧ ∀ j, w'.frozen? ⟨w.heap.size, j, none⟩ = false) := by
    refine (clone_any ax m cx bs (w.alloc pkZ).drew ((hr.alloc _).heap rfl) (by omega)).mono ?_
    rintro e w' ⟨a1, c1, rfl, hy, hb⟩
    have hb' : Below (w.alloc pkZ).heap.size (w.alloc pkZ) w' := ⟨hb.os, hb.tape, hb.output, hb.size, hb.block⟩
    have hN : w'.heap[w.heap.size]? = some pkZ := (hb'.block w.heap.size (by simp)).trans (heap_alloc_new w _)
    refine ⟨a1, c1, rfl, below_alloc (hb'.mono (by simp)), hy.mono fun k _ hk => by simp at hk; omega, ?_, ⟨_, hN⟩, fun j => frozen_of_row _ _ _ _ _ hN⟩
    exact (PkIn.new w ⟨0, 0, 0, 0, 0, false, []⟩ (.slice none 0 0)).below hb'
  have hgN : g ≠ w.heap.size := by omega
  go_enter Try.func25, Try.ntmps25
  go_upto_region 1 with fail
  first
    | go_region_held (fun W => (W.cell? ⟨g, 0, none⟩ = some (.int .i64 I.cl) ∧ W.cell? ⟨g, 1, none⟩ = some (.int .i64 I.ep) ∧ W.cell? ⟨g, 2, none⟩ = some (.int .i64 I.bo) ∧ W.cell? ⟨g, 6, none⟩ = some (.int .i64 (h : Int)) ∧ W.cell? ⟨g, 3, none⟩ = some (.bool I.sv)))
      (first | with_reducible exact HS.out _ hA | with_reducible exact HS.out _ hg1 | with_reducible exact HS.out _ ((put7_other _ _ _ hgN _ _ _ _ _ _ _).trans hg1) | fail)
      (first
        | (go_at_call 21; refine HC.out.mono ?_; rintro e w1 ⟨a1, c1, rfl, hb1, hy1, hP1, hT1, hF1⟩; have hg1 : w1.heap[g]? = w.heap[g]? := hb1.block g hg; have p0 := hP1.c0; have p1 := hP1.c1; have p2 := hP1.c2; have p3 := hP1.c3; have p4 := hP1.c4; have p5 := hP1.c5; have p6 := hP1.c6; simp only [Nat.zero_add] at p1 p2 p3 p4 p5 p6; have f0 := hF1 0; have f1 := hF1 1; have f2 := hF1 2; have f3 := hF1 3; have f4 := hF1 4; have f5 := hF1 5; have f6 := hF1 6; have HP1 : Hid (PkIn w1 w.heap.size 0 ⟨0, 0, 0, 0, 0, false, []⟩ (.slice none 0 0)) := hP1; clear hP1 hF1))
    | fail
  have hPN : PkIn (((((((w1.setCell ⟨w.heap.size, 0, none⟩ (.int .i64 I.cl)).setCell ⟨w.heap.size, 1, none⟩ (.int .i64 I.ep)).setCell ⟨w.heap.size, 2, none⟩ (.int .i64 I.bo)).setCell ⟨w.heap.size, 3, none⟩ (.int .i64 sq)).setCell ⟨w.heap.size, 4, none⟩ (.int .i64 (h : Int))).setCell ⟨w.heap.size, 5, none⟩ (.bool I.sv)).setCell ⟨w.heap.size, 6, none⟩ (.slice a1 m c1)) w.heap.size 0 (mkPk I h sq bs) (.slice a1 m c1) := put7_in w1 w.heap.size (mkPk I h sq bs) ⟨0, 0, 0, 0, 0, false, []⟩ (.slice a1 m c1) (.slice none 0 0) HP1.out
  have hyN : By (((((((w1.setCell ⟨w.heap.size, 0, none⟩ (.int .i64 I.cl)).setCell ⟨w.heap.size, 1, none⟩ (.int .i64 I.ep)).setCell ⟨w.heap.size, 2, none⟩ (.int .i64 I.bo)).setCell ⟨w.heap.size, 3, none⟩ (.int .i64 sq)).setCell ⟨w.heap.size, 4, none⟩ (.int .i64 (h : Int))).setCell ⟨w.heap.size, 5, none⟩ (.bool I.sv)).setCell ⟨w.heap.size, 6, none⟩ (.slice a1 m c1)) (fun k => w.heap.size ≤ k) (.slice a1 m c1) bs := by
    refine hy1.keepx (by rw [put7_size]; exact Nat.le_refl _) fun k cs fr hk => put7_other _ _ _ ?_ _ _ _ _ _ _ _
    intro e
    obtain ⟨cs', hT⟩ := hT1
    rw [e, hT] at hk
    simp at hk
  have hbN : Below w.heap.size w (((((((w1.setCell ⟨w.heap.size, 0, none⟩ (.int .i64 I.cl)).setCell ⟨w.heap.size, 1, none⟩ (.int .i64 I.ep)).setCell ⟨w.heap.size, 2, none⟩ (.int .i64 I.bo)).setCell ⟨w.heap.size, 3, none⟩ (.int .i64 sq)).setCell ⟨w.heap.size, 4, none⟩ (.int .i64 (h : Int))).setCell ⟨w.heap.size, 5, none⟩ (.bool I.sv)).setCell ⟨w.heap.size, 6, none⟩ (.slice a1 m c1)) := put7_below w.heap.size w w1 w.heap.size (Nat.le_refl _) hb1 _ _ _ _ _ _ _
  generalize (((((((w1.setCell ⟨w.heap.size, 0, none⟩ (.int .i64 I.cl)).setCell ⟨w.heap.size, 1, none⟩ (.int .i64 I.ep)).setCell ⟨w.heap.size, 2, none⟩ (.int .i64 I.bo)).setCell ⟨w.heap.size, 3, none⟩ (.int .i64 sq)).setCell ⟨w.heap.size, 4, none⟩ (.int .i64 (h : Int))).setCell ⟨w.heap.size, 5, none⟩ (.bool I.sv)).setCell ⟨w.heap.size, 6, none⟩ (.slice a1 m c1)) = W at *
  have q0 := hPN.c0
  have q1 := hPN.c1
  have q2 := hPN.c2
  have q3 := hPN.c3
  have q4 := hPN.c4
  have q5 := hPN.c5
  have q6 := hPN.c6
  simp only [Nat.zero_add] at q1 q2 q3 q4 q5 q6
  clear p0 p1 p2 p3 p4 p5 p6 f0 f1 f2 f3 f4 f5 f6
  go_wp2
  refine bodyPost_ret (by simp [results, Try.results25, go_sem, q0, q1, q2, q3, q4, q5, q6]; try rfl) rfl ?_
  exact ⟨_, rfl, hyN, hbN⟩

end Go.Proofs.Ytgdlejeopdipiaa
