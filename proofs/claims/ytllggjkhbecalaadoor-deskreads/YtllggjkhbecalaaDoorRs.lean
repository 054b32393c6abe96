/- Right of the document, of a question to read: walked. -/
import Derived.Test.YtllggjkhbecalaaDoorRr
namespace Go.Proofs.YtllggjkhbecalaaDoor
open Go.RowKit Go.Maps
set_option linter.unusedVariables false
set_option maxRecDepth 8000

set_option maxHeartbeats 3200000 in
theorem right0 (p o : Int) (w : World) : Calls Tryd.prog 12 #[.agg #[.int .i64 0, .int .i64 p, .int .i64 o, .int .i64 0, .int .i64 0, .int .i64 0, .bool false, .slice none 0 0, .complex .f64 0 0, .complex .f64 0 0, .complex .f64 0 0, .complex .f64 0 0]] w fun e w' => e = .returned (.bool (rrB p o)) ∧ Below w.heap.size w w' := by
  have hst := fun (ad : Addr) (re im : Nat) (W : World) => run_store Tryd.prog W ad (.complex .f64 re im) .plain rfl
  have HR : Hid (rrB p o = (decide (0 ≤ p) && (decide (p ≤ 5) && (decide (0 ≤ o) && decide (o ≤ 3))))) := rfl
  by_cases c0 : p < 0
  · have HF : Hid (rrB p o = false) := by
      have h : rrB p o = false := by (rw [HR.out]; simp; omega)
      exact h
    have f0 : decide (p < 0) = true := by (simp; omega)
    clear HR
    go_enter Tryd.func12, Tryd.ntmps12
    go_wp2
    go_ret
    exact ⟨by rw [HF.out]; rfl, by go_grown⟩
  by_cases c1 : 5 < p
  · have HF : Hid (rrB p o = false) := by
      have h : rrB p o = false := by (rw [HR.out]; simp; omega)
      exact h
    have f0 : decide (p < 0) = false := by (simp; omega)
    have f1 : decide (5 < p) = true := by (simp; omega)
    clear HR
    go_enter Tryd.func12, Tryd.ntmps12
    go_wp2
    go_ret
    exact ⟨by rw [HF.out]; rfl, by go_grown⟩
  by_cases c2 : o < 0
  · have HF : Hid (rrB p o = false) := by
      have h : rrB p o = false := by (rw [HR.out]; simp; omega)
      exact h
    have f0 : decide (p < 0) = false := by (simp; omega)
    have f1 : decide (5 < p) = false := by (simp; omega)
    have f2 : decide (o < 0) = true := by (simp; omega)
    clear HR
    go_enter Tryd.func12, Tryd.ntmps12
    go_wp2
    go_ret
    exact ⟨by rw [HF.out]; rfl, by go_grown⟩
  by_cases c3 : 3 < o
  · have HF : Hid (rrB p o = false) := by
      have h : rrB p o = false := by (rw [HR.out]; simp; omega)
      exact h
    have f0 : decide (p < 0) = false := by (simp; omega)
    have f1 : decide (5 < p) = false := by (simp; omega)
    have f2 : decide (o < 0) = false := by (simp; omega)
    have f3 : decide (3 < o) = true := by (simp; omega)
    clear HR
    go_enter Tryd.func12, Tryd.ntmps12
    go_wp2
    go_ret
    exact ⟨by rw [HF.out]; rfl, by go_grown⟩
  have HF : Hid (rrB p o = true) := by
    have h : rrB p o = true := by (rw [HR.out]; simp; omega)
    exact h
  have f0 : decide (p < 0) = false := by (simp; omega)
  have f1 : decide (5 < p) = false := by (simp; omega)
  have f2 : decide (o < 0) = false := by (simp; omega)
  have f3 : decide (3 < o) = false := by (simp; omega)
  clear HR c0 c1 c2 c3
  have HX : Hid (∀ U : World, Below (w.alloc (.cells #[.int .i64 0, .int .i64 p, .int .i64 o, .int .i64 0, .int .i64 0, .int .i64 0, .bool false, .slice none 0 0, .complex .f64 0 0, .complex .f64 0 0, .complex .f64 0 0, .complex .f64 0 0] 30)).heap.size (w.alloc (.cells #[.int .i64 0, .int .i64 p, .int .i64 o, .int .i64 0, .int .i64 0, .int .i64 0, .bool false, .slice none 0 0, .complex .f64 0 0, .complex .f64 0 0, .complex .f64 0 0, .complex .f64 0 0] 30)) U → U.cell? ⟨w.heap.size, 0, none⟩ = some (.int .i64 0) ∧ U.cell? ⟨w.heap.size, 1, none⟩ = some (.int .i64 p) ∧ U.cell? ⟨w.heap.size, 2, none⟩ = some (.int .i64 o) ∧ U.cell? ⟨w.heap.size, 3, none⟩ = some (.int .i64 0) ∧ U.cell? ⟨w.heap.size, 4, none⟩ = some (.int .i64 0) ∧ U.cell? ⟨w.heap.size, 5, none⟩ = some (.int .i64 0) ∧ U.cell? ⟨w.heap.size, 6, none⟩ = some (.bool false) ∧ U.cell? ⟨w.heap.size, 7, none⟩ = some (.slice none 0 0) ∧ U.cell? ⟨w.heap.size, 8, none⟩ = some (.complex .f64 0 0) ∧ U.cell? ⟨w.heap.size, 9, none⟩ = some (.complex .f64 0 0) ∧ U.cell? ⟨w.heap.size, 10, none⟩ = some (.complex .f64 0 0) ∧ U.cell? ⟨w.heap.size, 11, none⟩ = some (.complex .f64 0 0)) := fun U hU => by
    have h := (hU.block w.heap.size (by simp)).trans (heap_alloc_new w (.cells #[.int .i64 0, .int .i64 p, .int .i64 o, .int .i64 0, .int .i64 0, .int .i64 0, .bool false, .slice none 0 0, .complex .f64 0 0, .complex .f64 0 0, .complex .f64 0 0, .complex .f64 0 0] 30))
    refine ⟨?_, ?_, ?_, ?_, ?_, ?_, ?_, ?_, ?_, ?_, ?_, ?_⟩
    all_goals rw [cell_of_row _ _ _ _ _ _ h]; rfl
  go_enter Tryd.func12, Tryd.ntmps12
  go_upto_region 4 with (first
    | (go_at_call 27; refine (has0 _).mono ?_; rintro e w1 ⟨rfl, hb1⟩)
    | fail)
  have hbA : Below w1.heap.size w1 (w1.alloc (.cells #[.bool true, .bool false, .bool false, .bool false, .bool false, .bool false] 65)) := (Below.refl _ _).alloc (Nat.le_refl _) _
  have hb4 := below_step hb1 hbA
  obtain ⟨a0, a1, a2, a3, a4, a5, a6, a7, a8, a9, aA, aB⟩ := HX.out _ hb4
  have hg := heap_alloc_new w1 (.cells #[.bool true, .bool false, .bool false, .bool false, .bool false, .bool false] 65)
  obtain ⟨g6, hg6⟩ : ∃ g, w1.heap.size = g := ⟨_, rfl⟩
  rw [hg6] at hg ⊢
  have HB4 : Hid (Below (w.alloc (.cells #[.int .i64 0, .int .i64 p, .int .i64 o, .int .i64 0, .int .i64 0, .int .i64 0, .bool false, .slice none 0 0, .complex .f64 0 0, .complex .f64 0 0, .complex .f64 0 0, .complex .f64 0 0] 30)).heap.size (w.alloc (.cells #[.int .i64 0, .int .i64 p, .int .i64 o, .int .i64 0, .int .i64 0, .int .i64 0, .bool false, .slice none 0 0, .complex .f64 0 0, .complex .f64 0 0, .complex .f64 0 0, .complex .f64 0 0] 30)) (w1.alloc (.cells #[.bool true, .bool false, .bool false, .bool false, .bool false, .bool false] 65))) := hb4
  show Code.wp _ _ _ _ (w1.alloc (.cells #[.bool true, .bool false, .bool false, .bool false, .bool false, .bool false] 65))
  clear hb4 hbA hb1 hg6
  generalize w1.alloc (.cells #[.bool true, .bool false, .bool false, .bool false, .bool false, .bool false] 65) = W4 at *
  have h0 : W4.cell? ⟨g6, 0, none⟩ = some (.bool true) := by rw [cell_of_row _ _ _ _ _ _ hg]; rfl
  have h1 : W4.cell? ⟨g6, 1, none⟩ = some (.bool false) := by rw [cell_of_row _ _ _ _ _ _ hg]; rfl
  have h2 : W4.cell? ⟨g6, 2, none⟩ = some (.bool false) := by rw [cell_of_row _ _ _ _ _ _ hg]; rfl
  have h3 : W4.cell? ⟨g6, 3, none⟩ = some (.bool false) := by rw [cell_of_row _ _ _ _ _ _ hg]; rfl
  have h4 : W4.cell? ⟨g6, 4, none⟩ = some (.bool false) := by rw [cell_of_row _ _ _ _ _ _ hg]; rfl
  have h5 : W4.cell? ⟨g6, 5, none⟩ = some (.bool false) := by rw [cell_of_row _ _ _ _ _ _ hg]; rfl
  clear hg
  go_wp2_with (first
    | (go_at_call 28; refine (values0 _).mono ?_; rintro e w2 ⟨rfl, hb2⟩; obtain ⟨b0, b1, b2, b3, b4, b5, b6, b7, b8, b9, bA, bB⟩ := HX.out w2 (below_step HB4.out hb2))
    | (go_at_call 29; refine (puts0 _).mono ?_; rintro e w3 ⟨rfl, hb3⟩)
    | fail)
  go_ret
  exact ⟨by rw [HF.out]; rfl, below_step (below_step ((Below.refl _ _).alloc (Nat.le_refl _) _) (below_step HB4.out hb2)) hb3⟩

end Go.Proofs.YtllggjkhbecalaaDoor
