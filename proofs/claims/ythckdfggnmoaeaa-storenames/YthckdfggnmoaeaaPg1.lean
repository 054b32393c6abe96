import Derived.Test.YthckdfggnmoaeaaCr3
import Derived.Laws.Rows
import Derived.Deep.RegionHeld
import Derived.Deep.RegionHeldLaw
namespace Go.Proofs.Ythckdfggnmoaeaa
open Go.RowKit
set_option linter.unusedVariables false

theorem info25 : (Try.prog.info? 42).map (fun i => (i.zero, i.size, i.bytes)) = some (some (.agg #[.int .i64 0, .complex .f64 0 0, .complex .f64 0 0, .complex .f64 0 0, .complex .f64 0 0]), 5, 72) := by kernel_rfl

def lsnB (l : Int) : Bool := decide (0 ≤ l) && decide (l ≤ 16777215)

theorem rightLSN_any (l : Int) (w : World) : Calls Try.prog 53 #[.int .i64 l] w fun e w' => e = .returned (.bool (lsnB l)) ∧ w' = w := by
  cases h : decide (0 ≤ l)
  all_goals
    have h' := h
    simp only [decide_eq_true_eq, decide_eq_false_iff_not] at h'
    go_enter Try.func53, Try.ntmps53
    go_wp2
    go_ret
    exact ⟨ret_bool (by simp only [lsnB, h, Bool.true_and, Bool.false_and]), rfl⟩

def objB (l : Int) : Bool := decide (0 ≤ l) && decide (l < 4)

theorem rightObj_any (l : Int) (w : World) : Calls Try.prog 52 #[.int .i64 l] w fun e w' => e = .returned (.bool (objB l)) ∧ w' = w := by
  cases h : decide (0 ≤ l)
  all_goals
    have h' := h
    simp only [decide_eq_true_eq, decide_eq_false_iff_not] at h'
    go_enter Try.func52, Try.ntmps52
    go_wp2
    go_ret
    exact ⟨ret_bool (by simp only [objB, h, Bool.true_and, Bool.false_and]), rfl⟩

/-- A page as a value: its number, and its objects, cell by cell. -/
def pgV (l : Int) (a b c d : Nat × Nat) : Value := .agg #[.int .i64 l, .complex .f64 a.1 a.2, .complex .f64 b.1 b.2, .complex .f64 c.1 c.2, .complex .f64 d.1 d.2]

/-- The block of a page. -/
abbrev pgO (l : Int) (a b c d : Nat × Nat) : Obj := .cells #[.int .i64 l, .complex .f64 a.1 a.2, .complex .f64 b.1 b.2, .complex .f64 c.1 c.2, .complex .f64 d.1 d.2] 42

/-- A page lies in a block. -/
structure PgAt (w : World) (g : Nat) (l : Int) (a b c d : Nat × Nat) : Prop where
  c0 : w.cell? ⟨g, 0, none⟩ = some (.int .i64 l)
  c1 : w.cell? ⟨g, 1, none⟩ = some (.complex .f64 a.1 a.2)
  c2 : w.cell? ⟨g, 2, none⟩ = some (.complex .f64 b.1 b.2)
  c3 : w.cell? ⟨g, 3, none⟩ = some (.complex .f64 c.1 c.2)
  c4 : w.cell? ⟨g, 4, none⟩ = some (.complex .f64 d.1 d.2)
  f0 : w.frozen? ⟨g, 0, none⟩ = false
  f1 : w.frozen? ⟨g, 1, none⟩ = false
  f2 : w.frozen? ⟨g, 2, none⟩ = false
  f3 : w.frozen? ⟨g, 3, none⟩ = false
  f4 : w.frozen? ⟨g, 4, none⟩ = false
  lt : g < w.heap.size

theorem PgAt.new (w : World) (l : Int) (a b c d : Nat × Nat) : PgAt (w.alloc (pgO l a b c d)) w.heap.size l a b c d := by
  have h := heap_alloc_new w (pgO l a b c d)
  refine ⟨?_, ?_, ?_, ?_, ?_, frozen_of_row _ _ _ _ _ h, frozen_of_row _ _ _ _ _ h, frozen_of_row _ _ _ _ _ h, frozen_of_row _ _ _ _ _ h, frozen_of_row _ _ _ _ _ h, by simp⟩
  all_goals (rw [cell_of_row _ _ _ _ _ _ h]; rfl)

theorem PgAt.below {w w' : World} {g B : Nat} {l : Int} {a b c d : Nat × Nat} (h : PgAt w g l a b c d) (hb : Below B w w') (hg : g < B) : PgAt w' g l a b c d :=
  ⟨(hb.cell hg).trans h.c0, (hb.cell hg).trans h.c1, (hb.cell hg).trans h.c2, (hb.cell hg).trans h.c3, (hb.cell hg).trans h.c4, (hb.frozen hg).trans h.f0, (hb.frozen hg).trans h.f1, (hb.frozen hg).trans h.f2, (hb.frozen hg).trans h.f3, (hb.frozen hg).trans h.f4, Nat.lt_of_lt_of_le h.lt hb.size⟩

theorem right_any (l : Int) (a b c d : Nat × Nat) (w : World) : Calls Try.prog 54 #[pgV l a b c d] w fun e w' => e = .returned (.bool (lsnB l)) ∧ w' = w.alloc (pgO l a b c d) := by
  unfold pgV
  go_enter Try.func54, Try.ntmps54
  go_wp2_with (go_at_call 53; refine (rightLSN_any _ _).mono ?_; rintro e w' ⟨rfl, hw⟩; subst w')
  go_ret
  exact ⟨rfl, rfl⟩

end Go.Proofs.Ythckdfggnmoaeaa
