/- What the reference's New, Limit and Sync do, walked. -/
import Derived.Test.YtdajhdeheheccaaT2
import Derived.Test.YtdajhdeheheccaaSg
namespace Go.Proofs.Ytdajhdeheheccaa
open Go.RowKit
set_option linter.unusedVariables false

/-- A tape of the reference, as a value. -/
abbrev rv (a : Option Addr) (n c s r : Nat) : Value := .agg #[.slice a n c, .int .i64 (s : Int), .int .i64 (r : Int)]

/-- A struct of three lies in a block. -/
structure Bx (w : World) (p : Nat) (x0 x1 x2 : Value) : Prop where
  c0 : w.cell? ⟨p, 0, none⟩ = some x0
  c1 : w.cell? ⟨p, 1, none⟩ = some x1
  c2 : w.cell? ⟨p, 2, none⟩ = some x2
  f : ∀ j, w.frozen? ⟨p, j, none⟩ = false
  lt : p < w.heap.size

theorem Bx.of {w : World} {p : Nat} {x0 x1 x2 : Value} {t : TypeId} (h : w.heap[p]? = some (.cells #[x0, x1, x2] t)) : Bx w p x0 x1 x2 :=
  ⟨by rw [cell_of_row _ _ _ _ _ _ h]; rfl, by rw [cell_of_row _ _ _ _ _ _ h]; rfl, by rw [cell_of_row _ _ _ _ _ _ h]; rfl, fun j => frozen_of_row _ _ _ _ _ h, (Array.getElem?_eq_some_iff.1 h).1⟩

theorem Bx.block {w w' : World} {p : Nat} {x0 x1 x2 : Value} (h : Bx w p x0 x1 x2) (hb : w'.heap[p]? = w.heap[p]?) (hs : w.heap.size ≤ w'.heap.size) : Bx w' p x0 x1 x2 :=
  ⟨(World.cell?_of_block (w := w) hb).trans h.c0, (World.cell?_of_block (w := w) hb).trans h.c1, (World.cell?_of_block (w := w) hb).trans h.c2, fun j => (World.frozen?_of_block (w := w) hb).trans (h.f j), Nat.lt_of_lt_of_le h.lt hs⟩

theorem Bx.below {w w' : World} {p B : Nat} {x0 x1 x2 : Value} (h : Bx w p x0 x1 x2) (hb : Below B w w') (hp : p < B) : Bx w' p x0 x1 x2 := h.block (hb.block p hp) hb.size

theorem Bx.other {w : World} {p : Nat} {x0 x1 x2 : Value} (h : Bx w p x0 x1 x2) (a : Addr) (u : Value) (hne : p ≠ a.block) : Bx (w.setCell a u) p x0 x1 x2 := h.block (Below.heap_setCell _ _ _ _ hne) (by simp [World.setCell])

theorem Bx.put {w : World} {p : Nat} {x0 x1 x2 : Value} (h : Bx w p x0 x1 x2) (y0 y1 y2 : Value) : Bx (((w.setCell ⟨p, 0, none⟩ y0).setCell ⟨p, 1, none⟩ y1).setCell ⟨p, 2, none⟩ y2) p y0 y1 y2 := by
  refine ⟨?_, ?_, ?_, fun j => by rw [World.frozen?_setCell, World.frozen?_setCell, World.frozen?_setCell]; exact h.f j, by simpa [World.setCell] using h.lt⟩
  · rw [put_other _ _ _ _ _ (by omega), put_other _ _ _ _ _ (by omega)]; exact World.cell?_setCell_same _ _ _ h.c0
  · rw [put_other _ _ _ _ _ (by omega)]; exact World.cell?_setCell_same _ _ _ ((put_other _ _ _ _ _ (by omega)).trans h.c1)
  · exact World.cell?_setCell_same _ _ _ ((put_other _ _ _ _ _ (by omega)).trans ((put_other _ _ _ _ _ (by omega)).trans h.c2))

theorem refLimit_any (a : Option Addr) (n c s r : Nat) (room : Int) (w : World) :
    Calls Try.prog 18 #[rv a n c s r, .int .i64 room] w fun e w' => e = .returned (rv a n c s (bnd room)) ∧ Below w.heap.size w w' := by
  by_cases h0 : room < 0
  · obtain ⟨R, hR⟩ : ∃ R, R = bnd room := ⟨_, rfl⟩
    have e : R = 0 := by rw [hR]; unfold bnd; omega
    rw [← hR, e]
    clear hR
    go_enter Try.func18, Try.ntmps18
    go_wp2
    go_returns
    exact ⟨rfl, by go_grown⟩
  · by_cases h1 : room ≤ 20000
    · obtain ⟨R, rfl⟩ : ∃ R : Nat, room = R := ⟨room.toNat, by omega⟩
      have e : bnd (R : Int) = R := by unfold bnd; omega
      rw [e]
      clear e
      go_enter Try.func18, Try.ntmps18
      go_wp2
      go_returns
      exact ⟨rfl, by go_grown⟩
    · obtain ⟨R, hR⟩ : ∃ R, R = bnd room := ⟨_, rfl⟩
      have e : R = 20000 := by rw [hR]; unfold bnd; omega
      rw [← hR, e]
      clear hR
      go_enter Try.func18, Try.ntmps18
      go_wp2
      go_returns
      exact ⟨rfl, by go_grown⟩

theorem refNew_any (room : Int) (w : World) :
    Calls Try.prog 11 #[.int .i64 room] w fun e w' => e = .returned (rv none 0 0 0 (bnd room)) ∧ Below w.heap.size w w' := by
  have hb0 : Bx (w.alloc (.cells #[.slice none 0 0, .int .i64 0, .int .i64 0] 30)) w.heap.size (.slice none 0 0) (.int .i64 0) (.int .i64 0) := Bx.of (t := 30) (heap_alloc_new w _)
  go_enter Try.func11, Try.ntmps11
  go_wp2_with (go_at_call 18; refine (refLimit_any none 0 0 0 0 room _).mono ?_; rintro e w1 ⟨rfl, hb1⟩; have hX := hb0.below hb1 hb0.lt; have hc0 := hX.c0; have hc1 := hX.c1; have hc2 := hX.c2; have hf0 := hX.f 0; have hf1 := hX.f 1; have hf2 := hX.f 2)
  have hY := hX.put (.slice none 0 0) (.int .i64 0) (.int .i64 (bnd room))
  refine bodyPost_ret (by simp [results, Try.results11, go_sem, hY.c0, hY.c1, hY.c2]; try rfl) rfl ?_
  exact ⟨rfl, ((below_alloc (hb1.mono (by simp))).setCell (Nat.le_refl _) _).setCell (Nat.le_refl _) _ |>.setCell (Nat.le_refl _) _⟩

theorem refSync_any (a : Option Addr) (n c s r : Nat) (w : World) :
    Calls Try.prog 14 #[rv a n c s r] w fun e w' => e = .returned (rv a n c n r) ∧ Below w.heap.size w w' := by
  go_enter Try.func14, Try.ntmps14
  go_wp2
  go_returns
  exact ⟨rfl, by go_grown⟩

end Go.Proofs.Ytdajhdeheheccaa
