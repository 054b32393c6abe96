/- Cells of a drive of the reference, written one at a time. -/
import Derived.Test.YtnapkcejpllmcaaR2
namespace Go.Proofs.Ytnapkcejpllmcaa
open Go.RowKit
set_option linter.unusedVariables false

section
variable {w : World} {V : Nat → Prop} {o0 o1 o2 : Nat} {L : List Sec}

theorem set_row (w : World) (o p i j : Nat) (u : Value) (h : p ≠ o) : (w.setCell ⟨o, i, none⟩ u).cell? ⟨p, j, none⟩ = w.cell? ⟨p, j, none⟩ := World.cell?_of_block (w := w) (Below.heap_setCell _ _ _ _ h)

theorem Cells3.putB (h : Cells3 w V o0 o1 o2 L) (v0 : ¬ V o0) (h01 : o1 ≠ o0) (h02 : o2 ≠ o0) (i : Nat) (hi : i < L.length) {ao : Option Addr} {n cap : Nat} {bs : List Nat} (hr : Rd8 w ao n cap bs) (hin : In w V ao) :
    Cells3 (w.setCell ⟨o0, i, none⟩ (.slice ao n cap)) V o0 o1 o2 (L.set i ⟨bs, L[i].s, L[i].l⟩) := by
  have hk : Kept V w (w.setCell ⟨o0, i, none⟩ (.slice ao n cap)) := Kept.setCell _ _ _ v0
  obtain ⟨a0, n0, c0, h0, _⟩ := h.cb i hi
  refine ⟨fun j hj => ?_, fun j hj => ?_, fun j hj => ?_, by simpa [World.setCell] using h.lt⟩
  · have hj' : j < L.length := by simpa using hj
    by_cases e : j = i
    · subst e
      exact ⟨ao, n, cap, World.cell?_setCell_same _ _ _ h0, by simpa using hr.kept hin hk, hin.mono hk.size fun _ _ h => h⟩
    · rw [put_other _ _ _ _ _ e]
      obtain ⟨a1, n1, c1, r1, r2, r3⟩ := h.cb j hj'
      refine ⟨a1, n1, c1, r1, ?_, r3.mono hk.size fun _ _ h => h⟩
      rw [List.getElem_set_ne (fun h => e h.symm)]
      exact r2.kept r3 hk
  · have hj' : j < L.length := by simpa using hj
    rw [set_row _ _ _ _ _ _ h01]
    obtain ⟨a1, n1, c1, r1, r2, r3⟩ := h.cs j hj'
    refine ⟨a1, n1, c1, r1, ?_, r3.mono hk.size fun _ _ h => h⟩
    by_cases e : j = i
    · subst e; simpa using r2.kept r3 hk
    · rw [List.getElem_set_ne (fun h => e h.symm)]; exact r2.kept r3 hk
  · have hj' : j < L.length := by simpa using hj
    rw [set_row _ _ _ _ _ _ h02, h.cl j hj']
    by_cases e : j = i
    · subst e; simp
    · rw [List.getElem_set_ne (fun h => e h.symm)]

theorem Cells3.putS (h : Cells3 w V o0 o1 o2 L) (v1 : ¬ V o1) (h10 : o0 ≠ o1) (h12 : o2 ≠ o1) (i : Nat) (hi : i < L.length) {ao : Option Addr} {n cap : Nat} {bs : List Nat} (hr : Rd8 w ao n cap bs) (hin : In w V ao) :
    Cells3 (w.setCell ⟨o1, i, none⟩ (.slice ao n cap)) V o0 o1 o2 (L.set i ⟨L[i].b, bs, L[i].l⟩) := by
  have hk : Kept V w (w.setCell ⟨o1, i, none⟩ (.slice ao n cap)) := Kept.setCell _ _ _ v1
  obtain ⟨a0, n0, c0, h0, _⟩ := h.cs i hi
  refine ⟨fun j hj => ?_, fun j hj => ?_, fun j hj => ?_, by simpa [World.setCell] using h.lt⟩
  · have hj' : j < L.length := by simpa using hj
    rw [set_row _ _ _ _ _ _ h10]
    obtain ⟨a1, n1, c1, r1, r2, r3⟩ := h.cb j hj'
    refine ⟨a1, n1, c1, r1, ?_, r3.mono hk.size fun _ _ h => h⟩
    by_cases e : j = i
    · subst e; simpa using r2.kept r3 hk
    · rw [List.getElem_set_ne (fun h => e h.symm)]; exact r2.kept r3 hk
  · have hj' : j < L.length := by simpa using hj
    by_cases e : j = i
    · subst e
      exact ⟨ao, n, cap, World.cell?_setCell_same _ _ _ h0, by simpa using hr.kept hin hk, hin.mono hk.size fun _ _ h => h⟩
    · rw [put_other _ _ _ _ _ e]
      obtain ⟨a1, n1, c1, r1, r2, r3⟩ := h.cs j hj'
      refine ⟨a1, n1, c1, r1, ?_, r3.mono hk.size fun _ _ h => h⟩
      rw [List.getElem_set_ne (fun h => e h.symm)]
      exact r2.kept r3 hk
  · have hj' : j < L.length := by simpa using hj
    rw [set_row _ _ _ _ _ _ h12, h.cl j hj']
    by_cases e : j = i
    · subst e; simp
    · rw [List.getElem_set_ne (fun h => e h.symm)]

theorem Cells3.putL (h : Cells3 w V o0 o1 o2 L) (v2 : ¬ V o2) (h20 : o0 ≠ o2) (h21 : o1 ≠ o2) (i : Nat) (hi : i < L.length) (b : Bool) :
    Cells3 (w.setCell ⟨o2, i, none⟩ (.bool b)) V o0 o1 o2 (L.set i ⟨L[i].b, L[i].s, b⟩) := by
  have hk : Kept V w (w.setCell ⟨o2, i, none⟩ (.bool b)) := Kept.setCell _ _ _ v2
  refine ⟨fun j hj => ?_, fun j hj => ?_, fun j hj => ?_, by simpa [World.setCell] using h.lt⟩
  · have hj' : j < L.length := by simpa using hj
    rw [set_row _ _ _ _ _ _ h20]
    obtain ⟨a1, n1, c1, r1, r2, r3⟩ := h.cb j hj'
    refine ⟨a1, n1, c1, r1, ?_, r3.mono hk.size fun _ _ h => h⟩
    by_cases e : j = i
    · subst e; simpa using r2.kept r3 hk
    · rw [List.getElem_set_ne (fun h => e h.symm)]; exact r2.kept r3 hk
  · have hj' : j < L.length := by simpa using hj
    rw [set_row _ _ _ _ _ _ h21]
    obtain ⟨a1, n1, c1, r1, r2, r3⟩ := h.cs j hj'
    refine ⟨a1, n1, c1, r1, ?_, r3.mono hk.size fun _ _ h => h⟩
    by_cases e : j = i
    · subst e; simpa using r2.kept r3 hk
    · rw [List.getElem_set_ne (fun h => e h.symm)]; exact r2.kept r3 hk
  · have hj' : j < L.length := by simpa using hj
    by_cases e : j = i
    · subst e
      rw [World.cell?_setCell_same _ _ _ (h.cl j hj')]; simp
    · rw [put_other _ _ _ _ _ e, List.getElem_set_ne (fun h => e h.symm)]
      exact h.cl j hj'

/-- A store elsewhere. -/
theorem Cells3.other (h : Cells3 w V o0 o1 o2 L) (a : Addr) (u : Value) (hv : ¬ V a.block) (h0 : o0 ≠ a.block) (h1 : o1 ≠ a.block) (h2 : o2 ≠ a.block) : Cells3 (w.setCell a u) V o0 o1 o2 L :=
  h.kept (Kept.setCell _ _ _ hv) (Below.heap_setCell _ _ _ _ h0) (Below.heap_setCell _ _ _ _ h1) (Below.heap_setCell _ _ _ _ h2)

theorem Cells3.below {w' : World} (h : Cells3 w V o0 o1 o2 L) (hb : Below w.heap.size w w') : Cells3 w' V o0 o1 o2 L :=
  h.kept (Kept.of_below hb) (hb.block _ h.lt.1) (hb.block _ h.lt.2.1) (hb.block _ h.lt.2.2)
end

/-- A struct of three slices lies in a block. -/
structure Bx (w : World) (p : Nat) (x0 x1 x2 : Value) : Prop where
  c0 : w.cell? ⟨p, 0, none⟩ = some x0
  c1 : w.cell? ⟨p, 1, none⟩ = some x1
  c2 : w.cell? ⟨p, 2, none⟩ = some x2
  f : ∀ j, w.frozen? ⟨p, j, none⟩ = false
  lt : p < w.heap.size

theorem Bx.of {w : World} {p : Nat} {x0 x1 x2 : Value} {t : TypeId} (h : w.heap[p]? = some (.cells #[x0, x1, x2] t)) : Bx w p x0 x1 x2 :=
  ⟨by rw [cell_of_row _ _ _ _ _ _ h]; rfl, by rw [cell_of_row _ _ _ _ _ _ h]; rfl, by rw [cell_of_row _ _ _ _ _ _ h]; rfl, fun j => frozen_of_row _ _ _ _ _ h, (Array.getElem?_eq_some_iff.1 h).1⟩

theorem Bx.block {w w' : World} {p : Nat} {x0 x1 x2 : Value} (h : Bx w p x0 x1 x2) (hb : w'.heap[p]? = w.heap[p]?) (hs : w.heap.size ≤ w'.heap.size) : Bx w' p x0 x1 x2 :=
  ⟨(World.cell?_of_block (w := w) hb).trans h.c0, (World.cell?_of_block (w := w) hb).trans h.c1, (World.cell?_of_block (w := w) hb).trans h.c2, fun j => (World.frozen?_of_block (w := w) hb).trans (h.f j), Nat.lt_of_lt_of_le h.lt hs⟩

theorem Bx.below {w w' : World} {p B : Nat} {x0 x1 x2 : Value} (h : Bx w p x0 x1 x2) (hb : Below B w w') (hp : p < B) : Bx w' p x0 x1 x2 := h.block (hb.block p hp) hb.size

theorem Bx.other {w : World} {p : Nat} {x0 x1 x2 : Value} (h : Bx w p x0 x1 x2) (a : Addr) (u : Value) (hne : p ≠ a.block) : Bx (w.setCell a u) p x0 x1 x2 := h.block (Below.heap_setCell _ _ _ _ hne) (by simp [World.setCell])

theorem Bx.put {w : World} {p : Nat} {x0 x1 x2 : Value} (h : Bx w p x0 x1 x2) (y0 y1 y2 : Value) : Bx (((w.setCell ⟨p, 0, none⟩ y0).setCell ⟨p, 1, none⟩ y1).setCell ⟨p, 2, none⟩ y2) p y0 y1 y2 := by
  refine ⟨?_, ?_, ?_, fun j => by rw [World.frozen?_setCell, World.frozen?_setCell, World.frozen?_setCell]; exact h.f j, by simpa [World.setCell] using h.lt⟩
  · rw [put_other _ _ _ _ _ (by omega), put_other _ _ _ _ _ (by omega)]; exact World.cell?_setCell_same _ _ _ h.c0
  · rw [put_other _ _ _ _ _ (by omega)]; exact World.cell?_setCell_same _ _ _ ((put_other _ _ _ _ _ (by omega)).trans h.c1)
  · exact World.cell?_setCell_same _ _ _ ((put_other _ _ _ _ _ (by omega)).trans ((put_other _ _ _ _ _ (by omega)).trans h.c2))

end Go.Proofs.Ytnapkcejpllmcaa
