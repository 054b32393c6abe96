/- Three blocks; a field of a thing of a row written. -/
import Derived.Test.YtcjajckmcikhcaaR3
namespace Go.Proofs.Ytcjajckmcikhcaa
open Go.RowKit Go.Maps
set_option linter.unusedVariables false


theorem three_new (w : World) (a1 : Option Addr) (n1 c1 : Nat) (a2 : Option Addr) (n2 c2 : Nat) (x : Wt) : P2 (((w.alloc (rqO a1 n1 c1 a2 n2 c2)).alloc (wtO x)).alloc (rqO none 0 0 none 0 0)) w.heap.size (.slice a1 n1 c1) (.slice a2 n2 c2) ∧ (((w.alloc (rqO a1 n1 c1 a2 n2 c2)).alloc (wtO x)).alloc (rqO none 0 0 none 0 0)).heap[w.heap.size + 1]? = some (wtO x) ∧ P2 (((w.alloc (rqO a1 n1 c1 a2 n2 c2)).alloc (wtO x)).alloc (rqO none 0 0 none 0 0)) (w.heap.size + 2) (.slice none 0 0) (.slice none 0 0) ∧ Below w.heap.size w (((w.alloc (rqO a1 n1 c1 a2 n2 c2)).alloc (wtO x)).alloc (rqO none 0 0 none 0 0)) ∧ w.heap.size + 2 < (((w.alloc (rqO a1 n1 c1 a2 n2 c2)).alloc (wtO x)).alloc (rqO none 0 0 none 0 0)).heap.size := by
  refine ⟨⟨?_⟩, ?_, ?_, by go_grown, by simp⟩
  · rw [Below.heap_alloc _ _ _ (by simp; omega), Below.heap_alloc _ _ _ (by simp)]
    exact heap_alloc_new w _
  · rw [Below.heap_alloc _ _ _ (by simp)]
    have := heap_alloc_new (w.alloc (rqO a1 n1 c1 a2 n2 c2)) (wtO x)
    simpa using this
  · have := P2.new ((w.alloc (rqO a1 n1 c1 a2 n2 c2)).alloc (wtO x)) (.slice none 0 0) (.slice none 0 0)
    simpa using this

theorem cs_set {α : Type} {en : α → List Value} {s : Nat} (E : Enc en s) (j : Nat) (hj : j < s) (u : Value) (y : α) : ∀ (L : List α) (t : Nat) (ht : t < L.length), en y = (en L[t]).set j u → (cs en L).set (t * s + j) u = cs en (L.set t y)
  | x :: L, 0, _, h => by
    simp only [List.getElem_cons_zero] at h
    rw [List.set_cons_zero, cs_cons, cs_cons, h, Nat.zero_mul, Nat.zero_add, List.set_append_left _ _ (by rw [E.len]; exact hj)]
  | x :: L, t + 1, ht, h => by
    simp only [List.getElem_cons_succ] at h
    have e : (t + 1) * s + j - s = t * s + j := by rw [Nat.add_mul]; omega
    rw [List.set_cons_succ, cs_cons, cs_cons, List.set_append_right _ _ (by rw [E.len, Nat.add_mul]; omega), E.len, e, cs_set E j hj u y L t (by simpa using ht) h]

theorem OwR.put {α : Type} {en : α → List Value} {s : Nat} (E : Enc en s) {e : TypeId} {w : World} {ao : Option Addr} {cap : Nat} {L : List α} (h : OwR en s e w ao cap L) (t : Nat) (ht : t < L.length) (j : Nat) (hj : j < s) (u : Value) (y : α) (hy : en y = (en L[t]).set j u) :
    ∃ b, ao = some ⟨b, 0, none⟩ ∧ w.frozen? ⟨b, 0 + t * s + j, none⟩ = false ∧ (∃ u0, w.cell? ⟨b, 0 + t * s + j, none⟩ = some u0) ∧ OwR en s e (w.setCell ⟨b, 0 + t * s + j, none⟩ u) ao cap (L.set t y) := by
  rcases h with ⟨rfl, rfl, rfl⟩ | ⟨g, cur, rfl, hh, hle, hmx, hsz, htk⟩
  · simp at ht
  · have hlt : t * s + j < L.length * s := by
      have h1 : (t + 1) * s ≤ L.length * s := Nat.mul_le_mul_right s ht
      rw [Nat.add_mul] at h1
      omega
    have hcs : L.length * s ≤ cur.size := Nat.le_trans (Nat.mul_le_mul_right s hle) hsz
    refine ⟨g, rfl, frozen_of_row _ _ _ _ _ hh, ?_, .inr ⟨g, cur.setIfInBounds (0 + t * s + j) u, rfl, heap_setCell_same w g _ cur e u hh, by simpa using hle, hmx, by simpa using hsz, ?_⟩⟩
    · rw [cell_of_row _ _ _ _ _ _ hh]
      exact ⟨cur[0 + t * s + j]'(by omega), Array.getElem?_eq_getElem _⟩
    · rw [Nat.zero_add, Array.toList_setIfInBounds, List.length_set, List.take_set, htk, cs_set E j hj u y L t ht hy]

end Go.Proofs.Ytcjajckmcikhcaa
