/- What apply of package store does with a batch of one put, walked. -/
import Derived.Test.YthckdfggnmoaeaaQ2
import Derived.Maps.OwnSet
import Derived.Deep.RegionWith
namespace Go.Proofs.Ythckdfggnmoaeaa
open Go.RowKit Go.Maps
set_option linter.unusedVariables false

theorem law3 : Keyed Try.prog 3 := int_keyed Try.underlying3
theorem zero81 (w : World) : (zeroValue 81).run Try.prog w = .ok (.agg #[]) w := by kernel_rfl

theorem PgAt.set5 {w : World} {q : Nat} {l l' : Int} {a b c d a' b' c' d' : Nat × Nat} (h : PgAt w q l a b c d) : PgAt (((((w.setCell ⟨q, 0, none⟩ (.int .i64 l')).setCell ⟨q, 1, none⟩ (.complex .f64 a'.1 a'.2)).setCell ⟨q, 2, none⟩ (.complex .f64 b'.1 b'.2)).setCell ⟨q, 3, none⟩ (.complex .f64 c'.1 c'.2)).setCell ⟨q, 4, none⟩ (.complex .f64 d'.1 d'.2)) q l' a' b' c' d' := by
  refine ⟨?_, ?_, ?_, ?_, ?_, ?_, ?_, ?_, ?_, ?_, by simpa [World.setCell] using h.lt⟩
  · rw [put_other _ _ _ _ _ (by omega), put_other _ _ _ _ _ (by omega), put_other _ _ _ _ _ (by omega), put_other _ _ _ _ _ (by omega)]
    exact World.cell?_setCell_same _ _ _ h.c0
  · rw [put_other _ _ _ _ _ (by omega), put_other _ _ _ _ _ (by omega), put_other _ _ _ _ _ (by omega)]
    exact World.cell?_setCell_same _ _ _ (by rw [put_other _ _ _ _ _ (by omega)]; exact h.c1)
  · rw [put_other _ _ _ _ _ (by omega), put_other _ _ _ _ _ (by omega)]
    exact World.cell?_setCell_same _ _ _ (by rw [put_other _ _ _ _ _ (by omega), put_other _ _ _ _ _ (by omega)]; exact h.c2)
  · rw [put_other _ _ _ _ _ (by omega)]
    exact World.cell?_setCell_same _ _ _ (by rw [put_other _ _ _ _ _ (by omega), put_other _ _ _ _ _ (by omega), put_other _ _ _ _ _ (by omega)]; exact h.c3)
  · exact World.cell?_setCell_same _ _ _ (by rw [put_other _ _ _ _ _ (by omega), put_other _ _ _ _ _ (by omega), put_other _ _ _ _ _ (by omega), put_other _ _ _ _ _ (by omega)]; exact h.c4)
  · simp only [World.frozen?_setCell]; exact h.f0
  · simp only [World.frozen?_setCell]; exact h.f1
  · simp only [World.frozen?_setCell]; exact h.f2
  · simp only [World.frozen?_setCell]; exact h.f3
  · simp only [World.frozen?_setCell]; exact h.f4

/-- What apply has made ahead of its work: the batch, the map, the put. -/
structure Loc (W : World) (A : Nat) (l c e t : Int) (ap : Option Addr) (m cp : Nat) (p : PutG) : Prop where
  b : BtAt W A l c e t ap m cp
  mp : W.heap[A + 1]? = some (.map #[] 0)
  p0 : W.cell? ⟨A + 2, 0, none⟩ = some (.int .i64 (p.pg : Int))
  p1 : W.cell? ⟨A + 2, 1, none⟩ = some (.int .i64 (p.ob : Int))
  p2 : W.cell? ⟨A + 2, 2, none⟩ = some (.complex .f64 p.c.1 p.c.2)
  lt : A + 2 < W.heap.size

section
variable {W W' : World} {A : Nat} {l c e t : Int} {ap : Option Addr} {m cp : Nat} {p : PutG}
theorem Loc.keep (h : Loc W A l c e t ap m cp p) (hk : ∀ k, A ≤ k → k ≤ A + 2 → W'.heap[k]? = W.heap[k]?) (hs : W.heap.size ≤ W'.heap.size) : Loc W' A l c e t ap m cp p :=
  ⟨h.b.keep (hk A (by omega) (by omega)) hs, (hk (A + 1) (by omega) (by omega)).trans h.mp, (World.cell?_of_block (w := W) (hk (A + 2) (by omega) (by omega))).trans h.p0, (World.cell?_of_block (w := W) (hk (A + 2) (by omega) (by omega))).trans h.p1, (World.cell?_of_block (w := W) (hk (A + 2) (by omega) (by omega))).trans h.p2, Nat.lt_of_lt_of_le h.lt hs⟩
theorem Loc.below (h : Loc W A l c e t ap m cp p) (hb : Below W.heap.size W W') : Loc W' A l c e t ap m cp p := h.keep (fun k _ h2 => hb.block k (by have := h.lt; omega)) hb.size
theorem Loc.off (h : Loc W A l c e t ap m cp p) {gp gf g : Nat} (hO : Off3 gp gf g W W') (h1 : gp < A) (h2 : gf < A) (h3 : g < A) : Loc W' A l c e t ap m cp p := h.keep (fun k a1 a2 => hO.block k (by have := h.lt; omega) (by omega) (by omega) (by omega)) hO.size
theorem Loc.own (h : Loc W A l c e t ap m cp p) : W.ownsMap Try.prog 3 (unitElem (H := Unit)) (A + 1) 0 (.map []) := ⟨#[], 0, h.mp, ⟨by simp, Go.MapKept.stamped_empty 0, by simp⟩, Nat.le_refl _, rfl⟩
theorem Loc.put5 (h : Loc W A l c e t ap m cp p) (q : Nat) (hq : A + 2 < q) (u0 u1 u2 u3 u4 : Value) : Loc (((((W.setCell ⟨q, 0, none⟩ u0).setCell ⟨q, 1, none⟩ u1).setCell ⟨q, 2, none⟩ u2).setCell ⟨q, 3, none⟩ u3).setCell ⟨q, 4, none⟩ u4) A l c e t ap m cp p := by
  refine h.keep (fun k _ a2 => ?_) (by simp [World.setCell])
  have hne : k ≠ q := by omega
  have hb : ∀ (W : World) (j : Nat) (v : Value), (W.setCell ⟨q, j, none⟩ v).heap[k]? = W.heap[k]? := fun W j v => Below.heap_setCell _ _ _ _ hne
  simp only [hb]
end

theorem Loc.new (w : World) (l c e t : Int) (ap : Option Addr) (m cp : Nat) (p : PutG) : Loc (((w.alloc (btO l c e t ap m cp)).alloc (.map #[] 0)).alloc (wputO p)) w.heap.size l c e t ap m cp p := by
  have s1 : (w.alloc (btO l c e t ap m cp)).heap.size = w.heap.size + 1 := by simp
  have s2 : ((w.alloc (btO l c e t ap m cp)).alloc (.map #[] 0)).heap.size = w.heap.size + 2 := by simp
  have b1 := below_box (w.alloc (btO l c e t ap m cp)) (.map #[] 0)
  have b2 := below_box ((w.alloc (btO l c e t ap m cp)).alloc (.map #[] 0)) (wputO p)
  have hm := heap_alloc_new (w.alloc (btO l c e t ap m cp)) (.map #[] 0)
  have hp := heap_alloc_new ((w.alloc (btO l c e t ap m cp)).alloc (.map #[] 0)) (wputO p)
  rw [s1] at hm
  rw [s2] at hp
  refine ⟨((BtAt.new w l c e t ap m cp).below b1).below b2, (b2.block _ (by omega)).trans hm, ?_, ?_, ?_, by simp⟩
  all_goals rw [cell_of_row _ _ _ _ _ _ hp]; rfl

end Go.Proofs.Ythckdfggnmoaeaa
