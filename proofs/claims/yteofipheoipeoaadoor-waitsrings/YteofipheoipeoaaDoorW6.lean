/- Marks in a block; with more edges no fewer can be come to. -/
import Derived.Test.YteofipheoipeoaaDoorW5
import Derived.WalkKit
import Derived.Below
import Derived.Deep.QuietTactic
import Derived.BigQuiet
import Derived.Deep.RegionWith
import Derived.Deep.RegionHeld
import Derived.Deep.RegionHeldLaw
import Derived.RegionTactic
namespace Go.Proofs.YteofipheoipeoaaDoor
open Go.RowKit
set_option linter.unusedVariables false
/-- Four marks in a block. -/
structure B4 (w : World) (b : Nat) (T : Nat → Bool) : Prop where
  blk : w.heap[b]? = some (.cells #[.bool (T 0), .bool (T 1), .bool (T 2), .bool (T 3)] 35 (0, 0))
def putB (T : Nat → Bool) (i : Nat) (v : Bool) : Nat → Bool := fun j => if j = i then v else T j
section
variable {w w' : World} {b : Nat} {T : Nat → Bool}
theorem B4.cell (h : B4 w b T) : ∀ i, i < 4 → w.cell? ⟨b, i, none⟩ = some (.bool (T i))
  | 0, _ => by rw [cell_of_row _ _ _ _ _ _ h.blk]; rfl
  | 1, _ => by rw [cell_of_row _ _ _ _ _ _ h.blk]; rfl
  | 2, _ => by rw [cell_of_row _ _ _ _ _ _ h.blk]; rfl
  | 3, _ => by rw [cell_of_row _ _ _ _ _ _ h.blk]; rfl
theorem B4.fz (h : B4 w b T) (j : Nat) : w.frozen? ⟨b, j, none⟩ = false := frozen_of_row _ _ _ _ _ h.blk
theorem B4.lt (h : B4 w b T) : b < w.heap.size := (Array.getElem?_eq_some_iff.1 h.blk).1
theorem B4.keep (h : B4 w b T) (hb : w'.heap[b]? = w.heap[b]?) : B4 w' b T := ⟨hb.trans h.blk⟩
theorem B4.below (h : B4 w b T) (hb : Below w.heap.size w w') : B4 w' b T := h.keep (hb.block b h.lt)
theorem B4.put (h : B4 w b T) : ∀ (i : Nat) (v : Bool), i < 4 → B4 (w.setCell ⟨b, i, none⟩ (.bool v)) b (putB T i v)
  | 0, v, _ => ⟨by rw [heap_setCell_same w b 0 _ 35 _ h.blk]; rfl⟩
  | 1, v, _ => ⟨by rw [heap_setCell_same w b 1 _ 35 _ h.blk]; rfl⟩
  | 2, v, _ => ⟨by rw [heap_setCell_same w b 2 _ 35 _ h.blk]; rfl⟩
  | 3, v, _ => ⟨by rw [heap_setCell_same w b 3 _ 35 _ h.blk]; rfl⟩
end
/-- A slice of integers stays where a store is made into another type's block. -/
theorem OwnI.beside {w : World} {base : Nat} {e : TypeId} {k : IntKind} {ao : Option Addr} {cap : Nat} {zs : List Int} (h : OwnI w base e k ao cap zs) {g i : Nat} (v : Value) (hg : g < base) : OwnI (w.setCell ⟨g, i, none⟩ v) base e k ao cap zs := by
  obtain ⟨h1, h2⟩ := h
  refine ⟨h1, ?_⟩
  rcases h2 with h2 | ⟨g2, cp, cur, hv, hg2, hh, r⟩
  · exact .inl h2
  · exact .inr ⟨g2, cp, cur, hv, hg2, by rw [Below.heap_setCell _ _ _ _ (by simp; omega)]; exact hh, r⟩

theorem more_far {E F : List (Int × Int)} {c x y : Int} (hx : x ∈ rlI E c) (hy : y ∈ rlI E x) : y ∈ rlI (E ++ F) c := by
  obtain ⟨i, j, hi, hj, rfl, rfl, h1⟩ := rlI_mem hx
  obtain ⟨i2, k, _, hk, e, rfl, h2⟩ := rlI_mem hy
  have : i2 = j := by omega
  subst this
  have h3 := r_sub (F := E ++ F) (fun x hx => List.mem_append_left _ hx) (r_trans h1 h2)
  simp only [rlI, cl_nat hi, if_true, Int.toNat_natCast]
  exact (rl_mem _ _ _ _).2 ⟨k, hk, rfl, h3⟩
theorem more_one {E F : List (Int × Int)} {c x : Int} (hx : x ∈ rlI E c) : x ∈ rlI (E ++ F) c := by
  obtain ⟨i, j, hi, hj, rfl, rfl, h1⟩ := rlI_mem hx
  have h3 := r_sub (F := E ++ F) (fun x hx => List.mem_append_left _ hx) h1
  simp only [rlI, cl_nat hi, if_true, Int.toNat_natCast]
  exact (rl_mem _ _ _ _).2 ⟨j, hj, rfl, h3⟩
theorem rlI_nat {E : List (Int × Int)} {c x : Int} (hx : x ∈ rlI E c) : ∃ j : Nat, j < 4 ∧ x = j := by
  obtain ⟨i, j, hi, hj, rfl, rfl, h1⟩ := rlI_mem hx
  exact ⟨j, hj, rfl⟩
theorem zero_len {E : List (Int × Int)} {n : Nat} (h : E.length = n) : ([] ++ E).length = n := by simpa using h
theorem take_get {L : List Int} {t : Nat} {x : Int} (h : L[t]? = some x) : L.take (t + 1) = L.take t ++ [x] := by rw [List.take_add_one, h]; rfl

end Go.Proofs.YteofipheoipeoaaDoor
