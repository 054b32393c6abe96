/- The document's table: as a value and in a block. No walk. -/
import Derived.Test.YtngfcnbcljcdfaaCm
namespace Go.Proofs.Ytngfcnbcljcdfaa
open Go.RowKit
set_option linter.unusedVariables false

/-- The cell of the document's table: of client d, page p, object i, in the field of copies and in that of owners. -/
def rb (T : Nat → Nat) (k : Nat) : Bool := if k < 96 then (cp T (k / 24) (k % 24 / 4)).testBit (k % 4) else (ow T ((k - 96) / 24) ((k - 96) % 24 / 4)).testBit ((k - 96) % 4)
def rfL (T : Nat → Nat) : List Value := (List.range 192).map fun k => .bool (rb T k)
def rfA (T : Nat → Nat) : Array Value := (rfL T).toArray

theorem rfA_size (T : Nat → Nat) : (rfA T).size = 192 := by simp [rfA, rfL]
theorem rfA_get (T : Nat → Nat) (k : Nat) (h : k < 192) : (rfA T)[k]? = some (.bool (rb T k)) := by simp [rfA, rfL, h]
theorem rfA_one (T : Nat → Nat) : (rfA T).all (·.oneCell') = true := by
  rw [Array.all_eq_true_iff_forall_mem]
  intro v hv
  simp only [rfA, rfL, List.mem_toArray, List.mem_map] at hv
  obtain ⟨k, _, rfl⟩ := hv
  rfl

theorem rb_cp {T : Nat → Nat} {d p i : Nat} (hd : d < 4) (hp : p < 6) (hi : i < 4) : rb T (d * 24 + p * 4 + i) = (cp T d p).testBit i := by
  have h1 : (d * 24 + p * 4 + i) / 24 = d := by omega
  have h2 : (d * 24 + p * 4 + i) % 24 / 4 = p := by omega
  have h3 : (d * 24 + p * 4 + i) % 4 = i := by omega
  unfold rb
  rw [if_pos (by omega), h1, h2, h3]
theorem rb_ow {T : Nat → Nat} {d p i : Nat} (hd : d < 4) (hp : p < 6) (hi : i < 4) : rb T (96 + d * 24 + p * 4 + i) = (ow T d p).testBit i := by
  have h1 : (96 + d * 24 + p * 4 + i - 96) / 24 = d := by omega
  have h2 : (96 + d * 24 + p * 4 + i - 96) % 24 / 4 = p := by omega
  have h3 : (96 + d * 24 + p * 4 + i - 96) % 4 = i := by omega
  unfold rb
  rw [if_neg (by omega), h1, h2, h3]

/-- The document's table lies in a block. -/
structure Rb (w : World) (q : Nat) (T : Nat → Nat) : Prop where
  blk : w.heap[q]? = some (.cells (rfA T) 37 (0, 0))

section
variable {w w' : World} {q : Nat} {T : Nat → Nat}
theorem Rb.new (w : World) (T : Nat → Nat) : Rb (w.alloc (.cells (rfA T) 37)) w.heap.size T := ⟨heap_alloc_new w _⟩
theorem Rb.lt (h : Rb w q T) : q < w.heap.size := (Array.getElem?_eq_some_iff.1 h.blk).1
theorem Rb.keep (h : Rb w q T) (hq : w'.heap[q]? = w.heap[q]?) : Rb w' q T := ⟨hq.trans h.blk⟩
theorem Rb.below (h : Rb w q T) (hb : Below w.heap.size w w') : Rb w' q T := h.keep (hb.block q h.lt)
theorem Rb.cell (h : Rb w q T) (k : Nat) (hk : k < 192) : w.cell? ⟨q, k, none⟩ = some (.bool (rb T k)) := by
  rw [cell_of_row _ _ _ _ _ _ h.blk]
  exact rfA_get T k hk
theorem Rb.fz (h : Rb w q T) (j : Nat) : w.frozen? ⟨q, j, none⟩ = false := frozen_of_row _ _ _ _ _ h.blk
theorem Rb.c (h : Rb w q T) {d p i : Nat} (hd : d < 4) (hp : p < 6) (hi : i < 4) : w.cell? ⟨q, d * 24 + p * 4 + i, none⟩ = some (.bool ((cp T d p).testBit i)) := by
  rw [h.cell _ (by omega), rb_cp hd hp hi]
theorem Rb.o (h : Rb w q T) {d p i : Nat} (hd : d < 4) (hp : p < 6) (hi : i < 4) : w.cell? ⟨q, 96 + d * 24 + p * 4 + i, none⟩ = some (.bool ((ow T d p).testBit i)) := by
  rw [h.cell _ (by omega), rb_ow hd hp hi]
end

/-- A mask of four bits. -/
def mk4 (a b c d : Bool) : Nat := a.toNat + 2 * b.toNat + 4 * c.toNat + 8 * d.toNat
theorem mk4_bits : ∀ m < 16, mk4 (m.testBit 0) (m.testBit 1) (m.testBit 2) (m.testBit 3) = m := by decide +kernel

end Go.Proofs.Ytngfcnbcljcdfaa
