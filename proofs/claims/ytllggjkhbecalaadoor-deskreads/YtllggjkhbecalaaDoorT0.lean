/- A table in memory: its 48 masks, what a store leaves of them; masks of four bits. No walk. -/
import Derived.Test.YtllggjkhbecalaaDoorProg
import Derived.Test.YtllggjkhbecalaaDoorSl
import Derived.Laws.Rows
namespace Go.Proofs.YtllggjkhbecalaaDoor.Tab
open Go.RowKit
set_option linter.unusedVariables false
set_option maxRecDepth 8000

theorem info3 : (Tryd.prog.info? 3).map (fun i => (i.zero, i.size, i.bytes)) = some (some (.int .i64 0), 1, 8) := by kernel_rfl

theorem put_other (w : World) (g i j : Nat) (u : Value) (hne : j ≠ i) : (w.setCell ⟨g, i, none⟩ u).cell? ⟨g, j, none⟩ = w.cell? ⟨g, j, none⟩ :=
  World.cell?_setCell_other _ _ _ _ (by intro e; simp only [Addr.mk.injEq] at e; omega)

/-- All blocks but g are as they were. -/
structure Off (g : Nat) (w w' : World) : Prop where
  os : w'.os = w.os
  tape : w'.tape = w.tape
  output : w'.output = w.output
  size : w.heap.size ≤ w'.heap.size
  block : ∀ k, k < w.heap.size → k ≠ g → w'.heap[k]? = w.heap[k]?

theorem Off.refl (g : Nat) (w : World) : Off g w w := ⟨rfl, rfl, rfl, Nat.le_refl _, fun _ _ _ => rfl⟩
theorem Off.trans {g : Nat} {a b c : World} (h : Off g a b) (k : Off g b c) : Off g a c :=
  ⟨k.os.trans h.os, k.tape.trans h.tape, k.output.trans h.output, Nat.le_trans h.size k.size, fun i hi hne => (k.block i (Nat.lt_of_lt_of_le hi h.size) hne).trans (h.block i hi hne)⟩
theorem Off.of_below {g : Nat} {a b : World} (h : Below a.heap.size a b) : Off g a b := ⟨h.os, h.tape, h.output, h.size, fun i hi _ => h.block i hi⟩
theorem Off.setCell {g : Nat} {a w : World} (h : Off g a w) {p : Addr} (hp : p.block = g) (u : Value) : Off g a (w.setCell p u) :=
  h.trans ⟨rfl, rfl, rfl, by simp [World.setCell], fun k _ hne => Below.heap_setCell _ _ _ _ (by omega)⟩
theorem Off.set {g : Nat} {a w : World} (h : Off g a w) (i : Nat) (u : Value) : Off g a (w.setCell ⟨g, i, none⟩ u) := h.setCell rfl u
theorem Off.below {g B : Nat} {a b : World} (h : Off g a b) (hB : B ≤ g) (hs : B ≤ a.heap.size) : Below B a b := ⟨h.os, h.tape, h.output, h.size, fun k hk => h.block k (by omega) (by omega)⟩

/-! ### Masks -/

theorem or16 : ∀ a < 16, ∀ b < 16, bits .or .i64 ((a : Nat) : Int) ((b : Nat) : Int) = ((a ||| b : Nat) : Int) ∧ a ||| b < 16 := by decide +kernel
theorem and16 : ∀ a < 16, ∀ b < 16, bits .and .i64 ((a : Nat) : Int) ((b : Nat) : Int) = ((a &&& b : Nat) : Int) ∧ a &&& b < 16 := by decide +kernel
/-- What is in a, not in b. -/
def sub (a b : Nat) : Nat := a ^^^ (a &&& b)
theorem not16 : ∀ a < 16, ∀ b < 16, bits .andNot .i64 ((a : Nat) : Int) ((b : Nat) : Int) = ((sub a b : Nat) : Int) ∧ sub a b < 16 := by decide +kernel
theorem bor {a b : Nat} (ha : a < 16) (hb : b < 16) : bits .or .i64 ((a : Nat) : Int) ((b : Nat) : Int) = ((a ||| b : Nat) : Int) := (or16 a ha b hb).1
theorem band {a b : Nat} (ha : a < 16) (hb : b < 16) : bits .and .i64 ((a : Nat) : Int) ((b : Nat) : Int) = ((a &&& b : Nat) : Int) := (and16 a ha b hb).1
theorem bnot {a b : Nat} (ha : a < 16) (hb : b < 16) : bits .andNot .i64 ((a : Nat) : Int) ((b : Nat) : Int) = ((sub a b : Nat) : Int) := (not16 a ha b hb).1
theorem lor {a b : Nat} (ha : a < 16) (hb : b < 16) : a ||| b < 16 := (or16 a ha b hb).2
theorem land {a b : Nat} (ha : a < 16) (hb : b < 16) : a &&& b < 16 := (and16 a ha b hb).2
theorem lsub {a b : Nat} (ha : a < 16) (hb : b < 16) : sub a b < 16 := (not16 a ha b hb).2

/-! ### A table -/

/-- The masks but one, which is turned. -/
def put (T : Nat → Nat) (i v : Nat) : Nat → Nat := fun j => if j = i then v else T j

structure Tb (w : World) (g : Nat) (T : Nat → Nat) : Prop where
  cell : ∀ i, i < 48 → w.cell? ⟨g, i, none⟩ = some (.int .i64 ((T i : Nat) : Int))
  fz : ∀ j, w.frozen? ⟨g, j, none⟩ = false
  lt : g < w.heap.size
  le : ∀ i, T i < 16

section
variable {w w' : World} {g : Nat} {T : Nat → Nat}
theorem Tb.keep (h : Tb w g T) (hs : w.heap.size ≤ w'.heap.size) (hg : w'.heap[g]? = w.heap[g]?) : Tb w' g T :=
  ⟨fun i hi => (World.cell?_of_block (w := w) (w' := w') (a := ⟨g, i, none⟩) hg).trans (h.cell i hi), fun j => (World.frozen?_of_block (w := w) hg).trans (h.fz j), Nat.lt_of_lt_of_le h.lt hs, h.le⟩
theorem Tb.below (h : Tb w g T) (hb : Below w.heap.size w w') : Tb w' g T := h.keep hb.size (hb.block g h.lt)
theorem Tb.put (h : Tb w g T) {i v : Nat} (hi : i < 48) (hv : v < 16) : Tb (w.setCell ⟨g, i, none⟩ (.int .i64 ((v : Nat) : Int))) g (put T i v) := by
  refine ⟨fun j hj => ?_, fun j => by rw [World.frozen?_setCell]; exact h.fz j, by simp [World.setCell]; exact h.lt, fun j => ?_⟩
  · unfold Tab.put
    by_cases e : j = i
    · subst e
      rw [if_pos rfl]
      exact World.cell?_setCell_same _ _ _ (h.cell j hj)
    · rw [if_neg e, put_other _ _ _ _ _ e]
      exact h.cell j hj
  · unfold Tab.put
    split
    · exact hv
    · exact h.le j
end

/-- The masks of a client and a page: its copies, what it owns. -/
def cp (T : Nat → Nat) (c p : Nat) : Nat := T (c * 12 + p * 2)
def ow (T : Nat → Nat) (c p : Nat) : Nat := T (c * 12 + p * 2 + 1)

/-- All masks but one, together. -/
def orr (f : Nat → Nat) (c : Nat) : Nat → Nat
  | 0 => 0
  | k + 1 => if k = c then orr f c k else orr f c k ||| f k

theorem orr_lt (f : Nat → Nat) (c : Nat) (hf : ∀ d, f d < 16) : ∀ k, orr f c k < 16
  | 0 => by show 0 < 16; decide
  | k + 1 => by
    unfold orr
    split
    · exact orr_lt f c hf k
    · exact lor (orr_lt f c hf k) (hf k)

theorem orr_eq (f : Nat → Nat) {c k : Nat} (h : k = c) : orr f c (k + 1) = orr f c k := by simp [orr, h]
theorem orr_ne (f : Nat → Nat) {c k : Nat} (h : k ≠ c) : orr f c (k + 1) = orr f c k ||| f k := by simp [orr, h]

def oc (T : Nat → Nat) (c p : Nat) : Nat := orr (fun d => cp T d p) c 4
def oo (T : Nat → Nat) (c p : Nat) : Nat := orr (fun d => ow T d p) c 4

def clB (c : Int) : Bool := decide (0 ≤ c) && decide (c < 4)
def plB (c p : Int) : Bool := clB c && decide (0 ≤ p) && decide (p < 6)
def maB (m : Int) : Bool := decide (0 ≤ m) && decide (m ≤ 15)

theorem tb16 : ∀ m < 16, ∀ o < 4, (bits .and .i64 ((m : Nat) : Int) ((2 : Int) ^ o) != 0) = m.testBit o := by decide +kernel

/-- The mask that is asked for. -/
def wm (T : Nat → Nat) (wr : Bool) (k p : Nat) : Nat := if wr then cp T k p else ow T k p

/-- Who else has an object, up to a client. -/
def hol (T : Nat → Nat) (c p o : Nat) (wr : Bool) : Nat → List Int
  | 0 => []
  | k + 1 => if (k != c && (wm T wr k p).testBit o) = true then hol T c p o wr k ++ [(k : Int)] else hol T c p o wr k

theorem hol_len (T : Nat → Nat) (c p o : Nat) (wr : Bool) : ∀ k, (hol T c p o wr k).length ≤ k
  | 0 => by simp [hol]
  | k + 1 => by
    have := hol_len T c p o wr k
    unfold hol
    split
    · simp; omega
    · omega

end Go.Proofs.YtllggjkhbecalaaDoor.Tab
