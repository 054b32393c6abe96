/- What of memory stays where an object and its row may have turned. No walk. -/
import Derived.Test.YtgdlejeopdipiaaAp
namespace Go.Proofs.Ytgdlejeopdipiaa
open Go.RowKit
set_option linter.unusedVariables false

/-- All blocks but g and that of ao are as they were. -/
structure Off2 (g : Nat) (ao : Option Addr) (w w' : World) : Prop where
  os : w'.os = w.os
  tape : w'.tape = w.tape
  output : w'.output = w.output
  size : w.heap.size ≤ w'.heap.size
  block : ∀ k, k < w.heap.size → k ≠ g → (∀ a, ao = some a → a.block ≠ k) → w'.heap[k]? = w.heap[k]?

/-- A slice's block is that of the elder one, or new since w. -/
def Nw (w : World) (ao ao' : Option Addr) : Prop := ∀ a, ao' = some a → (∃ c, ao = some c ∧ c.block = a.block) ∨ w.heap.size ≤ a.block

theorem Nw.refl (w : World) (ao : Option Addr) : Nw w ao ao := fun a h => .inl ⟨a, h, rfl⟩
theorem Nw.trans {w w1 : World} {a b c : Option Addr} (h : Nw w a b) (k : Nw w1 b c) (hs : w.heap.size ≤ w1.heap.size) : Nw w a c := by
  intro x hx
  rcases k x hx with ⟨y, hy, e⟩ | hy
  · rcases h y hy with ⟨z, hz, e2⟩ | hz
    · exact .inl ⟨z, hz, e2.trans e⟩
    · exact .inr (by omega)
  · exact .inr (by omega)

theorem Off2.refl (g : Nat) (ao : Option Addr) (w : World) : Off2 g ao w w := ⟨rfl, rfl, rfl, Nat.le_refl _, fun _ _ _ _ => rfl⟩
theorem Off2.trans {g : Nat} {a b : Option Addr} {w w1 w2 : World} (h : Off2 g a w w1) (k : Off2 g b w1 w2) (hn : Nw w a b) : Off2 g a w w2 :=
  ⟨k.os.trans h.os, k.tape.trans h.tape, k.output.trans h.output, Nat.le_trans h.size k.size, fun i hi hg ha => (k.block i (Nat.lt_of_lt_of_le hi h.size) hg (fun x hx => by
    rcases hn x hx with ⟨y, hy, e⟩ | hy
    · have := ha y hy; omega
    · omega)).trans (h.block i hi hg ha)⟩
theorem Off2.of_off {g : Nat} {w w' : World} (ao : Option Addr) (h : Off g w w') : Off2 g ao w w' := ⟨h.os, h.tape, h.output, h.size, fun k hk hg _ => h.block k hk hg⟩
theorem Off2.of_below {g : Nat} {w w' : World} (ao : Option Addr) (h : Below w.heap.size w w') : Off2 g ao w w' := ⟨h.os, h.tape, h.output, h.size, fun k hk _ _ => h.block k hk⟩
theorem Off2.of_grown {w w' : World} (g : Nat) {ao : Option Addr} {n cap : Nat} (h : w.grownBy w' (Value.ownBlock (.slice ao n cap))) : Off2 g ao w w' :=
  ⟨h.os, h.tape, h.output, h.size, fun k hk _ ha => h.block k hk (by
    cases ao with
    | none => simp [Value.ownBlock]
    | some a => simp [Value.ownBlock]; exact fun e => ha a rfl e.symm)⟩
theorem Off2.setCell {g : Nat} {ao : Option Addr} {a w : World} (h : Off2 g ao a w) {p : Addr} (hp : p.block = g) (u : Value) : Off2 g ao a (w.setCell p u) :=
  h.trans (b := ao) ⟨rfl, rfl, rfl, by simp [World.setCell], fun k _ hne _ => Below.heap_setCell _ _ _ _ (by omega)⟩ (Nw.refl _ _)
theorem Off2.below {g B : Nat} {ao : Option Addr} {a b : World} (h : Off2 g ao a b) (hB : B ≤ g) (ho : ∀ x, ao = some x → B ≤ x.block) (hs : B ≤ a.heap.size) : Below B a b :=
  ⟨h.os, h.tape, h.output, h.size, fun k hk => h.block k (by omega) (by omega) (fun x hx => by have := ho x hx; omega)⟩

theorem OwnS.keep {w w' : World} {base : Nat} {e : TypeId} {ao : Option Addr} {cap : Nat} {xs : List Value} (h : OwnS w base e ao cap xs) (hb : ∀ a, ao = some a → w'.heap[a.block]? = w.heap[a.block]?) : OwnS w' base e ao cap xs := by
  obtain ⟨h1, h2⟩ := h
  refine ⟨h1, ?_⟩
  rcases h2 with h2 | ⟨g, cp, cur, hv, hg, hh, r⟩
  · exact .inl h2
  · refine .inr ⟨g, cp, cur, hv, hg, ?_, r⟩
    simp only [Value.slice.injEq] at hv
    rw [hb _ hv.1]; exact hh
theorem Own8.keep {w w' : World} {base : Nat} {ao : Option Addr} {n cap : Nat} {bs : List Nat} (h : Own8 w base ao n cap bs) (hb : ∀ a, ao = some a → w'.heap[a.block]? = w.heap[a.block]?) : Own8 w' base ao n cap bs := ⟨OwnS.keep h.own hb, h.len, h.byte⟩
theorem Own8.mono {w : World} {base base' : Nat} {ao : Option Addr} {n cap : Nat} {bs : List Nat} (h : Own8 w base ao n cap bs) (hb : base' ≤ base) : Own8 w base' ao n cap bs := ⟨h.own.mono hb, h.len, h.byte⟩
theorem Own8.ge {w : World} {base : Nat} {ao : Option Addr} {n cap : Nat} {bs : List Nat} (h : Own8 w base ao n cap bs) : ∀ a, ao = some a → base ≤ a.block := fun a ha => (h.inn a ha).1
theorem Own8.lt {w : World} {base : Nat} {ao : Option Addr} {n cap : Nat} {bs : List Nat} (h : Own8 w base ao n cap bs) : ∀ a, ao = some a → a.block < w.heap.size := fun a ha => (h.inn a ha).2

/-- The first ones of a slice of the call's own. -/
theorem OwnS.take {w : World} {base : Nat} {e : TypeId} {ao : Option Addr} {cap : Nat} {xs : List Value} (h : OwnS w base e ao cap xs) (k : Nat) (hk : k ≤ xs.length) : OwnS w base e ao cap (xs.take k) := by
  obtain ⟨h1, h2⟩ := h
  have hl : (xs.take k).length = k := by simp; omega
  unfold OwnS World.ownsRow
  rw [hl]
  refine ⟨by omega, ?_⟩
  rcases h2 with ⟨hv, hn⟩ | ⟨g, cp, cur, hv, hg, hh, hle, hmx, hsz, htk⟩
  · simp only [Value.slice.injEq] at hv
    have : k = 0 := by omega
    exact .inl ⟨by rw [hv.1, hv.2.2, this], this⟩
  · simp only [Value.slice.injEq] at hv
    refine .inr ⟨g, cp, cur, by rw [hv.1, hv.2.2], hg, hh, by omega, hmx, hsz, ?_⟩
    rw [← htk, List.take_take, Nat.mul_one, Nat.mul_one, Nat.min_eq_left hk]
theorem Own8.take {w : World} {base : Nat} {ao : Option Addr} {n cap : Nat} {bs : List Nat} (h : Own8 w base ao n cap bs) (k : Nat) (hk : k ≤ n) : Own8 w base ao k cap (bs.take k) := by
  have hl := h.len
  refine ⟨?_, by simp; omega, fun b hb => h.byte b (List.mem_of_mem_take hb)⟩
  have := OwnS.take h.own k (by simp [ci]; omega)
  rw [← List.map_take, ci_take] at this
  exact this

end Go.Proofs.Ytgdlejeopdipiaa
