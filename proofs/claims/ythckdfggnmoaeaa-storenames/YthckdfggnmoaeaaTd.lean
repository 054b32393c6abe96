/- A tape in memory: where its parts lie, and what of it stays. No walk. -/
import Derived.Test.YthckdfggnmoaeaaAp
namespace Go.Proofs.Ythckdfggnmoaeaa
open Go.RowKit
set_option linter.unusedVariables false

/-- All blocks but g and that of ao are as they were. -/
structure Off2 (g : Nat) (ao : Option Addr) (w w' : World) : Prop where
  os : w'.os = w.os
  tape : w'.tape = w.tape
  output : w'.output = w.output
  size : w.heap.size ≤ w'.heap.size
  block : ∀ k, k < w.heap.size → k ≠ g → (∀ a, ao = some a → a.block ≠ k) → w'.heap[k]? = w.heap[k]?

/-- A slice's block is that of the elder one, or new since w. -/
def Nw (w : World) (ao ao' : Option Addr) : Prop := ∀ a, ao' = some a → (∃ c, ao = some c ∧ c.block = a.block) ∨ w.heap.size ≤ a.block

theorem Nw.refl (w : World) (ao : Option Addr) : Nw w ao ao := fun a h => .inl ⟨a, h, rfl⟩
theorem Nw.trans {w w1 : World} {a b c : Option Addr} (h : Nw w a b) (k : Nw w1 b c) (hs : w.heap.size ≤ w1.heap.size) : Nw w a c := by
  intro x hx
  rcases k x hx with ⟨y, hy, e⟩ | hy
  · rcases h y hy with ⟨z, hz, e2⟩ | hz
    · exact .inl ⟨z, hz, e2.trans e⟩
    · exact .inr (by omega)
  · exact .inr (by omega)

theorem Off2.refl (g : Nat) (ao : Option Addr) (w : World) : Off2 g ao w w := ⟨rfl, rfl, rfl, Nat.le_refl _, fun _ _ _ _ => rfl⟩
theorem Off2.trans {g : Nat} {a b : Option Addr} {w w1 w2 : World} (h : Off2 g a w w1) (k : Off2 g b w1 w2) (hn : Nw w a b) : Off2 g a w w2 :=
  ⟨k.os.trans h.os, k.tape.trans h.tape, k.output.trans h.output, Nat.le_trans h.size k.size, fun i hi hg ha => (k.block i (Nat.lt_of_lt_of_le hi h.size) hg (fun x hx => by
    rcases hn x hx with ⟨y, hy, e⟩ | hy
    · have := ha y hy; omega
    · omega)).trans (h.block i hi hg ha)⟩
theorem Off2.of_off {g : Nat} {w w' : World} (ao : Option Addr) (h : Off g w w') : Off2 g ao w w' := ⟨h.os, h.tape, h.output, h.size, fun k hk hg _ => h.block k hk hg⟩
theorem Off2.of_below {g : Nat} {w w' : World} (ao : Option Addr) (h : Below w.heap.size w w') : Off2 g ao w w' := ⟨h.os, h.tape, h.output, h.size, fun k hk _ _ => h.block k hk⟩
theorem Off2.of_grown {w w' : World} (g : Nat) {ao : Option Addr} {n cap : Nat} (h : w.grownBy w' (Value.ownBlock (.slice ao n cap))) : Off2 g ao w w' :=
  ⟨h.os, h.tape, h.output, h.size, fun k hk _ ha => h.block k hk (by
    cases ao with
    | none => simp [Value.ownBlock]
    | some a => simp [Value.ownBlock]; exact fun e => ha a rfl e.symm)⟩
theorem Off2.setCell {g : Nat} {ao : Option Addr} {a w : World} (h : Off2 g ao a w) {p : Addr} (hp : p.block = g) (u : Value) : Off2 g ao a (w.setCell p u) :=
  h.trans (b := ao) ⟨rfl, rfl, rfl, by simp [World.setCell], fun k _ hne _ => Below.heap_setCell _ _ _ _ (by omega)⟩ (Nw.refl _ _)
theorem Off2.below {g B : Nat} {ao : Option Addr} {a b : World} (h : Off2 g ao a b) (hB : B ≤ g) (ho : ∀ x, ao = some x → B ≤ x.block) (hs : B ≤ a.heap.size) : Below B a b :=
  ⟨h.os, h.tape, h.output, h.size, fun k hk => h.block k (by omega) (by omega) (fun x hx => by have := ho x hx; omega)⟩

theorem OwnS.keep {w w' : World} {base : Nat} {e : TypeId} {ao : Option Addr} {cap : Nat} {xs : List Value} (h : OwnS w base e ao cap xs) (hb : ∀ a, ao = some a → w'.heap[a.block]? = w.heap[a.block]?) : OwnS w' base e ao cap xs := by
  obtain ⟨h1, h2⟩ := h
  refine ⟨h1, ?_⟩
  rcases h2 with h2 | ⟨g, cp, cur, hv, hg, hh, r⟩
  · exact .inl h2
  · refine .inr ⟨g, cp, cur, hv, hg, ?_, r⟩
    simp only [Value.slice.injEq] at hv
    rw [hb _ hv.1]; exact hh
theorem Own8.keep {w w' : World} {base : Nat} {ao : Option Addr} {n cap : Nat} {bs : List Nat} (h : Own8 w base ao n cap bs) (hb : ∀ a, ao = some a → w'.heap[a.block]? = w.heap[a.block]?) : Own8 w' base ao n cap bs := ⟨OwnS.keep h.own hb, h.len, h.byte⟩
theorem Own8.mono {w : World} {base base' : Nat} {ao : Option Addr} {n cap : Nat} {bs : List Nat} (h : Own8 w base ao n cap bs) (hb : base' ≤ base) : Own8 w base' ao n cap bs := ⟨h.own.mono hb, h.len, h.byte⟩
theorem Own8.ge {w : World} {base : Nat} {ao : Option Addr} {n cap : Nat} {bs : List Nat} (h : Own8 w base ao n cap bs) : ∀ a, ao = some a → base ≤ a.block := fun a ha => (h.inn a ha).1
theorem Own8.lt {w : World} {base : Nat} {ao : Option Addr} {n cap : Nat} {bs : List Nat} (h : Own8 w base ao n cap bs) : ∀ a, ao = some a → a.block < w.heap.size := fun a ha => (h.inn a ha).2

/-- The first ones of a slice of the call's own. -/
theorem OwnS.take {w : World} {base : Nat} {e : TypeId} {ao : Option Addr} {cap : Nat} {xs : List Value} (h : OwnS w base e ao cap xs) (k : Nat) (hk : k ≤ xs.length) : OwnS w base e ao cap (xs.take k) := by
  obtain ⟨h1, h2⟩ := h
  have hl : (xs.take k).length = k := by simp; omega
  unfold OwnS World.ownsRow
  rw [hl]
  refine ⟨by omega, ?_⟩
  rcases h2 with ⟨hv, hn⟩ | ⟨g, cp, cur, hv, hg, hh, hle, hmx, hsz, htk⟩
  · simp only [Value.slice.injEq] at hv
    have : k = 0 := by omega
    exact .inl ⟨by rw [hv.1, hv.2.2, this], this⟩
  · simp only [Value.slice.injEq] at hv
    refine .inr ⟨g, cp, cur, by rw [hv.1, hv.2.2], hg, hh, by omega, hmx, hsz, ?_⟩
    rw [← htk, List.take_take, Nat.mul_one, Nat.mul_one, Nat.min_eq_left hk]
theorem Own8.take {w : World} {base : Nat} {ao : Option Addr} {n cap : Nat} {bs : List Nat} (h : Own8 w base ao n cap bs) (k : Nat) (hk : k ≤ n) : Own8 w base ao k cap (bs.take k) := by
  have hl := h.len
  refine ⟨?_, by simp; omega, fun b hb => h.byte b (List.mem_of_mem_take hb)⟩
  have := OwnS.take h.own k (by simp [ci]; omega)
  rw [← List.map_take, ci_take] at this
  exact this

/-- What is pointed to: a slice, how many are safe, the room. -/
structure Hd (w : World) (g : Nat) (v : Value) (s r : Nat) : Prop where
  c0 : w.cell? ⟨g, 0, none⟩ = some v
  c1 : w.cell? ⟨g, 1, none⟩ = some (.int .i64 (s : Int))
  c2 : w.cell? ⟨g, 2, none⟩ = some (.int .i64 (r : Int))
  fz : ∀ j, w.frozen? ⟨g, j, none⟩ = false
  lt : g < w.heap.size

section
variable {w w' : World} {g : Nat} {v : Value} {s r : Nat}
theorem Hd.keep (h : Hd w g v s r) (hg : w'.heap[g]? = w.heap[g]?) (hs : w.heap.size ≤ w'.heap.size) : Hd w' g v s r :=
  ⟨(World.cell?_of_block (w := w) hg).trans h.c0, (World.cell?_of_block (w := w) hg).trans h.c1, (World.cell?_of_block (w := w) hg).trans h.c2, fun j => (World.frozen?_of_block (w := w) hg).trans (h.fz j), Nat.lt_of_lt_of_le h.lt hs⟩
theorem Hd.put0 (h : Hd w g v s r) (u : Value) : Hd (w.setCell ⟨g, 0, none⟩ u) g u s r :=
  ⟨World.cell?_setCell_same _ _ _ h.c0, by rw [put_other _ _ _ _ _ (by omega)]; exact h.c1, by rw [put_other _ _ _ _ _ (by omega)]; exact h.c2, fun j => by rw [World.frozen?_setCell]; exact h.fz j, by simpa [World.setCell] using h.lt⟩
theorem Hd.put1 (h : Hd w g v s r) (k : Nat) : Hd (w.setCell ⟨g, 1, none⟩ (.int .i64 (k : Int))) g v k r :=
  ⟨by rw [put_other _ _ _ _ _ (by omega)]; exact h.c0, World.cell?_setCell_same _ _ _ h.c1, by rw [put_other _ _ _ _ _ (by omega)]; exact h.c2, fun j => by rw [World.frozen?_setCell]; exact h.fz j, by simpa [World.setCell] using h.lt⟩
theorem Hd.put2 (h : Hd w g v s r) (k : Nat) : Hd (w.setCell ⟨g, 2, none⟩ (.int .i64 (k : Int))) g v s k :=
  ⟨by rw [put_other _ _ _ _ _ (by omega)]; exact h.c0, by rw [put_other _ _ _ _ _ (by omega)]; exact h.c1, World.cell?_setCell_same _ _ _ h.c2, fun j => by rw [World.frozen?_setCell]; exact h.fz j, by simpa [World.setCell] using h.lt⟩
end

/-- A tape lies at block g; its bytes are its own, in another block. -/
structure Tp (w : World) (B g : Nat) (ao : Option Addr) (n cap : Nat) (bs : List Nat) (s r : Nat) : Prop where
  hd : Hd w g (.slice ao n cap) s r
  own : Own8 w B ao n cap bs
  bg : B ≤ g
  ne : ∀ a, ao = some a → a.block ≠ g
  le : n ≤ 20000
  sl : s ≤ n
  rl : r ≤ 20000

section
variable {w w' : World} {B g : Nat} {ao : Option Addr} {n cap : Nat} {bs : List Nat} {s r : Nat}
theorem Tp.keep (h : Tp w B g ao n cap bs s r) (hs : w.heap.size ≤ w'.heap.size) (hg : w'.heap[g]? = w.heap[g]?) (ha : ∀ a, ao = some a → w'.heap[a.block]? = w.heap[a.block]?) : Tp w' B g ao n cap bs s r :=
  ⟨h.hd.keep hg hs, h.own.keep ha, h.bg, h.ne, h.le, h.sl, h.rl⟩
theorem Tp.below (h : Tp w B g ao n cap bs s r) (hb : Below w.heap.size w w') : Tp w' B g ao n cap bs s r :=
  h.keep hb.size (hb.block g h.hd.lt) fun a ha => hb.block _ (h.own.lt a ha)
theorem Tp.off (h : Tp w B g ao n cap bs s r) {g2 : Nat} {ao2 : Option Addr} (hb : Off2 g2 ao2 w w') (h1 : g ≠ g2) (h2 : ∀ a, ao2 = some a → a.block ≠ g) (h3 : ∀ a, ao = some a → a.block ≠ g2) (h4 : ∀ a b, ao = some a → ao2 = some b → b.block ≠ a.block) : Tp w' B g ao n cap bs s r :=
  h.keep hb.size (hb.block g h.hd.lt h1 h2) fun a ha => hb.block _ (h.own.lt a ha) (h3 a ha) fun b hb => h4 a b ha hb
theorem Tp.other (h : Tp w B g ao n cap bs s r) (p : Addr) (u : Value) (h1 : p.block ≠ g) (h2 : ∀ a, ao = some a → a.block ≠ p.block) : Tp (w.setCell p u) B g ao n cap bs s r :=
  h.keep (by simp [World.setCell]) (Below.heap_setCell _ _ _ _ (fun e => h1 e.symm)) fun a ha => Below.heap_setCell _ _ _ _ (h2 a ha)
theorem Tp.belowB (h : Tp w B g ao n cap bs s r) {w'' : World} (hb : Off2 g ao w w'') : Below B w w'' :=
  hb.below h.bg h.own.ge (by have := h.hd.lt; have := h.bg; omega)
theorem Tp.mono (h : Tp w B g ao n cap bs s r) {B' : Nat} (hB : B' ≤ B) : Tp w B' g ao n cap bs s r := ⟨h.hd, h.own.mono hB, Nat.le_trans hB h.bg, h.ne, h.le, h.sl, h.rl⟩
/-- The bytes and how many are safe are set. -/
theorem Tp.put0 (h : Hd w g (.slice ao n cap) s r) {ao2 : Option Addr} {n2 cap2 : Nat} {bs2 : List Nat} (ho : Own8 w B ao2 n2 cap2 bs2) (bg : B ≤ g) (ne : ∀ a, ao2 = some a → a.block ≠ g) (le : n2 ≤ 20000) (sl : s ≤ n2) (rl : r ≤ 20000) :
    Tp (w.setCell ⟨g, 0, none⟩ (.slice ao2 n2 cap2)) B g ao2 n2 cap2 bs2 s r :=
  ⟨h.put0 _, ho.keep fun a ha => Below.heap_setCell _ _ _ _ (ne a ha), bg, ne, le, sl, rl⟩
theorem Tp.put1 (h : Tp w B g ao n cap bs s r) (k : Nat) (hk : k ≤ n) : Tp (w.setCell ⟨g, 1, none⟩ (.int .i64 (k : Int))) B g ao n cap bs k r :=
  ⟨h.hd.put1 k, h.own.keep fun a ha => Below.heap_setCell _ _ _ _ (h.ne a ha), h.bg, h.ne, h.le, hk, h.rl⟩
theorem Tp.put2 (h : Tp w B g ao n cap bs s r) (k : Nat) (hk : k ≤ 20000) : Tp (w.setCell ⟨g, 2, none⟩ (.int .i64 (k : Int))) B g ao n cap bs s k :=
  ⟨h.hd.put2 k, h.own.keep fun a ha => Below.heap_setCell _ _ _ _ (h.ne a ha), h.bg, h.ne, h.le, h.sl, hk⟩
theorem Tp.put01 (h : Hd w g (.slice ao n cap) s r) {ao2 : Option Addr} {n2 cap2 k : Nat} {bs2 : List Nat} (ho : Own8 w B ao2 n2 cap2 bs2) (bg : B ≤ g) (ne : ∀ a, ao2 = some a → a.block ≠ g) (le : n2 ≤ 20000) (sl : k ≤ n2) (rl : r ≤ 20000) :
    Tp ((w.setCell ⟨g, 0, none⟩ (.slice ao2 n2 cap2)).setCell ⟨g, 1, none⟩ (.int .i64 (k : Int))) B g ao2 n2 cap2 bs2 k r :=
  ⟨(h.put0 _).put1 k, (ho.keep fun a ha => Below.heap_setCell _ _ _ _ (ne a ha)).keep fun a ha => Below.heap_setCell _ _ _ _ (ne a ha), bg, ne, le, sl, rl⟩
end

/-- A new tape. -/
theorem Tp.new (w : World) (B r : Nat) (hB : B ≤ w.heap.size) (hr : r ≤ 20000) : Tp (w.alloc (.cells #[.slice none 0 0, .int .i64 0, .int .i64 (r : Int)] 58)) B w.heap.size none 0 0 [] 0 r := by
  have h := heap_alloc_new w (.cells #[.slice none 0 0, .int .i64 0, .int .i64 (r : Int)] 58)
  refine ⟨⟨?_, ?_, ?_, fun j => frozen_of_row _ _ _ _ _ h, by simp⟩, ⟨OwnI.nil _ _ _ _, rfl, by simp⟩, hB, fun a ha => (by cases ha), by omega, by omega, hr⟩
  all_goals rw [cell_of_row _ _ _ _ _ _ h]; rfl

end Go.Proofs.Ythckdfggnmoaeaa
