/- Facts on slices of bytes, on what of memory is kept, and on what lies beside a store. No walk. -/
import Derived.Test.YtgdlejeopdipiaaProg
import Derived.Test.YtgdlejeopdipiaaSl
import Derived.Laws.Rows
import Derived.Lib.SlBytesConst
namespace Go.Proofs.Ytgdlejeopdipiaa
open Go.RowKit
set_option linter.unusedVariables false

theorem info5 : (Try.prog.info? 5).map (fun i => (i.zero, i.size, i.bytes)) = some (some (.int .u8 0), 1, 1) := by kernel_rfl
theorem info3 : (Try.prog.info? 3).map (fun i => (i.zero, i.size, i.bytes)) = some (some (.int .i64 0), 1, 8) := by kernel_rfl

/-- Bytes as integers. -/
def ci (bs : List Nat) : List Int := bs.map (fun b : Nat => (b : Int))

theorem ci_length (bs : List Nat) : (ci bs).length = bs.length := by simp [ci]
theorem ci_append (xs ys : List Nat) : ci (xs ++ ys) = ci xs ++ ci ys := by simp [ci]
theorem ci_take (bs : List Nat) (k : Nat) : (ci bs).take k = ci (bs.take k) := by simp [ci]
theorem ci_get (bs : List Nat) (t : Nat) (h : t < (ci bs).length) : (ci bs)[t] = ((bs[t]'(by simpa [ci] using h) : Nat) : Int) := by simp [ci]
theorem ci_set (bs : List Nat) (t x : Nat) : (ci bs).set t (x : Int) = ci (bs.set t x) := by simp [ci, List.map_set]

/-- The slice reads as these bytes. -/
structure Rd8 (w : World) (ao : Option Addr) (n cap : Nat) (bs : List Nat) : Prop where
  rd : RdI w .u8 ao cap (ci bs)
  len : bs.length = n
  byte : ∀ b ∈ bs, b < 256

/-- The slice is the call's own and holds these bytes. -/
structure Own8 (w : World) (base : Nat) (ao : Option Addr) (n cap : Nat) (bs : List Nat) : Prop where
  own : OwnI w base 5 .u8 ao cap (ci bs)
  len : bs.length = n
  byte : ∀ b ∈ bs, b < 256

section
variable {w w' : World} {ao : Option Addr} {n cap base : Nat} {bs : List Nat}
theorem Rd8.below (h : Rd8 w ao n cap bs) (hb : Below w.heap.size w w') : Rd8 w' ao n cap bs := ⟨h.rd.below hb, h.len, h.byte⟩
theorem Rd8.alloc (h : Rd8 w ao n cap bs) (o : Obj) : Rd8 (w.alloc o) ao n cap bs := ⟨h.rd.alloc o, h.len, h.byte⟩
theorem Rd8.heap (h : Rd8 w ao n cap bs) (e : w'.heap = w.heap) : Rd8 w' ao n cap bs := ⟨h.rd.heap e, h.len, h.byte⟩
theorem Own8.rd (h : Own8 w base ao n cap bs) : Rd8 w ao n cap bs := ⟨h.own.rd, h.len, h.byte⟩
theorem Own8.below (h : Own8 w base ao n cap bs) (hb : Below w.heap.size w w') : Own8 w' base ao n cap bs := ⟨h.own.below hb, h.len, h.byte⟩
theorem Rd8.empty (w : World) : Rd8 w none 0 0 [] := ⟨RdI.empty w .u8, rfl, by simp⟩
theorem Rd8.str (h : Rd8 w ao n cap bs) : (convert 27 9 (.slice ao n cap)).run Try.prog w = .ok (.string (strOfNums (ci bs))) w :=
  run_string_rd (P := Try.prog) 27 9 5 Try.underlying27 Try.underlying5 Try.underlying9 h.rd (by rw [ci_length]; exact h.len)
theorem Rd8.built (w : World) (xs : Array Value) (n : Nat) (bs : List Nat) (hx : xs.toList = (ci bs).map (Value.int .u8)) (hn : bs.length = n) (hb : ∀ b ∈ bs, b < 256) (hm : n ≤ maxLen) : Rd8 (w.alloc (.cells xs 5)) (some ⟨w.heap.size, 0, none⟩) n n bs :=
  ⟨RdI.built w 5 .u8 xs n (ci bs) hx (by rw [ci_length]; exact hn) hm, hn, hb⟩
theorem Rd8.at (h : Rd8 w ao n cap bs) {t : Nat} (ht : t < n) : ∃ b off, ao = some ⟨b, off, none⟩ ∧ ∃ h2 : t < bs.length, w.cell? ⟨b, off + t, none⟩ = some (.int .u8 ((bs[t] : Nat) : Int)) := by
  have hl := h.len
  obtain ⟨b, off, e, _, hc⟩ := h.rd.at (t := t) (by rw [ci_length]; omega)
  refine ⟨b, off, e, by omega, ?_⟩
  rw [hc t (by rw [ci_length]; omega), ci_get]
end

/-- The bytes of a constant string. -/
theorem Rd8.marked (w : World) (xs : Array Value) (n : Nat) (fr : Nat × Nat) (bs : List Nat) (hx : xs.toList = (ci bs).map (Value.int .u8)) (hn : bs.length = n) (hb : ∀ b ∈ bs, b < 256) (hm : n ≤ maxLen) : Rd8 (w.alloc (.cells xs 5 fr)) (some ⟨w.heap.size, 0, none⟩) n n bs := by
  refine ⟨⟨by simp [ci_length]; omega, hm, fun h => (by cases h), fun _ => ⟨w.heap.size, 0, rfl, by simp, fun t ht => ?_⟩⟩, hn, hb⟩
  have hh : (w.alloc (.cells xs 5 fr)).heap[w.heap.size]? = some (.cells xs 5 fr) := heap_alloc_new w _
  simp only [World.cell?, hh]
  have e1 : xs = ((ci bs).map (Value.int .u8)).toArray := by rw [← hx]
  subst e1
  simp only [List.length_map] at ht
  simp [ht]

/-! ### What is kept -/

/-- All blocks but g are as they were. -/
structure Off (g : Nat) (w w' : World) : Prop where
  os : w'.os = w.os
  tape : w'.tape = w.tape
  output : w'.output = w.output
  size : w.heap.size ≤ w'.heap.size
  block : ∀ k, k < w.heap.size → k ≠ g → w'.heap[k]? = w.heap[k]?

theorem Off.refl (g : Nat) (w : World) : Off g w w := ⟨rfl, rfl, rfl, Nat.le_refl _, fun _ _ _ => rfl⟩
theorem Off.trans {g : Nat} {a b c : World} (h : Off g a b) (k : Off g b c) : Off g a c :=
  ⟨k.os.trans h.os, k.tape.trans h.tape, k.output.trans h.output, Nat.le_trans h.size k.size, fun i hi hne => (k.block i (Nat.lt_of_lt_of_le hi h.size) hne).trans (h.block i hi hne)⟩
theorem Off.of_below {g : Nat} {a b : World} (h : Below a.heap.size a b) : Off g a b := ⟨h.os, h.tape, h.output, h.size, fun i hi _ => h.block i hi⟩
theorem Off.setCell {g : Nat} {a w : World} (h : Off g a w) {p : Addr} (hp : p.block = g) (u : Value) : Off g a (w.setCell p u) :=
  h.trans ⟨rfl, rfl, rfl, by simp [World.setCell], fun k _ hne => Below.heap_setCell _ _ _ _ (by omega)⟩
/-- Below the block nothing has turned. -/
theorem Off.below {g B : Nat} {a b : World} (h : Off g a b) (hB : B ≤ g) (hs : B ≤ a.heap.size) : Below B a b := ⟨h.os, h.tape, h.output, h.size, fun k hk => h.block k (by omega) (by omega)⟩
theorem below_off {g B : Nat} {a b c : World} (h : Below B a b) (k : Off g b c) (hB : B ≤ g) (hs : B ≤ b.heap.size) : Below B a c := h.trans (k.below hB hs)

/-- The blocks of a set are as they were. -/
structure Kept (V : Nat → Prop) (w w' : World) : Prop where
  size : w.heap.size ≤ w'.heap.size
  block : ∀ k, k < w.heap.size → V k → w'.heap[k]? = w.heap[k]?

theorem Kept.of_below {V : Nat → Prop} {a b : World} (h : Below a.heap.size a b) : Kept V a b := ⟨h.size, fun i hi _ => h.block i hi⟩
theorem Kept.of_off {V : Nat → Prop} {g : Nat} {a b : World} (h : Off g a b) (hv : ∀ k, V k → k ≠ g) : Kept V a b := ⟨h.size, fun i hi h2 => h.block i hi (hv i h2)⟩
theorem Kept.setCell {V : Nat → Prop} (w : World) (p : Addr) (u : Value) (hv : ¬ V p.block) : Kept V w (w.setCell p u) :=
  ⟨by simp [World.setCell], fun k _ hk => Below.heap_setCell _ _ _ _ (by intro e; subst e; exact hv hk)⟩
theorem Kept.refl {V : Nat → Prop} (w : World) : Kept V w w := ⟨Nat.le_refl _, fun _ _ _ => rfl⟩
theorem Kept.trans {V : Nat → Prop} {a b c : World} (h : Kept V a b) (k : Kept V b c) : Kept V a c :=
  ⟨Nat.le_trans h.size k.size, fun i hi hv => (k.block i (Nat.lt_of_lt_of_le hi h.size) hv).trans (h.block i hi hv)⟩
theorem Kept.mono {V U : Nat → Prop} {a b : World} (h : Kept V a b) (hv : ∀ k, U k → V k) : Kept U a b := ⟨h.size, fun i hi k => h.block i hi (hv i k)⟩

/-- The slice lies in a block of the set. -/
def In (w : World) (V : Nat → Prop) (ao : Option Addr) : Prop := ∀ a, ao = some a → V a.block ∧ a.block < w.heap.size

theorem In.none (w : World) (V : Nat → Prop) : In w V Option.none := fun a h => by cases h
theorem In.mono {w w' : World} {V U : Nat → Prop} {ao : Option Addr} (h : In w V ao) (hs : w.heap.size ≤ w'.heap.size) (hv : ∀ k, k < w.heap.size → V k → U k) : In w' U ao :=
  fun a e => ⟨hv _ (h a e).2 (h a e).1, Nat.lt_of_lt_of_le (h a e).2 hs⟩

theorem RdS.kept {w w' : World} {V : Nat → Prop} {ao : Option Addr} {cap : Nat} {xs : List Value} (h : RdS w ao cap xs) (hi : In w V ao) (hk : Kept V w w') : RdS w' ao cap xs := by
  refine ⟨h.le, h.mx, h.nil, fun hx => ?_⟩
  obtain ⟨b, off, e, hlt, hc⟩ := h.cell hx
  obtain ⟨hv, hl⟩ := hi _ e
  exact ⟨b, off, e, Nat.lt_of_lt_of_le hlt hk.size, fun t ht => (World.cell?_of_block (w := w) (hk.block b hl hv)).trans (hc t ht)⟩

theorem Rd8.kept {w w' : World} {V : Nat → Prop} {ao : Option Addr} {n cap : Nat} {bs : List Nat} (h : Rd8 w ao n cap bs) (hi : In w V ao) (hk : Kept V w w') : Rd8 w' ao n cap bs := ⟨RdS.kept h.rd hi hk, h.len, h.byte⟩

theorem OwnS.inn {w : World} {base : Nat} {e : TypeId} {ao : Option Addr} {cap : Nat} {xs : List Value} (h : OwnS w base e ao cap xs) : In w (fun k => base ≤ k) ao := by
  intro a ha
  obtain ⟨_, h2⟩ := h
  rcases h2 with ⟨hv, _⟩ | ⟨g, cp, cur, hv, hg, hh, _⟩
  · simp only [Value.slice.injEq] at hv; rw [hv.1] at ha; cases ha
  · simp only [Value.slice.injEq] at hv
    rw [hv.1] at ha
    cases ha
    exact ⟨hg, (Array.getElem?_eq_some_iff.1 hh).1⟩

theorem Own8.inn {w : World} {base : Nat} {ao : Option Addr} {n cap : Nat} {bs : List Nat} (h : Own8 w base ao n cap bs) : In w (fun k => base ≤ k) ao := OwnS.inn h.own

theorem put_other (w : World) (g i j : Nat) (u : Value) (hne : j ≠ i) : (w.setCell ⟨g, i, none⟩ u).cell? ⟨g, j, none⟩ = w.cell? ⟨g, j, none⟩ :=
  World.cell?_setCell_other _ _ _ _ (by intro e; simp only [Addr.mk.injEq] at e; omega)

end Go.Proofs.Ytgdlejeopdipiaa
