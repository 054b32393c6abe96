/- Facts on slices of bytes, on what of memory is kept, and on a drive in memory. No walk. -/
import Derived.Test.YtgeoeaadeemmcaaPg4
import Derived.Laws.Rows
import Derived.Lib.SlBytesConst
namespace Go.Proofs.Ytgeoeaadeemmcaa
open Go.RowKit
set_option linter.unusedVariables false

/-- The bytes of a constant string. -/
theorem Rd8.marked (w : World) (xs : Array Value) (n : Nat) (fr : Nat × Nat) (bs : List Nat) (hx : xs.toList = (ci bs).map (Value.int .u8)) (hn : bs.length = n) (hb : ∀ b ∈ bs, b < 256) (hm : n ≤ maxLen) : Rd8 (w.alloc (.cells xs 5 fr)) (some ⟨w.heap.size, 0, none⟩) n n bs := by
  refine ⟨⟨by simp [ci_length]; omega, hm, fun h => (by cases h), fun _ => ⟨w.heap.size, 0, rfl, by simp, fun t ht => ?_⟩⟩, hn, hb⟩
  have hh : (w.alloc (.cells xs 5 fr)).heap[w.heap.size]? = some (.cells xs 5 fr) := heap_alloc_new w _
  simp only [World.cell?, hh]
  have e1 : xs = ((ci bs).map (Value.int .u8)).toArray := by rw [← hx]
  subst e1
  simp only [List.length_map] at ht
  simp [ht]

/-! ### What is kept -/

/-- All blocks but g are as they were. -/
structure Off (g : Nat) (w w' : World) : Prop where
  os : w'.os = w.os
  tape : w'.tape = w.tape
  output : w'.output = w.output
  size : w.heap.size ≤ w'.heap.size
  block : ∀ k, k < w.heap.size → k ≠ g → w'.heap[k]? = w.heap[k]?

theorem Off.refl (g : Nat) (w : World) : Off g w w := ⟨rfl, rfl, rfl, Nat.le_refl _, fun _ _ _ => rfl⟩
theorem Off.trans {g : Nat} {a b c : World} (h : Off g a b) (k : Off g b c) : Off g a c :=
  ⟨k.os.trans h.os, k.tape.trans h.tape, k.output.trans h.output, Nat.le_trans h.size k.size, fun i hi hne => (k.block i (Nat.lt_of_lt_of_le hi h.size) hne).trans (h.block i hi hne)⟩
theorem Off.of_below {g : Nat} {a b : World} (h : Below a.heap.size a b) : Off g a b := ⟨h.os, h.tape, h.output, h.size, fun i hi _ => h.block i hi⟩
theorem Off.setCell {g : Nat} {a w : World} (h : Off g a w) {p : Addr} (hp : p.block = g) (u : Value) : Off g a (w.setCell p u) :=
  h.trans ⟨rfl, rfl, rfl, by simp [World.setCell], fun k _ hne => Below.heap_setCell _ _ _ _ (by omega)⟩
/-- Below the block nothing has turned. -/
theorem Off.below {g B : Nat} {a b : World} (h : Off g a b) (hB : B ≤ g) (hs : B ≤ a.heap.size) : Below B a b := ⟨h.os, h.tape, h.output, h.size, fun k hk => h.block k (by omega) (by omega)⟩
theorem below_off {g B : Nat} {a b c : World} (h : Below B a b) (k : Off g b c) (hB : B ≤ g) (hs : B ≤ b.heap.size) : Below B a c := h.trans (k.below hB hs)

/-- The blocks of a set are as they were. -/
structure Kept (V : Nat → Prop) (w w' : World) : Prop where
  size : w.heap.size ≤ w'.heap.size
  block : ∀ k, k < w.heap.size → V k → w'.heap[k]? = w.heap[k]?

theorem Kept.of_below {V : Nat → Prop} {a b : World} (h : Below a.heap.size a b) : Kept V a b := ⟨h.size, fun i hi _ => h.block i hi⟩
theorem Kept.of_off {V : Nat → Prop} {g : Nat} {a b : World} (h : Off g a b) (hv : ∀ k, V k → k ≠ g) : Kept V a b := ⟨h.size, fun i hi h2 => h.block i hi (hv i h2)⟩
theorem Kept.setCell {V : Nat → Prop} (w : World) (p : Addr) (u : Value) (hv : ¬ V p.block) : Kept V w (w.setCell p u) :=
  ⟨by simp [World.setCell], fun k _ hk => Below.heap_setCell _ _ _ _ (by intro e; subst e; exact hv hk)⟩
theorem Kept.refl {V : Nat → Prop} (w : World) : Kept V w w := ⟨Nat.le_refl _, fun _ _ _ => rfl⟩
theorem Kept.trans {V : Nat → Prop} {a b c : World} (h : Kept V a b) (k : Kept V b c) : Kept V a c :=
  ⟨Nat.le_trans h.size k.size, fun i hi hv => (k.block i (Nat.lt_of_lt_of_le hi h.size) hv).trans (h.block i hi hv)⟩
theorem Kept.mono {V U : Nat → Prop} {a b : World} (h : Kept V a b) (hv : ∀ k, U k → V k) : Kept U a b := ⟨h.size, fun i hi k => h.block i hi (hv i k)⟩

/-- The slice lies in a block of the set. -/
def In (w : World) (V : Nat → Prop) (ao : Option Addr) : Prop := ∀ a, ao = some a → V a.block ∧ a.block < w.heap.size

theorem In.none (w : World) (V : Nat → Prop) : In w V Option.none := fun a h => by cases h
theorem In.mono {w w' : World} {V U : Nat → Prop} {ao : Option Addr} (h : In w V ao) (hs : w.heap.size ≤ w'.heap.size) (hv : ∀ k, k < w.heap.size → V k → U k) : In w' U ao :=
  fun a e => ⟨hv _ (h a e).2 (h a e).1, Nat.lt_of_lt_of_le (h a e).2 hs⟩

theorem RdS.kept {w w' : World} {V : Nat → Prop} {ao : Option Addr} {cap : Nat} {xs : List Value} (h : RdS w ao cap xs) (hi : In w V ao) (hk : Kept V w w') : RdS w' ao cap xs := by
  refine ⟨h.le, h.mx, h.nil, fun hx => ?_⟩
  obtain ⟨b, off, e, hlt, hc⟩ := h.cell hx
  obtain ⟨hv, hl⟩ := hi _ e
  exact ⟨b, off, e, Nat.lt_of_lt_of_le hlt hk.size, fun t ht => (World.cell?_of_block (w := w) (hk.block b hl hv)).trans (hc t ht)⟩

theorem Rd8.kept {w w' : World} {V : Nat → Prop} {ao : Option Addr} {n cap : Nat} {bs : List Nat} (h : Rd8 w ao n cap bs) (hi : In w V ao) (hk : Kept V w w') : Rd8 w' ao n cap bs := ⟨RdS.kept h.rd hi hk, h.len, h.byte⟩

theorem OwnS.inn {w : World} {base : Nat} {e : TypeId} {ao : Option Addr} {cap : Nat} {xs : List Value} (h : OwnS w base e ao cap xs) : In w (fun k => base ≤ k) ao := by
  intro a ha
  obtain ⟨_, h2⟩ := h
  rcases h2 with ⟨hv, _⟩ | ⟨g, cp, cur, hv, hg, hh, _⟩
  · simp only [Value.slice.injEq] at hv; rw [hv.1] at ha; cases ha
  · simp only [Value.slice.injEq] at hv
    rw [hv.1] at ha
    cases ha
    exact ⟨hg, (Array.getElem?_eq_some_iff.1 hh).1⟩

theorem Own8.inn {w : World} {base : Nat} {ao : Option Addr} {n cap : Nat} {bs : List Nat} (h : Own8 w base ao n cap bs) : In w (fun k => base ≤ k) ao := OwnS.inn h.own

/-! ### A drive -/

structure Sec where
  b : List Nat
  s : List Nat
  l : Bool

def Sec.settle (x : Sec) : Sec := ⟨x.b, x.b, false⟩
def Sec.revert (x : Sec) : Sec := ⟨x.s, x.s, false⟩
def Sec.wrote (x : Sec) (bs : List Nat) : Sec := ⟨bs, x.s, true⟩
abbrev Sec.e : Sec := ⟨[], [], false⟩

/-- A drive lies at block g (its sectors) and at the next one (what is pointed to); its sectors' bytes lie in blocks of the set. -/
structure Drv (w : World) (g : Nat) (V : Nat → Prop) (L : List Sec) : Prop where
  le : L.length ≤ 6
  pc : w.cell? ⟨g + 1, 0, none⟩ = some (.slice (some ⟨g, 0, none⟩) L.length L.length)
  lt : g + 1 < w.heap.size
  fz : ∀ j, w.frozen? ⟨g, j, none⟩ = false
  vg : ¬ V g
  cb : ∀ i (h : i < L.length), ∃ ao n cap, w.cell? ⟨g, i * 3, none⟩ = some (.slice ao n cap) ∧ Rd8 w ao n cap L[i].b ∧ In w V ao ∧ n ≤ 100
  cs : ∀ i (h : i < L.length), ∃ ao n cap, w.cell? ⟨g, i * 3 + 1, none⟩ = some (.slice ao n cap) ∧ Rd8 w ao n cap L[i].s ∧ In w V ao ∧ n ≤ 100
  cl : ∀ i (h : i < L.length), w.cell? ⟨g, i * 3 + 2, none⟩ = some (.bool L[i].l)

theorem Drv.kept {w w' : World} {g : Nat} {V : Nat → Prop} {L : List Sec} (h : Drv w g V L) (hk : Kept (fun k => V k ∨ k = g ∨ k = g + 1) w w') : Drv w' g V L := by
  have hlt := h.lt
  have hg : w'.heap[g]? = w.heap[g]? := hk.block g (by omega) (.inr (.inl rfl))
  have hg1 : w'.heap[g + 1]? = w.heap[g + 1]? := hk.block (g + 1) hlt (.inr (.inr rfl))
  have hV : Kept V w w' := hk.mono fun k hk => .inl hk
  refine ⟨h.le, (World.cell?_of_block (w := w) hg1).trans h.pc, Nat.lt_of_lt_of_le hlt hk.size, fun j => (World.frozen?_of_block (w := w) hg).trans (h.fz j), h.vg, fun i hi => ?_, fun i hi => ?_, fun i hi => (World.cell?_of_block (w := w) hg).trans (h.cl i hi)⟩
  · obtain ⟨ao, n, cap, h1, h2, h3, h4⟩ := h.cb i hi
    exact ⟨ao, n, cap, (World.cell?_of_block (w := w) hg).trans h1, h2.kept h3 hV, h3.mono hk.size fun _ _ h => h, h4⟩
  · obtain ⟨ao, n, cap, h1, h2, h3, h4⟩ := h.cs i hi
    exact ⟨ao, n, cap, (World.cell?_of_block (w := w) hg).trans h1, h2.kept h3 hV, h3.mono hk.size fun _ _ h => h, h4⟩

theorem Drv.below {w w' : World} {g : Nat} {V : Nat → Prop} {L : List Sec} (h : Drv w g V L) (hb : Below w.heap.size w w') : Drv w' g V L := h.kept (Kept.of_below hb)

theorem Drv.mono {w : World} {g : Nat} {V U : Nat → Prop} {L : List Sec} (h : Drv w g V L) (hv : ∀ k, k < w.heap.size → V k → U k) (hg : ¬ U g) : Drv w g U L :=
  ⟨h.le, h.pc, h.lt, h.fz, hg, fun i hi => by obtain ⟨ao, n, cap, h1, h2, h3, h4⟩ := h.cb i hi; exact ⟨ao, n, cap, h1, h2, h3.mono (Nat.le_refl _) hv, h4⟩,
    fun i hi => by obtain ⟨ao, n, cap, h1, h2, h3, h4⟩ := h.cs i hi; exact ⟨ao, n, cap, h1, h2, h3.mono (Nat.le_refl _) hv, h4⟩, h.cl⟩

/-- The sectors' bytes lie in what is there. -/
theorem Drv.tight {w : World} {g : Nat} {V : Nat → Prop} {L : List Sec} (h : Drv w g V L) : Drv w g (fun k => V k ∧ k < w.heap.size) L := h.mono (fun k hk hv => ⟨hv, hk⟩) fun hx => h.vg hx.1

section
variable {w : World} {g : Nat} {V : Nat → Prop} {L : List Sec}

theorem put_other (w : World) (g i j : Nat) (u : Value) (hne : j ≠ i) : (w.setCell ⟨g, i, none⟩ u).cell? ⟨g, j, none⟩ = w.cell? ⟨g, j, none⟩ :=
  World.cell?_setCell_other _ _ _ _ (by intro e; simp only [Addr.mk.injEq] at e; omega)

theorem Drv.kept1 (h : Drv w g V L) (i : Nat) (u : Value) : Kept V w (w.setCell ⟨g, i, none⟩ u) := Kept.setCell _ _ _ h.vg

/-- A sector's bytes and whether it is loose are set. -/
theorem Drv.putB (h : Drv w g V L) (i : Nat) (hi : i < L.length) {ao : Option Addr} {n cap : Nat} {bs : List Nat} (hr : Rd8 w ao n cap bs) (hin : In w V ao) (hn : n ≤ 100) (b : Bool) :
    Drv ((w.setCell ⟨g, i * 3, none⟩ (.slice ao n cap)).setCell ⟨g, i * 3 + 2, none⟩ (.bool b)) g V (L.set i ⟨bs, L[i].s, b⟩) := by
  have hk : Kept V w ((w.setCell ⟨g, i * 3, none⟩ (.slice ao n cap)).setCell ⟨g, i * 3 + 2, none⟩ (.bool b)) := (h.kept1 _ _).trans (Kept.setCell _ _ _ h.vg)
  obtain ⟨a0, n0, c0, h0, _⟩ := h.cb i hi
  have h2 := h.cl i hi
  have hp1 : (w.setCell ⟨g, i * 3, none⟩ (.slice ao n cap)).cell? ⟨g + 1, 0, none⟩ = w.cell? ⟨g + 1, 0, none⟩ := World.cell?_of_block (w := w) (Below.heap_setCell _ _ _ _ (by simp))
  have hp2 : ((w.setCell ⟨g, i * 3, none⟩ (.slice ao n cap)).setCell ⟨g, i * 3 + 2, none⟩ (.bool b)).cell? ⟨g + 1, 0, none⟩ = (w.setCell ⟨g, i * 3, none⟩ (.slice ao n cap)).cell? ⟨g + 1, 0, none⟩ := World.cell?_of_block (w := w.setCell ⟨g, i * 3, none⟩ (.slice ao n cap)) (Below.heap_setCell _ _ _ _ (by simp))
  refine ⟨by simpa using h.le, by rw [hp2, hp1, h.pc]; simp, by simpa [World.setCell] using h.lt, fun j => by rw [World.frozen?_setCell, World.frozen?_setCell]; exact h.fz j, h.vg, fun j hj => ?_, fun j hj => ?_, fun j hj => ?_⟩
  · have hj' : j < L.length := by simpa using hj
    rw [put_other _ _ _ _ _ (by omega)]
    by_cases e : j = i
    · subst e
      refine ⟨ao, n, cap, World.cell?_setCell_same _ _ _ h0, ?_, hin.mono hk.size fun _ _ h => h, hn⟩
      simpa using hr.kept hin hk
    · rw [put_other _ _ _ _ _ (by omega)]
      obtain ⟨a1, n1, c1, r1, r2, r3, r4⟩ := h.cb j hj'
      refine ⟨a1, n1, c1, r1, ?_, r3.mono hk.size fun _ _ h => h, r4⟩
      rw [List.getElem_set_ne (fun h => e h.symm)]
      exact r2.kept r3 hk
  · have hj' : j < L.length := by simpa using hj
    rw [put_other _ _ _ _ _ (by omega), put_other _ _ _ _ _ (by omega)]
    obtain ⟨a1, n1, c1, r1, r2, r3, r4⟩ := h.cs j hj'
    refine ⟨a1, n1, c1, r1, ?_, r3.mono hk.size fun _ _ h => h, r4⟩
    by_cases e : j = i
    · subst e; simpa using r2.kept r3 hk
    · rw [List.getElem_set_ne (fun h => e h.symm)]; exact r2.kept r3 hk
  · have hj' : j < L.length := by simpa using hj
    by_cases e : j = i
    · subst e
      rw [World.cell?_setCell_same _ _ _ (show _ = some (Value.bool L[j].l) by rw [put_other _ _ _ _ _ (by omega)]; exact h2)]
      simp
    · rw [put_other _ _ _ _ _ (by omega), put_other _ _ _ _ _ (by omega), List.getElem_set_ne (fun h => e h.symm)]
      exact h.cl j hj'

/-- A sector's stable bytes and whether it is loose are set. -/
theorem Drv.putS (h : Drv w g V L) (i : Nat) (hi : i < L.length) {ao : Option Addr} {n cap : Nat} {bs : List Nat} (hr : Rd8 w ao n cap bs) (hin : In w V ao) (hn : n ≤ 100) (b : Bool) :
    Drv ((w.setCell ⟨g, i * 3 + 1, none⟩ (.slice ao n cap)).setCell ⟨g, i * 3 + 2, none⟩ (.bool b)) g V (L.set i ⟨L[i].b, bs, b⟩) := by
  have hk : Kept V w ((w.setCell ⟨g, i * 3 + 1, none⟩ (.slice ao n cap)).setCell ⟨g, i * 3 + 2, none⟩ (.bool b)) := (h.kept1 _ _).trans (Kept.setCell _ _ _ h.vg)
  obtain ⟨a0, n0, c0, h0, _⟩ := h.cs i hi
  have h2 := h.cl i hi
  have hp1 : (w.setCell ⟨g, i * 3 + 1, none⟩ (.slice ao n cap)).cell? ⟨g + 1, 0, none⟩ = w.cell? ⟨g + 1, 0, none⟩ := World.cell?_of_block (w := w) (Below.heap_setCell _ _ _ _ (by simp))
  have hp2 : ((w.setCell ⟨g, i * 3 + 1, none⟩ (.slice ao n cap)).setCell ⟨g, i * 3 + 2, none⟩ (.bool b)).cell? ⟨g + 1, 0, none⟩ = (w.setCell ⟨g, i * 3 + 1, none⟩ (.slice ao n cap)).cell? ⟨g + 1, 0, none⟩ := World.cell?_of_block (w := w.setCell ⟨g, i * 3 + 1, none⟩ (.slice ao n cap)) (Below.heap_setCell _ _ _ _ (by simp))
  refine ⟨by simpa using h.le, by rw [hp2, hp1, h.pc]; simp, by simpa [World.setCell] using h.lt, fun j => by rw [World.frozen?_setCell, World.frozen?_setCell]; exact h.fz j, h.vg, fun j hj => ?_, fun j hj => ?_, fun j hj => ?_⟩
  · have hj' : j < L.length := by simpa using hj
    rw [put_other _ _ _ _ _ (by omega), put_other _ _ _ _ _ (by omega)]
    obtain ⟨a1, n1, c1, r1, r2, r3, r4⟩ := h.cb j hj'
    refine ⟨a1, n1, c1, r1, ?_, r3.mono hk.size fun _ _ h => h, r4⟩
    by_cases e : j = i
    · subst e; simpa using r2.kept r3 hk
    · rw [List.getElem_set_ne (fun h => e h.symm)]; exact r2.kept r3 hk
  · have hj' : j < L.length := by simpa using hj
    rw [put_other _ _ _ _ _ (by omega)]
    by_cases e : j = i
    · subst e
      refine ⟨ao, n, cap, World.cell?_setCell_same _ _ _ h0, ?_, hin.mono hk.size fun _ _ h => h, hn⟩
      simpa using hr.kept hin hk
    · rw [put_other _ _ _ _ _ (by omega)]
      obtain ⟨a1, n1, c1, r1, r2, r3, r4⟩ := h.cs j hj'
      refine ⟨a1, n1, c1, r1, ?_, r3.mono hk.size fun _ _ h => h, r4⟩
      rw [List.getElem_set_ne (fun h => e h.symm)]
      exact r2.kept r3 hk
  · have hj' : j < L.length := by simpa using hj
    by_cases e : j = i
    · subst e
      rw [World.cell?_setCell_same _ _ _ (show _ = some (Value.bool L[j].l) by rw [put_other _ _ _ _ _ (by omega)]; exact h2)]
      simp
    · rw [put_other _ _ _ _ _ (by omega), put_other _ _ _ _ _ (by omega), List.getElem_set_ne (fun h => e h.symm)]
      exact h.cl j hj'
end

end Go.Proofs.Ytgeoeaadeemmcaa
