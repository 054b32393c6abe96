/- Puts that are made and set one by one; batchOf of package wal. -/
import Derived.Test.YthckdfggnmoaeaaW4
import Derived.Deep.RegionWith
namespace Go.Proofs.Ythckdfggnmoaeaa
open Go.RowKit
set_option linter.unusedVariables false

theorem info61 : (Try.prog.info? 34).map (fun i => (i.zero, i.size, i.bytes)) = some (some (.agg #[.int .i64 0, .int .i64 0, .complex .f64 0 0]), 3, 32) := by kernel_rfl

/-- The cells of so many empty puts. -/
def mkP (n : Nat) : Array Value := madeCells #[.int .i64 0, .int .i64 0, .complex .f64 0 0] (n * 3)

theorem make_puts (n : Nat) (hn : n ≤ 24) (w : World) :
    (Instr.makeSlice 35 (.int .i64 (n : Int)) (.int .i64 (n : Int))).run Try.prog w = .ok (.slice (some ⟨w.heap.size, 0, none⟩) n n) (w.alloc (.cells (mkP n) 34)) := by
  obtain ⟨i, hi, hz, hs, hb⟩ := info_parts info61
  have hr := run_make (P := Try.prog) w 35 34 i _ Try.underlying35 hi hz .i64 .i64 n n (by omega) (Int.le_refl _) (by rw [hb]; omega) (by omega)
  simp only [Int.toNat_natCast, hs] at hr
  exact hr

theorem mkP_get (n j : Nat) (h : j < n * 3) : (mkP n)[j]? = some (#[Value.int .i64 0, .int .i64 0, .complex .f64 0 0][j % 3]!) := by
  simp [mkP, madeCells, h]

/-- An empty put. -/
abbrev pt0 : PutG := ⟨0, 0, (0, 0)⟩

/-- The block is a row of puts. -/
def PTag (w : World) (g : Nat) : Prop := ∃ cs, w.heap[g]? = some (.cells cs 34)

theorem PTag.keep {w w' : World} {g : Nat} (h : PTag w g) (hg : w'.heap[g]? = w.heap[g]?) : PTag w' g := by
  obtain ⟨cs, e⟩ := h
  exact ⟨cs, hg.trans e⟩

theorem PTag.put {w : World} {g : Nat} (h : PTag w g) (j : Nat) (v : Value) : PTag (w.setCell ⟨g, j, none⟩ v) g := by
  obtain ⟨cs, e⟩ := h
  exact ⟨_, heap_setCell_same w g j cs _ v e⟩

/-- These puts are the cells of a block. -/
structure PutsIn (w : World) (g m : Nat) (ps : List PutG) : Prop where
  sz : ps.length = m
  cell : ∀ t (h : t < ps.length), w.cell? ⟨g, t * 3, none⟩ = some (.int .i64 (ps[t].pg : Int)) ∧ w.cell? ⟨g, t * 3 + 1, none⟩ = some (.int .i64 (ps[t].ob : Int)) ∧ w.cell? ⟨g, t * 3 + 2, none⟩ = some (.complex .f64 ps[t].c.1 ps[t].c.2)
  fz : ∀ j, w.frozen? ⟨g, j, none⟩ = false
  lt : g < w.heap.size
  tag : PTag w g

theorem PutsIn.new (w : World) (n : Nat) : PutsIn (w.alloc (.cells (mkP n) 34)) w.heap.size n (List.replicate n pt0) := by
  have h := heap_alloc_new w (.cells (mkP n) 34)
  refine ⟨by simp, fun t ht => ?_, fun j => frozen_of_row _ _ _ _ _ h, by simp, _, h⟩
  simp only [List.length_replicate] at ht
  refine ⟨?_, ?_, ?_⟩
  all_goals
    rw [cell_of_row _ _ _ _ _ _ h, mkP_get _ _ (by omega)]
    simp

theorem PutsIn.keep {w w' : World} {g m : Nat} {ps : List PutG} (h : PutsIn w g m ps) (hg : w'.heap[g]? = w.heap[g]?) (hs : w.heap.size ≤ w'.heap.size) : PutsIn w' g m ps :=
  ⟨h.sz, fun t ht => ⟨(World.cell?_of_block (w := w) hg).trans (h.cell t ht).1, (World.cell?_of_block (w := w) hg).trans (h.cell t ht).2.1, (World.cell?_of_block (w := w) hg).trans (h.cell t ht).2.2⟩, fun j => (World.frozen?_of_block (w := w) hg).trans (h.fz j), Nat.lt_of_lt_of_le h.lt hs, h.tag.keep hg⟩

theorem PutsIn.below {w w' : World} {g m : Nat} {ps : List PutG} (h : PutsIn w g m ps) (hb : Below w.heap.size w w') : PutsIn w' g m ps := h.keep (hb.block g h.lt) hb.size

/-- Three stores into a block. -/
abbrev set3 (w : World) (g k : Nat) (p : PutG) : World := ((w.setCell ⟨g, k * 3, none⟩ (.int .i64 (p.pg : Int))).setCell ⟨g, k * 3 + 1, none⟩ (.int .i64 (p.ob : Int))).setCell ⟨g, k * 3 + 2, none⟩ (.complex .f64 p.c.1 p.c.2)

theorem PutsIn.set {w : World} {g m : Nat} {ps : List PutG} (h : PutsIn w g m ps) (k : Nat) (hk : k < ps.length) (p : PutG) : PutsIn (set3 w g k p) g m (ps.set k p) := by
  obtain ⟨h0, h1, h2⟩ := h.cell k hk
  refine ⟨by simpa using h.sz, fun t ht => ?_, fun j => by simp only [set3, World.frozen?_setCell]; exact h.fz j, by simpa [set3, World.setCell] using h.lt, ((h.tag.put _ _).put _ _).put _ _⟩
  simp only [List.length_set] at ht
  by_cases e : t = k
  · subst e
    have e0 : (ps.set t p)[t]'(by simpa using ht) = p := by simp
    simp only [e0]
    refine ⟨?_, ?_, ?_⟩
    · rw [put_other _ _ _ _ _ (by omega), put_other _ _ _ _ _ (by omega)]
      exact World.cell?_setCell_same _ _ _ h0
    · rw [put_other _ _ _ _ _ (by omega)]
      exact World.cell?_setCell_same _ _ _ (by rw [put_other _ _ _ _ _ (by omega)]; exact h1)
    · exact World.cell?_setCell_same _ _ _ (by rw [put_other _ _ _ _ _ (by omega), put_other _ _ _ _ _ (by omega)]; exact h2)
  · have e0 : (ps.set k p)[t]'(by simpa using ht) = ps[t] := by rw [List.getElem_set_ne (by omega)]
    simp only [e0]
    obtain ⟨g0, g1, g2⟩ := h.cell t ht
    refine ⟨?_, ?_, ?_⟩
    · rw [put_other _ _ _ _ _ (by omega), put_other _ _ _ _ _ (by omega), put_other _ _ _ _ _ (by omega)]; exact g0
    · rw [put_other _ _ _ _ _ (by omega), put_other _ _ _ _ _ (by omega), put_other _ _ _ _ _ (by omega)]; exact g1
    · rw [put_other _ _ _ _ _ (by omega), put_other _ _ _ _ _ (by omega), put_other _ _ _ _ _ (by omega)]; exact g2

theorem PutsIn.rd {w : World} {g m : Nat} {ps : List PutG} (h : PutsIn w g m ps) : RdP w (some ⟨g, 0, none⟩) m m ps :=
  ⟨h.sz, fun t ht => ⟨g, 0, rfl, h.lt, by simpa using h.cell t ht⟩⟩

/-- Puts of the call's own, in a row of their own. -/
structure OwnP (w : World) (base : Nat) (ap : Option Addr) (n : Nat) (ps : List PutG) : Prop where
  rd : RdP w ap n n ps
  own : ∃ g, ap = some ⟨g, 0, none⟩ ∧ base ≤ g ∧ g < w.heap.size ∧ PTag w g

theorem OwnP.keep {w w' : World} {base : Nat} {ap : Option Addr} {n : Nat} {ps : List PutG} (h : OwnP w base ap n ps) (hk : ∀ g, base ≤ g → g < w.heap.size → PTag w g → w'.heap[g]? = w.heap[g]?) (hs : w.heap.size ≤ w'.heap.size) : OwnP w' base ap n ps := by
  obtain ⟨g, e, h1, h2, h3⟩ := h.own
  have hb := hk g h1 h2 h3
  refine ⟨⟨h.rd.len, fun t ht => ?_⟩, g, e, h1, Nat.lt_of_lt_of_le h2 hs, h3.keep hb⟩
  obtain ⟨b, off, e2, _, c0, c1, c2⟩ := h.rd.cell t ht
  rw [e] at e2
  cases e2
  exact ⟨g, 0, e, Nat.lt_of_lt_of_le h2 hs, (World.cell?_of_block (w := w) hb).trans c0, (World.cell?_of_block (w := w) hb).trans c1, (World.cell?_of_block (w := w) hb).trans c2⟩

theorem OwnP.below {w w' : World} {base : Nat} {ap : Option Addr} {n : Nat} {ps : List PutG} (h : OwnP w base ap n ps) (hb : Below w.heap.size w w') : OwnP w' base ap n ps := h.keep (fun g _ h2 _ => hb.block g h2) hb.size

theorem OwnP.mono {w : World} {base base' : Nat} {ap : Option Addr} {n : Nat} {ps : List PutG} (h : OwnP w base ap n ps) (hb : base' ≤ base) : OwnP w base' ap n ps := by
  obtain ⟨g, e, h1, h2, h3⟩ := h.own
  exact ⟨h.rd, g, e, Nat.le_trans hb h1, h2, h3⟩

theorem OwnP.other {w : World} {base : Nat} {ap : Option Addr} {n : Nat} {ps : List PutG} (h : OwnP w base ap n ps) (p : Addr) (v : Value) (hp : p.block < base) : OwnP (w.setCell p v) base ap n ps :=
  h.keep (fun g h1 _ _ => Below.heap_setCell _ _ _ _ (by omega)) (by simp [World.setCell])

theorem PutsIn.own {w : World} {g m : Nat} {ps : List PutG} (h : PutsIn w g m ps) (base : Nat) (hb : base ≤ g) : OwnP w base (some ⟨g, 0, none⟩) m ps := ⟨h.rd, g, rfl, hb, h.lt, h.tag⟩

/-- What is there behind k rounds. -/
def gotP (ps : List PutG) (m k : Nat) : List PutG := (ps.take k).map PutG.can ++ List.replicate (m - k) pt0

theorem gotP_length (ps : List PutG) (m k : Nat) (hm : ps.length = m) (hk : k ≤ m) : (gotP ps m k).length = m := by
  simp [gotP]; omega

theorem gotP_set (ps : List PutG) (m k : Nat) (hm : ps.length = m) (hk : k < m) : (gotP ps m k).set k (ps[k]'(by omega)).can = gotP ps m (k + 1) := by
  unfold gotP
  rw [List.take_succ_eq_append_getElem (by omega), List.map_append, List.set_append_right _ _ (by simp; omega)]
  have e1 : k - ((ps.take k).map PutG.can).length = 0 := by simp; omega
  rw [e1, show m - k = (m - (k + 1)) + 1 by omega, List.replicate_succ, List.set_cons_zero]
  simp

theorem gotP_all (ps : List PutG) (m : Nat) (hm : ps.length = m) : gotP ps m m = ps.map PutG.can := by
  simp [gotP, List.take_of_length_le (Nat.le_of_eq hm)]

theorem can_ok {ps : List PutG} (h : PutsOk ps) : PutsOk (ps.map PutG.can) := by
  refine ⟨by simpa using h.le, ?_, ?_⟩
  · intro p hp
    obtain ⟨q, hq, rfl⟩ := List.mem_map.1 hp
    obtain ⟨h1, h2, h3⟩ := h.pg q hq
    exact ⟨h1, h2, formN_lt _ h3.1, formN_lt _ h3.2⟩
  · intro i p q hp hq
    simp only [List.getElem?_map, Option.map_eq_some_iff] at hp hq
    obtain ⟨p', hp', rfl⟩ := hp
    obtain ⟨q', hq', rfl⟩ := hq
    exact h.inc i p' q' hp' hq'

theorem BtAt.other {w : World} {g : Nat} {l c e t : Int} {ao : Option Addr} {n cap : Nat} (h : BtAt w g l c e t ao n cap) (p : Addr) (v : Value) (hne : g ≠ p.block) : BtAt (w.setCell p v) g l c e t ao n cap :=
  h.keep (Below.heap_setCell _ _ _ _ hne) (by simp [World.setCell])

end Go.Proofs.Ythckdfggnmoaeaa
