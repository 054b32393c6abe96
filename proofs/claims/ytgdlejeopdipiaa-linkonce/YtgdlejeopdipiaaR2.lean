/- Structs of seven cells in memory; what the document's Push of a link does, walked. -/
import Derived.Test.YtgdlejeopdipiaaL7
namespace Go.Proofs.Ytgdlejeopdipiaa
open Go.RowKit
set_option linter.unusedVariables false

/-- A struct of seven cells lies in a block. -/
structure C7 (w : World) (b : Nat) (e : TypeId) (v0 v1 v2 v3 v4 v5 v6 : Value) : Prop where
  blk : w.heap[b]? = some (.cells #[v0, v1, v2, v3, v4, v5, v6] e (0, 0))

section
variable {w w' : World} {b : Nat} {e : TypeId} {v0 v1 v2 v3 v4 v5 v6 : Value}
theorem C7.c0 (h : C7 w b e v0 v1 v2 v3 v4 v5 v6) : w.cell? ⟨b, 0, none⟩ = some v0 := by rw [cell_of_row _ _ _ _ _ _ h.blk]; rfl
theorem C7.c1 (h : C7 w b e v0 v1 v2 v3 v4 v5 v6) : w.cell? ⟨b, 1, none⟩ = some v1 := by rw [cell_of_row _ _ _ _ _ _ h.blk]; rfl
theorem C7.c2 (h : C7 w b e v0 v1 v2 v3 v4 v5 v6) : w.cell? ⟨b, 2, none⟩ = some v2 := by rw [cell_of_row _ _ _ _ _ _ h.blk]; rfl
theorem C7.c3 (h : C7 w b e v0 v1 v2 v3 v4 v5 v6) : w.cell? ⟨b, 3, none⟩ = some v3 := by rw [cell_of_row _ _ _ _ _ _ h.blk]; rfl
theorem C7.c4 (h : C7 w b e v0 v1 v2 v3 v4 v5 v6) : w.cell? ⟨b, 4, none⟩ = some v4 := by rw [cell_of_row _ _ _ _ _ _ h.blk]; rfl
theorem C7.c5 (h : C7 w b e v0 v1 v2 v3 v4 v5 v6) : w.cell? ⟨b, 5, none⟩ = some v5 := by rw [cell_of_row _ _ _ _ _ _ h.blk]; rfl
theorem C7.c6 (h : C7 w b e v0 v1 v2 v3 v4 v5 v6) : w.cell? ⟨b, 6, none⟩ = some v6 := by rw [cell_of_row _ _ _ _ _ _ h.blk]; rfl
theorem C7.fz (h : C7 w b e v0 v1 v2 v3 v4 v5 v6) (j : Nat) : w.frozen? ⟨b, j, none⟩ = false := frozen_of_row _ _ _ _ _ h.blk
theorem C7.lt (h : C7 w b e v0 v1 v2 v3 v4 v5 v6) : b < w.heap.size := (Array.getElem?_eq_some_iff.1 h.blk).1
theorem C7.keep (h : C7 w b e v0 v1 v2 v3 v4 v5 v6) (hb : w'.heap[b]? = w.heap[b]?) : C7 w' b e v0 v1 v2 v3 v4 v5 v6 := ⟨hb.trans h.blk⟩
theorem C7.below (h : C7 w b e v0 v1 v2 v3 v4 v5 v6) (hb : Below w.heap.size w w') : C7 w' b e v0 v1 v2 v3 v4 v5 v6 := h.keep (hb.block b h.lt)
theorem C7.new (w : World) (e : TypeId) (v0 v1 v2 v3 v4 v5 v6 : Value) : C7 (w.alloc (.cells #[v0, v1, v2, v3, v4, v5, v6] e)) w.heap.size e v0 v1 v2 v3 v4 v5 v6 := ⟨heap_alloc_new w _⟩
theorem C7.put4 (h : C7 w b e v0 v1 v2 v3 v4 v5 v6) (u : Value) : C7 (w.setCell ⟨b, 4, none⟩ u) b e v0 v1 v2 v3 u v5 v6 := ⟨by rw [heap_setCell_same w b 4 _ e u h.blk]; rfl⟩
theorem C7.put5 (h : C7 w b e v0 v1 v2 v3 v4 v5 v6) (u : Value) : C7 (w.setCell ⟨b, 5, none⟩ u) b e v0 v1 v2 v3 v4 u v6 := ⟨by rw [heap_setCell_same w b 5 _ e u h.blk]; rfl⟩
theorem C7.put6 (h : C7 w b e v0 v1 v2 v3 v4 v5 v6) (u : Value) : C7 (w.setCell ⟨b, 6, none⟩ u) b e v0 v1 v2 v3 v4 v5 u := ⟨by rw [heap_setCell_same w b 6 _ e u h.blk]; rfl⟩
theorem C7.put3 (h : C7 w b e v0 v1 v2 v3 v4 v5 v6) (u : Value) : C7 (w.setCell ⟨b, 3, none⟩ u) b e v0 v1 v2 u v4 v5 v6 := ⟨by rw [heap_setCell_same w b 3 _ e u h.blk]; rfl⟩
theorem C7.put0 (h : C7 w b e v0 v1 v2 v3 v4 v5 v6) (u : Value) : C7 (w.setCell ⟨b, 0, none⟩ u) b e u v1 v2 v3 v4 v5 v6 := ⟨by rw [heap_setCell_same w b 0 _ e u h.blk]; rfl⟩
theorem C7.put1 (h : C7 w b e v0 v1 v2 v3 v4 v5 v6) (u : Value) : C7 (w.setCell ⟨b, 1, none⟩ u) b e v0 u v2 v3 v4 v5 v6 := ⟨by rw [heap_setCell_same w b 1 _ e u h.blk]; rfl⟩
theorem C7.put2 (h : C7 w b e v0 v1 v2 v3 v4 v5 v6) (u : Value) : C7 (w.setCell ⟨b, 2, none⟩ u) b e v0 v1 u v3 v4 v5 v6 := ⟨by rw [heap_setCell_same w b 2 _ e u h.blk]; rfl⟩
theorem C7.put (h : C7 w b e v0 v1 v2 v3 v4 v5 v6) (z0 z1 z2 z3 z4 z5 z6 : Value) : C7 (((((((w.setCell ⟨b, 0, none⟩ z0).setCell ⟨b, 1, none⟩ z1).setCell ⟨b, 2, none⟩ z2).setCell ⟨b, 3, none⟩ z3).setCell ⟨b, 4, none⟩ z4).setCell ⟨b, 5, none⟩ z5).setCell ⟨b, 6, none⟩ z6) b e z0 z1 z2 z3 z4 z5 z6 :=
  ((((((h.put0 z0).put1 z1).put2 z2).put3 z3).put4 z4).put5 z5).put6 z6
end

/-- The document's link, as a value and in a block. -/
abbrev rfV (I : LkI) (v : Value) (kn h : Nat) : Value := .agg #[.int .i64 I.cl, .int .i64 I.ep, .int .i64 I.bo, .bool I.sv, v, .int .i64 (kn : Int), .int .i64 (h : Int)]
abbrev rfO (I : LkI) (v : Value) (kn h : Nat) : Obj := .cells #[.int .i64 I.cl, .int .i64 I.ep, .int .i64 I.bo, .bool I.sv, v, .int .i64 (kn : Int), .int .i64 (h : Int)] 34
abbrev rfZ : Obj := .cells #[.int .i64 0, .int .i64 0, .int .i64 0, .bool false, .slice none 0 0, .int .i64 0, .int .i64 0] 34
abbrev RfAt (w : World) (b : Nat) (I : LkI) (v : Value) (kn h : Nat) : Prop := C7 w b 34 (.int .i64 I.cl) (.int .i64 I.ep) (.int .i64 I.bo) (.bool I.sv) v (.int .i64 (kn : Int)) (.int .i64 (h : Int))

/-- A list of bodies: its row is the call's own, the bodies lie in blocks of a set. -/
def RRow (w : World) (B : Nat) (ao : Option Addr) (cap : Nat) (V : Nat → Prop) (L : List (List Nat)) : Prop := ∃ vs, OwnS w B 27 ao cap vs ∧ Bys w V vs L

theorem RRow.keep {w w' : World} {B : Nat} {ao : Option Addr} {cap : Nat} {V : Nat → Prop} {L : List (List Nat)} (h : RRow w B ao cap V L) (hk : KT w w') (ha : ∀ a, ao = some a → w'.heap[a.block]? = w.heap[a.block]?) : RRow w' B ao cap V L := by
  obtain ⟨vs, ho, hb⟩ := h
  exact ⟨vs, ho.keep ha, hb.kt hk⟩
theorem RRow.ge {w : World} {B : Nat} {ao : Option Addr} {cap : Nat} {V : Nat → Prop} {L : List (List Nat)} (h : RRow w B ao cap V L) : ∀ a, ao = some a → B ≤ a.block ∧ a.block < w.heap.size := by
  obtain ⟨vs, ho, -⟩ := h
  exact ho.inn
theorem RRow.below {w w' : World} {B : Nat} {ao : Option Addr} {cap : Nat} {V : Nat → Prop} {L : List (List Nat)} (h : RRow w B ao cap V L) (hb : Below w.heap.size w w') : RRow w' B ao cap V L :=
  h.keep (KT.of_below hb) fun a ha => hb.block _ (h.ge a ha).2
theorem RRow.mono {w : World} {B B' : Nat} {ao : Option Addr} {cap : Nat} {V U : Nat → Prop} {L : List (List Nat)} (h : RRow w B ao cap V L) (hB : B' ≤ B) (hv : ∀ k, k < w.heap.size → V k → U k) : RRow w B' ao cap U L := by
  obtain ⟨vs, ho, hb⟩ := h
  exact ⟨vs, ho.mono hB, hb.mono hv⟩

set_option maxRecDepth 100000 in
theorem rpush_big (I : LkI) (ao : Option Addr) (n cap kn h : Nat) (ax : Option Addr) (m cx : Nat) (w : World) (hm : 700 < m) : Calls Try.prog 13 #[rfV I (.slice ao n cap) kn h, .slice ax m cx] w fun e w' => e = .returned (.tuple #[rfV I (.slice ao n cap) kn h, .int .i64 101]) ∧ Below w.heap.size w w' := by
  go_enter Try.func13, Try.ntmps13
  go_wp2
  go_returns
  exact ⟨rfl, by go_grown⟩

set_option maxRecDepth 100000 in
theorem rpush_full (I : LkI) (ao : Option Addr) (n cap kn h : Nat) (ax : Option Addr) (m cx : Nat) (w : World) (hm : m ≤ 700) (hn : n < 16777215) (hk : kn + 8 ≤ n) : Calls Try.prog 13 #[rfV I (.slice ao n cap) kn h, .slice ax m cx] w fun e w' => e = .returned (.tuple #[rfV I (.slice ao n cap) kn h, .int .i64 111]) ∧ Below w.heap.size w w' := by
  have hw1 : IntKind.i64.wrap ((n : Int) - (kn : Int)) = (n : Int) - (kn : Int) := by rw [IntKind.wrap_i64]; omega
  have hd : ¬ ((16777215 : Int) ≤ (n : Int)) := by omega
  have hd3 : (8 : Int) ≤ (n : Int) - (kn : Int) := by omega
  clear hn hk
  go_enter Try.func13, Try.ntmps13
  go_wp2
  go_returns
  exact ⟨rfl, by go_grown⟩

end Go.Proofs.Ytgdlejeopdipiaa
