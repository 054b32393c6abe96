/- A message whose values are set one by one; strings of bytes that differ. -/
import Derived.Test.YtgeoeaadeemmcaaNy
import Derived.Test.YtgeoeaadeemmcaaMa
import Derived.Test.YtgeoeaadeemmcaaCr7
namespace Go.Proofs.Ytgeoeaadeemmcaa
open Go.RowKit
set_option linter.unusedVariables false

theorem below_cell {w w' : World} {B b j : Nat} {v : Value} (h : Below B w w') (hb : b < B) (hc : w.cell? ⟨b, j, none⟩ = some v) : w'.cell? ⟨b, j, none⟩ = some v := (h.cell (p := ⟨b, j, none⟩) hb).trans hc

theorem MgAt.under {w w' : World} {g B : Nat} {M : Mg} {ao : Option Addr} {n cap : Nat} (h : MgAt w g M ao n cap) (hb : Below B w w') (hg : g < B) : MgAt w' g M ao n cap := h.keep (hb.block g hg) hb.size

theorem put_after {W V w5 : World} {g k : Nat} {M : Mg} {a : Option Addr} {c : Nat} (hg5 : W.grownBy w5 (Value.ownBlock (.slice a k c))) (h : MgAt V g M a k c) (hb : ∀ y, a = some y → g + 1 ≤ y.block) (hW : W.heap = V.heap) : MgAt w5 g M a k c := by
  have hl : g < W.heap.size := by rw [hW]; exact h.lt
  have e := grown_block hg5 hl (fun y hy => by have := hb y hy; omega)
  rw [hW] at e
  exact h.keep e (by rw [← hW]; exact hg5.size)

/-- The message with these values. -/
abbrev mgl (zs : List Int) (ps : List PutG) (x : List (Nat × Nat)) : Mg := mgw zs ps (x.getD 0 z2) (x.getD 1 z2) (x.getD 2 z2) (x.getD 3 z2)

theorem MgAt.val {w : World} {g : Nat} {zs : List Int} {ps : List PutG} {x : List (Nat × Nat)} {ao : Option Addr} {n cap : Nat} (h : MgAt w g (mgl zs ps x) ao n cap) (j : Nat) (hj : j < 4) : w.cell? ⟨g, 8 + j, none⟩ = some (.complex .f64 (x.getD j z2).1 (x.getD j z2).2) := by
  obtain rfl | rfl | rfl | rfl : j = 0 ∨ j = 1 ∨ j = 2 ∨ j = 3 := by omega
  · exact h.c8
  · exact h.c9
  · exact h.cA
  · exact h.cB

theorem MgAt.putVal {w : World} {g : Nat} {zs : List Int} {ps : List PutG} {x : List (Nat × Nat)} {ao : Option Addr} {n cap : Nat} (h : MgAt w g (mgl zs ps x) ao n cap) (hx : x.length = 4) (j : Nat) (hj : j < 4) (c : Nat × Nat) : MgAt (w.setCell ⟨g, 8 + j, none⟩ (.complex .f64 c.1 c.2)) g (mgl zs ps (x.set j c)) ao n cap := by
  obtain ⟨a0, a1, a2, a3, rfl⟩ := list4 hx
  have s := fun (u : Value) (e : w.cell? ⟨g, 8 + j, none⟩ = some u) => World.cell?_setCell_same w ⟨g, 8 + j, none⟩ (.complex .f64 c.1 c.2) e
  have o := fun (i : Nat) (hi : i ≠ 8 + j) => put_other w g (8 + j) i (.complex .f64 c.1 c.2) hi
  have f : ∀ i, (w.setCell ⟨g, 8 + j, none⟩ (.complex .f64 c.1 c.2)).frozen? ⟨g, i, none⟩ = false := fun i => by simp only [World.frozen?_setCell]; exact h.fz i
  have l : g < (w.setCell ⟨g, 8 + j, none⟩ (.complex .f64 c.1 c.2)).heap.size := by simpa [World.setCell] using h.lt
  obtain rfl | rfl | rfl | rfl : j = 0 ∨ j = 1 ∨ j = 2 ∨ j = 3 := by omega
  · exact ⟨(o 0 (by decide)).trans h.c0, (o 1 (by decide)).trans h.c1, (o 2 (by decide)).trans h.c2, (o 3 (by decide)).trans h.c3, (o 4 (by decide)).trans h.c4, (o 5 (by decide)).trans h.c5, (o 6 (by decide)).trans h.c6, (o 7 (by decide)).trans h.c7, s _ h.c8, (o 9 (by decide)).trans h.c9, (o 10 (by decide)).trans h.cA, (o 11 (by decide)).trans h.cB, f, l⟩
  · exact ⟨(o 0 (by decide)).trans h.c0, (o 1 (by decide)).trans h.c1, (o 2 (by decide)).trans h.c2, (o 3 (by decide)).trans h.c3, (o 4 (by decide)).trans h.c4, (o 5 (by decide)).trans h.c5, (o 6 (by decide)).trans h.c6, (o 7 (by decide)).trans h.c7, (o 8 (by decide)).trans h.c8, s _ h.c9, (o 10 (by decide)).trans h.cA, (o 11 (by decide)).trans h.cB, f, l⟩
  · exact ⟨(o 0 (by decide)).trans h.c0, (o 1 (by decide)).trans h.c1, (o 2 (by decide)).trans h.c2, (o 3 (by decide)).trans h.c3, (o 4 (by decide)).trans h.c4, (o 5 (by decide)).trans h.c5, (o 6 (by decide)).trans h.c6, (o 7 (by decide)).trans h.c7, (o 8 (by decide)).trans h.c8, (o 9 (by decide)).trans h.c9, s _ h.cA, (o 11 (by decide)).trans h.cB, f, l⟩
  · exact ⟨(o 0 (by decide)).trans h.c0, (o 1 (by decide)).trans h.c1, (o 2 (by decide)).trans h.c2, (o 3 (by decide)).trans h.c3, (o 4 (by decide)).trans h.c4, (o 5 (by decide)).trans h.c5, (o 6 (by decide)).trans h.c6, (o 7 (by decide)).trans h.c7, (o 8 (by decide)).trans h.c8, (o 9 (by decide)).trans h.c9, (o 10 (by decide)).trans h.cA, s _ h.cB, f, l⟩

theorem str_neI {xs ys : List Int} (hx : ∀ z ∈ xs, 0 ≤ z ∧ z < 256) (hy : ∀ z ∈ ys, 0 ≤ z ∧ z < 256) (h : xs ≠ ys) : ((strOfNums xs).toList == (strOfNums ys).toList) = false := by
  have e := str_ne (nb_bytes hx) (nb_bytes hy) (fun e => h (by rw [← ci_nb hx, ← ci_nb hy, e]))
  rwa [ci_nb hx, ci_nb hy] at e

theorem strI {w : World} {ao : Option Addr} {cap n : Nat} {zs : List Int} (h : RdI w .u8 ao cap zs) (hn : zs.length = n) : (convert 22 9 (.slice ao n cap)).run Try.prog w = .ok (.string (strOfNums zs)) w :=
  run_string_rd (P := Try.prog) 22 9 5 Try.underlying22 Try.underlying5 Try.underlying9 h hn

end Go.Proofs.Ytgeoeaadeemmcaa
