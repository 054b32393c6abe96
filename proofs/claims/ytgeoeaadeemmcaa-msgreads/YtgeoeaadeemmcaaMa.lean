/- A message in memory that is written. -/
import Derived.Test.YtgeoeaadeemmcaaM8
namespace Go.Proofs.Ytgeoeaadeemmcaa
open Go.RowKit
set_option linter.unusedVariables false

theorem MgAt.ghost {w : World} {g : Nat} {M : Mg} {ao : Option Addr} {n cap : Nat} (h : MgAt w g M ao n cap) (ps : List PutG) : MgAt w g ⟨M.k, M.p, M.o, M.t, M.c, M.n, M.wr, ps, M.v0, M.v1, M.v2, M.v3⟩ ao n cap :=
  ⟨h.c0, h.c1, h.c2, h.c3, h.c4, h.c5, h.c6, h.c7, h.c8, h.c9, h.cA, h.cB, h.fz, h.lt⟩

theorem MgAt.put7 {w : World} {g : Nat} {M : Mg} {ao : Option Addr} {n cap : Nat} (h : MgAt w g M ao n cap) (a' : Option Addr) (n' c' : Nat) (ps : List PutG) : MgAt (w.setCell ⟨g, 7, none⟩ (.slice a' n' c')) g ⟨M.k, M.p, M.o, M.t, M.c, M.n, M.wr, ps, M.v0, M.v1, M.v2, M.v3⟩ a' n' c' := by
  refine ⟨?_, ?_, ?_, ?_, ?_, ?_, ?_, ?_, ?_, ?_, ?_, ?_, fun j => by simp only [World.frozen?_setCell]; exact h.fz j, by simpa [World.setCell] using h.lt⟩
  case refine_8 => exact World.cell?_setCell_same _ _ _ h.c7
  all_goals rw [put_other _ _ _ _ _ (by decide)]
  all_goals first | exact h.c0 | exact h.c1 | exact h.c2 | exact h.c3 | exact h.c4 | exact h.c5 | exact h.c6 | exact h.c8 | exact h.c9 | exact h.cA | exact h.cB

theorem MgAt.other {w : World} {g : Nat} {M : Mg} {ao : Option Addr} {n cap : Nat} (h : MgAt w g M ao n cap) (p : Addr) (v : Value) (hne : g ≠ p.block) : MgAt (w.setCell p v) g M ao n cap :=
  h.keep (Below.heap_setCell _ _ _ _ hne) (by simp [World.setCell])

/-- Four values are set. -/
abbrev put4 (w : World) (g : Nat) (a b c d : Nat × Nat) : World := (((w.setCell ⟨g, 8, none⟩ (.complex .f64 a.1 a.2)).setCell ⟨g, 9, none⟩ (.complex .f64 b.1 b.2)).setCell ⟨g, 10, none⟩ (.complex .f64 c.1 c.2)).setCell ⟨g, 11, none⟩ (.complex .f64 d.1 d.2)

theorem MgAt.put4 {w : World} {g : Nat} {M : Mg} {ao : Option Addr} {n cap : Nat} (h : MgAt w g M ao n cap) (a b c d : Nat × Nat) : MgAt (put4 w g a b c d) g ⟨M.k, M.p, M.o, M.t, M.c, M.n, M.wr, M.ps, a, b, c, d⟩ ao n cap := by
  have s := fun (W : World) (j : Nat) (u v : Value) (e : W.cell? ⟨g, j, none⟩ = some u) => World.cell?_setCell_same W ⟨g, j, none⟩ v e
  refine ⟨?_, ?_, ?_, ?_, ?_, ?_, ?_, ?_, ?_, ?_, ?_, ?_, fun j => by simp only [Ytgeoeaadeemmcaa.put4, World.frozen?_setCell]; exact h.fz j, by simpa [Ytgeoeaadeemmcaa.put4, World.setCell] using h.lt⟩
  case refine_9 =>
    rw [put_other _ _ _ _ _ (by decide), put_other _ _ _ _ _ (by decide), put_other _ _ _ _ _ (by decide)]
    exact s _ _ _ _ h.c8
  case refine_10 =>
    rw [put_other _ _ _ _ _ (by decide), put_other _ _ _ _ _ (by decide)]
    exact s _ _ _ _ (by rw [put_other _ _ _ _ _ (by decide)]; exact h.c9)
  case refine_11 =>
    rw [put_other _ _ _ _ _ (by decide)]
    exact s _ _ _ _ (by rw [put_other _ _ _ _ _ (by decide), put_other _ _ _ _ _ (by decide)]; exact h.cA)
  case refine_12 =>
    exact s _ _ _ _ (by rw [put_other _ _ _ _ _ (by decide), put_other _ _ _ _ _ (by decide), put_other _ _ _ _ _ (by decide)]; exact h.cB)
  all_goals rw [put_other _ _ _ _ _ (by decide), put_other _ _ _ _ _ (by decide), put_other _ _ _ _ _ (by decide), put_other _ _ _ _ _ (by decide)]
  all_goals first | exact h.c0 | exact h.c1 | exact h.c2 | exact h.c3 | exact h.c4 | exact h.c5 | exact h.c6 | exact h.c7

theorem OwnR.off {w w' : World} {base : Nat} {ao : Option Addr} {cap : Nat} {ps : List PutG} (h : OwnR w base ao cap ps) (hb : ∀ g, base ≤ g → w'.heap[g]? = w.heap[g]?) : OwnR w' base ao cap ps := h.keep fun a ha => hb _ (h.blk a ha).1

theorem OwnR.rdn {w : World} {base : Nat} {ao : Option Addr} {cap n : Nat} {ps : List PutG} (h : OwnR w base ao cap ps) (hn : ps.length = n) : RdP w ao n cap ps := by subst hn; exact h.rd

end Go.Proofs.Ytgeoeaadeemmcaa
