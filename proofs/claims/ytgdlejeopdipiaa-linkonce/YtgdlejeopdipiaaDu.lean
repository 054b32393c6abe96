/- Two links side by side, and the array of the two pointers. No walk. -/
import Derived.Test.YtgdlejeopdipiaaRu
import Derived.Test.YtgdlejeopdipiaaOq
namespace Go.Proofs.Ytgdlejeopdipiaa
open Go.RowKit
set_option linter.unusedVariables false

/-- One end: where its list lies, how many bodies are under way, these, how many were sent and heard. -/
structure En where
  ao : Option Addr
  n : Nat
  cap : Nat
  L : List (List Nat)
  s : Nat
  h : Nat

abbrev En0 : En := ⟨none, 0, 0, [], 0, 0⟩
abbrev idI (P : PkG) (b : Bool) : LkI := ⟨P.cl, P.ep, P.bo, b⟩

structure Duo (w : World) (B ge g0 g1 : Nat) (P : PkG) (X Y : En) : Prop where
  e0 : w.cell? ⟨ge, 0, none⟩ = some (lp g0)
  e1 : w.cell? ⟨ge, 1, none⟩ = some (lp g1)
  et : ∃ cs fr, w.heap[ge]? = some (.cells cs 49 fr)
  k0 : Lk w B g0 X.ao X.n X.cap (fun _ => True) (idI P false) X.L X.s X.h
  k1 : Lk w B g1 Y.ao Y.n Y.cap (fun _ => True) (idI P true) Y.L Y.s Y.h
  ne : g0 ≠ g1
  ra : ∀ a b, X.ao = some a → Y.ao = some b → b.block ≠ a.block
  bg : B ≤ ge

section
variable {w w' : World} {B ge g0 g1 : Nat} {P : PkG} {X Y : En}
theorem Duo.kt (D : Duo w B ge g0 g1 P X Y) (hk : KT w w') : w'.heap[ge]? = w.heap[ge]? := by
  obtain ⟨cs, fr, h⟩ := D.et
  exact hk.block ge cs 49 fr h (by decide) (by decide)
theorem Duo.below (D : Duo w B ge g0 g1 P X Y) (hb : Below w.heap.size w w') : Duo w' B ge g0 g1 P X Y := by
  have hg := D.kt (KT.of_below hb)
  exact ⟨(World.cell?_of_block (w := w) (w' := w') (a := ⟨ge, 0, none⟩) hg).trans D.e0, (World.cell?_of_block (w := w) (w' := w') (a := ⟨ge, 1, none⟩) hg).trans D.e1, by rw [hg]; exact D.et, D.k0.below hb, D.k1.below hb, D.ne, D.ra, D.bg⟩
theorem Duo.step0 (D : Duo w B ge g0 g1 P X Y) {Z : En} (K : Lk w' B g0 Z.ao Z.n Z.cap (fun _ => True) (idI P false) Z.L Z.s Z.h) (hO : Off2 g0 X.ao w w') (hN : Nw w X.ao Z.ao) : Duo w' B ge g0 g1 P Z Y := by
  have hg := D.kt (D.k0.ktOff hO)
  refine ⟨(World.cell?_of_block (w := w) (w' := w') (a := ⟨ge, 0, none⟩) hg).trans D.e0, (World.cell?_of_block (w := w) (w' := w') (a := ⟨ge, 1, none⟩) hg).trans D.e1, by rw [hg]; exact D.et, K, D.k1.other D.k0 hO (fun e => D.ne e.symm) (fun a b ha hb => fun e => D.ra b a hb ha e.symm), D.ne, ?_, D.bg⟩
  intro a b ha hb
  rcases hN a ha with ⟨c, hc, e⟩ | h
  · rw [← e]; exact D.ra c b hc hb
  · have := (D.k1.ge b hb).2; omega
theorem Duo.step1 (D : Duo w B ge g0 g1 P X Y) {Z : En} (K : Lk w' B g1 Z.ao Z.n Z.cap (fun _ => True) (idI P true) Z.L Z.s Z.h) (hO : Off2 g1 Y.ao w w') (hN : Nw w Y.ao Z.ao) : Duo w' B ge g0 g1 P X Z := by
  have hg := D.kt (D.k1.ktOff hO)
  refine ⟨(World.cell?_of_block (w := w) (w' := w') (a := ⟨ge, 0, none⟩) hg).trans D.e0, (World.cell?_of_block (w := w) (w' := w') (a := ⟨ge, 1, none⟩) hg).trans D.e1, by rw [hg]; exact D.et, D.k0.other D.k1 hO D.ne (fun a b ha hb => D.ra a b ha hb), K, D.ne, ?_, D.bg⟩
  intro a b ha hb
  rcases hN b hb with ⟨c, hc, e⟩ | h
  · rw [← e]; exact D.ra a c ha hc
  · have := (D.k0.ge a ha).2; omega
end

/-- Two new links, either one ahead, and the array behind them or ahead of them. -/
theorem Duo.mk' {w : World} {B ge g0 g1 : Nat} {P : PkG} (h0 : Lk w B g0 none 0 0 (fun _ => True) (idI P false) [] 0 0) (h1 : Lk w B g1 none 0 0 (fun _ => True) (idI P true) [] 0 0) (hne : g0 ≠ g1) (hb : B ≤ ge) (fr : Nat × Nat) (hg : w.heap[ge]? = some (.cells #[lp g0, lp g1] 49 fr)) : Duo w B ge g0 g1 P En0 En0 :=
  ⟨by rw [cell_of_row _ _ _ _ _ _ hg]; rfl, by rw [cell_of_row _ _ _ _ _ _ hg]; rfl, ⟨_, _, hg⟩, h0, h1, hne, (fun a b h => by cases h), hb⟩

end Go.Proofs.Ytgdlejeopdipiaa
