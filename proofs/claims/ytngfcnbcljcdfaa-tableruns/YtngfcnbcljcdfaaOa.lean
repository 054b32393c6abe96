/- What comes in: a slice of acts of five numbers; an act by value. -/
import Derived.Test.YtngfcnbcljcdfaaT0
import Derived.Deep.Slices
import Derived.Deep.Matrix
import Derived.ChangeSame
import Derived.ChangeSlices
import Derived.SizedLaws
import Derived.OpenShut
import Derived.RowKit3
namespace Go.Proofs.Ytngfcnbcljcdfaa
open Go.RowKit Go.ChangeShapes Go.WideShapes
set_option linter.unusedVariables false

theorem cells3 : Try.prog.cellsOf 3 = 1 := by kernel_rfl
theorem cells32 : Try.prog.cellsOf 32 = 5 := by kernel_rfl

/-- An act. -/
structure ActG where
  k : Int
  c : Int
  p : Int
  a : Int
  b : Int

/-- The acts lie at the slice. -/
def ActsAt (w : World) (ao : Option Addr) (A : List ActG) : Prop :=
  A ≠ [] → ∃ b off, ao = some ⟨b, off, none⟩ ∧ b < w.heap.size ∧ ∀ t (h : t < A.length), w.cell? ⟨b, off + t * 5, none⟩ = some (.int .i64 A[t].k) ∧ w.cell? ⟨b, off + t * 5 + 1, none⟩ = some (.int .i64 A[t].c) ∧ w.cell? ⟨b, off + t * 5 + 2, none⟩ = some (.int .i64 A[t].p) ∧ w.cell? ⟨b, off + t * 5 + 3, none⟩ = some (.int .i64 A[t].a) ∧ w.cell? ⟨b, off + t * 5 + 4, none⟩ = some (.int .i64 A[t].b)

theorem ActsAt.below {w w' : World} {ao : Option Addr} {A : List ActG} (h : ActsAt w ao A) (hb : Below w.heap.size w w') : ActsAt w' ao A := by
  intro hA
  obtain ⟨b, off, e, hlt, hc⟩ := h hA
  refine ⟨b, off, e, Nat.lt_of_lt_of_le hlt hb.size, fun t ht => ?_⟩
  obtain ⟨h1, h2, h3, h4, h5⟩ := hc t ht
  exact ⟨(hb.cell (p := ⟨b, off + t * 5, none⟩) hlt).trans h1, (hb.cell (p := ⟨b, off + t * 5 + 1, none⟩) hlt).trans h2, (hb.cell (p := ⟨b, off + t * 5 + 2, none⟩) hlt).trans h3, (hb.cell (p := ⟨b, off + t * 5 + 3, none⟩) hlt).trans h4, (hb.cell (p := ⟨b, off + t * 5 + 4, none⟩) hlt).trans h5⟩

theorem act_of {H : Type} {enc : TypeId × Value → H} {W : World} {fuel : Nat} {cs : List Value} {x : DataW H × List MemPlace} (hlen : cs.length = 5) (h2 : DataW.trod enc Try.prog W 0 (fun _ => true) true fuel 32 cs = some x) :
    ∃ g : ActG, cs = [.int .i64 g.k, .int .i64 g.c, .int .i64 g.p, .int .i64 g.a, .int .i64 g.b] := by
  obtain ⟨xs, k, hk, hxy, _, hxl, hf⟩ := DataW.trod_struct Try.underlying32 h2
  match xs, hxl, cs, hlen with
  | [y0, y1, y2, y3, y4], _, [v0, v1, v2, v3, v4], _ =>
    have g0 := hf 0 _ rfl
    have g1 := hf 1 _ rfl
    have g2 := hf 2 _ rfl
    have g3 := hf 3 _ rfl
    have g4 := hf 4 _ rfl
    simp [cells3] at g0 g1 g2 g3 g4
    obtain ⟨z0, hz0, _, _⟩ := DataW.trod_int Try.underlying3 g0
    obtain ⟨z1, hz1, _, _⟩ := DataW.trod_int Try.underlying3 g1
    obtain ⟨z2, hz2, _, _⟩ := DataW.trod_int Try.underlying3 g2
    obtain ⟨z3, hz3, _, _⟩ := DataW.trod_int Try.underlying3 g3
    obtain ⟨z4, hz4, _, _⟩ := DataW.trod_int Try.underlying3 g4
    simp only [List.cons.injEq, and_true] at hz0 hz1 hz2 hz3 hz4
    subst hz0 hz1 hz2 hz3 hz4
    exact ⟨⟨z0, z1, z2, z3, z4⟩, rfl⟩

theorem acts_of {H : Type} {enc : TypeId × Value → H} {W : World} {fuel : Nat} {cs : List Value} {x : DataW H × List MemPlace} (h : DataW.trod enc Try.prog W 0 (fun _ => true) true fuel 30 cs = some x) (hw : ∀ n ∈ x.1.weights Try.prog 30, n ≤ reachBytes) :
    ∃ (a : Option Addr) (len cap : Nat) (A : List ActG), cs = [.slice a len cap] ∧ ActsAt W a A ∧ A.length = len ∧ len ≤ maxLen := by
  rcases Go.Deep.open_slice Try.underlying30 h with ⟨hcs, _⟩ | ⟨a, len, cap, m, n, D, Pl, hcs, _, hl, hm, hmm, hx, hel⟩
  · exact ⟨none, 0, 0, [], hcs, fun h => absurd rfl h, rfl, by unfold maxLen; omega⟩
  · simp only [if_true] at hmm
    have each : ∀ i, i < len → ∃ g : ActG, W.cell? (a.add (i * 5)) = some (.int .i64 g.k) ∧ W.cell? (a.add (i * 5 + 1)) = some (.int .i64 g.c) ∧ W.cell? (a.add (i * 5 + 2)) = some (.int .i64 g.p) ∧ W.cell? (a.add (i * 5 + 3)) = some (.int .i64 g.a) ∧ W.cell? (a.add (i * 5 + 4)) = some (.int .i64 g.b) := by
      intro i hi
      obtain ⟨cs', h1, h2⟩ := hel i (by omega)
      rw [cells32] at h1
      obtain ⟨_, hlen, hcell⟩ := World.cells?_some h1
      obtain ⟨g, rfl⟩ := act_of hlen h2
      have e0 := hcell 0 (by omega)
      have e1 := hcell 1 (by omega)
      have e2 := hcell 2 (by omega)
      have e3 := hcell 3 (by omega)
      have e4 := hcell 4 (by omega)
      rw [Go.Deep.add_add] at e0 e1 e2 e3 e4
      exact ⟨g, by simpa using e0, by simpa using e1, by simpa using e2, by simpa using e3, by simpa using e4⟩
    obtain ⟨f, hf⟩ : ∃ f : Nat → ActG, ∀ i, i < len → W.cell? (a.add (i * 5)) = some (.int .i64 (f i).k) ∧ W.cell? (a.add (i * 5 + 1)) = some (.int .i64 (f i).c) ∧ W.cell? (a.add (i * 5 + 2)) = some (.int .i64 (f i).p) ∧ W.cell? (a.add (i * 5 + 3)) = some (.int .i64 (f i).a) ∧ W.cell? (a.add (i * 5 + 4)) = some (.int .i64 (f i).b) := by
      refine ⟨fun r => if hrc : r < len then Classical.choose (each r hrc) else ⟨0, 0, 0, 0, 0⟩, fun r hrc => ?_⟩
      simp only [hrc, dif_pos]
      exact Classical.choose_spec (each r hrc)
    refine ⟨some a, len, cap, (List.range len).map f, hcs, fun hA => ?_, by simp, by omega⟩
    have hp : 0 < len := by
      rcases Nat.eq_zero_or_pos len with h | h
      · subst h; exact absurd (by simp) hA
      · exact h
    obtain ⟨b, off, spot⟩ := a
    have h0 := (hf 0 hp).1
    have hspot : spot = none := by simpa [Addr.add] using World.cell?_spot h0
    subst hspot
    refine ⟨b, off, rfl, World.block_lt_of_cell? W _ h0, fun t ht => ?_⟩
    simp only [List.length_map, List.length_range] at ht
    obtain ⟨h1, h2, h3, h4, h5⟩ := hf t ht
    rw [Addr.add_lit] at h1 h2 h3 h4 h5
    rw [← Nat.add_assoc] at h2 h3 h4 h5
    simp only [List.getElem_map, List.getElem_range]
    exact ⟨h1, h2, h3, h4, h5⟩

end Go.Proofs.Ytngfcnbcljcdfaa
