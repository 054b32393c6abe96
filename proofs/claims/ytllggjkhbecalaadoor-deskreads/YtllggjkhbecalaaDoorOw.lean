/- What comes in: wants and acts, by value and in slices. -/
import Derived.Test.YtllggjkhbecalaaDoorQm
import Derived.Deep.Slices
import Derived.Deep.Matrix
import Derived.ChangeSame
import Derived.ChangeSlices
import Derived.SizedLaws
import Derived.OpenShut
import Derived.RowKit3
namespace Go.Proofs.YtllggjkhbecalaaDoor
open Go.RowKit Go.ChangeShapes Go.WideShapes
set_option linter.unusedVariables false
set_option maxRecDepth 8000

theorem cells29 : Tryd.prog.cellsOf 43 = 4 := by kernel_rfl

section
variable {H : Type} {enc : TypeId × Value → H} {W : World}

/-- A slice of things of s cells each, if each of them can be read. -/
theorem rows_of {α : Type} {en : α → List Value} {s : Nat} (E : Enc en s) {t e : TypeId} (ht : Tryd.prog.underlying t = some (.slice e)) (hc : Tryd.prog.cellsOf e = s) (P : α → Prop)
    (dec : ∀ (fuel : Nat) (cs : List Value) (x : DataW H × List MemPlace), cs.length = s → DataW.trod enc Tryd.prog W 0 (fun _ => true) true fuel e cs = some x → ∃ g, cs = en g ∧ P g)
    {fuel : Nat} {cs : List Value} {x : DataW H × List MemPlace} (h : DataW.trod enc Tryd.prog W 0 (fun _ => true) true fuel t cs = some x) :
    ∃ (a : Option Addr) (len cap : Nat) (L : List α), cs = [.slice a len cap] ∧ RdR en W a cap L ∧ L.length = len ∧ ∀ g ∈ L, P g := by
  rcases Go.Deep.open_slice ht h with ⟨hcs, _⟩ | ⟨a, len, cap, m, n, D, Pl, hcs, _, hl, hm, hmm, hx, hel⟩
  · exact ⟨none, 0, 0, [], hcs, RdR.empty W, rfl, by simp⟩
  · simp only [if_true] at hmm
    have each : ∀ i, i < len → ∃ g : α, P g ∧ ∀ j, j < s → W.cell? (a.add (i * s + j)) = (en g)[j]? := by
      intro i hi
      obtain ⟨cs', h1, h2⟩ := hel i (by omega)
      rw [hc] at h1
      obtain ⟨_, hlen, hcell⟩ := World.cells?_some h1
      obtain ⟨g, rfl, hg⟩ := dec _ _ _ hlen h2
      refine ⟨g, hg, fun j hj => ?_⟩
      have e0 := hcell j (by omega)
      rw [Go.Deep.add_add] at e0
      exact e0
    have hne : ∀ i, i < len → Nonempty α := fun i hi => ⟨Classical.choose (each i hi)⟩
    by_cases hp : len = 0
    · subst hp
      exact ⟨some a, 0, cap, [], hcs, ⟨by simp, by omega, fun h => (by cases h), fun h => absurd rfl h⟩, rfl, by simp⟩
    have : Nonempty α := hne 0 (by omega)
    obtain ⟨f, hf⟩ : ∃ f : Nat → α, ∀ i, i < len → P (f i) ∧ ∀ j, j < s → W.cell? (a.add (i * s + j)) = (en (f i))[j]? := by
      refine ⟨fun r => if hrc : r < len then Classical.choose (each r hrc) else Classical.choice this, fun r hrc => ?_⟩
      simp only [hrc, dif_pos]
      exact Classical.choose_spec (each r hrc)
    refine ⟨some a, len, cap, (List.range len).map f, hcs, ⟨by simpa using hl, by omega, fun h => (by cases h), fun _ => ?_⟩, by simp, ?_⟩
    · obtain ⟨b, off, spot⟩ := a
      have hs0 : ∃ u, (en (f 0))[0]? = some u := ⟨_, List.getElem?_eq_getElem (by rw [E.len]; exact E.pos)⟩
      obtain ⟨u0, hu0⟩ := hs0
      have h0 := ((hf 0 (by omega)).2 0 E.pos).trans hu0
      have hspot : spot = none := by simpa [Addr.add] using World.cell?_spot h0
      subst hspot
      have hlt := World.block_lt_of_cell? W _ h0
      rw [Addr.add_lit] at hlt
      refine ⟨b, off, rfl, hlt, fun j u hj => ?_⟩
      have hjl := (List.getElem?_eq_some_iff.1 hj).1
      rw [cs_length E] at hjl
      simp only [List.length_map, List.length_range] at hjl
      have hsp := E.pos
      have hq : j / s < len := (Nat.div_lt_iff_lt_mul hsp).2 hjl
      have hr : j % s < s := Nat.mod_lt _ hsp
      have hdm : j / s * s + j % s = j := by rw [Nat.mul_comm]; exact Nat.div_add_mod j s
      have h1 := cs_get E ((List.range len).map f) (j / s) (by simpa using hq) (j % s) hr
      rw [hdm, hj] at h1
      have h2 := (hf (j / s) hq).2 (j % s) hr
      rw [hdm, Addr.add_lit] at h2
      rw [h2, h1]
      simp
    · intro g hg
      obtain ⟨i, hi, rfl⟩ := List.mem_map.1 hg
      exact (hf i (by simpa using hi)).1

theorem want_of {fuel : Nat} {cs : List Value} {x : DataW H × List MemPlace} (hlen : cs.length = 4) (h2 : DataW.trod enc Tryd.prog W 0 (fun _ => true) true fuel 43 cs = some x) : ∃ g : Wt, cs = wtC g ∧ g.ok := by
  obtain ⟨xs, k, hk, hxy, _, hxl, hf⟩ := DataW.trod_struct Tryd.underlying43 h2
  match xs, hxl, cs, hlen with
  | [y0, y1, y2, y3], _, [v0, v1, v2, v3], _ =>
    have g0 := hf 0 _ rfl
    have g1 := hf 1 _ rfl
    have g2 := hf 2 _ rfl
    have g3 := hf 3 _ rfl
    simp [cells3, cells4] at g0 g1 g2 g3
    obtain ⟨z0, hz0, _, w0⟩ := DataW.trod_int Tryd.underlying3 g0
    obtain ⟨z1, hz1, _, w1⟩ := DataW.trod_int Tryd.underlying3 g1
    obtain ⟨z2, hz2, _, w2⟩ := DataW.trod_int Tryd.underlying3 g2
    obtain ⟨z3, hz3, _⟩ := DataW.trod_bool Tryd.underlying4 g3
    simp only [List.cons.injEq, and_true] at hz0 hz1 hz2 hz3
    subst hz0 hz1 hz2 hz3
    exact ⟨⟨z0, z1, z2, z3⟩, rfl, wf64.1 w0, wf64.1 w1, wf64.1 w2⟩

def WantsAt (W : World) (ao : Option Addr) (A : List Wt) : Prop := (∃ c, RdR wtC W ao c A) ∧ ∀ x ∈ A, x.ok

theorem wants_of {fuel : Nat} {cs : List Value} {x : DataW H × List MemPlace} (h : DataW.trod enc Tryd.prog W 0 (fun _ => true) true fuel 38 cs = some x) (hw : ∀ n ∈ x.1.weights Tryd.prog 38, n ≤ reachBytes) :
    ∃ (a : Option Addr) (len cap : Nat) (A : List Wt), cs = [.slice a len cap] ∧ WantsAt W a A ∧ A.length = len ∧ True := by
  obtain ⟨a, len, cap, L, h1, h2, h3, h4⟩ := rows_of wtE Tryd.underlying38 cells29 Wt.ok (fun fuel cs x hl h => want_of hl h) h
  exact ⟨a, len, cap, L, h1, ⟨⟨cap, h2⟩, h4⟩, h3, trivial⟩

set_option maxRecDepth 100000 in
theorem open_want {r : Reach} {b0 : Nat} {v : Value} {d : DataW H} {p : List MemPlace} (hv : Value.okWide Tryd.prog W r b0 43 v) (h : DataW.Trod enc Tryd.prog W 0 (fun _ => true) true 43 v d p) : ∃ g : Wt, v = wtV g ∧ g.ok := by
  simp only [Value.okWide, Tryd.underlying43] at hv
  obtain ⟨cs, rfl, hsz, _⟩ := hv
  rw [cells29] at hsz
  obtain ⟨l⟩ := cs
  obtain ⟨fuel, hf⟩ := h
  obtain ⟨g, hg, hok⟩ := want_of (cs := l) (by simpa using hsz) (by simpa [Value.cells] using hf)
  exact ⟨g, by rw [hg]; rfl, hok⟩
end

end Go.Proofs.YtllggjkhbecalaaDoor
