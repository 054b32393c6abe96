/- What comes in: a slice of steps (a number, a number, bytes); a slice of slices of bytes. -/
import Derived.Test.YtgdlejeopdipiaaOp
namespace Go.Proofs.Ytgdlejeopdipiaa
open Go.RowKit Go.ChangeShapes Go.WideShapes
set_option linter.unusedVariables false

/-- A step. -/
structure ActG where
  k : Int
  n : Int
  ao : Option Addr
  m : Nat
  cap : Nat
  bs : List Nat

/-- The steps lie at the slice. -/
structure ActsAt (w : World) (ao : Option Addr) (A : List ActG) : Prop where
  cell : A ≠ [] → ∃ b off, ao = some ⟨b, off, none⟩ ∧ b < w.heap.size ∧ ∀ t (h : t < A.length), w.cell? ⟨b, off + t * 3, none⟩ = some (.int .i64 A[t].k) ∧ w.cell? ⟨b, off + t * 3 + 1, none⟩ = some (.int .i64 A[t].n) ∧ w.cell? ⟨b, off + t * 3 + 2, none⟩ = some (.slice A[t].ao A[t].m A[t].cap)
  rd : ∀ a ∈ A, Rd8 w a.ao a.m a.cap a.bs
  sz : ∀ a ∈ A, a.m ≤ 140737488351232

theorem ActsAt.below {w w' : World} {ao : Option Addr} {A : List ActG} (h : ActsAt w ao A) (hb : Below w.heap.size w w') : ActsAt w' ao A := by
  refine ⟨fun hA => ?_, fun a ha => (h.rd a ha).below hb, h.sz⟩
  obtain ⟨b, off, e, hlt, hc⟩ := h.cell hA
  refine ⟨b, off, e, Nat.lt_of_lt_of_le hlt hb.size, fun t ht => ?_⟩
  obtain ⟨h1, h2, h3⟩ := hc t ht
  exact ⟨(hb.cell (p := ⟨b, off + t * 3, none⟩) hlt).trans h1, (hb.cell (p := ⟨b, off + t * 3 + 1, none⟩) hlt).trans h2, (hb.cell (p := ⟨b, off + t * 3 + 2, none⟩) hlt).trans h3⟩

theorem acts_of {H : Type} {enc : TypeId × Value → H} {W : World} {fuel : Nat} {cs : List Value} {x : DataW H × List MemPlace} (h : DataW.trod enc Try.prog W 0 (fun _ => true) true fuel 48 cs = some x) (hw : ∀ n ∈ x.1.weights Try.prog 48, n ≤ reachBytes) :
    ∃ (a : Option Addr) (len cap : Nat) (A : List ActG), cs = [.slice a len cap] ∧ ActsAt W a A ∧ A.length = len ∧ len ≤ maxLen := by
  rcases Go.Deep.open_slice Try.underlying48 h with ⟨hcs, _⟩ | ⟨a, len, cap, m, n, D, Pl, hcs, _, hl, hm, hmm, hx, hel⟩
  · exact ⟨none, 0, 0, [], hcs, ⟨fun h => absurd rfl h, by simp, by simp⟩, rfl, by unfold maxLen; omega⟩
  · simp only [if_true] at hmm
    have each : ∀ i, i < len → ∃ g : ActG, W.cell? (a.add (i * 3)) = some (.int .i64 g.k) ∧ W.cell? (a.add (i * 3 + 1)) = some (.int .i64 g.n) ∧ W.cell? (a.add (i * 3 + 2)) = some (.slice g.ao g.m g.cap) ∧ Rd8 W g.ao g.m g.cap g.bs ∧ g.m ≤ 140737488351232 := by
      intro i hi
      obtain ⟨cs', h1, h2⟩ := hel i (by omega)
      have hwi : ∀ k ∈ (D i).weights Try.prog 53, k ≤ reachBytes := by
        intro k hk
        refine hw k ?_
        rw [hx]
        simp only [DataW.weights, Try.underlying48, List.mem_cons, List.mem_append]
        exact .inr (.inl (by rw [weights_flat]; exact List.mem_flatMap.2 ⟨D i, List.mem_map.2 ⟨i, List.mem_range.2 hi, rfl⟩, hk⟩))
      rw [cells53] at h1
      obtain ⟨_, hlen, hcell⟩ := World.cells?_some h1
      obtain ⟨xs, k, hk, hxy, _, hxl, hf⟩ := DataW.trod_struct Try.underlying53 h2
      match xs, hxl, cs', hlen with
      | [y0, y1, y2], _, [v0, v1, v2], _ =>
        have g0 := hf 0 _ rfl
        have g1 := hf 1 _ rfl
        have g2 := hf 2 _ rfl
        simp [cells3, cells27] at g0 g1 g2
        have e0 := hcell 0 (by omega)
        have e1 := hcell 1 (by omega)
        have e2 := hcell 2 (by omega)
        rw [Go.Deep.add_add] at e0 e1 e2
        obtain ⟨z0, hz0, _, _⟩ := DataW.trod_int Try.underlying3 g0
        obtain ⟨z1, hz1, _, _⟩ := DataW.trod_int Try.underlying3 g1
        have hd : D i = .agg [y0.1, y1.1, y2.1] := by have := (Prod.mk.inj hxy).1; simpa using this
        obtain ⟨ao, mm, cc, bs, hz2, hr, hs⟩ := bytes_of g2 (by
          intro k hk
          refine hwi k ?_
          rw [hd]
          simp only [DataW.weights, Try.underlying53]
          simp [DataW.weightsEach, hk])
        simp only [List.cons.injEq, and_true] at hz0 hz1 hz2
        subst hz0 hz1 hz2
        exact ⟨⟨z0, z1, ao, mm, cc, bs⟩, by simpa using e0, by simpa using e1, by simpa using e2, hr, hs⟩
    obtain ⟨f, hf⟩ : ∃ f : Nat → ActG, ∀ i, i < len → W.cell? (a.add (i * 3)) = some (.int .i64 (f i).k) ∧ W.cell? (a.add (i * 3 + 1)) = some (.int .i64 (f i).n) ∧ W.cell? (a.add (i * 3 + 2)) = some (.slice (f i).ao (f i).m (f i).cap) ∧ Rd8 W (f i).ao (f i).m (f i).cap (f i).bs ∧ (f i).m ≤ 140737488351232 := by
      refine ⟨fun r => if hrc : r < len then Classical.choose (each r hrc) else ⟨0, 0, none, 0, 0, []⟩, fun r hrc => ?_⟩
      simp only [hrc, dif_pos]
      exact Classical.choose_spec (each r hrc)
    refine ⟨some a, len, cap, (List.range len).map f, hcs, ⟨fun hA => ?_, ?_, ?_⟩, by simp, by omega⟩
    · have hp : 0 < len := by
        rcases Nat.eq_zero_or_pos len with h | h
        · subst h; exact absurd (by simp) hA
        · exact h
      obtain ⟨b, off, spot⟩ := a
      have h0 := (hf 0 hp).1
      have hspot : spot = none := by simpa [Addr.add] using World.cell?_spot h0
      subst hspot
      refine ⟨b, off, rfl, World.block_lt_of_cell? W _ h0, fun t ht => ?_⟩
      simp only [List.length_map, List.length_range] at ht
      obtain ⟨h1, h2, h3, _⟩ := hf t ht
      rw [Addr.add_lit] at h1 h2 h3
      rw [← Nat.add_assoc] at h2 h3
      simp only [List.getElem_map, List.getElem_range]
      exact ⟨h1, h2, h3⟩
    · intro g hg
      obtain ⟨r, hr1, rfl⟩ := List.mem_map.1 hg
      exact (hf r (List.mem_range.1 hr1)).2.2.2.1
    · intro g hg
      obtain ⟨r, hr1, rfl⟩ := List.mem_map.1 hg
      exact (hf r (List.mem_range.1 hr1)).2.2.2.2

/-- A slice of slices of bytes. -/
theorem parts_sized {H : Type} {enc : TypeId × Value → H} {W : World} {fuel : Nat} {cs : List Value} {x : DataW H × List MemPlace} (h : DataW.trod enc Try.prog W 0 (fun _ => true) true fuel 32 cs = some x) (hw : ∀ n ∈ x.1.weights Try.prog 32, n ≤ reachBytes) :
    ∃ (a : Option Addr) (len cap : Nat) (ps : List Pt), cs = [.slice a len cap] ∧ RdS W a cap (ps.map Pt.val) ∧ ps.length = len ∧ ∀ p ∈ ps, Rd8 W p.ao p.n p.cap p.bs ∧ p.n ≤ 140737488351232 := by
  rcases Go.Deep.open_slice Try.underlying32 h with ⟨hcs, _⟩ | ⟨a, len, cap, m, n, D, Pl, hcs, _, hl, hm, hmm, hx, hel⟩
  · exact ⟨none, 0, 0, [], hcs, RdS.empty W, rfl, by simp⟩
  · simp only [if_true] at hmm
    have each : ∀ i, i < len → ∃ p : Pt, W.cell? (a.add i) = some p.val ∧ Rd8 W p.ao p.n p.cap p.bs ∧ p.n ≤ 140737488351232 := by
      intro i hi
      obtain ⟨cs', h1, h2⟩ := hel i (by omega)
      rw [cells27] at h1
      obtain ⟨_, hlen, hcell⟩ := World.cells?_some h1
      obtain ⟨ao, mm, cc, bs, hz, hr, hs⟩ := bytes_of h2 (by
        intro k hk
        refine hw k ?_
        rw [hx]
        simp only [DataW.weights, Try.underlying32, List.mem_cons, List.mem_append]
        exact .inr (.inl (by rw [weights_flat]; exact List.mem_flatMap.2 ⟨D i, List.mem_map.2 ⟨i, List.mem_range.2 hi, rfl⟩, hk⟩)))
      subst hz
      have e0 := hcell 0 (by omega)
      rw [Go.Deep.add_add] at e0
      exact ⟨⟨ao, mm, cc, bs⟩, by simpa [Pt.val] using e0, hr, hs⟩
    obtain ⟨f, hf⟩ : ∃ f : Nat → Pt, ∀ i, i < len → W.cell? (a.add i) = some (f i).val ∧ Rd8 W (f i).ao (f i).n (f i).cap (f i).bs ∧ (f i).n ≤ 140737488351232 := by
      refine ⟨fun r => if hrc : r < len then Classical.choose (each r hrc) else ⟨none, 0, 0, []⟩, fun r hrc => ?_⟩
      simp only [hrc, dif_pos]
      exact Classical.choose_spec (each r hrc)
    refine ⟨some a, len, cap, (List.range len).map f, hcs, ⟨by simp; exact hl, hm, fun h => (by cases h), fun hx => ?_⟩, by simp, ?_⟩
    · have hp : 0 < len := by
        rcases Nat.eq_zero_or_pos len with h | h
        · subst h; exact absurd (by simp) hx
        · exact h
      obtain ⟨b, off, spot⟩ := a
      have h0 := (hf 0 hp).1
      have hspot : spot = none := by simpa [Addr.add] using World.cell?_spot h0
      subst hspot
      refine ⟨b, off, rfl, World.block_lt_of_cell? W _ h0, fun t ht => ?_⟩
      simp only [List.length_map, List.length_range] at ht
      have := (hf t ht).1
      rw [Addr.add_lit] at this
      rw [this]
      simp
    · intro p hp
      obtain ⟨r, hr1, rfl⟩ := List.mem_map.1 hp
      exact (hf r (List.mem_range.1 hr1)).2

end Go.Proofs.Ytgdlejeopdipiaa
