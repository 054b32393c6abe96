/- What comes in: a slice of acts; a slice of slices of bytes. -/
import Derived.Test.YtfllkhimlambhaaNb
import Derived.Test.YtfllkhimlambhaaCr7
import Derived.Deep.Slices
import Derived.Deep.Matrix
import Derived.ChangeSame
import Derived.ChangeSlices
import Derived.SizedLaws
import Derived.OpenShut
import Derived.RowKit3
namespace Go.Proofs.Ytfllkhimlambhaa
open Go.RowKit Go.ChangeShapes Go.WideShapes
set_option linter.unusedVariables false

theorem cells3 : Try.prog.cellsOf 3 = 1 := by kernel_rfl
theorem cells5 : Try.prog.cellsOf 5 = 1 := by kernel_rfl
theorem cells32 : Try.prog.cellsOf 32 = 1 := by kernel_rfl
theorem cells33 : Try.prog.cellsOf 33 = 1 := by kernel_rfl
theorem cells35 : Try.prog.cellsOf 35 = 6 := by kernel_rfl
theorem bytesOf5 : Try.prog.bytesOf 5 = 1 := by kernel_rfl

theorem weights_flat {H : Type} (P : Program) (e : TypeId) (l : List (DataW H)) : DataW.weightsAll P e l = l.flatMap fun d => d.weights P e := by
  induction l with
  | nil => rfl
  | cons d r ih => rw [DataW.weightsAll, ih, List.flatMap_cons]

theorem bytes_of {H : Type} {enc : TypeId × Value → H} {W : World} {fuel : Nat} {cs : List Value} {x : DataW H × List MemPlace} (h : DataW.trod enc Try.prog W 0 (fun _ => true) true fuel 33 cs = some x) (hw : ∀ n ∈ x.1.weights Try.prog 33, n ≤ reachBytes) :
    ∃ ao m cap bs, cs = [.slice ao m cap] ∧ Rd8 W ao m cap bs ∧ m ≤ 140737488351232 := by
  rcases open_ints Try.underlying33 Try.underlying5 cells5 h with ⟨hcs, _⟩ | ⟨y, l, c, zs, hcs, _, hl, hm, hz, hx, hcell, hwz⟩
  · exact ⟨none, 0, 0, [], hcs, Rd8.empty W, by omega⟩
  · have hz2 : zs.length = c := by simpa using hz
    obtain ⟨bs, hbs⟩ := rd8_of (n := l) (rdI_of_row hl hm hz2 hcell) (by simp; omega) (fun z h => hwz z (List.mem_of_mem_take h))
    refine ⟨some y, l, c, bs, hcs, hbs, ?_⟩
    subst hx
    have := hw (((lits (H := H) .u8 (zs.take l)).length + (lits (H := H) .u8 (zs.drop l)).length) * Try.prog.bytesOf 5) (by simp [DataW.weights, Try.underlying33])
    rw [bytesOf5] at this
    simp only [lits, List.length_map, List.length_take, List.length_drop, reachBytes] at this
    omega

/-- An act: its kind, lane, place, the bit's number, the mask, the frame's bytes. -/
structure ActG where
  k : Int
  l : Int
  n : Int
  a : Int
  m : Nat
  ao : Option Addr
  len : Nat
  cap : Nat
  bs : List Nat

/-- What is told of an act. -/
structure ActOk (w : World) (x : ActG) : Prop where
  rd : Rd8 w x.ao x.len x.cap x.bs
  sz : x.len ≤ 140737488351232
  m16 : x.m < 65536
  alo : -9223372036854775808 ≤ x.a
  ahi : x.a ≤ 9223372036854775807

/-- The acts lie at the slice. -/
structure ActsAt (w : World) (ao : Option Addr) (A : List ActG) : Prop where
  cell : A ≠ [] → ∃ b off, ao = some ⟨b, off, none⟩ ∧ b < w.heap.size ∧ ∀ t (h : t < A.length), w.cell? ⟨b, off + t * 6, none⟩ = some (.int .i64 A[t].k) ∧ w.cell? ⟨b, off + t * 6 + 1, none⟩ = some (.int .i64 A[t].l) ∧ w.cell? ⟨b, off + t * 6 + 2, none⟩ = some (.int .i64 A[t].n) ∧ w.cell? ⟨b, off + t * 6 + 3, none⟩ = some (.int .i64 A[t].a) ∧ w.cell? ⟨b, off + t * 6 + 4, none⟩ = some (.int .u16 (A[t].m : Int)) ∧ w.cell? ⟨b, off + t * 6 + 5, none⟩ = some (.slice A[t].ao A[t].len A[t].cap)
  ok : ∀ a ∈ A, ActOk w a

theorem ActOk.below {w w' : World} {x : ActG} (h : ActOk w x) (hb : Below w.heap.size w w') : ActOk w' x := ⟨h.rd.below hb, h.sz, h.m16, h.alo, h.ahi⟩
theorem ActsAt.below {w w' : World} {ao : Option Addr} {A : List ActG} (h : ActsAt w ao A) (hb : Below w.heap.size w w') : ActsAt w' ao A := by
  refine ⟨fun hA => ?_, fun a ha => (h.ok a ha).below hb⟩
  obtain ⟨b, off, e, hlt, hc⟩ := h.cell hA
  refine ⟨b, off, e, Nat.lt_of_lt_of_le hlt hb.size, fun t ht => ?_⟩
  obtain ⟨h1, h2, h3, h4, h5, h6⟩ := hc t ht
  exact ⟨(hb.cell (p := ⟨b, off + t * 6, none⟩) hlt).trans h1, (hb.cell (p := ⟨b, off + t * 6 + 1, none⟩) hlt).trans h2, (hb.cell (p := ⟨b, off + t * 6 + 2, none⟩) hlt).trans h3, (hb.cell (p := ⟨b, off + t * 6 + 3, none⟩) hlt).trans h4, (hb.cell (p := ⟨b, off + t * 6 + 4, none⟩) hlt).trans h5, (hb.cell (p := ⟨b, off + t * 6 + 5, none⟩) hlt).trans h6⟩

theorem acts_of {H : Type} {enc : TypeId × Value → H} {W : World} {fuel : Nat} {cs : List Value} {x : DataW H × List MemPlace} (h : DataW.trod enc Try.prog W 0 (fun _ => true) true fuel 28 cs = some x) (hw : ∀ n ∈ x.1.weights Try.prog 28, n ≤ reachBytes) :
    ∃ (a : Option Addr) (len cap : Nat) (A : List ActG), cs = [.slice a len cap] ∧ ActsAt W a A ∧ A.length = len ∧ len ≤ maxLen := by
  rcases Go.Deep.open_slice Try.underlying28 h with ⟨hcs, _⟩ | ⟨a, len, cap, m, n, D, Pl, hcs, _, hl, hm, hmm, hx, hel⟩
  · exact ⟨none, 0, 0, [], hcs, ⟨fun h => absurd rfl h, by simp⟩, rfl, by unfold maxLen; omega⟩
  · simp only [if_true] at hmm
    have each : ∀ i, i < len → ∃ g : ActG, (W.cell? (a.add (i * 6)) = some (.int .i64 g.k) ∧ W.cell? (a.add (i * 6 + 1)) = some (.int .i64 g.l) ∧ W.cell? (a.add (i * 6 + 2)) = some (.int .i64 g.n) ∧ W.cell? (a.add (i * 6 + 3)) = some (.int .i64 g.a) ∧ W.cell? (a.add (i * 6 + 4)) = some (.int .u16 (g.m : Int)) ∧ W.cell? (a.add (i * 6 + 5)) = some (.slice g.ao g.len g.cap)) ∧ ActOk W g := by
      intro i hi
      obtain ⟨cs', h1, h2⟩ := hel i (by omega)
      have hwi : ∀ k ∈ (D i).weights Try.prog 35, k ≤ reachBytes := by
        intro k hk
        refine hw k ?_
        rw [hx]
        simp only [DataW.weights, Try.underlying28, List.mem_cons, List.mem_append]
        exact .inr (.inl (by rw [weights_flat]; exact List.mem_flatMap.2 ⟨D i, List.mem_map.2 ⟨i, List.mem_range.2 hi, rfl⟩, hk⟩))
      rw [cells35] at h1
      obtain ⟨_, hlen, hcell⟩ := World.cells?_some h1
      obtain ⟨xs, k, hk, hxy, _, hxl, hf⟩ := DataW.trod_struct Try.underlying35 h2
      match xs, hxl, cs', hlen with
      | [y0, y1, y2, y3, y4, y5], _, [v0, v1, v2, v3, v4, v5], _ =>
        have g0 := hf 0 _ rfl
        have g1 := hf 1 _ rfl
        have g2 := hf 2 _ rfl
        have g3 := hf 3 _ rfl
        have g4 := hf 4 _ rfl
        have g5 := hf 5 _ rfl
        simp [cells3, cells32, cells33] at g0 g1 g2 g3 g4 g5
        have e0 := hcell 0 (by omega)
        have e1 := hcell 1 (by omega)
        have e2 := hcell 2 (by omega)
        have e3 := hcell 3 (by omega)
        have e4 := hcell 4 (by omega)
        have e5 := hcell 5 (by omega)
        rw [Go.Deep.add_add] at e0 e1 e2 e3 e4 e5
        obtain ⟨z0, hz0, _, _⟩ := DataW.trod_int Try.underlying3 g0
        obtain ⟨z1, hz1, _, _⟩ := DataW.trod_int Try.underlying3 g1
        obtain ⟨z2, hz2, _, _⟩ := DataW.trod_int Try.underlying3 g2
        obtain ⟨z3, hz3, _, w3⟩ := DataW.trod_int Try.underlying3 g3
        obtain ⟨z4', hz4, _, w4⟩ := DataW.trod_int Try.underlying32 g4
        obtain ⟨z4, rfl, hm16⟩ := u16_of w4
        obtain ⟨lo3, hi3⟩ := i64_of w3
        have hd : D i = .agg [y0.1, y1.1, y2.1, y3.1, y4.1, y5.1] := by have := (Prod.mk.inj hxy).1; simpa using this
        obtain ⟨ao, mm, cc, bs, hz5, hr, hs⟩ := bytes_of g5 (by
          intro k hk
          refine hwi k ?_
          rw [hd]
          simp only [DataW.weights, Try.underlying35]
          simp [DataW.weightsEach, hk])
        simp only [List.cons.injEq, and_true] at hz0 hz1 hz2 hz3 hz4 hz5
        subst hz0 hz1 hz2 hz3 hz4 hz5
        exact ⟨⟨z0, z1, z2, z3, z4, ao, mm, cc, bs⟩, ⟨by simpa using e0, by simpa using e1, by simpa using e2, by simpa using e3, by simpa using e4, by simpa using e5⟩, ⟨hr, hs, hm16, lo3, hi3⟩⟩
    obtain ⟨f, hf⟩ : ∃ f : Nat → ActG, ∀ i, i < len → (W.cell? (a.add (i * 6)) = some (.int .i64 (f i).k) ∧ W.cell? (a.add (i * 6 + 1)) = some (.int .i64 (f i).l) ∧ W.cell? (a.add (i * 6 + 2)) = some (.int .i64 (f i).n) ∧ W.cell? (a.add (i * 6 + 3)) = some (.int .i64 (f i).a) ∧ W.cell? (a.add (i * 6 + 4)) = some (.int .u16 ((f i).m : Int)) ∧ W.cell? (a.add (i * 6 + 5)) = some (.slice (f i).ao (f i).len (f i).cap)) ∧ ActOk W (f i) := by
      refine ⟨fun r => if hrc : r < len then Classical.choose (each r hrc) else ⟨0, 0, 0, 0, 0, none, 0, 0, []⟩, fun r hrc => ?_⟩
      simp only [hrc, dif_pos]
      exact Classical.choose_spec (each r hrc)
    refine ⟨some a, len, cap, (List.range len).map f, hcs, ⟨fun hA => ?_, ?_⟩, by simp, by omega⟩
    · have hp : 0 < len := by
        rcases Nat.eq_zero_or_pos len with h | h
        · subst h; exact absurd (by simp) hA
        · exact h
      obtain ⟨b, off, spot⟩ := a
      have h0 := (hf 0 hp).1.1
      have hspot : spot = none := by simpa [Addr.add] using World.cell?_spot h0
      subst hspot
      refine ⟨b, off, rfl, World.block_lt_of_cell? W _ h0, fun t ht => ?_⟩
      simp only [List.length_map, List.length_range] at ht
      obtain ⟨h1, h2, h3, h4, h5, h6⟩ := (hf t ht).1
      rw [Addr.add_lit] at h1 h2 h3 h4 h5 h6
      rw [← Nat.add_assoc] at h2 h3 h4 h5 h6
      simp only [List.getElem_map, List.getElem_range]
      exact ⟨h1, h2, h3, h4, h5, h6⟩
    · intro g hg
      obtain ⟨r, hr1, rfl⟩ := List.mem_map.1 hg
      exact (hf r (List.mem_range.1 hr1)).2

/-- A slice of slices of bytes. -/
theorem parts_sized {H : Type} {enc : TypeId × Value → H} {W : World} {fuel : Nat} {cs : List Value} {x : DataW H × List MemPlace} (h : DataW.trod enc Try.prog W 0 (fun _ => true) true fuel 49 cs = some x) (hw : ∀ n ∈ x.1.weights Try.prog 49, n ≤ reachBytes) :
    ∃ (a : Option Addr) (len cap : Nat) (ps : List Pt), cs = [.slice a len cap] ∧ RdS W a cap (ps.map Pt.val) ∧ ps.length = len ∧ ∀ p ∈ ps, Rd8 W p.ao p.n p.cap p.bs ∧ p.n ≤ 140737488351232 := by
  rcases Go.Deep.open_slice Try.underlying49 h with ⟨hcs, _⟩ | ⟨a, len, cap, m, n, D, Pl, hcs, _, hl, hm, hmm, hx, hel⟩
  · exact ⟨none, 0, 0, [], hcs, RdS.empty W, rfl, by simp⟩
  · simp only [if_true] at hmm
    have each : ∀ i, i < len → ∃ p : Pt, W.cell? (a.add i) = some p.val ∧ Rd8 W p.ao p.n p.cap p.bs ∧ p.n ≤ 140737488351232 := by
      intro i hi
      obtain ⟨cs', h1, h2⟩ := hel i (by omega)
      rw [cells33] at h1
      obtain ⟨_, hlen, hcell⟩ := World.cells?_some h1
      obtain ⟨ao, mm, cc, bs, hz, hr, hs⟩ := bytes_of h2 (by
        intro k hk
        refine hw k ?_
        rw [hx]
        simp only [DataW.weights, Try.underlying49, List.mem_cons, List.mem_append]
        exact .inr (.inl (by rw [weights_flat]; exact List.mem_flatMap.2 ⟨D i, List.mem_map.2 ⟨i, List.mem_range.2 hi, rfl⟩, hk⟩)))
      subst hz
      have e0 := hcell 0 (by omega)
      rw [Go.Deep.add_add] at e0
      exact ⟨⟨ao, mm, cc, bs⟩, by simpa [Pt.val] using e0, hr, hs⟩
    obtain ⟨f, hf⟩ : ∃ f : Nat → Pt, ∀ i, i < len → W.cell? (a.add i) = some (f i).val ∧ Rd8 W (f i).ao (f i).n (f i).cap (f i).bs ∧ (f i).n ≤ 140737488351232 := by
      refine ⟨fun r => if hrc : r < len then Classical.choose (each r hrc) else ⟨none, 0, 0, []⟩, fun r hrc => ?_⟩
      simp only [hrc, dif_pos]
      exact Classical.choose_spec (each r hrc)
    refine ⟨some a, len, cap, (List.range len).map f, hcs, ⟨by simp; exact hl, hm, fun h => (by cases h), fun hx => ?_⟩, by simp, ?_⟩
    · have hp : 0 < len := by
        rcases Nat.eq_zero_or_pos len with h | h
        · subst h; exact absurd (by simp) hx
        · exact h
      obtain ⟨b, off, spot⟩ := a
      have h0 := (hf 0 hp).1
      have hspot : spot = none := by simpa [Addr.add] using World.cell?_spot h0
      subst hspot
      refine ⟨b, off, rfl, World.block_lt_of_cell? W _ h0, fun t ht => ?_⟩
      simp only [List.length_map, List.length_range] at ht
      have := (hf t ht).1
      rw [Addr.add_lit] at this
      rw [this]
      simp
    · intro p hp
      obtain ⟨r, hr1, rfl⟩ := List.mem_map.1 hp
      exact (hf r (List.mem_range.1 hr1)).2

end Go.Proofs.Ytfllkhimlambhaa
