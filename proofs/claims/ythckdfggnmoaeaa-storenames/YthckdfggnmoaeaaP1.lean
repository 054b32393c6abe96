/- A pool in memory: its frames, the hand; where its parts lie, and what of it stays. No walk. -/
import Derived.Test.YthckdfggnmoaeaaX4
namespace Go.Proofs.Ythckdfggnmoaeaa
open Go.RowKit
set_option linter.unusedVariables false

/-- A frame. -/
structure Fr where
  fl : Bool
  nm : Int
  l : Int
  a : Nat × Nat
  b : Nat × Nat
  c : Nat × Nat
  d : Nat × Nat
  dr : Bool
  pn : Nat
  us : Bool

/-- The cells of a frame. -/
def frC (x : Fr) : List Value := [.bool x.fl, .int .i64 x.nm, .int .i64 x.l, .complex .f64 x.a.1 x.a.2, .complex .f64 x.b.1 x.b.2, .complex .f64 x.c.1 x.c.2, .complex .f64 x.d.1 x.d.2, .bool x.dr, .int .i64 (x.pn : Int), .bool x.us]

/-- An empty frame. -/
abbrev Fr.e : Fr := ⟨false, 0, 0, (0, 0), (0, 0), (0, 0), (0, 0), false, 0, false⟩

/-- Rows of ten cells, one behind the other. -/
structure Row (w : World) (g : Nat) (R : List (List Value)) : Prop where
  ten : ∀ r ∈ R, r.length = 10
  cell : ∀ i r, R[i]? = some r → ∀ j v, r[j]? = some v → w.cell? ⟨g, i * 10 + j, none⟩ = some v

theorem Row.keep {w w' : World} {g : Nat} {R : List (List Value)} (h : Row w g R) (hg : w'.heap[g]? = w.heap[g]?) : Row w' g R :=
  ⟨h.ten, fun i r hr j v hv => (World.cell?_of_block (w := w) hg).trans (h.cell i r hr j v hv)⟩

theorem Row.put {w : World} {g : Nat} {R : List (List Value)} (h : Row w g R) (i : Nat) (r : List Value) (hr : R[i]? = some r) (j : Nat) (hj : j < 10) (v : Value) : Row (w.setCell ⟨g, i * 10 + j, none⟩ v) g (R.set i (r.set j v)) := by
  have hrl := h.ten r (List.mem_of_getElem? hr)
  have hil : i < R.length := (List.getElem?_eq_some_iff.1 hr).1
  refine ⟨fun q hq => ?_, fun i' r' hr' j' v' hv' => ?_⟩
  · rcases List.mem_or_eq_of_mem_set hq with hq | rfl
    · exact h.ten q hq
    · simpa using hrl
  · have hr2 := hr'
    rw [List.getElem?_set] at hr'
    by_cases e : i = i'
    · subst e
      simp only [if_true, hil] at hr'
      cases hr'
      rw [List.getElem?_set] at hv'
      by_cases f : j = j'
      · subst f
        simp only [if_true] at hv'
        rw [if_pos (by omega)] at hv'
        cases hv'
        obtain ⟨u, hu⟩ : ∃ u, r[j]? = some u := ⟨r[j]'(by omega), List.getElem?_eq_getElem _⟩
        exact World.cell?_setCell_same _ _ _ (h.cell i r hr j u hu)
      · rw [if_neg f] at hv'
        rw [put_other _ _ _ _ _ (by omega)]
        exact h.cell i r hr j' v' hv'
    · rw [if_neg e] at hr'
      have hl' := h.ten r' (List.mem_of_getElem? hr')
      have hj' : j' < r'.length := (List.getElem?_eq_some_iff.1 hv').1
      rw [put_other _ _ _ _ _ (by omega)]
      exact h.cell i' r' hr' j' v' hv'

/-- A pool lies at block gp, its frames at gf; in front of a drive and a log. -/
structure Pl (w : World) (gp gf g gl : Nat) (F : List Fr) (hd : Nat) : Prop where
  c0 : w.cell? ⟨gp, 0, none⟩ = some (dp g)
  c1 : w.cell? ⟨gp, 1, none⟩ = some (tp gl)
  c2 : w.cell? ⟨gp, 2, none⟩ = some (.slice (some ⟨gf, 0, none⟩) F.length F.length)
  c3 : w.cell? ⟨gp, 3, none⟩ = some (.int .i64 (hd : Int))
  fp : ∀ j, w.frozen? ⟨gp, j, none⟩ = false
  ff : ∀ j, w.frozen? ⟨gf, j, none⟩ = false
  lp : gp < w.heap.size
  lf : gf < w.heap.size
  ne : gf ≠ gp
  row : Row w gf (F.map frC)
  le : F.length ≤ 6
  hl : hd < F.length

section
variable {w w' : World} {gp gf g gl : Nat} {F : List Fr} {hd : Nat}

theorem Pl.keep (h : Pl w gp gf g gl F hd) (hp : w'.heap[gp]? = w.heap[gp]?) (hf : w'.heap[gf]? = w.heap[gf]?) (hs : w.heap.size ≤ w'.heap.size) : Pl w' gp gf g gl F hd :=
  ⟨(World.cell?_of_block (w := w) hp).trans h.c0, (World.cell?_of_block (w := w) hp).trans h.c1, (World.cell?_of_block (w := w) hp).trans h.c2, (World.cell?_of_block (w := w) hp).trans h.c3, fun j => (World.frozen?_of_block (w := w) hp).trans (h.fp j), fun j => (World.frozen?_of_block (w := w) hf).trans (h.ff j), Nat.lt_of_lt_of_le h.lp hs, Nat.lt_of_lt_of_le h.lf hs, h.ne, h.row.keep hf, h.le, h.hl⟩

theorem Pl.below (h : Pl w gp gf g gl F hd) (hb : Below w.heap.size w w') : Pl w' gp gf g gl F hd := h.keep (hb.block gp h.lp) (hb.block gf h.lf) hb.size

theorem Pl.frow (h : Pl w gp gf g gl F hd) (i : Nat) (hi : i < F.length) : (F.map frC)[i]? = some (frC F[i]) := by simp [hi]

/-- One cell of a frame. -/
theorem Pl.cell (h : Pl w gp gf g gl F hd) (i : Nat) (hi : i < F.length) (j : Nat) (v : Value) (hv : (frC F[i])[j]? = some v) : w.cell? ⟨gf, i * 10 + j, none⟩ = some v :=
  h.row.cell i _ (h.frow i hi) j v hv

/-- The frames' block has turned. -/
theorem Pl.turn (h : Pl w gp gf g gl F hd) (i : Nat) (x : Fr) (hp : w'.heap[gp]? = w.heap[gp]?) (hs : w'.heap.size = w.heap.size) (ff : ∀ j, w'.frozen? ⟨gf, j, none⟩ = false) (hr : Row w' gf ((F.map frC).set i (frC x))) : Pl w' gp gf g gl (F.set i x) hd :=
  ⟨(World.cell?_of_block (w := w) hp).trans h.c0, (World.cell?_of_block (w := w) hp).trans h.c1, by rw [List.length_set]; exact (World.cell?_of_block (w := w) hp).trans h.c2, (World.cell?_of_block (w := w) hp).trans h.c3, fun j => (World.frozen?_of_block (w := w) hp).trans (h.fp j), ff, by rw [hs]; exact h.lp, by rw [hs]; exact h.lf, h.ne, by rw [List.map_set]; exact hr, by rw [List.length_set]; exact h.le, by rw [List.length_set]; exact h.hl⟩

/-- One cell of a frame is set. -/
theorem Pl.put (h : Pl w gp gf g gl F hd) (i : Nat) (hi : i < F.length) (j : Nat) (hj : j < 10) (v : Value) (x : Fr) (hx : (frC F[i]).set j v = frC x) : Pl (w.setCell ⟨gf, i * 10 + j, none⟩ v) gp gf g gl (F.set i x) hd := by
  refine h.turn i x (Below.heap_setCell _ _ _ _ (fun e => h.ne e.symm)) (by simp [World.setCell]) (fun k => by rw [World.frozen?_setCell]; exact h.ff k) ?_
  rw [← hx]
  exact h.row.put i _ (h.frow i hi) j hj v

/-- The hand is set. -/
theorem Pl.hand (h : Pl w gp gf g gl F hd) (k : Nat) (hk : k < F.length) : Pl (w.setCell ⟨gp, 3, none⟩ (.int .i64 (k : Int))) gp gf g gl F k :=
  ⟨by rw [put_other _ _ _ _ _ (by omega)]; exact h.c0, by rw [put_other _ _ _ _ _ (by omega)]; exact h.c1, by rw [put_other _ _ _ _ _ (by omega)]; exact h.c2, World.cell?_setCell_same _ _ _ h.c3, fun j => by rw [World.frozen?_setCell]; exact h.fp j, fun j => by rw [World.frozen?_setCell]; exact h.ff j, by simpa [World.setCell] using h.lp, by simpa [World.setCell] using h.lf, h.ne, h.row.keep (Below.heap_setCell _ _ _ _ h.ne), h.le, hk⟩
end

/-- A frame's own writes: the whole of it. -/
abbrev putFr (w : World) (g i : Nat) (x : Fr) : World :=
  (((((((((w.setCell ⟨g, i * 10, none⟩ (.bool x.fl)).setCell ⟨g, i * 10 + 1, none⟩ (.int .i64 x.nm)).setCell ⟨g, i * 10 + 2, none⟩ (.int .i64 x.l)).setCell ⟨g, i * 10 + 3, none⟩ (.complex .f64 x.a.1 x.a.2)).setCell ⟨g, i * 10 + 4, none⟩ (.complex .f64 x.b.1 x.b.2)).setCell ⟨g, i * 10 + 5, none⟩ (.complex .f64 x.c.1 x.c.2)).setCell ⟨g, i * 10 + 6, none⟩ (.complex .f64 x.d.1 x.d.2)).setCell ⟨g, i * 10 + 7, none⟩ (.bool x.dr)).setCell ⟨g, i * 10 + 8, none⟩ (.int .i64 (x.pn : Int))).setCell ⟨g, i * 10 + 9, none⟩ (.bool x.us)

/-- A page in a frame is set. -/
abbrev putPg (w : World) (g i : Nat) (l : Int) (a b c d : Nat × Nat) : World :=
  ((((w.setCell ⟨g, i * 10 + 2, none⟩ (.int .i64 l)).setCell ⟨g, i * 10 + 3, none⟩ (.complex .f64 a.1 a.2)).setCell ⟨g, i * 10 + 4, none⟩ (.complex .f64 b.1 b.2)).setCell ⟨g, i * 10 + 5, none⟩ (.complex .f64 c.1 c.2)).setCell ⟨g, i * 10 + 6, none⟩ (.complex .f64 d.1 d.2)

theorem Row.putAll {w : World} {g : Nat} {R : List (List Value)} (h : Row w g R) (i : Nat) (r : List Value) (hr : R[i]? = some r) (j : Nat) (v : Value) (hj : j < 10) : Row (w.setCell ⟨g, i * 10 + j, none⟩ v) g (R.set i (r.set j v)) ∧ (R.set i (r.set j v))[i]? = some (r.set j v) := by
  have hil : i < R.length := (List.getElem?_eq_some_iff.1 hr).1
  exact ⟨h.put i r hr j hj v, by simp [hil]⟩

section
variable {w w' : World} {gp gf g gl : Nat} {F : List Fr} {hd : Nat}

theorem Pl.whole (h : Pl w gp gf g gl F hd) (i : Nat) (hi : i < F.length) (x : Fr) : Pl (putFr w gf i x) gp gf g gl (F.set i x) hd := by
  have hb : ∀ (W : World) (j : Nat) (v : Value), (W.setCell ⟨gf, j, none⟩ v).heap[gp]? = W.heap[gp]? := fun W j v => Below.heap_setCell _ _ _ _ (fun e => h.ne e.symm)
  have hs : ∀ (W : World) (j : Nat) (v : Value), (W.setCell ⟨gf, j, none⟩ v).heap.size = W.heap.size := fun W j v => by simp [World.setCell]
  have hz : ∀ (W : World) (j : Nat) (v : Value) (k : Nat), (W.setCell ⟨gf, j, none⟩ v).frozen? ⟨gf, k, none⟩ = W.frozen? ⟨gf, k, none⟩ := fun W j v k => World.frozen?_setCell _ _ _ _
  refine h.turn i x (by simp only [hb]) (by simp only [hs]) (fun k => by simp only [hz]; exact h.ff k) ?_
  obtain ⟨r0, e0⟩ := h.row.putAll i _ (h.frow i hi) 0 (.bool x.fl) (by omega)
  obtain ⟨r1, e1⟩ := r0.putAll i _ e0 1 (.int .i64 x.nm) (by omega)
  obtain ⟨r2, e2⟩ := r1.putAll i _ e1 2 (.int .i64 x.l) (by omega)
  obtain ⟨r3, e3⟩ := r2.putAll i _ e2 3 (.complex .f64 x.a.1 x.a.2) (by omega)
  obtain ⟨r4, e4⟩ := r3.putAll i _ e3 4 (.complex .f64 x.b.1 x.b.2) (by omega)
  obtain ⟨r5, e5⟩ := r4.putAll i _ e4 5 (.complex .f64 x.c.1 x.c.2) (by omega)
  obtain ⟨r6, e6⟩ := r5.putAll i _ e5 6 (.complex .f64 x.d.1 x.d.2) (by omega)
  obtain ⟨r7, e7⟩ := r6.putAll i _ e6 7 (.bool x.dr) (by omega)
  obtain ⟨r8, e8⟩ := r7.putAll i _ e7 8 (.int .i64 (x.pn : Int)) (by omega)
  obtain ⟨r9, e9⟩ := r8.putAll i _ e8 9 (.bool x.us) (by omega)
  simpa [frC] using r9

theorem Pl.page (h : Pl w gp gf g gl F hd) (i : Nat) (hi : i < F.length) (l : Int) (a b c d : Nat × Nat) : Pl (putPg w gf i l a b c d) gp gf g gl (F.set i { F[i] with l := l, a := a, b := b, c := c, d := d }) hd := by
  have hb : ∀ (W : World) (j : Nat) (v : Value), (W.setCell ⟨gf, j, none⟩ v).heap[gp]? = W.heap[gp]? := fun W j v => Below.heap_setCell _ _ _ _ (fun e => h.ne e.symm)
  have hs : ∀ (W : World) (j : Nat) (v : Value), (W.setCell ⟨gf, j, none⟩ v).heap.size = W.heap.size := fun W j v => by simp [World.setCell]
  have hz : ∀ (W : World) (j : Nat) (v : Value) (k : Nat), (W.setCell ⟨gf, j, none⟩ v).frozen? ⟨gf, k, none⟩ = W.frozen? ⟨gf, k, none⟩ := fun W j v k => World.frozen?_setCell _ _ _ _
  refine h.turn i _ (by simp only [hb]) (by simp only [hs]) (fun k => by simp only [hz]; exact h.ff k) ?_
  obtain ⟨r2, e2⟩ := h.row.putAll i _ (h.frow i hi) 2 (.int .i64 l) (by omega)
  obtain ⟨r3, e3⟩ := r2.putAll i _ e2 3 (.complex .f64 a.1 a.2) (by omega)
  obtain ⟨r4, e4⟩ := r3.putAll i _ e3 4 (.complex .f64 b.1 b.2) (by omega)
  obtain ⟨r5, e5⟩ := r4.putAll i _ e4 5 (.complex .f64 c.1 c.2) (by omega)
  obtain ⟨r6, e6⟩ := r5.putAll i _ e5 6 (.complex .f64 d.1 d.2) (by omega)
  simpa [frC] using r6
end

/-- All blocks but three are as they were. -/
structure Off3 (p f g : Nat) (w w' : World) : Prop where
  os : w'.os = w.os
  tape : w'.tape = w.tape
  output : w'.output = w.output
  size : w.heap.size ≤ w'.heap.size
  block : ∀ k, k < w.heap.size → k ≠ p → k ≠ f → k ≠ g → w'.heap[k]? = w.heap[k]?

section
variable {p f g B : Nat} {a b c w w' : World}
theorem Off3.refl (p f g : Nat) (w : World) : Off3 p f g w w := ⟨rfl, rfl, rfl, Nat.le_refl _, fun _ _ _ _ _ => rfl⟩
theorem Off3.trans (h : Off3 p f g a b) (k : Off3 p f g b c) : Off3 p f g a c :=
  ⟨k.os.trans h.os, k.tape.trans h.tape, k.output.trans h.output, Nat.le_trans h.size k.size, fun i hi h1 h2 h3 => (k.block i (Nat.lt_of_lt_of_le hi h.size) h1 h2 h3).trans (h.block i hi h1 h2 h3)⟩
theorem Off3.of_below (h : Below a.heap.size a b) : Off3 p f g a b := ⟨h.os, h.tape, h.output, h.size, fun i hi _ _ _ => h.block i hi⟩
theorem Off3.of_off (h : Off g a b) : Off3 p f g a b := ⟨h.os, h.tape, h.output, h.size, fun i hi _ _ h3 => h.block i hi h3⟩
theorem Off3.setF (h : Off3 p f g a w) (j : Nat) (u : Value) : Off3 p f g a (w.setCell ⟨f, j, none⟩ u) :=
  h.trans ⟨rfl, rfl, rfl, by simp [World.setCell], fun k _ _ hf _ => Below.heap_setCell _ _ _ _ hf⟩
theorem Off3.setP (h : Off3 p f g a w) (j : Nat) (u : Value) : Off3 p f g a (w.setCell ⟨p, j, none⟩ u) :=
  h.trans ⟨rfl, rfl, rfl, by simp [World.setCell], fun k _ hp _ _ => Below.heap_setCell _ _ _ _ hp⟩
theorem Off3.below (h : Off3 p f g a b) (hp : B ≤ p) (hf : B ≤ f) (hg : B ≤ g) (hs : B ≤ a.heap.size) : Below B a b := ⟨h.os, h.tape, h.output, h.size, fun k hk => h.block k (by omega) (by omega) (by omega) (by omega)⟩
end

/-- A pool and its drive lie apart. -/
structure St (w : World) (gp gf g gl : Nat) (V : Nat → Prop) (L : List Sec) (F : List Fr) (hd : Nat) : Prop where
  p : Pl w gp gf g gl F hd
  d : Drv w g V L
  pg : gp ≠ g
  pg1 : gp ≠ g + 1
  fg : gf ≠ g
  fg1 : gf ≠ g + 1
  vp : ¬ V gp
  vf : ¬ V gf

section
variable {w w' : World} {gp gf g gl : Nat} {V : Nat → Prop} {L : List Sec} {F F' : List Fr} {hd hd' : Nat}
theorem St.below (h : St w gp gf g gl V L F hd) (hb : Below w.heap.size w w') : St w' gp gf g gl V L F hd := ⟨h.p.below hb, h.d.below hb, h.pg, h.pg1, h.fg, h.fg1, h.vp, h.vf⟩
/-- The drive is as it was where the pool alone has turned. -/
theorem St.turn (h : St w gp gf g gl V L F hd) (hp : Pl w' gp gf g gl F' hd') (hk : ∀ k, k < w.heap.size → k ≠ gp → k ≠ gf → w'.heap[k]? = w.heap[k]?) (hs : w.heap.size ≤ w'.heap.size) : St w' gp gf g gl V L F' hd' :=
  ⟨hp, h.d.kept ⟨hs, fun k hk2 hv => hk k hk2 (by intro e; subst e; rcases hv with hv | hv | hv; exact h.vp hv; exact h.pg hv; exact h.pg1 hv) (by intro e; subst e; rcases hv with hv | hv | hv; exact h.vf hv; exact h.fg hv; exact h.fg1 hv)⟩, h.pg, h.pg1, h.fg, h.fg1, h.vp, h.vf⟩
end

theorem keepF (w : World) (gp gf j : Nat) (v : Value) : ∀ k, k < w.heap.size → k ≠ gp → k ≠ gf → (w.setCell ⟨gf, j, none⟩ v).heap[k]? = w.heap[k]? := fun k _ _ h => Below.heap_setCell _ _ _ _ h
theorem keepP (w : World) (gp gf j : Nat) (v : Value) : ∀ k, k < w.heap.size → k ≠ gp → k ≠ gf → (w.setCell ⟨gp, j, none⟩ v).heap[k]? = w.heap[k]? := fun k _ h _ => Below.heap_setCell _ _ _ _ h

end Go.Proofs.Ythckdfggnmoaeaa
