/- A pool in memory: its frames, the hand; where its parts lie, and what of it stays. No walk. What the functions of package pool do, walked: New, holder, room, fetch. What the functions of package pool do, walked: flush, and sweep with one frame. What sweep of package pool does with one frame, walked. What room with full frames and load of package pool do, walked. What Get, Set, Pin and Unpin of package pool do, walked, out of what load does. -/
import Derived.Test.YtpofihiojhbfgaaGreatDoorA9
namespace Go.Proofs.YtpofihiojhbfgaaGreatDoor
open Go.RowKit
set_option linter.unusedVariables false
set_option maxRecDepth 8000

structure Fr where
  fl : Bool
  nm : Int
  l : Int
  a : Nat × Nat
  b : Nat × Nat
  c : Nat × Nat
  d : Nat × Nat
  dr : Bool
  pn : Nat
  us : Bool

def frC (x : Fr) : List Value := [.bool x.fl, .int .i64 x.nm, .int .i64 x.l, .complex .f64 x.a.1 x.a.2, .complex .f64 x.b.1 x.b.2, .complex .f64 x.c.1 x.c.2, .complex .f64 x.d.1 x.d.2, .bool x.dr, .int .i64 (x.pn : Int), .bool x.us]

abbrev Fr.e : Fr := ⟨false, 0, 0, (0, 0), (0, 0), (0, 0), (0, 0), false, 0, false⟩

structure Row (w : World) (g : Nat) (R : List (List Value)) : Prop where
  ten : ∀ r ∈ R, r.length = 10
  cell : ∀ i r, R[i]? = some r → ∀ j v, r[j]? = some v → w.cell? ⟨g, i * 10 + j, none⟩ = some v

theorem Row.keep {w w' : World} {g : Nat} {R : List (List Value)} (h : Row w g R) (hg : w'.heap[g]? = w.heap[g]?) : Row w' g R :=
  ⟨h.ten, fun i r hr j v hv => (World.cell?_of_block (w := w) hg).trans (h.cell i r hr j v hv)⟩

theorem Row.put {w : World} {g : Nat} {R : List (List Value)} (h : Row w g R) (i : Nat) (r : List Value) (hr : R[i]? = some r) (j : Nat) (hj : j < 10) (v : Value) : Row (w.setCell ⟨g, i * 10 + j, none⟩ v) g (R.set i (r.set j v)) := by
  have hrl := h.ten r (List.mem_of_getElem? hr)
  have hil : i < R.length := (List.getElem?_eq_some_iff.1 hr).1
  refine ⟨fun q hq => ?_, fun i' r' hr' j' v' hv' => ?_⟩
  · rcases List.mem_or_eq_of_mem_set hq with hq | rfl
    · exact h.ten q hq
    · simpa using hrl
  · have hr2 := hr'
    rw [List.getElem?_set] at hr'
    by_cases e : i = i'
    · subst e
      simp only [if_true, hil] at hr'
      cases hr'
      rw [List.getElem?_set] at hv'
      by_cases f : j = j'
      · subst f
        simp only [if_true] at hv'
        rw [if_pos (by omega)] at hv'
        cases hv'
        obtain ⟨u, hu⟩ : ∃ u, r[j]? = some u := ⟨r[j]'(by omega), List.getElem?_eq_getElem _⟩
        exact World.cell?_setCell_same _ _ _ (h.cell i r hr j u hu)
      · rw [if_neg f] at hv'
        rw [put_other _ _ _ _ _ (by omega)]
        exact h.cell i r hr j' v' hv'
    · rw [if_neg e] at hr'
      have hl' := h.ten r' (List.mem_of_getElem? hr')
      have hj' : j' < r'.length := (List.getElem?_eq_some_iff.1 hv').1
      rw [put_other _ _ _ _ _ (by omega)]
      exact h.cell i' r' hr' j' v' hv'

structure Pl (w : World) (gp gf g gl : Nat) (F : List Fr) (hd : Nat) : Prop where
  c0 : w.cell? ⟨gp, 0, none⟩ = some (dp g)
  c1 : w.cell? ⟨gp, 1, none⟩ = some (tp gl)
  c2 : w.cell? ⟨gp, 2, none⟩ = some (.slice (some ⟨gf, 0, none⟩) F.length F.length)
  c3 : w.cell? ⟨gp, 3, none⟩ = some (.int .i64 (hd : Int))
  fp : ∀ j, w.frozen? ⟨gp, j, none⟩ = false
  ff : ∀ j, w.frozen? ⟨gf, j, none⟩ = false
  lp : gp < w.heap.size
  lf : gf < w.heap.size
  ne : gf ≠ gp
  row : Row w gf (F.map frC)
  le : F.length ≤ 6
  hl : hd < F.length

section
variable {w w' : World} {gp gf g gl : Nat} {F : List Fr} {hd : Nat}

theorem Pl.keep (h : Pl w gp gf g gl F hd) (hp : w'.heap[gp]? = w.heap[gp]?) (hf : w'.heap[gf]? = w.heap[gf]?) (hs : w.heap.size ≤ w'.heap.size) : Pl w' gp gf g gl F hd :=
  ⟨(World.cell?_of_block (w := w) hp).trans h.c0, (World.cell?_of_block (w := w) hp).trans h.c1, (World.cell?_of_block (w := w) hp).trans h.c2, (World.cell?_of_block (w := w) hp).trans h.c3, fun j => (World.frozen?_of_block (w := w) hp).trans (h.fp j), fun j => (World.frozen?_of_block (w := w) hf).trans (h.ff j), Nat.lt_of_lt_of_le h.lp hs, Nat.lt_of_lt_of_le h.lf hs, h.ne, h.row.keep hf, h.le, h.hl⟩

theorem Pl.below (h : Pl w gp gf g gl F hd) (hb : Below w.heap.size w w') : Pl w' gp gf g gl F hd := h.keep (hb.block gp h.lp) (hb.block gf h.lf) hb.size

theorem Pl.frow (h : Pl w gp gf g gl F hd) (i : Nat) (hi : i < F.length) : (F.map frC)[i]? = some (frC F[i]) := by simp [hi]

theorem Pl.cell (h : Pl w gp gf g gl F hd) (i : Nat) (hi : i < F.length) (j : Nat) (v : Value) (hv : (frC F[i])[j]? = some v) : w.cell? ⟨gf, i * 10 + j, none⟩ = some v :=
  h.row.cell i _ (h.frow i hi) j v hv

theorem Pl.turn (h : Pl w gp gf g gl F hd) (i : Nat) (x : Fr) (hp : w'.heap[gp]? = w.heap[gp]?) (hs : w'.heap.size = w.heap.size) (ff : ∀ j, w'.frozen? ⟨gf, j, none⟩ = false) (hr : Row w' gf ((F.map frC).set i (frC x))) : Pl w' gp gf g gl (F.set i x) hd :=
  ⟨(World.cell?_of_block (w := w) hp).trans h.c0, (World.cell?_of_block (w := w) hp).trans h.c1, by rw [List.length_set]; exact (World.cell?_of_block (w := w) hp).trans h.c2, (World.cell?_of_block (w := w) hp).trans h.c3, fun j => (World.frozen?_of_block (w := w) hp).trans (h.fp j), ff, by rw [hs]; exact h.lp, by rw [hs]; exact h.lf, h.ne, by rw [List.map_set]; exact hr, by rw [List.length_set]; exact h.le, by rw [List.length_set]; exact h.hl⟩

theorem Pl.put (h : Pl w gp gf g gl F hd) (i : Nat) (hi : i < F.length) (j : Nat) (hj : j < 10) (v : Value) (x : Fr) (hx : (frC F[i]).set j v = frC x) : Pl (w.setCell ⟨gf, i * 10 + j, none⟩ v) gp gf g gl (F.set i x) hd := by
  refine h.turn i x (Below.heap_setCell _ _ _ _ (fun e => h.ne e.symm)) (by simp [World.setCell]) (fun k => by rw [World.frozen?_setCell]; exact h.ff k) ?_
  rw [← hx]
  exact h.row.put i _ (h.frow i hi) j hj v

end

abbrev putFr (w : World) (g i : Nat) (x : Fr) : World :=
  (((((((((w.setCell ⟨g, i * 10, none⟩ (.bool x.fl)).setCell ⟨g, i * 10 + 1, none⟩ (.int .i64 x.nm)).setCell ⟨g, i * 10 + 2, none⟩ (.int .i64 x.l)).setCell ⟨g, i * 10 + 3, none⟩ (.complex .f64 x.a.1 x.a.2)).setCell ⟨g, i * 10 + 4, none⟩ (.complex .f64 x.b.1 x.b.2)).setCell ⟨g, i * 10 + 5, none⟩ (.complex .f64 x.c.1 x.c.2)).setCell ⟨g, i * 10 + 6, none⟩ (.complex .f64 x.d.1 x.d.2)).setCell ⟨g, i * 10 + 7, none⟩ (.bool x.dr)).setCell ⟨g, i * 10 + 8, none⟩ (.int .i64 (x.pn : Int))).setCell ⟨g, i * 10 + 9, none⟩ (.bool x.us)

abbrev putPg (w : World) (g i : Nat) (l : Int) (a b c d : Nat × Nat) : World :=
  ((((w.setCell ⟨g, i * 10 + 2, none⟩ (.int .i64 l)).setCell ⟨g, i * 10 + 3, none⟩ (.complex .f64 a.1 a.2)).setCell ⟨g, i * 10 + 4, none⟩ (.complex .f64 b.1 b.2)).setCell ⟨g, i * 10 + 5, none⟩ (.complex .f64 c.1 c.2)).setCell ⟨g, i * 10 + 6, none⟩ (.complex .f64 d.1 d.2)

theorem Row.putAll {w : World} {g : Nat} {R : List (List Value)} (h : Row w g R) (i : Nat) (r : List Value) (hr : R[i]? = some r) (j : Nat) (v : Value) (hj : j < 10) : Row (w.setCell ⟨g, i * 10 + j, none⟩ v) g (R.set i (r.set j v)) ∧ (R.set i (r.set j v))[i]? = some (r.set j v) := by
  have hil : i < R.length := (List.getElem?_eq_some_iff.1 hr).1
  exact ⟨h.put i r hr j hj v, by simp [hil]⟩

section
variable {w w' : World} {gp gf g gl : Nat} {F : List Fr} {hd : Nat}

theorem Pl.whole (h : Pl w gp gf g gl F hd) (i : Nat) (hi : i < F.length) (x : Fr) : Pl (putFr w gf i x) gp gf g gl (F.set i x) hd := by
  have hb : ∀ (W : World) (j : Nat) (v : Value), (W.setCell ⟨gf, j, none⟩ v).heap[gp]? = W.heap[gp]? := fun W j v => Below.heap_setCell _ _ _ _ (fun e => h.ne e.symm)
  have hs : ∀ (W : World) (j : Nat) (v : Value), (W.setCell ⟨gf, j, none⟩ v).heap.size = W.heap.size := fun W j v => by simp [World.setCell]
  have hz : ∀ (W : World) (j : Nat) (v : Value) (k : Nat), (W.setCell ⟨gf, j, none⟩ v).frozen? ⟨gf, k, none⟩ = W.frozen? ⟨gf, k, none⟩ := fun W j v k => World.frozen?_setCell _ _ _ _
  refine h.turn i x (by simp only [hb]) (by simp only [hs]) (fun k => by simp only [hz]; exact h.ff k) ?_
  obtain ⟨r0, e0⟩ := h.row.putAll i _ (h.frow i hi) 0 (.bool x.fl) (by omega)
  obtain ⟨r1, e1⟩ := r0.putAll i _ e0 1 (.int .i64 x.nm) (by omega)
  obtain ⟨r2, e2⟩ := r1.putAll i _ e1 2 (.int .i64 x.l) (by omega)
  obtain ⟨r3, e3⟩ := r2.putAll i _ e2 3 (.complex .f64 x.a.1 x.a.2) (by omega)
  obtain ⟨r4, e4⟩ := r3.putAll i _ e3 4 (.complex .f64 x.b.1 x.b.2) (by omega)
  obtain ⟨r5, e5⟩ := r4.putAll i _ e4 5 (.complex .f64 x.c.1 x.c.2) (by omega)
  obtain ⟨r6, e6⟩ := r5.putAll i _ e5 6 (.complex .f64 x.d.1 x.d.2) (by omega)
  obtain ⟨r7, e7⟩ := r6.putAll i _ e6 7 (.bool x.dr) (by omega)
  obtain ⟨r8, e8⟩ := r7.putAll i _ e7 8 (.int .i64 (x.pn : Int)) (by omega)
  obtain ⟨r9, e9⟩ := r8.putAll i _ e8 9 (.bool x.us) (by omega)
  simpa [frC] using r9

theorem Pl.page (h : Pl w gp gf g gl F hd) (i : Nat) (hi : i < F.length) (l : Int) (a b c d : Nat × Nat) : Pl (putPg w gf i l a b c d) gp gf g gl (F.set i { F[i] with l := l, a := a, b := b, c := c, d := d }) hd := by
  have hb : ∀ (W : World) (j : Nat) (v : Value), (W.setCell ⟨gf, j, none⟩ v).heap[gp]? = W.heap[gp]? := fun W j v => Below.heap_setCell _ _ _ _ (fun e => h.ne e.symm)
  have hs : ∀ (W : World) (j : Nat) (v : Value), (W.setCell ⟨gf, j, none⟩ v).heap.size = W.heap.size := fun W j v => by simp [World.setCell]
  have hz : ∀ (W : World) (j : Nat) (v : Value) (k : Nat), (W.setCell ⟨gf, j, none⟩ v).frozen? ⟨gf, k, none⟩ = W.frozen? ⟨gf, k, none⟩ := fun W j v k => World.frozen?_setCell _ _ _ _
  refine h.turn i _ (by simp only [hb]) (by simp only [hs]) (fun k => by simp only [hz]; exact h.ff k) ?_
  obtain ⟨r2, e2⟩ := h.row.putAll i _ (h.frow i hi) 2 (.int .i64 l) (by omega)
  obtain ⟨r3, e3⟩ := r2.putAll i _ e2 3 (.complex .f64 a.1 a.2) (by omega)
  obtain ⟨r4, e4⟩ := r3.putAll i _ e3 4 (.complex .f64 b.1 b.2) (by omega)
  obtain ⟨r5, e5⟩ := r4.putAll i _ e4 5 (.complex .f64 c.1 c.2) (by omega)
  obtain ⟨r6, e6⟩ := r5.putAll i _ e5 6 (.complex .f64 d.1 d.2) (by omega)
  simpa [frC] using r6
end

structure Off3 (p f g : Nat) (w w' : World) : Prop where
  os : w'.os = w.os
  tape : w'.tape = w.tape
  output : w'.output = w.output
  size : w.heap.size ≤ w'.heap.size
  block : ∀ k, k < w.heap.size → k ≠ p → k ≠ f → k ≠ g → w'.heap[k]? = w.heap[k]?

section
variable {p f g B : Nat} {a b c w w' : World}
theorem Off3.refl (p f g : Nat) (w : World) : Off3 p f g w w := ⟨rfl, rfl, rfl, Nat.le_refl _, fun _ _ _ _ _ => rfl⟩
theorem Off3.trans (h : Off3 p f g a b) (k : Off3 p f g b c) : Off3 p f g a c :=
  ⟨k.os.trans h.os, k.tape.trans h.tape, k.output.trans h.output, Nat.le_trans h.size k.size, fun i hi h1 h2 h3 => (k.block i (Nat.lt_of_lt_of_le hi h.size) h1 h2 h3).trans (h.block i hi h1 h2 h3)⟩
theorem Off3.of_below (h : Below a.heap.size a b) : Off3 p f g a b := ⟨h.os, h.tape, h.output, h.size, fun i hi _ _ _ => h.block i hi⟩
theorem Off3.setF (h : Off3 p f g a w) (j : Nat) (u : Value) : Off3 p f g a (w.setCell ⟨f, j, none⟩ u) :=
  h.trans ⟨rfl, rfl, rfl, by simp [World.setCell], fun k _ _ hf _ => Below.heap_setCell _ _ _ _ hf⟩
theorem Off3.below (h : Off3 p f g a b) (hp : B ≤ p) (hf : B ≤ f) (hg : B ≤ g) (hs : B ≤ a.heap.size) : Below B a b := ⟨h.os, h.tape, h.output, h.size, fun k hk => h.block k (by omega) (by omega) (by omega) (by omega)⟩
end

structure St (w : World) (gp gf g gl : Nat) (V : Nat → Prop) (L : List Sec) (F : List Fr) (hd : Nat) : Prop where
  p : Pl w gp gf g gl F hd
  d : Drv w g V L
  pg : gp ≠ g
  pg1 : gp ≠ g + 1
  fg : gf ≠ g
  fg1 : gf ≠ g + 1
  vp : ¬ V gp
  vf : ¬ V gf

section
variable {w w' : World} {gp gf g gl : Nat} {V : Nat → Prop} {L : List Sec} {F F' : List Fr} {hd hd' : Nat}
theorem St.below (h : St w gp gf g gl V L F hd) (hb : Below w.heap.size w w') : St w' gp gf g gl V L F hd := ⟨h.p.below hb, h.d.below hb, h.pg, h.pg1, h.fg, h.fg1, h.vp, h.vf⟩
theorem St.turn (h : St w gp gf g gl V L F hd) (hp : Pl w' gp gf g gl F' hd') (hk : ∀ k, k < w.heap.size → k ≠ gp → k ≠ gf → w'.heap[k]? = w.heap[k]?) (hs : w.heap.size ≤ w'.heap.size) : St w' gp gf g gl V L F' hd' :=
  ⟨hp, h.d.kept ⟨hs, fun k hk2 hv => hk k hk2 (by intro e; subst e; rcases hv with hv | hv | hv; exact h.vp hv; exact h.pg hv; exact h.pg1 hv) (by intro e; subst e; rcases hv with hv | hv | hv; exact h.vf hv; exact h.fg hv; exact h.fg1 hv)⟩, h.pg, h.pg1, h.fg, h.fg1, h.vp, h.vf⟩
end

theorem keepF (w : World) (gp gf j : Nat) (v : Value) : ∀ k, k < w.heap.size → k ≠ gp → k ≠ gf → (w.setCell ⟨gf, j, none⟩ v).heap[k]? = w.heap[k]? := fun k _ _ h => Below.heap_setCell _ _ _ _ h
end Go.Proofs.YtpofihiojhbfgaaGreatDoor

namespace Go.Proofs.YtpofihiojhbfgaaGreatDoor
open Go.RowKit
set_option linter.unusedVariables false
set_option maxRecDepth 8000

theorem infoFr : (Tryz.prog.info? 149).map (fun i => (i.zero, i.size, i.bytes)) = some (some (.agg #[.bool false, .int .i64 0, .int .i64 0, .complex .f64 0 0, .complex .f64 0 0, .complex .f64 0 0, .complex .f64 0 0, .bool false, .int .i64 0, .bool false]), 10, 112) := by kernel_rfl

abbrev frZ : Array Value := #[.bool false, .int .i64 0, .int .i64 0, .complex .f64 0 0, .complex .f64 0 0, .complex .f64 0 0, .complex .f64 0 0, .bool false, .int .i64 0, .bool false]

theorem made_fr (n j : Nat) (hj : j < n * 10) : (madeCells frZ (n * 10))[j]? = some (frZ[j % 10]!) := by
  simp [madeCells, hj]

abbrev plW (w : World) (n g gl : Nat) : World := (w.alloc (.cells (madeCells frZ (n * 10)) 149)).alloc (.cells #[dp g, tp gl, .slice (some ⟨w.heap.size, 0, none⟩) n n, .int .i64 0] 122)

theorem frC_e (j : Nat) (v : Value) (h : (frC Fr.e)[j]? = some v) : frZ[j]! = v ∧ j < 10 := by
  match j, h with
  | 0, h | 1, h | 2, h | 3, h | 4, h | 5, h | 6, h | 7, h | 8, h | 9, h => cases h; exact ⟨rfl, by omega⟩
  | (j + 10), h => simp [frC] at h

theorem Pl.new (w : World) (n g gl : Nat) (h1 : 1 ≤ n) (h6 : n ≤ 6) : Pl (plW w n g gl) (w.heap.size + 1) w.heap.size g gl (List.replicate n Fr.e) 0 := by
  have hs : (w.alloc (.cells (madeCells frZ (n * 10)) 149)).heap.size = w.heap.size + 1 := by simp
  have h0 : (plW w n g gl).heap[w.heap.size]? = some (.cells (madeCells frZ (n * 10)) 149) := by
    rw [Below.heap_alloc _ _ _ (by omega)]; exact heap_alloc_new w _
  have h2 : (plW w n g gl).heap[w.heap.size + 1]? = some (.cells #[dp g, tp gl, .slice (some ⟨w.heap.size, 0, none⟩) n n, .int .i64 0] 122) := by
    have := heap_alloc_new (w.alloc (.cells (madeCells frZ (n * 10)) 149)) (.cells #[dp g, tp gl, .slice (some ⟨w.heap.size, 0, none⟩) n n, .int .i64 0] 122)
    rwa [hs] at this
  refine ⟨?_, ?_, ?_, ?_, fun j => frozen_of_row _ _ _ _ _ h2, fun j => frozen_of_row _ _ _ _ _ h0, by simp, by simp <;> omega, by omega, ⟨fun r hr => ?_, fun i r hr j v hv => ?_⟩, by simpa using h6, by simp; omega⟩
  · rw [cell_of_row _ _ _ _ _ _ h2]; rfl
  · rw [cell_of_row _ _ _ _ _ _ h2]; rfl
  · rw [cell_of_row _ _ _ _ _ _ h2]; simp
  · rw [cell_of_row _ _ _ _ _ _ h2]; rfl
  · simp only [List.map_replicate] at hr
    rw [(List.mem_replicate.1 hr).2]; rfl
  · simp only [List.map_replicate, List.getElem?_replicate] at hr
    split at hr
    · cases hr
      obtain ⟨e, hj⟩ := frC_e j v hv
      rw [cell_of_row _ _ _ _ _ _ h0, made_fr n _ (by omega), show (i * 10 + j) % 10 = j by omega, e]
    · cases hr

theorem pnew_any (n g gl : Nat) (h1 : 1 ≤ n) (h6 : n ≤ 6) (w : World) :
    Calls Tryz.prog 28 #[dp g, tp gl, .int .i64 (n : Int)] w fun e w' => e = .returned (tp (w.heap.size + 1)) ∧ Pl w' (w.heap.size + 1) w.heap.size g gl (List.replicate n Fr.e) 0 ∧ w'.heap.size = w.heap.size + 2 ∧ Below w.heap.size w w' := by
  obtain ⟨i0, hi, hz0, hz1, hz2⟩ := info_parts infoFr
  have hm : ∀ (W : World), (Instr.makeSlice 120 (.int .i64 (n : Int)) (.int .i64 (n : Int))).run Tryz.prog W = .ok (.slice (some ⟨W.heap.size, 0, none⟩) n n) (W.alloc (.cells (madeCells frZ (n * 10)) 149)) := by
    intro W
    have := run_make (P := Tryz.prog) W 120 149 i0 _ Tryz.underlying120 hi hz0 .i64 .i64 n n (by omega) (Int.le_refl _) (by rw [hz2]; omega) (by omega)
    rw [hz1] at this
    simp only [Int.toNat_natCast] at this
    exact this
  clear hi hz0 hz1 hz2
  have ha : (1 : Int) ≤ (n : Int) := by omega
  have hb : (n : Int) ≤ 6 := by omega
  go_enter Tryz.func28, Tryz.ntmps28
  go_wp2
  all_goals go_ret
  all_goals exact ⟨rfl, Pl.new w n g gl h1 h6, by simp, by go_grown⟩

def Fr.has (x : Fr) (n : Int) : Bool := x.fl && (x.nm == n)

set_option maxHeartbeats 400000 in
theorem holder_none (gp gf g gl : Nat) (F : List Fr) (hd : Nat) (n : Int) (w : World) (h : Pl w gp gf g gl F hd) (hn : ∀ i (hi : i < F.length), F[i].has n = false) :
    Calls Tryz.prog 106 #[tp gp, .int .i64 n] w fun e w' => e = .returned (.pointer none) ∧ w' = w := by
  have HN : Hid (∀ i (hi : i < F.length), F[i].has n = false) := hn
  clear hn
  have h2 := h.c2
  have hle := h.le
  go_enter Tryz.func106, Tryz.ntmps106
  go_wp2
  go_loopw [12] (fun i wr => ∃ k : Nat, k ≤ F.length ∧ i = .int .i64 k ∧ wr = w) (fun i _ => F.length - (intOf i).toNat)
  case atStart => exact ⟨0, Nat.zero_le _, rfl, rfl⟩
  case round =>
    obtain ⟨k, hk, rfl, rfl⟩ := hrel
    by_cases hlt : k < F.length
    · have hno := HN.out k hlt
      have c0 := h.cell k hlt 0 _ rfl
      have c1 := h.cell k hlt 1 _ rfl
      simp only [Nat.add_zero] at c0
      unfold Fr.has at hno
      cases hf : F[k].fl
      · rw [hf] at c0
        clear hno
        go_wp2
        go_roundw
        case rel => exact ⟨k + 1, by omega, by go_num, by first | rfl | trivial⟩
        case measure => simp [intOf]; omega
      · rw [hf] at c0 hno
        simp only [Bool.true_and] at hno
        go_wp2
        go_roundw
        case rel => exact ⟨k + 1, by omega, by go_num, by first | rfl | trivial⟩
        case measure => simp [intOf]; omega
    · go_wp2
      go_ret
      exact ⟨rfl, rfl⟩

set_option maxHeartbeats 400000 in
theorem holder_some (gp gf g gl : Nat) (F : List Fr) (hd : Nat) (n : Int) (i : Nat) (hi : i < F.length) (w : World) (h : Pl w gp gf g gl F hd) (hb : ∀ j (hj : j < i), F[j].has n = false) (hy : F[i].has n = true) :
    Calls Tryz.prog 106 #[tp gp, .int .i64 n] w fun e w' => e = .returned (.pointer (some ⟨gf, i * 10, none⟩)) ∧ w' = w := by
  have HN : Hid (∀ j (hj : j < i), F[j].has n = false) := hb
  have HY : Hid (F[i].has n = true) := hy
  clear hb hy
  have h2 := h.c2
  have hle := h.le
  go_enter Tryz.func106, Tryz.ntmps106
  go_wp2
  go_loopw [12] (fun s wr => ∃ k : Nat, k ≤ i ∧ s = .int .i64 k ∧ wr = w) (fun s _ => F.length - (intOf s).toNat)
  case atStart => exact ⟨0, Nat.zero_le _, rfl, rfl⟩
  case round =>
    obtain ⟨k, hk, rfl, rfl⟩ := hrel
    have hlt : k < F.length := by omega
    have c0 := h.cell k hlt 0 _ rfl
    have c1 := h.cell k hlt 1 _ rfl
    simp only [Nat.add_zero] at c0
    by_cases he : k < i
    · have hno := HN.out k he
      unfold Fr.has at hno
      cases hf : F[k].fl
      · rw [hf] at c0
        clear hno
        go_wp2
        go_roundw
        case rel => exact ⟨k + 1, by omega, by go_num, by first | rfl | trivial⟩
        case measure => simp [intOf]; omega
      · rw [hf] at c0 hno
        simp only [Bool.true_and] at hno
        go_wp2
        go_roundw
        case rel => exact ⟨k + 1, by omega, by go_num, by first | rfl | trivial⟩
        case measure => simp [intOf]; omega
    · obtain rfl : k = i := by omega
      have hy := HY.out
      unfold Fr.has at hy
      simp only [Bool.and_eq_true] at hy
      obtain ⟨hy1, hy2⟩ := hy
      rw [hy1] at c0
      go_wp2
      go_ret
      exact ⟨rfl, rfl⟩

set_option maxHeartbeats 400000 in
theorem room_empty (gp gf g gl : Nat) (F : List Fr) (hd : Nat) (i : Nat) (hi : i < F.length) (w : World) (h : Pl w gp gf g gl F hd) (hb : ∀ j (hj : j < i), F[j].fl = true) (hy : F[i].fl = false) :
    Calls Tryz.prog 108 #[tp gp] w fun e w' => e = .returned (.pointer (some ⟨gf, i * 10, none⟩)) ∧ w' = w := by
  have HN : Hid (∀ j (hj : j < i), F[j].fl = true) := hb
  have HY : Hid (F[i].fl = false) := hy
  clear hb hy
  have h2 := h.c2
  have hle := h.le
  go_enter Tryz.func108, Tryz.ntmps108
  go_wp2
  go_loopw [10] (fun s wr => ∃ k : Nat, k ≤ i ∧ s = .int .i64 k ∧ wr = w) (fun s _ => F.length - (intOf s).toNat)
  case atStart => exact ⟨0, Nat.zero_le _, rfl, rfl⟩
  case round =>
    obtain ⟨k, hk, rfl, rfl⟩ := hrel
    have hlt : k < F.length := by omega
    have c0 := h.cell k hlt 0 _ rfl
    simp only [Nat.add_zero] at c0
    by_cases he : k < i
    · rw [HN.out k he] at c0
      go_wp2
      go_roundw
      case rel => exact ⟨k + 1, by omega, by go_num, by first | rfl | trivial⟩
      case measure => simp [intOf]; omega
    · obtain rfl : k = i := by omega
      rw [HY.out] at c0
      go_wp2
      go_ret
      exact ⟨rfl, rfl⟩

abbrev pgZ : Obj := pgO 0 zO zO zO zO

theorem below5 {B : Nat} {w w1 : World} (h : Below B w w1) {g : Nat} (hg : B ≤ g) (u0 u1 u2 u3 u4 : Value) : Below B w (((((w1.setCell ⟨g, 0, none⟩ u0).setCell ⟨g, 1, none⟩ u1).setCell ⟨g, 2, none⟩ u2).setCell ⟨g, 3, none⟩ u3).setCell ⟨g, 4, none⟩ u4) :=
  ((((h.setCell hg _).setCell hg _).setCell hg _).setCell hg _).setCell hg _

set_option maxHeartbeats 400000 in
theorem fetch_empty (gp gf g gl : Nat) (V : Nat → Prop) (L : List Sec) (F : List Fr) (hd : Nat) (n : Nat) (w : World) (h : St w gp gf g gl V L F hd) (hn : n < L.length) (hb : L[n].b = []) :
    Calls Tryz.prog 107 #[tp gp, .int .i64 (n : Int)] w fun e w' => e = .returned (.tuple #[pgV 0 zO zO zO zO, .int .i64 0]) ∧ Below w.heap.size w w' := by
  have hz := h.below (below_box w pgZ)
  have h0 := hz.p.c0
  have hst := fun (ad : Addr) (re im : Nat) (W : World) => run_store Tryz.prog W ad (.complex .f64 re im) .plain rfl
  have HB : Hid (L[n].b = []) := hb
  clear hb
  have hq := PgAt.new w 0 zO zO zO zO
  unfold pgV
  go_enter Tryz.func107, Tryz.ntmps107
  go_wp2_with (first
    | (go_at_call 136; refine (read_ok _ _ _ n _ hz.d hn).mono ?_; rintro e w1 ⟨ao1, n1, cap1, rfl, ho1, -, hb1⟩; rw [HB.out] at ho1; obtain rfl : n1 = 0 := ho1.len.symm; have hq1 := hq.below hb1 (by simp); have q0 := hq1.c0; have q1 := hq1.c1; have q2 := hq1.c2; have q3 := hq1.c3; have q4 := hq1.c4; have r0 := hq1.f0; have r1 := hq1.f1; have r2 := hq1.f2; have r3 := hq1.f3; have r4 := hq1.f4; clear hq1)
    | fail)
  refine bodyPost_ret (by simp [results, Tryz.results107, go_sem, q0, q1, q2, q3, q4]; try rfl) rfl ?_
  refine ⟨rfl, ?_⟩
  exact below5 (below_alloc (hb1.mono (by simp))) (Nat.le_refl _) _ _ _ _ _

end Go.Proofs.YtpofihiojhbfgaaGreatDoor

namespace Go.Proofs.YtpofihiojhbfgaaGreatDoor
open Go.RowKit
set_option linter.unusedVariables false
set_option maxRecDepth 8000

abbrev fp (gf i : Nat) : Value := .pointer (some ⟨gf, i * 10, none⟩)

end Go.Proofs.YtpofihiojhbfgaaGreatDoor

namespace Go.Proofs.YtpofihiojhbfgaaGreatDoor
open Go.RowKit
set_option linter.unusedVariables false
set_option maxRecDepth 8000

end Go.Proofs.YtpofihiojhbfgaaGreatDoor

namespace Go.Proofs.YtpofihiojhbfgaaGreatDoor
open Go.RowKit
set_option linter.unusedVariables false
set_option maxRecDepth 8000

theorem PgAt.keep {w w' : World} {g : Nat} {l : Int} {a b c d : Nat × Nat} (h : PgAt w g l a b c d) (hb : w'.heap[g]? = w.heap[g]?) (hs : w.heap.size ≤ w'.heap.size) : PgAt w' g l a b c d := by
  have hc : ∀ j, w'.cell? ⟨g, j, none⟩ = w.cell? ⟨g, j, none⟩ := fun j => World.cell?_of_block (w := w) hb
  have hf : ∀ j, w'.frozen? ⟨g, j, none⟩ = w.frozen? ⟨g, j, none⟩ := fun j => World.frozen?_of_block (w := w) hb
  exact ⟨(hc 0).trans h.c0, (hc 1).trans h.c1, (hc 2).trans h.c2, (hc 3).trans h.c3, (hc 4).trans h.c4, (hf 0).trans h.f0, (hf 1).trans h.f1, (hf 2).trans h.f2, (hf 3).trans h.f3, (hf 4).trans h.f4, Nat.lt_of_lt_of_le h.lt hs⟩

theorem putFr_keep (w : World) (gp gf i : Nat) (x : Fr) : ∀ k, k < w.heap.size → k ≠ gp → k ≠ gf → (putFr w gf i x).heap[k]? = w.heap[k]? := by
  intro k _ _ h
  have hb : ∀ (W : World) (j : Nat) (v : Value), (W.setCell ⟨gf, j, none⟩ v).heap[k]? = W.heap[k]? := fun W j v => Below.heap_setCell _ _ _ _ h
  simp only [hb]
theorem putPg_keep (w : World) (gp gf i : Nat) (l : Int) (a b c d : Nat × Nat) : ∀ k, k < w.heap.size → k ≠ gp → k ≠ gf → (putPg w gf i l a b c d).heap[k]? = w.heap[k]? := by
  intro k _ _ h
  have hb : ∀ (W : World) (j : Nat) (v : Value), (W.setCell ⟨gf, j, none⟩ v).heap[k]? = W.heap[k]? := fun W j v => Below.heap_setCell _ _ _ _ h
  simp only [hb]
theorem putFr_size (w : World) (gf i : Nat) (x : Fr) : w.heap.size ≤ (putFr w gf i x).heap.size := by simp [World.setCell]
theorem putPg_size (w : World) (gf i : Nat) (l : Int) (a b c d : Nat × Nat) : w.heap.size ≤ (putPg w gf i l a b c d).heap.size := by simp [World.setCell]
theorem Off3.putFr {p f g : Nat} {a w : World} (h : Off3 p f g a w) (i : Nat) (x : Fr) : Off3 p f g a (putFr w f i x) :=
  (((((((((h.setF _ _).setF _ _).setF _ _).setF _ _).setF _ _).setF _ _).setF _ _).setF _ _).setF _ _).setF _ _
theorem Off3.putPg {p f g : Nat} {a w : World} (h : Off3 p f g a w) (i : Nat) (l : Int) (x0 x1 x2 x3 : Nat × Nat) : Off3 p f g a (putPg w f i l x0 x1 x2 x3) :=
  ((((h.setF _ _).setF _ _).setF _ _).setF _ _).setF _ _

def Fr.use (x : Fr) : Fr := { x with us := true }

set_option maxHeartbeats 400000 in
theorem load_hit (gp gf g gl : Nat) (V : Nat → Prop) (L : List Sec) (F : List Fr) (hd : Nat) (n : Int) (i : Nat) (hi : i < F.length) (w : World) (h : St w gp gf g gl V L F hd) (hb : ∀ j (hj : j < i), F[j].has n = false) (hy : F[i].has n = true) :
    Calls Tryz.prog 67 #[tp gp, .int .i64 n] w fun e w' => e = .returned (.tuple #[fp gf i, .int .i64 0]) ∧ St w' gp gf g gl V L (F.set i F[i].use) hd ∧ Off3 gp gf g w w' := by
  have HB : Hid (∀ j (hj : j < i), F[j].has n = false) := hb
  have HY : Hid (F[i].has n = true) := hy
  clear hb hy
  have c9 := h.p.cell i hi 9 _ rfl
  have z9 := h.p.ff (i * 10 + 9)
  go_enter Tryz.func67, Tryz.ntmps67
  go_wp2_with (first
    | (go_at_call 106; refine (holder_some gp gf g gl F hd n i hi _ h.p HB.out HY.out).mono ?_; rintro e w' ⟨rfl, hw⟩; subst w')
    | fail)
  go_ret2
  exact ⟨rfl, h.turn (h.p.put i hi 9 (by omega) (.bool true) F[i].use rfl) (keepF _ _ _ _ _) (by simp [World.setCell]), (Off3.refl _ _ _ _).setF _ _⟩

abbrev Fr.of (n l : Int) (a b c d : Nat × Nat) : Fr := ⟨true, n, l, a, b, c, d, false, 0, true⟩

set_option maxHeartbeats 800000 in
theorem load_new (gp gf g gl : Nat) (V : Nat → Prop) (L L' : List Sec) (F F' : List Fr) (hd hd' : Nat) (n l : Int) (a b c d : Nat × Nat) (i : Nat) (hi : i < F'.length) (w : World) (h : St w gp gf g gl V L F hd) (hb : ∀ j (hj : j < F.length), F[j].has n = false)
    (HFe : ∀ W, Below w.heap.size w W → Calls Tryz.prog 107 #[tp gp, .int .i64 n] W fun e w' => e = .returned (.tuple #[pgV l a b c d, .int .i64 0]) ∧ Below W.heap.size W w')
    (HR : ∀ W, Below w.heap.size w W → Calls Tryz.prog 108 #[tp gp] W fun e w' => e = .returned (fp gf i) ∧ ∃ V', St w' gp gf g gl V' L' F' hd' ∧ (∀ k, k < W.heap.size → V' k → V k) ∧ Off3 gp gf g W w') :
    Calls Tryz.prog 67 #[tp gp, .int .i64 n] w fun e w' => e = .returned (.tuple #[fp gf i, .int .i64 0]) ∧ ∃ V', St w' gp gf g gl V' L' (F'.set i (Fr.of n l a b c d)) hd' ∧ (∀ k, k < w.heap.size → V' k → V k) ∧ Off3 gp gf g w w' := by
  have HB : Hid (∀ j (hj : j < F.length), F[j].has n = false) := hb
  have H1 : Hid (∀ W, Below w.heap.size w W → Calls Tryz.prog 107 #[tp gp, .int .i64 n] W fun e w' => e = .returned (.tuple #[pgV l a b c d, .int .i64 0]) ∧ Below W.heap.size W w') := HFe
  have H2 : Hid (∀ W, Below w.heap.size w W → Calls Tryz.prog 108 #[tp gp] W fun e w' => e = .returned (fp gf i) ∧ ∃ V', St w' gp gf g gl V' L' F' hd' ∧ (∀ k, k < W.heap.size → V' k → V k) ∧ Off3 gp gf g W w') := HR
  clear hb HFe HR
  have hst := fun (ad : Addr) (re im : Nat) (W : World) => run_store Tryz.prog W ad (.complex .f64 re im) .plain rfl
  go_enter Tryz.func67, Tryz.ntmps67
  go_wp2_with (first
    | (go_at_call 106; refine (holder_none gp gf g gl F hd n _ h.p HB.out).mono ?_; rintro e w' ⟨rfl, hw⟩; subst w')
    | (go_at_call 107; refine (H1.out _ (Below.refl _ _)).mono ?_; unfold pgV; rintro e w1 ⟨rfl, hb1⟩; have hS1 := h.below hb1)
    | (go_at_call 108; refine (H2.out _ (hb1.alloc hb1.size _)).mono ?_; rintro e w2 ⟨rfl, V2, hS2, hV2, hO2⟩; have c0 := hS2.p.cell i hi 0 _ rfl; simp only [Nat.add_zero] at c0; have c1 := hS2.p.cell i hi 1 _ rfl; have c2 := hS2.p.cell i hi 2 _ rfl; have c3 := hS2.p.cell i hi 3 _ rfl; have c4 := hS2.p.cell i hi 4 _ rfl; have c5 := hS2.p.cell i hi 5 _ rfl; have c6 := hS2.p.cell i hi 6 _ rfl; have c7 := hS2.p.cell i hi 7 _ rfl; have c8 := hS2.p.cell i hi 8 _ rfl; have c9 := hS2.p.cell i hi 9 _ rfl; have z0 := hS2.p.ff (i * 10); have z1 := hS2.p.ff (i * 10 + 1); have z2 := hS2.p.ff (i * 10 + 2); have z3 := hS2.p.ff (i * 10 + 3); have z4 := hS2.p.ff (i * 10 + 4); have z5 := hS2.p.ff (i * 10 + 5); have z6 := hS2.p.ff (i * 10 + 6); have z7 := hS2.p.ff (i * 10 + 7); have z8 := hS2.p.ff (i * 10 + 8); have z9 := hS2.p.ff (i * 10 + 9); have hq := (PgAt.new w1 l a b c d).keep (hO2.block w1.heap.size (by simp) (by have := hS1.p.lp; omega) (by have := hS1.p.lf; omega) (by have := hS1.d.lt; omega)) hO2.size; have q0 := hq.c0; have q1 := hq.c1; have q2 := hq.c2; have q3 := hq.c3; have q4 := hq.c4; clear hq)
    | fail)
  go_ret2
  refine ⟨rfl, V2, hS2.turn (hS2.p.whole i hi (Fr.of n l a b c d)) (putFr_keep w2 gp gf i (Fr.of n l a b c d)) (putFr_size w2 gf i (Fr.of n l a b c d)), fun k hk hx => hV2 k (by have := hb1.size; simp; omega) hx, ?_⟩
  exact ((Off3.of_below (hb1.alloc hb1.size _)).trans hO2).putFr i (Fr.of n l a b c d)

end Go.Proofs.YtpofihiojhbfgaaGreatDoor

namespace Go.Proofs.YtpofihiojhbfgaaGreatDoor
open Go.RowKit
set_option linter.unusedVariables false
set_option maxRecDepth 8000

def Left (w w' : World) (gp gf g gl : Nat) (V : Nat → Prop) (L : List Sec) (F : List Fr) (hd : Nat) : Prop := ∃ V', St w' gp gf g gl V' L F hd ∧ (∀ k, k < w.heap.size → V' k → V k) ∧ Off3 gp gf g w w'

theorem Off3.box {p f g : Nat} {w w1 : World} (h : Off3 p f g w w1) (j : Nat) (u : Value) : Off3 p f g w (w1.setCell ⟨w.heap.size, j, none⟩ u) :=
  ⟨h.os, h.tape, h.output, by simpa [World.setCell] using h.size, fun k hk h1 h2 h3 => (Below.heap_setCell _ _ _ _ (Nat.ne_of_lt hk)).trans (h.block k hk h1 h2 h3)⟩
theorem Off3.box5 {p f g : Nat} {w w1 : World} (h : Off3 p f g w w1) (u0 u1 u2 u3 u4 : Value) : Off3 p f g w (((((w1.setCell ⟨w.heap.size, 0, none⟩ u0).setCell ⟨w.heap.size, 1, none⟩ u1).setCell ⟨w.heap.size, 2, none⟩ u2).setCell ⟨w.heap.size, 3, none⟩ u3).setCell ⟨w.heap.size, 4, none⟩ u4) :=
  ((((h.box _ _).box _ _).box _ _).box _ _).box _ _

theorem St.other {w : World} {gp gf g gl : Nat} {V : Nat → Prop} {L : List Sec} {F : List Fr} {hd : Nat} (h : St w gp gf g gl V L F hd) (q j : Nat) (u : Value) (h1 : gp ≠ q) (h2 : gf ≠ q) (h3 : g ≠ q) (h4 : g + 1 ≠ q) (hv : ¬ V q) : St (w.setCell ⟨q, j, none⟩ u) gp gf g gl V L F hd := by
  have hk : ∀ k, k ≠ q → (w.setCell ⟨q, j, none⟩ u).heap[k]? = w.heap[k]? := fun k hk => Below.heap_setCell _ _ _ _ hk
  exact ⟨h.p.keep (hk gp h1) (hk gf h2) (by simp [World.setCell]), h.d.kept ⟨by simp [World.setCell], fun k _ hx => hk k (by intro e; subst e; rcases hx with hx | hx | hx; exact hv hx; exact h3 hx.symm; exact h4 hx.symm)⟩, h.pg, h.pg1, h.fg, h.fg1, h.vp, h.vf⟩

theorem St.mono {w : World} {gp gf g gl : Nat} {V U : Nat → Prop} {L : List Sec} {F : List Fr} {hd : Nat} (h : St w gp gf g gl V L F hd) (hv : ∀ k, k < w.heap.size → V k → U k) (hu : ∀ k, U k → V k) : St w gp gf g gl U L F hd :=
  ⟨h.p, h.d.mono hv (fun hx => h.d.vg (hu _ hx)), h.pg, h.pg1, h.fg, h.fg1, fun hx => h.vp (hu _ hx), fun hx => h.vf (hu _ hx)⟩

theorem St.tight {w : World} {gp gf g gl : Nat} {V : Nat → Prop} {L : List Sec} {F : List Fr} {hd : Nat} (h : St w gp gf g gl V L F hd) : St w gp gf g gl (fun k => V k ∧ k < w.heap.size) L F hd :=
  h.mono (fun k hk hx => ⟨hx, hk⟩) fun k hx => hx.1

abbrev Loads (w : World) (gp gf g gl : Nat) (V : Nat → Prop) (n : Int) (i : Nat) (L : List Sec) (F : List Fr) (hd : Nat) : Prop :=
  ∀ W, Below w.heap.size w W → Calls Tryz.prog 67 #[tp gp, .int .i64 n] W fun e w' => e = .returned (.tuple #[fp gf i, .int .i64 0]) ∧ Left W w' gp gf g gl V L F hd

set_option maxHeartbeats 800000 in
theorem pool_get_ok (gp gf g gl : Nat) (V : Nat → Prop) (L : List Sec) (F : List Fr) (hd : Nat) (n : Int) (i : Nat) (hi : i < F.length) (w : World) (hlt : gp < w.heap.size ∧ gf < w.heap.size ∧ g + 1 < w.heap.size) (hv : ∀ k, V k → k < w.heap.size) (HL : Loads w gp gf g gl V n i L F hd) :
    Calls Tryz.prog 37 #[tp gp, .int .i64 n] w fun e w' => e = .returned (.tuple #[pgV F[i].l F[i].a F[i].b F[i].c F[i].d, .int .i64 0]) ∧ Left w w' gp gf g gl V L F hd := by
  have H1 : Hid (Loads w gp gf g gl V n i L F hd) := HL
  clear HL
  have hst := fun (ad : Addr) (re im : Nat) (W : World) => run_store Tryz.prog W ad (.complex .f64 re im) .plain rfl
  unfold pgV
  go_enter Tryz.func37, Tryz.ntmps37
  go_wp2_with (first
    | (go_at_call 67; refine (H1.out _ (below_box w pgZ)).mono ?_; rintro e w1 ⟨rfl, V1, hS1, hV1, hO1⟩; have hq := (PgAt.new w 0 zO zO zO zO).keep (hO1.block w.heap.size (by simp) (by omega) (by omega) (by omega)) hO1.size; have q0 := hq.c0; have q1 := hq.c1; have q2 := hq.c2; have q3 := hq.c3; have q4 := hq.c4; have r0 := hq.f0; have r1 := hq.f1; have r2 := hq.f2; have r3 := hq.f3; have r4 := hq.f4; have c2 := hS1.p.cell i hi 2 _ rfl; have c3 := hS1.p.cell i hi 3 _ rfl; have c4 := hS1.p.cell i hi 4 _ rfl; have c5 := hS1.p.cell i hi 5 _ rfl; have c6 := hS1.p.cell i hi 6 _ rfl)
    | fail)
  refine bodyPost_ret (by simp [results, Tryz.results37, go_sem, q0, q1, q2, q3, q4]; try rfl) rfl ?_
  have hnv : ¬ V1 w.heap.size := fun hx => by have := hv _ (hV1 _ (by simp) hx); omega
  have n1 : gp ≠ w.heap.size := by omega
  have n2 : gf ≠ w.heap.size := by omega
  have n3 : g ≠ w.heap.size := by omega
  have n4 : g + 1 ≠ w.heap.size := by omega
  refine ⟨rfl, V1, ((((hS1.other _ _ _ n1 n2 n3 n4 hnv).other _ _ _ n1 n2 n3 n4 hnv).other _ _ _ n1 n2 n3 n4 hnv).other _ _ _ n1 n2 n3 n4 hnv).other _ _ _ n1 n2 n3 n4 hnv, fun k hk hx => hV1 k (by simp; omega) hx, ?_⟩
  refine ((Off3.of_below (below_box w pgZ)).trans hO1).box5 _ _ _ _ _

set_option maxHeartbeats 800000 in
theorem pool_set_ok (gp gf g gl : Nat) (V : Nat → Prop) (L : List Sec) (F : List Fr) (hd : Nat) (n : Int) (i : Nat) (hi : i < F.length) (l : Int) (a b c d : Nat × Nat) (w : World) (hlt : gp < w.heap.size ∧ gf < w.heap.size ∧ g + 1 < w.heap.size) (hv : ∀ k, V k → k < w.heap.size) (hl : lsnB l = true) (HL : Loads w gp gf g gl V n i L F hd) :
    Calls Tryz.prog 57 #[tp gp, .int .i64 n, pgV l a b c d] w fun e w' => e = .returned (.int .i64 0) ∧ Left w w' gp gf g gl V L (F.set i { F[i] with l := l, a := a, b := b, c := c, d := d, dr := true }) hd := by
  have H1 : Hid (Loads w gp gf g gl V n i L F hd) := HL
  clear HL
  have hst := fun (ad : Addr) (re im : Nat) (W : World) => run_store Tryz.prog W ad (.complex .f64 re im) .plain rfl
  unfold pgV
  go_enter Tryz.func57, Tryz.ntmps57
  go_wp2_with (first
    | (go_at_call 97; refine (right_any l a b c d _).mono ?_; rintro e w1 ⟨rfl, hw⟩; subst w1)
    | (go_at_call 67; refine (H1.out _ ((below_box w (pgO l a b c d)).alloc (by simp) _)).mono ?_; rintro e w1 ⟨rfl, V1, hS1, hV1, hO1⟩; have hq0 := (PgAt.new w l a b c d).below (below_box _ (pgO l a b c d)) (by simp); have hq := hq0.keep (hO1.block w.heap.size (by simp; omega) (by omega) (by omega) (by omega)) hO1.size; have q0 := hq.c0; have q1 := hq.c1; have q2 := hq.c2; have q3 := hq.c3; have q4 := hq.c4; have c2 := hS1.p.cell i hi 2 _ rfl; have c3 := hS1.p.cell i hi 3 _ rfl; have c4 := hS1.p.cell i hi 4 _ rfl; have c5 := hS1.p.cell i hi 5 _ rfl; have c6 := hS1.p.cell i hi 6 _ rfl; have c7 := hS1.p.cell i hi 7 _ rfl; have z2 := hS1.p.ff (i * 10 + 2); have z3 := hS1.p.ff (i * 10 + 3); have z4 := hS1.p.ff (i * 10 + 4); have z5 := hS1.p.ff (i * 10 + 5); have z6 := hS1.p.ff (i * 10 + 6); have z7 := hS1.p.ff (i * 10 + 7))
    | fail)
  go_ret
  have hP := hS1.p.page i hi l a b c d
  have hX := hS1.turn hP (putPg_keep w1 gp gf i l a b c d) (putPg_size w1 gf i l a b c d)
  have hP2 := hX.p.put i (by simpa using hi) 7 (by omega) (.bool true) { F[i] with l := l, a := a, b := b, c := c, d := d, dr := true } (by simp [frC])
  rw [List.set_set] at hP2
  refine ⟨rfl, V1, hX.turn hP2 (keepF _ _ _ _ _) (by simp [World.setCell]), fun k hk hx => hV1 k (by simp; omega) hx, ?_⟩
  exact ((((Off3.of_below ((below_box w (pgO l a b c d)).alloc (by simp) _)).trans hO1).putPg i l a b c d)).setF _ _

end Go.Proofs.YtpofihiojhbfgaaGreatDoor
