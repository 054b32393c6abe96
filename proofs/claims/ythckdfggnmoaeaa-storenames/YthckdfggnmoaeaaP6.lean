/- What Get, Set, Pin and Unpin of package pool do, walked, out of what load does. -/
import Derived.Test.YthckdfggnmoaeaaP5
namespace Go.Proofs.Ythckdfggnmoaeaa
open Go.RowKit
set_option linter.unusedVariables false

/-- What a call leaves of a pool. -/
def Left (w w' : World) (gp gf g gl : Nat) (V : Nat → Prop) (L : List Sec) (F : List Fr) (hd : Nat) : Prop := ∃ V', St w' gp gf g gl V' L F hd ∧ (∀ k, k < w.heap.size → V' k → V k) ∧ Off3 gp gf g w w'

theorem Left.pre {w w1 w' : World} {gp gf g gl : Nat} {V : Nat → Prop} {L : List Sec} {F : List Fr} {hd : Nat} (hb : Below w.heap.size w w1) (h : Left w1 w' gp gf g gl V L F hd) : Left w w' gp gf g gl V L F hd := by
  obtain ⟨V', h1, h2, h3⟩ := h
  exact ⟨V', h1, fun k hk hx => h2 k (Nat.lt_of_lt_of_le hk hb.size) hx, (Off3.of_below hb).trans h3⟩

theorem Off3.box {p f g : Nat} {w w1 : World} (h : Off3 p f g w w1) (j : Nat) (u : Value) : Off3 p f g w (w1.setCell ⟨w.heap.size, j, none⟩ u) :=
  ⟨h.os, h.tape, h.output, by simpa [World.setCell] using h.size, fun k hk h1 h2 h3 => (Below.heap_setCell _ _ _ _ (Nat.ne_of_lt hk)).trans (h.block k hk h1 h2 h3)⟩
theorem Off3.box5 {p f g : Nat} {w w1 : World} (h : Off3 p f g w w1) (u0 u1 u2 u3 u4 : Value) : Off3 p f g w (((((w1.setCell ⟨w.heap.size, 0, none⟩ u0).setCell ⟨w.heap.size, 1, none⟩ u1).setCell ⟨w.heap.size, 2, none⟩ u2).setCell ⟨w.heap.size, 3, none⟩ u3).setCell ⟨w.heap.size, 4, none⟩ u4) :=
  ((((h.box _ _).box _ _).box _ _).box _ _).box _ _

/-- A store into a block that is neither the pool's nor the drive's. -/
theorem St.other {w : World} {gp gf g gl : Nat} {V : Nat → Prop} {L : List Sec} {F : List Fr} {hd : Nat} (h : St w gp gf g gl V L F hd) (q j : Nat) (u : Value) (h1 : gp ≠ q) (h2 : gf ≠ q) (h3 : g ≠ q) (h4 : g + 1 ≠ q) (hv : ¬ V q) : St (w.setCell ⟨q, j, none⟩ u) gp gf g gl V L F hd := by
  have hk : ∀ k, k ≠ q → (w.setCell ⟨q, j, none⟩ u).heap[k]? = w.heap[k]? := fun k hk => Below.heap_setCell _ _ _ _ hk
  exact ⟨h.p.keep (hk gp h1) (hk gf h2) (by simp [World.setCell]), h.d.kept ⟨by simp [World.setCell], fun k _ hx => hk k (by intro e; subst e; rcases hx with hx | hx | hx; exact hv hx; exact h3 hx.symm; exact h4 hx.symm)⟩, h.pg, h.pg1, h.fg, h.fg1, h.vp, h.vf⟩

theorem St.mono {w : World} {gp gf g gl : Nat} {V U : Nat → Prop} {L : List Sec} {F : List Fr} {hd : Nat} (h : St w gp gf g gl V L F hd) (hv : ∀ k, k < w.heap.size → V k → U k) (hu : ∀ k, U k → V k) : St w gp gf g gl U L F hd :=
  ⟨h.p, h.d.mono hv (fun hx => h.d.vg (hu _ hx)), h.pg, h.pg1, h.fg, h.fg1, fun hx => h.vp (hu _ hx), fun hx => h.vf (hu _ hx)⟩

/-- The set is what is there. -/
theorem St.tight {w : World} {gp gf g gl : Nat} {V : Nat → Prop} {L : List Sec} {F : List Fr} {hd : Nat} (h : St w gp gf g gl V L F hd) : St w gp gf g gl (fun k => V k ∧ k < w.heap.size) L F hd :=
  h.mono (fun k hk hx => ⟨hx, hk⟩) fun k hx => hx.1

/-- What a load does, wherever it is called. -/
abbrev Loads (w : World) (gp gf g gl : Nat) (V : Nat → Prop) (n : Int) (i : Nat) (L : List Sec) (F : List Fr) (hd : Nat) : Prop :=
  ∀ W, Below w.heap.size w W → Calls Try.prog 40 #[tp gp, .int .i64 n] W fun e w' => e = .returned (.tuple #[fp gf i, .int .i64 0]) ∧ Left W w' gp gf g gl V L F hd

set_option maxHeartbeats 800000 in
theorem pool_get_ok (gp gf g gl : Nat) (V : Nat → Prop) (L : List Sec) (F : List Fr) (hd : Nat) (n : Int) (i : Nat) (hi : i < F.length) (w : World) (hlt : gp < w.heap.size ∧ gf < w.heap.size ∧ g + 1 < w.heap.size) (hv : ∀ k, V k → k < w.heap.size) (HL : Loads w gp gf g gl V n i L F hd) :
    Calls Try.prog 21 #[tp gp, .int .i64 n] w fun e w' => e = .returned (.tuple #[pgV F[i].l F[i].a F[i].b F[i].c F[i].d, .int .i64 0]) ∧ Left w w' gp gf g gl V L F hd := by
  have H1 : Hid (Loads w gp gf g gl V n i L F hd) := HL
  clear HL
  have hst := fun (ad : Addr) (re im : Nat) (W : World) => run_store Try.prog W ad (.complex .f64 re im) .plain rfl
  unfold pgV
  go_enter Try.func21, Try.ntmps21
  go_wp2_with (first
    | (go_at_call 40; refine (H1.out _ (below_box w pgZ)).mono ?_; rintro e w1 ⟨rfl, V1, hS1, hV1, hO1⟩; have hq := (PgAt.new w 0 zO zO zO zO).keep (hO1.block w.heap.size (by simp) (by omega) (by omega) (by omega)) hO1.size; have q0 := hq.c0; have q1 := hq.c1; have q2 := hq.c2; have q3 := hq.c3; have q4 := hq.c4; have r0 := hq.f0; have r1 := hq.f1; have r2 := hq.f2; have r3 := hq.f3; have r4 := hq.f4; have c2 := hS1.p.cell i hi 2 _ rfl; have c3 := hS1.p.cell i hi 3 _ rfl; have c4 := hS1.p.cell i hi 4 _ rfl; have c5 := hS1.p.cell i hi 5 _ rfl; have c6 := hS1.p.cell i hi 6 _ rfl)
    | fail)
  refine bodyPost_ret (by simp [results, Try.results21, go_sem, q0, q1, q2, q3, q4]; try rfl) rfl ?_
  have hnv : ¬ V1 w.heap.size := fun hx => by have := hv _ (hV1 _ (by simp) hx); omega
  have n1 : gp ≠ w.heap.size := by omega
  have n2 : gf ≠ w.heap.size := by omega
  have n3 : g ≠ w.heap.size := by omega
  have n4 : g + 1 ≠ w.heap.size := by omega
  refine ⟨rfl, V1, ((((hS1.other _ _ _ n1 n2 n3 n4 hnv).other _ _ _ n1 n2 n3 n4 hnv).other _ _ _ n1 n2 n3 n4 hnv).other _ _ _ n1 n2 n3 n4 hnv).other _ _ _ n1 n2 n3 n4 hnv, fun k hk hx => hV1 k (by simp; omega) hx, ?_⟩
  refine ((Off3.of_below (below_box w pgZ)).trans hO1).box5 _ _ _ _ _

set_option maxHeartbeats 400000 in
theorem pool_get_bad (gp gf g gl : Nat) (V : Nat → Prop) (L : List Sec) (F : List Fr) (hd : Nat) (n : Int) (w : World) (h : St w gp gf g gl V L F hd) (hb : ∀ j (hj : j < F.length), F[j].has n = false) (hn : hasB L n = false) :
    Calls Try.prog 21 #[tp gp, .int .i64 n] w fun e w' => e = .returned (.tuple #[pgV 0 zO zO zO zO, .int .i64 51]) ∧ Below w.heap.size w w' := by
  have HB : Hid (∀ j (hj : j < F.length), F[j].has n = false) := hb
  clear hb
  have hst := fun (ad : Addr) (re im : Nat) (W : World) => run_store Try.prog W ad (.complex .f64 re im) .plain rfl
  have hz := h.below (below_box w pgZ)
  have hq0 := PgAt.new w 0 zO zO zO zO
  unfold pgV
  go_enter Try.func21, Try.ntmps21
  go_wp2_with (first
    | (go_at_call 40; refine (load_bad gp gf g gl V L F hd n _ hz HB.out hn).mono ?_; rintro e w1 ⟨rfl, hb1⟩; have hq := hq0.below hb1 hq0.lt; have q0 := hq.c0; have q1 := hq.c1; have q2 := hq.c2; have q3 := hq.c3; have q4 := hq.c4; have r0 := hq.f0; have r1 := hq.f1; have r2 := hq.f2; have r3 := hq.f3; have r4 := hq.f4)
    | fail)
  refine bodyPost_ret (by simp [results, Try.results21, go_sem, q0, q1, q2, q3, q4]; try rfl) rfl ?_
  refine ⟨rfl, ?_⟩
  exact below5 (below_alloc (hb1.mono (by simp))) (Nat.le_refl _) _ _ _ _ _

set_option maxHeartbeats 800000 in
theorem pool_set_ok (gp gf g gl : Nat) (V : Nat → Prop) (L : List Sec) (F : List Fr) (hd : Nat) (n : Int) (i : Nat) (hi : i < F.length) (l : Int) (a b c d : Nat × Nat) (w : World) (hlt : gp < w.heap.size ∧ gf < w.heap.size ∧ g + 1 < w.heap.size) (hv : ∀ k, V k → k < w.heap.size) (hl : lsnB l = true) (HL : Loads w gp gf g gl V n i L F hd) :
    Calls Try.prog 36 #[tp gp, .int .i64 n, pgV l a b c d] w fun e w' => e = .returned (.int .i64 0) ∧ Left w w' gp gf g gl V L (F.set i { F[i] with l := l, a := a, b := b, c := c, d := d, dr := true }) hd := by
  have H1 : Hid (Loads w gp gf g gl V n i L F hd) := HL
  clear HL
  have hst := fun (ad : Addr) (re im : Nat) (W : World) => run_store Try.prog W ad (.complex .f64 re im) .plain rfl
  unfold pgV
  go_enter Try.func36, Try.ntmps36
  go_wp2_with (first
    | (go_at_call 54; refine (right_any l a b c d _).mono ?_; rintro e w1 ⟨rfl, hw⟩; subst w1)
    | (go_at_call 40; refine (H1.out _ ((below_box w (pgO l a b c d)).alloc (by simp) _)).mono ?_; rintro e w1 ⟨rfl, V1, hS1, hV1, hO1⟩; have hq0 := (PgAt.new w l a b c d).below (below_box _ (pgO l a b c d)) (by simp); have hq := hq0.keep (hO1.block w.heap.size (by simp; omega) (by omega) (by omega) (by omega)) hO1.size; have q0 := hq.c0; have q1 := hq.c1; have q2 := hq.c2; have q3 := hq.c3; have q4 := hq.c4; have c2 := hS1.p.cell i hi 2 _ rfl; have c3 := hS1.p.cell i hi 3 _ rfl; have c4 := hS1.p.cell i hi 4 _ rfl; have c5 := hS1.p.cell i hi 5 _ rfl; have c6 := hS1.p.cell i hi 6 _ rfl; have c7 := hS1.p.cell i hi 7 _ rfl; have z2 := hS1.p.ff (i * 10 + 2); have z3 := hS1.p.ff (i * 10 + 3); have z4 := hS1.p.ff (i * 10 + 4); have z5 := hS1.p.ff (i * 10 + 5); have z6 := hS1.p.ff (i * 10 + 6); have z7 := hS1.p.ff (i * 10 + 7))
    | fail)
  go_ret
  have hP := hS1.p.page i hi l a b c d
  have hX := hS1.turn hP (putPg_keep w1 gp gf i l a b c d) (putPg_size w1 gf i l a b c d)
  have hP2 := hX.p.put i (by simpa using hi) 7 (by omega) (.bool true) { F[i] with l := l, a := a, b := b, c := c, d := d, dr := true } (by simp [frC])
  rw [List.set_set] at hP2
  refine ⟨rfl, V1, hX.turn hP2 (keepF _ _ _ _ _) (by simp [World.setCell]), fun k hk hx => hV1 k (by simp; omega) hx, ?_⟩
  exact ((((Off3.of_below ((below_box w (pgO l a b c d)).alloc (by simp) _)).trans hO1).putPg i l a b c d)).setF _ _

end Go.Proofs.Ythckdfggnmoaeaa
