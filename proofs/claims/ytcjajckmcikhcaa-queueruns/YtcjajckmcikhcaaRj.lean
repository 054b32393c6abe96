/- An act of QueueRuns as a value, in a block, and in a slice that came in. -/
import Derived.Test.YtcjajckmcikhcaaOn
import Derived.Test.YtcjajckmcikhcaaRm
namespace Go.Proofs.Ytcjajckmcikhcaa
open Go.RowKit Go.Maps Go.ChangeShapes Go.WideShapes
set_option linter.unusedVariables false

structure Ac where
  kd : Int
  h : Int
  x : Wt
def acC (y : Ac) : List Value := [.int .i64 y.kd, .int .i64 y.h, .int .i64 y.x.c, .int .i64 y.x.p, .int .i64 y.x.o, .bool y.x.wr]
abbrev acV (y : Ac) : Value := .agg #[.int .i64 y.kd, .int .i64 y.h, .int .i64 y.x.c, .int .i64 y.x.p, .int .i64 y.x.o, .bool y.x.wr]
abbrev acO (y : Ac) : Obj := .cells #[.int .i64 y.kd, .int .i64 y.h, .int .i64 y.x.c, .int .i64 y.x.p, .int .i64 y.x.o, .bool y.x.wr] 35
theorem acE : Enc acC 6 := ⟨fun _ => rfl, fun x u hu => by simp only [acC, List.mem_cons, List.not_mem_nil, or_false] at hu; rcases hu with rfl | rfl | rfl | rfl | rfl | rfl <;> rfl, by decide⟩
def Ac.ok (y : Ac) : Prop := inR y.h ∧ y.x.ok
theorem Ac.ky {y : Ac} (h : y.ok) : (kyOf y.h y.x).ok := ⟨h.1, h.2.2.1, h.2.2.2⟩
theorem cells35 : Try.prog.cellsOf 35 = 6 := by kernel_rfl

theorem ac_cells {W : World} {g : Nat} {y : Ac} (h : W.heap[g]? = some (acO y)) : W.cell? ⟨g, 0, none⟩ = some (.int .i64 y.kd) ∧ W.cell? ⟨g, 1, none⟩ = some (.int .i64 y.h) ∧ W.cell? ⟨g, 2, none⟩ = some (.int .i64 y.x.c) ∧ W.cell? ⟨g, 3, none⟩ = some (.int .i64 y.x.p) ∧ W.cell? ⟨g, 4, none⟩ = some (.int .i64 y.x.o) ∧ W.cell? ⟨g, 5, none⟩ = some (.bool y.x.wr) := by
  refine ⟨?_, ?_, ?_, ?_, ?_, ?_⟩
  all_goals rw [cell_of_row _ _ _ _ _ _ h]; rfl
theorem acIn (x : Ac) (w : World) (g o : Nat) (h : ∀ j u, (acC x)[j]? = some u → w.cell? ⟨g, o + j, none⟩ = some u) : w.cell? ⟨g, o, none⟩ = some (.int .i64 x.kd) ∧ w.cell? ⟨g, o + 1, none⟩ = some (.int .i64 x.h) ∧ w.cell? ⟨g, o + 2, none⟩ = some (.int .i64 x.x.c) ∧ w.cell? ⟨g, o + 3, none⟩ = some (.int .i64 x.x.p) ∧ w.cell? ⟨g, o + 4, none⟩ = some (.int .i64 x.x.o) ∧ w.cell? ⟨g, o + 5, none⟩ = some (.bool x.x.wr) :=
  ⟨h 0 _ rfl, h 1 _ rfl, h 2 _ rfl, h 3 _ rfl, h 4 _ rfl, h 5 _ rfl⟩

section
variable {H : Type} {enc : TypeId × Value → H} {W : World}
theorem act_of {fuel : Nat} {cs : List Value} {x : DataW H × List MemPlace} (hlen : cs.length = 6) (h2 : DataW.trod enc Try.prog W 0 (fun _ => true) true fuel 35 cs = some x) : ∃ g : Ac, cs = acC g ∧ g.ok := by
  obtain ⟨xs, k, hk, hxy, _, hxl, hf⟩ := DataW.trod_struct Try.underlying35 h2
  match xs, hxl, cs, hlen with
  | [y0, y1, y2], _, [v0, v1, v2, v3, v4, v5], _ =>
    have g0 := hf 0 _ rfl
    have g1 := hf 1 _ rfl
    have g2 := hf 2 _ rfl
    simp [cells3, cells29] at g0 g1 g2
    obtain ⟨z0, hz0, _, w0⟩ := DataW.trod_int Try.underlying3 g0
    obtain ⟨z1, hz1, _, w1⟩ := DataW.trod_int Try.underlying3 g1
    obtain ⟨g, hg, hok⟩ := want_of rfl g2
    simp only [List.cons.injEq, and_true] at hz0 hz1
    subst hz0 hz1
    simp only [wtC, List.cons.injEq, and_true] at hg
    obtain ⟨rfl, rfl, rfl, rfl⟩ := hg
    exact ⟨⟨z0, z1, g⟩, rfl, wf64.1 w1, hok⟩

def ActsAt (W : World) (ao : Option Addr) (A : List Ac) : Prop := (∃ c, RdR acC W ao c A) ∧ ∀ x ∈ A, x.ok

theorem acts_of {fuel : Nat} {cs : List Value} {x : DataW H × List MemPlace} (h : DataW.trod enc Try.prog W 0 (fun _ => true) true fuel 33 cs = some x) (hw : ∀ n ∈ x.1.weights Try.prog 33, n ≤ reachBytes) :
    ∃ (a : Option Addr) (len cap : Nat) (A : List Ac), cs = [.slice a len cap] ∧ ActsAt W a A ∧ A.length = len ∧ True := by
  obtain ⟨a, len, cap, L, h1, h2, h3, h4⟩ := rows_of acE Try.underlying33 cells35 Ac.ok (fun fuel cs x hl h => act_of hl h) h
  exact ⟨a, len, cap, L, h1, ⟨⟨cap, h2⟩, h4⟩, h3, trivial⟩

set_option maxRecDepth 100000 in
theorem open_act {r : Reach} {b0 : Nat} {v : Value} {d : DataW H} {p : List MemPlace} (hv : Value.okWide Try.prog W r b0 35 v) (h : DataW.Trod enc Try.prog W 0 (fun _ => true) true 35 v d p) : ∃ g : Ac, v = acV g ∧ g.ok := by
  simp only [Value.okWide, Try.underlying35] at hv
  obtain ⟨cs, rfl, hsz, _⟩ := hv
  rw [cells35] at hsz
  obtain ⟨l⟩ := cs
  obtain ⟨fuel, hf⟩ := h
  obtain ⟨g, hg, hok⟩ := act_of (cs := l) (by simpa using hsz) (by simpa [Value.cells] using hf)
  exact ⟨g, by rw [hg]; rfl, hok⟩
end

/-- Program and reference side by side: the queue q (wants Lp, calls C), the reference's two slices in the block g6 (L, K), the acts in their boxes. -/
structure Run (w W : World) (V : Nat → Prop) (q g6 : Nat) (bx : List (Nat × Ac)) (a1 : Option Addr) (n1 c1 : Nat) (a2 : Option Addr) (n2 c2 : Nat) (Lp : List Wt) (C : Cl) (m : Nat) (L : List Wt) (K : List Ck) : Prop where
  vlt : ∀ k, V k → k < W.heap.size
  qx : Qx w.heap.size V W q Lp C m
  v6 : V g6
  v1 : ∀ a, a1 = some a → V a.block ∧ a.block ≠ g6
  v2 : ∀ a, a2 = some a → V a.block ∧ a.block ≠ g6
  vb : ∀ e ∈ bx, V e.1 ∧ e.1 ≠ g6 ∧ W.heap[e.1]? = some (acO e.2)
  p2 : P2 W g6 (.slice a1 n1 c1) (.slice a2 n2 c2)
  rl : RdR wtC W a1 c1 L
  ll : L.length = n1
  rk : RdR ckC W a2 c2 K
  lk : K.length = n2
  bel : Below w.heap.size w W
  g6 : w.heap.size ≤ g6

section
variable {w W W' : World} {V : Nat → Prop} {q g6 : Nat} {bx : List (Nat × Ac)} {a1 : Option Addr} {n1 c1 : Nat} {a2 : Option Addr} {n2 c2 : Nat} {Lp : List Wt} {C : Cl} {m : Nat} {L : List Wt} {K : List Ck}

/-- Behind a step of the program's. -/
theorem Run.prog (h : Run w W V q g6 bx a1 n1 c1 a2 n2 c2 Lp C m L K) {Lp' : List Wt} {C' : Cl} {m' : Nat} (s : Sx w.heap.size V W W' q Lp' C' m') : Run w W' V q g6 bx a1 n1 c1 a2 n2 c2 Lp' C' m' L K :=
  ⟨fun k hk => Nat.lt_of_lt_of_le (h.vlt k hk) s.size, s.qx, h.v6, h.v1, h.v2, fun e he => ⟨(h.vb e he).1, (h.vb e he).2.1, (s.keep _ (h.vb e he).1).trans (h.vb e he).2.2⟩, h.p2.keep (s.keep _ h.v6), h.rl.keep s.size fun a ha _ => s.keep _ (h.v1 a ha).1, h.ll, h.rk.keep s.size fun a ha _ => s.keep _ (h.v2 a ha).1, h.lk, h.bel.trans s.bel, h.g6⟩

/-- Behind something that makes memory alone. -/
theorem Run.more (h : Run w W V q g6 bx a1 n1 c1 a2 n2 c2 Lp C m L K) (hb : Below W.heap.size W W') : Run w W' (fun k => V k ∨ (W.heap.size ≤ k ∧ k < W'.heap.size)) q g6 bx a1 n1 c1 a2 n2 c2 Lp C m L K :=
  ⟨by rintro k (hk | hk); exact Nat.lt_of_lt_of_le (h.vlt k hk) hb.size; exact hk.2, (h.qx.foreign hb).less (by rintro k (hk | hk); exact .inl hk; exact .inr hk.1), .inl h.v6, fun a ha => ⟨.inl (h.v1 a ha).1, (h.v1 a ha).2⟩, fun a ha => ⟨.inl (h.v2 a ha).1, (h.v2 a ha).2⟩, fun e he => ⟨.inl (h.vb e he).1, (h.vb e he).2.1, (hb.block _ (h.vlt _ (h.vb e he).1)).trans (h.vb e he).2.2⟩, h.p2.below hb, h.rl.below hb, h.ll, h.rk.below hb, h.lk, below_step h.bel hb, h.g6⟩

theorem Run.le {m' : Nat} (h : Run w W V q g6 bx a1 n1 c1 a2 n2 c2 Lp C m L K) (hm : m ≤ m') : Run w W V q g6 bx a1 n1 c1 a2 n2 c2 Lp C m' L K := { h with qx := h.qx.le hm }

/-- An act in a box. -/
theorem Run.box (h : Run w W V q g6 bx a1 n1 c1 a2 n2 c2 Lp C m L K) (y : Ac) : Run w (W.alloc (acO y)) (fun k => V k ∨ (W.heap.size ≤ k ∧ k < (W.alloc (acO y)).heap.size)) q g6 ((W.heap.size, y) :: bx) a1 n1 c1 a2 n2 c2 Lp C m L K := by
  have h1 := h.more (W' := W.alloc (acO y)) ((Below.refl _ _).alloc (Nat.le_refl _) _)
  refine { h1 with vb := fun e he => ?_ }
  rcases List.mem_cons.1 he with rfl | he
  · refine ⟨.inr ⟨Nat.le_refl _, by simp⟩, ?_, heap_alloc_new W _⟩
    have := h.vlt g6 h.v6
    show W.heap.size ≠ g6
    omega
  · exact h1.vb e he
theorem Run.unbox {e : Nat × Ac} (h : Run w W V q g6 (e :: bx) a1 n1 c1 a2 n2 c2 Lp C m L K) : Run w W V q g6 bx a1 n1 c1 a2 n2 c2 Lp C m L K := { h with vb := fun e he => h.vb e (List.mem_cons_of_mem _ he) }

/-- What the reference's call answered, stored. -/
theorem Run.store (h : Run w W V q g6 bx a1 n1 c1 a2 n2 c2 Lp C m L K) (hb : Below W.heap.size W W') {b1 : Option Addr} {m1 d1 : Nat} {b2 : Option Addr} {m2 d2 : Nat} {L' : List Wt} {K' : List Ck}
    (r1 : RdR wtC W' b1 d1 L') (e1 : L'.length = m1) (f1 : Fr W W' a1 b1) (r2 : RdR ckC W' b2 d2 K') (e2 : K'.length = m2) (f2 : Fr W W' a2 b2) :
    Run w ((W'.setCell ⟨g6, 0, none⟩ (.slice b1 m1 d1)).setCell ⟨g6, 1, none⟩ (.slice b2 m2 d2)) (fun k => V k ∨ (W.heap.size ≤ k ∧ k < W'.heap.size)) q g6 bx b1 m1 d1 b2 m2 d2 Lp C m L' K' := by
  have g := h.more hb
  have l6 := h.vlt g6 h.v6
  have w1 : ∀ a, b1 = some a → (V a.block ∨ (W.heap.size ≤ a.block ∧ a.block < W'.heap.size)) ∧ a.block ≠ g6 := by
    intro a ha
    rcases f1 with e | e
    · rw [e] at ha; exact g.v1 a ha
    · have := e a ha
      exact ⟨.inr this, by omega⟩
  have w2 : ∀ a, b2 = some a → (V a.block ∨ (W.heap.size ≤ a.block ∧ a.block < W'.heap.size)) ∧ a.block ≠ g6 := by
    intro a ha
    rcases f2 with e | e
    · rw [e] at ha; exact g.v2 a ha
    · have := e a ha
      exact ⟨.inr this, by omega⟩
  have ho : OffS (fun k => V k ∨ (W.heap.size ≤ k ∧ k < W'.heap.size)) W' ((W'.setCell ⟨g6, 0, none⟩ (.slice b1 m1 d1)).setCell ⟨g6, 1, none⟩ (.slice b2 m2 d2)) := ((OffS.refl _ _).setCell (a := ⟨g6, 0, none⟩) g.v6 _).setCell (a := ⟨g6, 1, none⟩) g.v6 _
  have hk : ∀ k, k ≠ g6 → ((W'.setCell ⟨g6, 0, none⟩ (.slice b1 m1 d1)).setCell ⟨g6, 1, none⟩ (.slice b2 m2 d2)).heap[k]? = W'.heap[k]? := fun k hk => by
    rw [Below.heap_setCell _ _ _ _ hk, Below.heap_setCell _ _ _ _ hk]
  refine ⟨fun k hk => by simpa using g.vlt k hk, (g.qx.off ho).less fun k hk => .inl hk, g.v6, w1, w2, fun e he => ⟨(g.vb e he).1, (g.vb e he).2.1, (hk _ (g.vb e he).2.1).trans (g.vb e he).2.2⟩, (g.p2.put0 _).put1 _, r1.keep (by simp) fun a ha _ => hk _ (w1 a ha).2, e1, r2.keep (by simp) fun a ha _ => hk _ (w2 a ha).2, e2, set_below (set_below g.bel g.g6 _) g.g6 _, g.g6⟩
end

end Go.Proofs.Ytcjajckmcikhcaa
