/- What the two sides answer, side by side. -/
import Derived.Test.YtcjajckmcikhcaaRj
import Derived.Test.YtcjajckmcikhcaaR9
import Derived.Test.YtcjajckmcikhcaaRa
namespace Go.Proofs.Ytcjajckmcikhcaa
open Go.RowKit Go.Maps
set_option linter.unusedVariables false

section
variable {w W W' : World} {V : Nat → Prop} {q g6 : Nat} {bx : List (Nat × Ac)} {a1 : Option Addr} {n1 c1 : Nat} {a2 : Option Addr} {n2 c2 : Nat} {L : List Wt} {C : Cl} {m : Nat} {K : List Ck}

theorem Run.called (h : Run w W V q g6 bx a1 n1 c1 a2 n2 c2 L C m L K) (kc : KC K C) (y : Ac) (hy : y.ok) :
    Calls Try.prog 24 #[qp q, .int .i64 y.h, wtV y.x] W fun e w' => e = .returned (.tuple #[.bool (busB K (kyOf y.h y.x)), .bool (wasB K (kyOf y.h y.x))]) ∧ Below W.heap.size W w' := by
  have h1 := called_any W _ q L C m h.qx y.h y.x (Ac.ky hy)
  rw [(kc.there _).1, (kc.there _).2] at h1
  exact h1

theorem Run.t32 (h : Run w W V q g6 bx a1 n1 c1 a2 n2 c2 L C m L K) (kc : KC K C) (nc : Nice L) (h2 : n2 ≤ 1000) (g8 : Nat) (y : Ac) (hb : (g8, y) ∈ bx) :
    Hid (∀ V : World, Below W.heap.size W V → V.cell? ⟨g8, 1, none⟩ = some (.int .i64 y.h) ∧ V.cell? ⟨g8, 3, none⟩ = some (.int .i64 y.x.p) ∧ V.cell? ⟨g6, 0, none⟩ = some (.slice a1 n1 c1) ∧ V.cell? ⟨g6, 1, none⟩ = some (.slice a2 n2 c2)) ∧
    Hid (∀ V : World, Below W.heap.size W V → Calls Try.prog 26 #[qp q, .int .i64 y.h, .int .i64 y.x.p] V fun e w' => e = .returned (.bool (routB K y.h y.x.p)) ∧ Below W.heap.size W w') ∧
    Hid (∀ V : World, Below W.heap.size W V → Calls Try.prog 27 #[.agg #[.slice a1 n1 c1, .slice a2 n2 c2], .int .i64 y.h, .int .i64 y.x.p] V fun e w' => e = .returned (.bool (routB K y.h y.x.p)) ∧ Below W.heap.size W w') ∧
    Hid (∀ V : World, Below W.heap.size W V → Calls Try.prog 10 #[qp q] V fun e w' => ∃ a c, e = .returned (.slice a n1 c) ∧ Below W.heap.size W w' ∧ Hid (Calls Try.prog 28 #[.slice a n1 c, .slice a1 n1 c1] w' fun e w2 => e = .returned (.bool true) ∧ Below W.heap.size W w2)) := by
  have hle := nc.le4
  refine ⟨fun V hV => ?_, fun V hV => ?_, fun V hV => ?_, fun V hV => ?_⟩
  · have g := h.more hV
    obtain ⟨-, k1, -, k3, -, -⟩ := ac_cells (g.vb _ hb).2.2
    exact ⟨k1, k3, g.p2.c0, g.p2.c1⟩
  · have h1 := out_any V _ q L C m (h.more hV).qx y.h y.x.p
    rw [kc.out] at h1
    exact h1.mono fun e w' ⟨h2, h3⟩ => ⟨h2, below_step hV h3⟩
  · exact (rout_any a1 n1 c1 a2 n2 c2 K y.h y.x.p V (h.more hV).rk h.lk (by omega)).mono fun e w' ⟨h2, h3⟩ => ⟨h2, below_step hV h3⟩
  · refine (all_any V _ q L C m (h.more hV).qx (by omega)).mono ?_
    rintro e w' ⟨a, c, rfl, h3, -, h4⟩
    refine ⟨a, c, by rw [h.ll], below_step hV h4, ?_⟩
    exact (same_true a c n1 a1 c1 L w' h3.rd (h.more (below_step hV h4)).rl h.ll).mono fun e w2 ⟨h5, h6⟩ => ⟨h5, below_step (below_step hV h4) h6⟩

theorem Run.t37 (h : Run w W V q g6 bx a1 n1 c1 a2 n2 c2 L C m L K) (kc : KC K C) (nc : Nice L) (h2 : n2 ≤ 1000) (g3 : Nat) (y : Ac) (hb : (g3, y) ∈ bx) :
    Hid (∀ V : World, Below W.heap.size W V → V.cell? ⟨g3, 2, none⟩ = some (.int .i64 y.x.c) ∧ V.cell? ⟨g3, 3, none⟩ = some (.int .i64 y.x.p) ∧ V.cell? ⟨g3, 4, none⟩ = some (.int .i64 y.x.o) ∧ V.cell? ⟨g3, 5, none⟩ = some (.bool y.x.wr) ∧ V.cell? ⟨g6, 0, none⟩ = some (.slice a1 n1 c1) ∧ V.cell? ⟨g6, 1, none⟩ = some (.slice a2 n2 c2)) ∧
    Hid (∀ V : World, Below W.heap.size W V → Calls Try.prog 30 #[qp q, .agg #[.int .i64 y.x.c, .int .i64 y.x.p, .int .i64 y.x.o, .bool y.x.wr]] V fun e w' => ∃ a c, e = .returned (.slice a (ahead L y.x).length c) ∧ Below W.heap.size W w' ∧ Hid (Calls Try.prog 31 #[.agg #[.slice a1 n1 c1, .slice a2 n2 c2], .agg #[.int .i64 y.x.c, .int .i64 y.x.p, .int .i64 y.x.o, .bool y.x.wr]] w' fun e w2 => ∃ b d, e = .returned (.slice b (ahead L y.x).length d) ∧ Below W.heap.size W w2 ∧ Hid (Calls Try.prog 29 #[.slice a (ahead L y.x).length c, .slice b (ahead L y.x).length d] w2 fun e w3 => e = .returned (.bool true) ∧ Below W.heap.size W w3))) ∧
    Hid (∀ V : World, Below W.heap.size W V → Calls Try.prog 15 #[qp q, .int .i64 y.x.c, .int .i64 y.x.p] V fun e w' => e = .returned (.int .i64 ((resN y.x.c y.x.p L : Nat) : Int)) ∧ Below W.heap.size W w') ∧
    Hid (∀ V : World, Below W.heap.size W V → Calls Try.prog 32 #[.agg #[.slice a1 n1 c1, .slice a2 n2 c2], .int .i64 y.x.c, .int .i64 y.x.p] V fun e w' => e = .returned (.int .i64 ((resN y.x.c y.x.p L : Nat) : Int)) ∧ Below W.heap.size W w') := by
  have hle := nc.le4
  have hll := h.ll
  have ha := ahead_le L y.x
  refine ⟨fun V hV => ?_, fun V hV => ?_, fun V hV => ?_, fun V hV => ?_⟩
  · have g := h.more hV
    obtain ⟨-, -, k2, k3, k4, k5⟩ := ac_cells (g.vb _ hb).2.2
    exact ⟨k2, k3, k4, k5, g.p2.c0, g.p2.c1⟩
  · refine (ahead_any V _ q L C m (h.more hV).qx (by omega) y.x).mono ?_
    rintro e w' ⟨a, c, rfl, h3, h4⟩
    have hb4 := below_step hV h4
    refine ⟨a, c, rfl, hb4, ?_⟩
    refine (rahead_any a1 n1 c1 a2 n2 c2 L y.x w' (h.more hb4).rl h.ll (by omega)).mono ?_
    rintro e w2 ⟨b, d, rfl, h5, h6⟩
    refine ⟨b, d, rfl, below_step hb4 h6, ?_⟩
    exact (sameInts_true a c _ b d (ahead L y.x) w2 (h3.below h6).rd h5.rd rfl (by omega)).mono fun e w3 ⟨h7, h8⟩ => ⟨h7, below_step (below_step hb4 h6) h8⟩
  · exact (reserved_any V _ q L C m (h.more hV).qx (by omega) nc.rt y.x.c y.x.p).mono fun e w' ⟨h3, h4⟩ => ⟨h3, below_step hV h4⟩
  · exact (rreserved_any a1 n1 c1 a2 n2 c2 L y.x.c y.x.p V (h.more hV).rl h.ll (by omega) nc.rt).mono fun e w' ⟨h3, h4⟩ => ⟨h3, below_step hV h4⟩
end

/-- The state between two acts. -/
def Good (w W : World) (q g6 : Nat) (bx : List (Nat × Ac)) (k : Nat) : Prop := ∃ V a1 n1 c1 a2 n2 c2 L C m K, Run w W V q g6 bx a1 n1 c1 a2 n2 c2 L C m L K ∧ Nice L ∧ KC K C ∧ m ≤ k ∧ n2 ≤ k

end Go.Proofs.Ytcjajckmcikhcaa
