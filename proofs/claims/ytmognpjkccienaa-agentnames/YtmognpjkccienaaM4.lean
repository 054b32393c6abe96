/- What Same, ownParts and Right of package msg do, walked. -/
import Derived.Test.YtmognpjkccienaaM3
import Derived.RegionTactic
namespace Go.Proofs.Ytmognpjkccienaa.Msg
open Go.RowKit
set_option linter.unusedVariables false
set_option maxRecDepth 8000

theorem MgAt.two (w : World) (A B : Mg) (a1 a2 : Option Addr) (n m c1 c2 : Nat) : MgAt ((w.alloc (msO A a1 n c1)).alloc (msO B a2 m c2)) w.heap.size A a1 n c1 ∧ MgAt ((w.alloc (msO A a1 n c1)).alloc (msO B a2 m c2)) (w.heap.size + 1) B a2 m c2 := by
  refine ⟨(MgAt.new w A a1 n c1).below (below_box _ _), ?_⟩
  have := MgAt.new (w.alloc (msO A a1 n c1)) B a2 m c2
  rwa [show (w.alloc (msO A a1 n c1)).heap.size = w.heap.size + 1 by simp] at this

set_option maxHeartbeats 1600000 in
set_option maxRecDepth 100000 in
theorem same_msg (A B : Mg) (a1 a2 : Option Addr) (n m c1 c2 : Nat) (w : World) (h1 : RdP w a1 n c1 A.ps) (h2 : RdP w a2 m c2 B.ps) (hn : n ≤ 140737488355328) :
    Calls Try.prog 36 #[msV A a1 n c1, msV B a2 m c2] w fun x w' => x = .returned (.bool (sameM A B)) ∧ Below w.heap.size w w' := by
  obtain ⟨ak, ap, ao, at', ac, an, aw, aps, x0, x1, x2, x3⟩ := A
  obtain ⟨bk, bp, bo, bt, bc, bn, bw, bps, y0, y1, y2, y3⟩ := B
  simp only at h1 h2 ⊢
  go_enter Try.func36, Try.ntmps36
  go_wp2_with (first
    | (go_at_call 54; refine (sameValues_any _ _ _ _ _ _ _ _ _).mono ?_; rintro x w2 ⟨rfl, hb2⟩; have hB2 : Below w.heap.size w w2 := below_step hB1 hb2; clear hb2)
    | (go_at_call 53; refine (samePuts_any a1 a2 n m c1 c2 aps bps _ (h1.below (below2 w _ _)) (h2.below (below2 w _ _)) hn).mono ?_; rintro x w1 ⟨rfl, hb1⟩; have hB1 : Below w.heap.size w w1 := (below2 w _ _).trans (hb1.mono (by simp; omega)); have t1 := (MgAt.two w ⟨bk, bp, bo, bt, bc, bn, bw, aps, x0, x1, x2, x3⟩ ⟨bk, bp, bo, bt, bc, bn, bw, bps, y0, y1, y2, y3⟩ a1 a2 n m c1 c2).1.below hb1; have t2 := (MgAt.two w ⟨bk, bp, bo, bt, bc, bn, bw, aps, x0, x1, x2, x3⟩ ⟨bk, bp, bo, bt, bc, bn, bw, bps, y0, y1, y2, y3⟩ a1 a2 n m c1 c2).2.below hb1; have q0 := t1.c8; have q1 := t1.c9; have q2 := t1.cA; have q3 := t1.cB; have r0 := t2.c8; have r1 := t2.c9; have r2 := t2.cA; have r3 := t2.cB; clear t1 t2 hb1))
  all_goals
    go_ret
    refine ⟨ret_bool (by simp_all [sameM, Mg.vs]), ?_⟩
    first | exact hB2 | exact hB1 | exact below2 _ _ _

/-- Is there such a kind? -/
def thereB (k : Int) : Bool := k == 4 || k == 6 || k == 0 || k == 1 || k == 5 || k == 3 || k == 2 || k == 7 || k == 8

abbrev z2 : Nat × Nat := (0, 0)

/-- The message with those parts alone that its kind has. -/
def ownM (M : Mg) : Mg :=
  if M.k = 4 ∨ M.k = 6 then ⟨M.k, M.p, M.o, 0, 0, 0, M.wr, [], z2, z2, z2, z2⟩
  else if M.k = 0 ∨ M.k = 1 then ⟨M.k, M.p, M.o, 0, 0, 0, false, [], z2, z2, z2, z2⟩
  else if M.k = 5 then ⟨M.k, M.p, 0, 0, M.c, M.n, false, [], M.v0, M.v1, M.v2, M.v3⟩
  else if M.k = 3 then ⟨M.k, M.p, 0, 0, M.c, M.n, false, [], z2, z2, z2, z2⟩
  else if M.k = 2 then ⟨M.k, 0, 0, M.t, 0, 0, false, M.ps, z2, z2, z2, z2⟩
  else if M.k = 7 then ⟨M.k, 0, 0, M.t, 0, 0, false, [], z2, z2, z2, z2⟩
  else if M.k = 8 then ⟨M.k, 0, 0, M.t, M.c, 0, false, [], z2, z2, z2, z2⟩
  else ⟨0, 0, 0, 0, 0, 0, false, [], z2, z2, z2, z2⟩

theorem RdP.none (w : World) : RdP w none 0 0 [] := ⟨rfl, fun t h => by simp at h⟩

/-- Can a message be? -/
def rightB (M : Mg) : Bool := thereB M.k && withinB M && sameM M (ownM M)

end Go.Proofs.Ytmognpjkccienaa.Msg
