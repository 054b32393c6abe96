/- A queue beside other memory: each call as one contract; the same wants, the same numbers; the chapter's example. -/
import Derived.Test.YtllggjkhbecalaaDoorQ6
namespace Go.Proofs.YtllggjkhbecalaaDoor
open Go.RowKit Go.Maps
set_option linter.unusedVariables false
set_option maxRecDepth 8000

/-- A queue whose blocks lie from B on, none of them in V. -/
def Qx (B : Nat) (V : Nat → Prop) (W : World) (q : Nat) (L : List Wt) (C : Cl) (n : Nat) : Prop := Qw W (fun k => B ≤ k ∧ k < W.heap.size ∧ ¬ V k) q L C n

/-- Behind a step: the queue, the blocks of V as they were, nothing below B turned. -/
structure Sx (B : Nat) (V : Nat → Prop) (W W' : World) (q : Nat) (L : List Wt) (C : Cl) (n : Nat) : Prop where
  qx : Qx B V W' q L C n
  keep : ∀ k, V k → W'.heap[k]? = W.heap[k]?
  bel : Below B W W'

section
variable {B : Nat} {V : Nat → Prop} {W W' : World} {q : Nat} {L : List Wt} {C : Cl} {n : Nat}

theorem Qx.below (h : Qx B V W q L C n) (hb : Below W.heap.size W W') : Qx B V W' q L C n :=
  (Qw.below h hb).mono fun k hk ha => ⟨ha.1, hk, ha.2.2⟩
/-- What is made now is no part of it. -/

theorem Qx.foreign (h : Qx B V W q L C n) (hb : Below W.heap.size W W') : Qx B (fun k => V k ∨ W.heap.size ≤ k) W' q L C n :=
  (Qw.below h hb).mono fun k hk ha => ⟨ha.1, hk, by rintro (h' | h'); exact ha.2.2 h'; have := ha.2.1; omega⟩

theorem Qx.less {U : Nat → Prop} (h : Qx B V W q L C n) (hU : ∀ k, U k → V k) : Qx B U W q L C n :=
  Qw.mono h fun k hk ha => ⟨ha.1, ha.2.1, fun h' => ha.2.2 (hU k h')⟩

theorem Qx.le {m : Nat} (h : Qx B V W q L C n) (hm : n ≤ m) : Qx B V W q L C m := Qw.le h hm

theorem Nx.sx (hV : ∀ k, V k → k < W.heap.size) (hB : B ≤ W.heap.size) (h : Nx W W' (fun k => B ≤ k ∧ k < W.heap.size ∧ ¬ V k) q L C n) : Sx B V W W' q L C n :=
  ⟨h.1.mono fun k hk ha => by
      rcases ha with ha | ha
      · exact ⟨ha.1, hk, ha.2.2⟩
      · exact ⟨by omega, hk, fun h' => by have := hV k h'; omega⟩,
    fun k hk => h.2.block k (hV k hk) fun ha => ha.2.2 hk, h.2.below (fun k ha => ha.1) hB⟩

theorem Sx.size (h : Sx B V W W' q L C n) : W.heap.size ≤ W'.heap.size := h.bel.size

end

theorem newX (w : World) : Calls Tryd.prog 14 #[] w fun e w' => ∃ q, e = .returned (qp q) ∧ Qx w.heap.size (fun _ => False) w' q [] (fun _ => none) 0 ∧ Below w.heap.size w w' :=
  (new_any w).mono fun e w' ⟨h1, h2, h3⟩ => ⟨_, h1, h2.mono fun k hk ha => ⟨ha, hk, fun h => h⟩, h3⟩

section
variable {B : Nat} {V : Nat → Prop} {W : World} {q : Nat} {L : List Wt} {C : Cl} {n : Nat}

theorem addX (H : Qx B V W q L C n) (hV : ∀ k, V k → k < W.heap.size) (hB : B ≤ W.heap.size) (hl : L.length ≤ 1000000) (x : Wt) :
    Calls Tryd.prog 15 #[qp q, wtV x] W fun e w' => e = .returned (.bool (addB L x)) ∧ Sx B V W w' q (addL L x) C n :=
  (add_any W _ q L C n H hl x).mono fun e w' ⟨h1, h2⟩ => ⟨h1, h2.sx hV hB⟩

theorem removeX (H : Qx B V W q L C n) (hV : ∀ k, V k → k < W.heap.size) (hB : B ≤ W.heap.size) (hl : L.length ≤ 1000000) (c : Int) :
    Calls Tryd.prog 39 #[qp q, .int .i64 c] W fun e w' => e = .returned (.bool (hasB L c)) ∧ Sx B V W w' q (rmL L c) C n :=
  (remove_any W _ q L C n H hl c).mono fun e w' ⟨h1, h2⟩ => ⟨h1, h2.sx hV hB⟩

theorem callX (H : Qx B V W q L C n) (hV : ∀ k, V k → k < W.heap.size) (hB : B ≤ W.heap.size) (hn : n ≤ 1000000) (h : Int) (x : Wt) :
    Calls Tryd.prog 61 #[qp q, .int .i64 h, wtV x] W fun e w' => e = .returned (.bool (callB C h x)) ∧ Sx B V W w' q L (callC C h x) (n + 1) :=
  (call_any W _ q L C n H hn h x).mono fun e w' ⟨h1, h2⟩ => ⟨h1, h2.sx hV hB⟩

theorem busyX (H : Qx B V W q L C n) (hV : ∀ k, V k → k < W.heap.size) (hB : B ≤ W.heap.size) (hn : n ≤ 1000000) (h : Int) (x : Wt) (hk : (kyOf h x).ok) :
    Calls Tryd.prog 18 #[qp q, .int .i64 h, wtV x] W fun e w' => e = .returned (.bool (C (kyOf h x)).isSome) ∧ Sx B V W w' q L (busyC C h x) (n + 1) :=
  (busy_any W _ q L C n H hn h x hk).mono fun e w' ⟨h1, h2⟩ => ⟨h1, h2.sx hV hB⟩

theorem answerX (H : Qx B V W q L C n) (hV : ∀ k, V k → k < W.heap.size) (hB : B ≤ W.heap.size) (k : Wt) (hk : k.ok) :
    Calls Tryd.prog 35 #[qp q, .int .i64 k.c, .int .i64 k.p, .int .i64 k.o, .bool k.wr] W fun e w' => e = .returned (.tuple #[]) ∧ Sx B V W w' q L (C.set k none) n :=
  (answer_any W _ q L C n H k hk).mono fun e w' ⟨h1, h2⟩ => ⟨h1, h2.sx hV hB⟩

end

end Go.Proofs.YtllggjkhbecalaaDoor
