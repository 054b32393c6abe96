/- Batches; what isCommit, isMark and Right of package wal do, walked. -/
import Derived.Test.YtmognpjkccienaaW1
namespace Go.Proofs.Ytmognpjkccienaa.Msg
open Go.RowKit
set_option linter.unusedVariables false
set_option maxRecDepth 8000

/-- A commit. -/
structure Bt where
  lsn : Nat
  cl : Nat
  ep : Nat
  tx : Nat
  ps : List PutG

/-- A commit that can be. -/
structure BtOk (b : Bt) : Prop where
  lsn : 1 ≤ b.lsn ∧ b.lsn ≤ 16777215
  cl : b.cl ≤ 3
  ep : 1 ≤ b.ep ∧ b.ep ≤ 16777215
  tx : 1 ≤ b.tx ∧ b.tx ≤ 16777215
  ps : PutsOk b.ps

/-- A batch as a value. -/
abbrev btV (l c e t : Int) (ao : Option Addr) (n cap : Nat) : Value := .agg #[.int .i64 l, .int .i64 c, .int .i64 e, .int .i64 t, .slice ao n cap]

/-- A batch in a block. -/
abbrev btO (l c e t : Int) (ao : Option Addr) (n cap : Nat) : Obj := .cells #[.int .i64 l, .int .i64 c, .int .i64 e, .int .i64 t, .slice ao n cap] 102

theorem below_box (w : World) (o : Obj) : Below w.heap.size w (w.alloc o) := (Below.refl _ _).alloc (Nat.le_refl _) _

set_option maxHeartbeats 400000 in
theorem isCommit_ok (l c e t : Int) (ao : Option Addr) (n cap : Nat) (ps : List PutG) (w : World) (h : RdP w ao n cap ps) (hok : PutsOk ps) (hl : 1 ≤ l ∧ l ≤ 16777215) (hc : 0 ≤ c ∧ c ≤ 3) (he : 1 ≤ e ∧ e ≤ 16777215) (ht : 1 ≤ t ∧ t ≤ 16777215) :
    Calls Try.prog 69 #[btV l c e t ao n cap] w fun x w' => x = .returned (.bool true) ∧ Below w.heap.size w w' := by
  have h2 := h.below (below_box w (btO l c e t ao n cap))
  go_enter Try.func69, Try.ntmps69
  go_wp2_with (first
    | (go_at_call 75; refine (rightPuts_ok _ _ _ _ _ h2 hok).mono ?_; rintro x w' ⟨rfl, hb⟩)
    | (go_at_call 74; refine (within_t _ _ _ ?_ ?_ _).mono ?_; omega; omega; rintro x w' ⟨rfl, hw⟩; subst w'))
  go_ret
  exact ⟨rfl, below_alloc (hb.mono (by simp))⟩

set_option maxHeartbeats 400000 in
theorem isCommit_no (l c e t : Int) (ao : Option Addr) (n cap : Nat) (w : World) (hl : 1 ≤ l ∧ l ≤ 16777215) (ht : t < 1) :
    Calls Try.prog 69 #[btV l c e t ao n cap] w fun x w' => x = .returned (.bool false) ∧ Below w.heap.size w w' := by
  go_enter Try.func69, Try.ntmps69
  go_wp2_with (first
    | (go_at_call 74; refine (within_t _ _ _ ?_ ?_ _).mono ?_; omega; omega; rintro x w' ⟨rfl, hw⟩; subst w')
    | (go_at_call 74; refine (within_f _ _ _ ?_ _).mono ?_; omega; rintro x w' ⟨rfl, hw⟩; subst w'))
  go_ret
  exact ⟨rfl, below_box _ _⟩

set_option maxHeartbeats 400000 in
theorem isCommit_zero (c e t : Int) (ao : Option Addr) (n cap : Nat) (w : World) :
    Calls Try.prog 69 #[btV 0 c e t ao n cap] w fun x w' => x = .returned (.bool false) ∧ Below w.heap.size w w' := by
  go_enter Try.func69, Try.ntmps69
  go_wp2_with (first
    | (go_at_call 74; refine (within_f _ _ _ ?_ _).mono ?_; omega; rintro x w' ⟨rfl, hw⟩; subst w'))
  go_ret
  exact ⟨rfl, below_box _ _⟩

set_option maxHeartbeats 400000 in
theorem isMark_no (l c e t : Int) (ao : Option Addr) (n cap : Nat) (w : World) (hl : 0 ≤ l ∧ l ≤ 16777215) (ht : 1 ≤ t) :
    Calls Try.prog 70 #[btV l c e t ao n cap] w fun x w' => x = .returned (.bool false) ∧ Below w.heap.size w w' := by
  have ht2 : (t == 0) = false := by simp; omega
  cases hc : (c == 0)
  all_goals cases he : (e == 0)
  all_goals
    go_enter Try.func70, Try.ntmps70
    go_wp2_with (first
      | (go_at_call 74; refine (within_t _ _ _ ?_ ?_ _).mono ?_; omega; omega; rintro x w' ⟨rfl, hw⟩; subst w'))
    go_ret
    exact ⟨rfl, below_box _ _⟩

set_option maxHeartbeats 400000 in
theorem isMark_zero (ao : Option Addr) (cap : Nat) (w : World) :
    Calls Try.prog 70 #[btV 0 0 0 0 ao 0 cap] w fun x w' => x = .returned (.bool true) ∧ Below w.heap.size w w' := by
  go_enter Try.func70, Try.ntmps70
  go_wp2_with (first
    | (go_at_call 74; refine (within_t _ _ _ ?_ ?_ _).mono ?_; omega; omega; rintro x w' ⟨rfl, hw⟩; subst w'))
  go_ret
  exact ⟨rfl, below_box _ _⟩

/-- A batch lies in a block. -/
structure BtAt (w : World) (g : Nat) (l c e t : Int) (ao : Option Addr) (n cap : Nat) : Prop where
  c0 : w.cell? ⟨g, 0, none⟩ = some (.int .i64 l)
  c1 : w.cell? ⟨g, 1, none⟩ = some (.int .i64 c)
  c2 : w.cell? ⟨g, 2, none⟩ = some (.int .i64 e)
  c3 : w.cell? ⟨g, 3, none⟩ = some (.int .i64 t)
  c4 : w.cell? ⟨g, 4, none⟩ = some (.slice ao n cap)
  fz : ∀ j, w.frozen? ⟨g, j, none⟩ = false
  lt : g < w.heap.size

theorem BtAt.new (w : World) (l c e t : Int) (ao : Option Addr) (n cap : Nat) : BtAt (w.alloc (btO l c e t ao n cap)) w.heap.size l c e t ao n cap := by
  have h := heap_alloc_new w (btO l c e t ao n cap)
  refine ⟨?_, ?_, ?_, ?_, ?_, fun j => frozen_of_row _ _ _ _ _ h, by simp⟩
  all_goals rw [cell_of_row _ _ _ _ _ _ h]; rfl

theorem BtAt.keep {w w' : World} {g : Nat} {l c e t : Int} {ao : Option Addr} {n cap : Nat} (h : BtAt w g l c e t ao n cap) (hg : w'.heap[g]? = w.heap[g]?) (hs : w.heap.size ≤ w'.heap.size) : BtAt w' g l c e t ao n cap :=
  ⟨(World.cell?_of_block (w := w) hg).trans h.c0, (World.cell?_of_block (w := w) hg).trans h.c1, (World.cell?_of_block (w := w) hg).trans h.c2, (World.cell?_of_block (w := w) hg).trans h.c3, (World.cell?_of_block (w := w) hg).trans h.c4, fun j => (World.frozen?_of_block (w := w) hg).trans (h.fz j), Nat.lt_of_lt_of_le h.lt hs⟩

theorem BtAt.below {w w' : World} {g : Nat} {l c e t : Int} {ao : Option Addr} {n cap : Nat} (h : BtAt w g l c e t ao n cap) (hb : Below w.heap.size w w') : BtAt w' g l c e t ao n cap := h.keep (hb.block g h.lt) hb.size

set_option maxHeartbeats 400000 in
theorem right_ok (l c e t : Int) (ao : Option Addr) (n cap : Nat) (ps : List PutG) (w : World) (h : RdP w ao n cap ps) (hok : PutsOk ps) (hl : 1 ≤ l ∧ l ≤ 16777215) (hc : 0 ≤ c ∧ c ≤ 3) (he : 1 ≤ e ∧ e ≤ 16777215) (ht : 1 ≤ t ∧ t ≤ 16777215) :
    Calls Try.prog 65 #[btV l c e t ao n cap] w fun x w' => x = .returned (.bool true) ∧ Below w.heap.size w w' := by
  have h2 := h.below (below_box w (btO l c e t ao n cap))
  go_enter Try.func65, Try.ntmps65
  go_wp2_with (first
    | (go_at_call 69; refine (isCommit_ok _ _ _ _ _ _ _ _ _ h2 hok hl hc he ht).mono ?_; rintro x w' ⟨rfl, hb⟩))
  go_ret
  exact ⟨rfl, below_alloc (hb.mono (by simp))⟩

set_option maxHeartbeats 400000 in
theorem right_zero (w : World) :
    Calls Try.prog 65 #[btV 0 0 0 0 none 0 0] w fun x w' => x = .returned (.bool true) ∧ Below w.heap.size w w' := by
  go_enter Try.func65, Try.ntmps65
  go_wp2_with (first
    | (go_at_call 70; refine (isMark_zero _ _ _).mono ?_; rintro x w2 ⟨rfl, hb2⟩)
    | (go_at_call 69; refine (isCommit_zero _ _ _ _ _ _ _).mono ?_; rintro x w1 ⟨rfl, hb⟩; have hq := (BtAt.new w 0 0 0 0 none 0 0).below hb; have q0 := hq.c0; have q1 := hq.c1; have q2 := hq.c2; have q3 := hq.c3; have q4 := hq.c4; clear hq))
  go_ret
  exact ⟨rfl, below_step (below_alloc (hb.mono (by simp))) hb2⟩

end Go.Proofs.Ytmognpjkccienaa.Msg
