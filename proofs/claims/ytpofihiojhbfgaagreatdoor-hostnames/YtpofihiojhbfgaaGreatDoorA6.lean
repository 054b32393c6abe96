/- Puts and batches as values and in memory; what package wal's functions on puts do, walked. Batches; what isCommit, isMark and Right of package wal do, walked. -/
import Derived.Test.YtpofihiojhbfgaaGreatDoorA4
import Derived.Handy
namespace Go.Proofs.YtpofihiojhbfgaaGreatDoor
open Go.RowKit
set_option linter.unusedVariables false
set_option maxRecDepth 8000

structure PutG where
  pg : Nat
  ob : Nat
  c : Nat × Nat

def PutG.place (p : PutG) : Nat := p.pg * 4 + p.ob

structure RdP (w : World) (ao : Option Addr) (n cap : Nat) (ps : List PutG) : Prop where
  len : ps.length = n
  cell : ∀ t (h : t < ps.length), ∃ b off, ao = some ⟨b, off, none⟩ ∧ b < w.heap.size ∧ w.cell? ⟨b, off + t * 3, none⟩ = some (.int .i64 (ps[t].pg : Int)) ∧ w.cell? ⟨b, off + t * 3 + 1, none⟩ = some (.int .i64 (ps[t].ob : Int)) ∧ w.cell? ⟨b, off + t * 3 + 2, none⟩ = some (.complex .f64 ps[t].c.1 ps[t].c.2)

theorem RdP.below {w w' : World} {ao : Option Addr} {n cap : Nat} {ps : List PutG} (h : RdP w ao n cap ps) (hb : Below w.heap.size w w') : RdP w' ao n cap ps := by
  refine ⟨h.len, fun t ht => ?_⟩
  obtain ⟨b, off, e, hlt, h1, h2, h3⟩ := h.cell t ht
  exact ⟨b, off, e, Nat.lt_of_lt_of_le hlt hb.size, (hb.cell (p := ⟨b, off + t * 3, none⟩) hlt).trans h1, (hb.cell (p := ⟨b, off + t * 3 + 1, none⟩) hlt).trans h2, (hb.cell (p := ⟨b, off + t * 3 + 2, none⟩) hlt).trans h3⟩

structure PutsOk (ps : List PutG) : Prop where
  le : ps.length ≤ 24
  pg : ∀ p ∈ ps, p.pg ≤ 5 ∧ p.ob ≤ 3 ∧ wordB p.c
  inc : ∀ i p q, ps[i]? = some p → ps[i + 1]? = some q → p.place < q.place

theorem within_t (n a b : Int) (h1 : a ≤ n) (h2 : n ≤ b) (w : World) : Calls Tryz.prog 94 #[.int .i64 n, .int .i64 a, .int .i64 b] w fun e w' => e = .returned (.bool true) ∧ w' = w := by
  go_enter Tryz.func94, Tryz.ntmps94
  go_wp2
  go_ret
  exact ⟨rfl, rfl⟩

set_option maxHeartbeats 400000 in
theorem rightPuts_ok (ao : Option Addr) (n cap : Nat) (ps : List PutG) (w : World) (h : RdP w ao n cap ps) (hok : PutsOk ps) :
    Calls Tryz.prog 198 #[.slice ao n cap] w fun e w' => e = .returned (.bool true) ∧ Below w.heap.size w w' := by
  have hn : n ≤ 24 := by have := h.len; have := hok.le; omega
  have HOK : Hid (PutsOk ps) := hok
  have HR : Hid (RdP w ao n cap ps) := h
  clear hok h
  have hst := fun (ad : Addr) (re im : Nat) (W : World) => run_store Tryz.prog W ad (.complex .f64 re im) .plain rfl
  go_enter Tryz.func198, Tryz.ntmps198
  go_wp2
  go_loopw [3, 12] (fun t i wr => ∃ (k : Nat) (z : Int), k ≤ n ∧ i = .int .i64 k ∧ t = .int .i64 z ∧ (∀ p, ps[k]? = some p → z < (p.place : Int)) ∧ -1 ≤ z ∧ z ≤ 30 ∧ Below w.heap.size w wr) (fun _ i _ => n - (intOf i).toNat)
  case atStart => exact ⟨0, -1, Nat.zero_le _, rfl, rfl, fun p _ => by omega, by omega, by omega, Below.refl _ _⟩
  case round =>
    obtain ⟨k, z, hk, rfl, rfl, hz, hz1, hz2, hbel⟩ := hrel
    by_cases hlt : k < n
    · have hl := HR.out.len
      obtain ⟨b, off, rfl, hb, q0, q1, q2⟩ := (HR.out.below hbel).cell k (by omega)
      have hkk : ps[k]? = some ps[k] := List.getElem?_eq_getElem _
      have hz3 := hz _ hkk
      obtain ⟨hp1, hp2, hp3⟩ := HOK.out.pg ps[k] (List.getElem_mem _)
      have hinc := fun q => HOK.out.inc k ps[k] q hkk
      generalize ps[k] = p at *
      obtain ⟨pg, ob, c⟩ := p
      simp only [PutG.place] at hz3 hp1 hp2 q0 q1 q2
      have HI : Hid (∀ q, ps[k + 1]? = some q → pg * 4 + ob < q.place) := hinc
      clear hinc hz hkk hp3
      have hm : decide ((pg : Int) * 4 + ob ≤ z) = false := by simp; omega
      go_wp2_with (first
        | (go_at_call 94; refine (within_t _ _ _ ?_ ?_ _).mono ?_; omega; omega; rintro e w' ⟨rfl, hw⟩; subst w'))
      go_roundw
      case rel => exact ⟨k + 1, (pg : Int) * 4 + ob, by omega, by go_num, by go_num, fun q hq => by have := HI.out q hq; omega, by omega, by omega, hbel.alloc hbel.size _⟩
      case measure => simp [intOf]; omega
    · go_wp2
      go_ret
      exact ⟨rfl, hbel⟩

end Go.Proofs.YtpofihiojhbfgaaGreatDoor

namespace Go.Proofs.YtpofihiojhbfgaaGreatDoor
open Go.RowKit
set_option linter.unusedVariables false
set_option maxRecDepth 8000

structure Bt where
  lsn : Nat
  cl : Nat
  ep : Nat
  tx : Nat
  ps : List PutG

structure BtOk (b : Bt) : Prop where
  lsn : 1 ≤ b.lsn ∧ b.lsn ≤ 16777215
  cl : b.cl ≤ 3
  ep : 1 ≤ b.ep ∧ b.ep ≤ 16777215
  tx : 1 ≤ b.tx ∧ b.tx ≤ 16777215
  ps : PutsOk b.ps

abbrev btV (l c e t : Int) (ao : Option Addr) (n cap : Nat) : Value := .agg #[.int .i64 l, .int .i64 c, .int .i64 e, .int .i64 t, .slice ao n cap]

abbrev btO (l c e t : Int) (ao : Option Addr) (n cap : Nat) : Obj := .cells #[.int .i64 l, .int .i64 c, .int .i64 e, .int .i64 t, .slice ao n cap] 83

theorem below_box (w : World) (o : Obj) : Below w.heap.size w (w.alloc o) := (Below.refl _ _).alloc (Nat.le_refl _) _

set_option maxHeartbeats 400000 in
theorem isCommit_ok (l c e t : Int) (ao : Option Addr) (n cap : Nat) (ps : List PutG) (w : World) (h : RdP w ao n cap ps) (hok : PutsOk ps) (hl : 1 ≤ l ∧ l ≤ 16777215) (hc : 0 ≤ c ∧ c ≤ 3) (he : 1 ≤ e ∧ e ≤ 16777215) (ht : 1 ≤ t ∧ t ≤ 16777215) :
    Calls Tryz.prog 186 #[btV l c e t ao n cap] w fun x w' => x = .returned (.bool true) ∧ Below w.heap.size w w' := by
  have h2 := h.below (below_box w (btO l c e t ao n cap))
  go_enter Tryz.func186, Tryz.ntmps186
  go_wp2_with (first
    | (go_at_call 198; refine (rightPuts_ok _ _ _ _ _ h2 hok).mono ?_; rintro x w' ⟨rfl, hb⟩)
    | (go_at_call 94; refine (within_t _ _ _ ?_ ?_ _).mono ?_; omega; omega; rintro x w' ⟨rfl, hw⟩; subst w'))
  go_ret
  exact ⟨rfl, below_alloc (hb.mono (by simp))⟩

set_option maxHeartbeats 400000 in
theorem isMark_no (l c e t : Int) (ao : Option Addr) (n cap : Nat) (w : World) (hl : 0 ≤ l ∧ l ≤ 16777215) (ht : 1 ≤ t) :
    Calls Tryz.prog 55 #[btV l c e t ao n cap] w fun x w' => x = .returned (.bool false) ∧ Below w.heap.size w w' := by
  have ht2 : (t == 0) = false := by simp; omega
  cases hc : (c == 0)
  all_goals cases he : (e == 0)
  all_goals
    go_enter Tryz.func55, Tryz.ntmps55
    go_wp2_with (first
      | (go_at_call 94; refine (within_t _ _ _ ?_ ?_ _).mono ?_; omega; omega; rintro x w' ⟨rfl, hw⟩; subst w'))
    go_ret
    exact ⟨rfl, below_box _ _⟩

structure BtAt (w : World) (g : Nat) (l c e t : Int) (ao : Option Addr) (n cap : Nat) : Prop where
  c0 : w.cell? ⟨g, 0, none⟩ = some (.int .i64 l)
  c1 : w.cell? ⟨g, 1, none⟩ = some (.int .i64 c)
  c2 : w.cell? ⟨g, 2, none⟩ = some (.int .i64 e)
  c3 : w.cell? ⟨g, 3, none⟩ = some (.int .i64 t)
  c4 : w.cell? ⟨g, 4, none⟩ = some (.slice ao n cap)
  fz : ∀ j, w.frozen? ⟨g, j, none⟩ = false
  lt : g < w.heap.size

theorem BtAt.new (w : World) (l c e t : Int) (ao : Option Addr) (n cap : Nat) : BtAt (w.alloc (btO l c e t ao n cap)) w.heap.size l c e t ao n cap := by
  have h := heap_alloc_new w (btO l c e t ao n cap)
  refine ⟨?_, ?_, ?_, ?_, ?_, fun j => frozen_of_row _ _ _ _ _ h, by simp⟩
  all_goals rw [cell_of_row _ _ _ _ _ _ h]; rfl

theorem BtAt.keep {w w' : World} {g : Nat} {l c e t : Int} {ao : Option Addr} {n cap : Nat} (h : BtAt w g l c e t ao n cap) (hg : w'.heap[g]? = w.heap[g]?) (hs : w.heap.size ≤ w'.heap.size) : BtAt w' g l c e t ao n cap :=
  ⟨(World.cell?_of_block (w := w) hg).trans h.c0, (World.cell?_of_block (w := w) hg).trans h.c1, (World.cell?_of_block (w := w) hg).trans h.c2, (World.cell?_of_block (w := w) hg).trans h.c3, (World.cell?_of_block (w := w) hg).trans h.c4, fun j => (World.frozen?_of_block (w := w) hg).trans (h.fz j), Nat.lt_of_lt_of_le h.lt hs⟩

theorem BtAt.below {w w' : World} {g : Nat} {l c e t : Int} {ao : Option Addr} {n cap : Nat} (h : BtAt w g l c e t ao n cap) (hb : Below w.heap.size w w') : BtAt w' g l c e t ao n cap := h.keep (hb.block g h.lt) hb.size

set_option maxHeartbeats 400000 in
theorem right_ok (l c e t : Int) (ao : Option Addr) (n cap : Nat) (ps : List PutG) (w : World) (h : RdP w ao n cap ps) (hok : PutsOk ps) (hl : 1 ≤ l ∧ l ≤ 16777215) (hc : 0 ≤ c ∧ c ≤ 3) (he : 1 ≤ e ∧ e ≤ 16777215) (ht : 1 ≤ t ∧ t ≤ 16777215) :
    Calls Tryz.prog 167 #[btV l c e t ao n cap] w fun x w' => x = .returned (.bool true) ∧ Below w.heap.size w w' := by
  have h2 := h.below (below_box w (btO l c e t ao n cap))
  go_enter Tryz.func167, Tryz.ntmps167
  go_wp2_with (first
    | (go_at_call 186; refine (isCommit_ok _ _ _ _ _ _ _ _ _ h2 hok hl hc he ht).mono ?_; rintro x w' ⟨rfl, hb⟩))
  go_ret
  exact ⟨rfl, below_alloc (hb.mono (by simp))⟩

end Go.Proofs.YtpofihiojhbfgaaGreatDoor
