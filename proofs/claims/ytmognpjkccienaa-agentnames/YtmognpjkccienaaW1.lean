/- Puts and batches as values and in memory; what package wal's functions on puts do, walked. -/
import Derived.Test.YtmognpjkccienaaWalks
import Derived.Test.YtmognpjkccienaaSl
import Derived.Laws.Rows
import Derived.Deep.RegionHeld
import Derived.Deep.RegionHeldLaw
import Derived.Handy
namespace Go.Proofs.Ytmognpjkccienaa.Msg
open Go.RowKit
set_option linter.unusedVariables false
set_option maxRecDepth 8000

/-- Both parts are words. -/
def wordB (c : Nat × Nat) : Prop := c.1 < 18446744073709551616 ∧ c.2 < 18446744073709551616

/-- A put: its page, its object, the words of its value. -/
structure PutG where
  pg : Nat
  ob : Nat
  c : Nat × Nat

def PutG.place (p : PutG) : Nat := p.pg * 4 + p.ob

/-- The puts lie at the slice. -/
structure RdP (w : World) (ao : Option Addr) (n cap : Nat) (ps : List PutG) : Prop where
  len : ps.length = n
  cell : ∀ t (h : t < ps.length), ∃ b off, ao = some ⟨b, off, none⟩ ∧ b < w.heap.size ∧ w.cell? ⟨b, off + t * 3, none⟩ = some (.int .i64 (ps[t].pg : Int)) ∧ w.cell? ⟨b, off + t * 3 + 1, none⟩ = some (.int .i64 (ps[t].ob : Int)) ∧ w.cell? ⟨b, off + t * 3 + 2, none⟩ = some (.complex .f64 ps[t].c.1 ps[t].c.2)

theorem RdP.below {w w' : World} {ao : Option Addr} {n cap : Nat} {ps : List PutG} (h : RdP w ao n cap ps) (hb : Below w.heap.size w w') : RdP w' ao n cap ps := by
  refine ⟨h.len, fun t ht => ?_⟩
  obtain ⟨b, off, e, hlt, h1, h2, h3⟩ := h.cell t ht
  exact ⟨b, off, e, Nat.lt_of_lt_of_le hlt hb.size, (hb.cell (p := ⟨b, off + t * 3, none⟩) hlt).trans h1, (hb.cell (p := ⟨b, off + t * 3 + 1, none⟩) hlt).trans h2, (hb.cell (p := ⟨b, off + t * 3 + 2, none⟩) hlt).trans h3⟩

/-- Puts that can be. -/
structure PutsOk (ps : List PutG) : Prop where
  le : ps.length ≤ 24
  pg : ∀ p ∈ ps, p.pg ≤ 5 ∧ p.ob ≤ 3 ∧ wordB p.c
  inc : ∀ i p q, ps[i]? = some p → ps[i + 1]? = some q → p.place < q.place

theorem within_t (n a b : Int) (h1 : a ≤ n) (h2 : n ≤ b) (w : World) : Calls Try.prog 74 #[.int .i64 n, .int .i64 a, .int .i64 b] w fun e w' => e = .returned (.bool true) ∧ w' = w := by
  go_enter Try.func74, Try.ntmps74
  go_wp2
  go_ret
  exact ⟨rfl, rfl⟩

theorem within_f (n a b : Int) (h1 : n < a) (w : World) : Calls Try.prog 74 #[.int .i64 n, .int .i64 a, .int .i64 b] w fun e w' => e = .returned (.bool false) ∧ w' = w := by
  go_enter Try.func74, Try.ntmps74
  go_wp2
  go_ret
  exact ⟨rfl, rfl⟩

set_option maxHeartbeats 400000 in
theorem rightPuts_ok (ao : Option Addr) (n cap : Nat) (ps : List PutG) (w : World) (h : RdP w ao n cap ps) (hok : PutsOk ps) :
    Calls Try.prog 75 #[.slice ao n cap] w fun e w' => e = .returned (.bool true) ∧ Below w.heap.size w w' := by
  have hn : n ≤ 24 := by have := h.len; have := hok.le; omega
  have HOK : Hid (PutsOk ps) := hok
  have HR : Hid (RdP w ao n cap ps) := h
  clear hok h
  have hst := fun (ad : Addr) (re im : Nat) (W : World) => run_store Try.prog W ad (.complex .f64 re im) .plain rfl
  go_enter Try.func75, Try.ntmps75
  go_wp2
  go_loopw [3, 12] (fun t i wr => ∃ (k : Nat) (z : Int), k ≤ n ∧ i = .int .i64 k ∧ t = .int .i64 z ∧ (∀ p, ps[k]? = some p → z < (p.place : Int)) ∧ -1 ≤ z ∧ z ≤ 30 ∧ Below w.heap.size w wr) (fun _ i _ => n - (intOf i).toNat)
  case atStart => exact ⟨0, -1, Nat.zero_le _, rfl, rfl, fun p _ => by omega, by omega, by omega, Below.refl _ _⟩
  case round =>
    obtain ⟨k, z, hk, rfl, rfl, hz, hz1, hz2, hbel⟩ := hrel
    by_cases hlt : k < n
    · have hl := HR.out.len
      obtain ⟨b, off, rfl, hb, q0, q1, q2⟩ := (HR.out.below hbel).cell k (by omega)
      have hkk : ps[k]? = some ps[k] := List.getElem?_eq_getElem _
      have hz3 := hz _ hkk
      obtain ⟨hp1, hp2, hp3⟩ := HOK.out.pg ps[k] (List.getElem_mem _)
      have hinc := fun q => HOK.out.inc k ps[k] q hkk
      generalize ps[k] = p at *
      obtain ⟨pg, ob, c⟩ := p
      simp only [PutG.place] at hz3 hp1 hp2 q0 q1 q2
      have HI : Hid (∀ q, ps[k + 1]? = some q → pg * 4 + ob < q.place) := hinc
      clear hinc hz hkk hp3
      have hm : decide ((pg : Int) * 4 + ob ≤ z) = false := by simp; omega
      go_wp2_with (first
        | (go_at_call 74; refine (within_t _ _ _ ?_ ?_ _).mono ?_; omega; omega; rintro e w' ⟨rfl, hw⟩; subst w'))
      go_roundw
      case rel => exact ⟨k + 1, (pg : Int) * 4 + ob, by omega, by go_num, by go_num, fun q hq => by have := HI.out q hq; omega, by omega, by omega, hbel.alloc hbel.size _⟩
      case measure => simp [intOf]; omega
    · go_wp2
      go_ret
      exact ⟨rfl, hbel⟩

end Go.Proofs.Ytmognpjkccienaa.Msg
