/-  What Set and Bytes of package page do, walked. What Bytes of package page does, walked. What Read of package page does with the bytes of a page, walked. -/
import Derived.Test.YtpofihiojhbfgaaGreatDoorA3
import Derived.Laws.Rows
import Derived.Deep.RegionHeld
import Derived.Deep.RegionHeldLaw
import Derived.Handy
namespace Go.Proofs.YtpofihiojhbfgaaGreatDoor
open Go.RowKit
set_option linter.unusedVariables false
set_option maxRecDepth 8000

def lsnB (l : Int) : Bool := decide (0 ≤ l) && decide (l ≤ 16777215)

theorem rightLSN_any (l : Int) (w : World) : Calls Tryz.prog 96 #[.int .i64 l] w fun e w' => e = .returned (.bool (lsnB l)) ∧ w' = w := by
  cases h : decide (0 ≤ l)
  all_goals
    have h' := h
    simp only [decide_eq_true_eq, decide_eq_false_iff_not] at h'
    go_enter Tryz.func96, Tryz.ntmps96
    go_wp2
    go_ret
    exact ⟨ret_bool (by simp only [lsnB, h, Bool.true_and, Bool.false_and]), rfl⟩

def objB (l : Int) : Bool := decide (0 ≤ l) && decide (l < 4)

theorem rightObj_any (l : Int) (w : World) : Calls Tryz.prog 95 #[.int .i64 l] w fun e w' => e = .returned (.bool (objB l)) ∧ w' = w := by
  cases h : decide (0 ≤ l)
  all_goals
    have h' := h
    simp only [decide_eq_true_eq, decide_eq_false_iff_not] at h'
    go_enter Tryz.func95, Tryz.ntmps95
    go_wp2
    go_ret
    exact ⟨ret_bool (by simp only [objB, h, Bool.true_and, Bool.false_and]), rfl⟩

def pgV (l : Int) (a b c d : Nat × Nat) : Value := .agg #[.int .i64 l, .complex .f64 a.1 a.2, .complex .f64 b.1 b.2, .complex .f64 c.1 c.2, .complex .f64 d.1 d.2]

abbrev pgO (l : Int) (a b c d : Nat × Nat) : Obj := .cells #[.int .i64 l, .complex .f64 a.1 a.2, .complex .f64 b.1 b.2, .complex .f64 c.1 c.2, .complex .f64 d.1 d.2] 53

structure PgAt (w : World) (g : Nat) (l : Int) (a b c d : Nat × Nat) : Prop where
  c0 : w.cell? ⟨g, 0, none⟩ = some (.int .i64 l)
  c1 : w.cell? ⟨g, 1, none⟩ = some (.complex .f64 a.1 a.2)
  c2 : w.cell? ⟨g, 2, none⟩ = some (.complex .f64 b.1 b.2)
  c3 : w.cell? ⟨g, 3, none⟩ = some (.complex .f64 c.1 c.2)
  c4 : w.cell? ⟨g, 4, none⟩ = some (.complex .f64 d.1 d.2)
  f0 : w.frozen? ⟨g, 0, none⟩ = false
  f1 : w.frozen? ⟨g, 1, none⟩ = false
  f2 : w.frozen? ⟨g, 2, none⟩ = false
  f3 : w.frozen? ⟨g, 3, none⟩ = false
  f4 : w.frozen? ⟨g, 4, none⟩ = false
  lt : g < w.heap.size

theorem PgAt.new (w : World) (l : Int) (a b c d : Nat × Nat) : PgAt (w.alloc (pgO l a b c d)) w.heap.size l a b c d := by
  have h := heap_alloc_new w (pgO l a b c d)
  refine ⟨?_, ?_, ?_, ?_, ?_, frozen_of_row _ _ _ _ _ h, frozen_of_row _ _ _ _ _ h, frozen_of_row _ _ _ _ _ h, frozen_of_row _ _ _ _ _ h, frozen_of_row _ _ _ _ _ h, by simp⟩
  all_goals (rw [cell_of_row _ _ _ _ _ _ h]; rfl)

theorem PgAt.below {w w' : World} {g B : Nat} {l : Int} {a b c d : Nat × Nat} (h : PgAt w g l a b c d) (hb : Below B w w') (hg : g < B) : PgAt w' g l a b c d :=
  ⟨(hb.cell hg).trans h.c0, (hb.cell hg).trans h.c1, (hb.cell hg).trans h.c2, (hb.cell hg).trans h.c3, (hb.cell hg).trans h.c4, (hb.frozen hg).trans h.f0, (hb.frozen hg).trans h.f1, (hb.frozen hg).trans h.f2, (hb.frozen hg).trans h.f3, (hb.frozen hg).trans h.f4, Nat.lt_of_lt_of_le h.lt hb.size⟩

theorem right_any (l : Int) (a b c d : Nat × Nat) (w : World) : Calls Tryz.prog 97 #[pgV l a b c d] w fun e w' => e = .returned (.bool (lsnB l)) ∧ w' = w.alloc (pgO l a b c d) := by
  unfold pgV
  go_enter Tryz.func97, Tryz.ntmps97
  go_wp2_with (go_at_call 96; refine (rightLSN_any _ _).mono ?_; rintro e w' ⟨rfl, hw⟩; subst w')
  go_ret
  exact ⟨rfl, rfl⟩

end Go.Proofs.YtpofihiojhbfgaaGreatDoor

namespace Go.Proofs.YtpofihiojhbfgaaGreatDoor
open Go.RowKit
set_option linter.unusedVariables false
set_option maxRecDepth 8000

def putO (k : Nat) (x : Nat × Nat) (j : Nat) (a : Nat × Nat) : Nat × Nat := if k = j then x else a

set_option maxHeartbeats 800000 in
theorem set_ok (l : Int) (a b c d x : Nat × Nat) (k : Nat) (lsn : Int) (w : World) (hk : k < 4) (hl : lsnB lsn = true) :
    Calls Tryz.prog 56 #[pgV l a b c d, .int .i64 (k : Int), .complex .f64 x.1 x.2, .int .i64 lsn] w fun e w' => e = .returned (.tuple #[pgV lsn (putO k x 0 a) (putO k x 1 b) (putO k x 2 c) (putO k x 3 d), .int .i64 0]) ∧ Below w.heap.size w w' := by
  have ho : objB (k : Int) = true := by simp [objB]; omega
  obtain rfl | rfl | rfl | rfl : k = 0 ∨ k = 1 ∨ k = 2 ∨ k = 3 := by omega
  all_goals
    have hst := fun (ad : Addr) (re im : Nat) (W : World) => run_store Tryz.prog W ad (.complex .f64 re im) .plain rfl
    unfold pgV
    go_enter Tryz.func56, Tryz.ntmps56
    go_wp2_with (first
      | (go_at_call 95; refine (rightObj_any _ _).mono ?_; rintro e w' ⟨rfl, hw⟩; subst w')
      | (go_at_call 96; refine (rightLSN_any _ _).mono ?_; rintro e w' ⟨rfl, hw⟩; subst w'))
    go_returns
    refine ⟨rfl, ?_⟩; go_grown

end Go.Proofs.YtpofihiojhbfgaaGreatDoor

namespace Go.Proofs.YtpofihiojhbfgaaGreatDoor
open Go.RowKit
set_option linter.unusedVariables false
set_option maxRecDepth 8000

def nb (zs : List Int) : List Nat := zs.map Int.toNat

theorem nb_length (zs : List Int) : (nb zs).length = zs.length := by simp [nb]

theorem ci_nb {zs : List Int} (h : ∀ z ∈ zs, 0 ≤ z ∧ z < 256) : ci (nb zs) = zs := by
  simp only [ci, nb, List.map_map]
  conv => rhs; rw [← List.map_id zs]
  apply List.map_congr_left
  intro z hz
  have := h z hz
  simp
  omega

theorem nb_bytes {zs : List Int} (h : ∀ z ∈ zs, 0 ≤ z ∧ z < 256) : ∀ b ∈ nb zs, b < 256 := by
  intro b hb
  obtain ⟨z, hz, rfl⟩ := List.mem_map.1 hb
  have := h z hz
  omega

theorem rd8_nb {w : World} {ao : Option Addr} {n cap : Nat} {zs : List Int} (r : RdI w .u8 ao cap zs) (l : zs.length = n) (h : ∀ z ∈ zs, 0 ≤ z ∧ z < 256) : Rd8 w ao n cap (nb zs) :=
  ⟨by rw [ci_nb h]; exact r, by rw [nb_length]; exact l, nb_bytes h⟩

def objsZ (cs : List (Nat × Nat)) : List Int := cs.flatMap fun c => valN c.1 c.2

theorem objsZ_length (cs : List (Nat × Nat)) : (objsZ cs).length = 16 * cs.length := by
  induction cs with
  | nil => rfl
  | cons c cs ih => simp only [objsZ, List.flatMap_cons, List.length_append, valN_length, List.length_cons] at *; omega

def wordB (c : Nat × Nat) : Prop := c.1 < 18446744073709551616 ∧ c.2 < 18446744073709551616

end Go.Proofs.YtpofihiojhbfgaaGreatDoor

namespace Go.Proofs.YtpofihiojhbfgaaGreatDoor
open Go.RowKit
set_option linter.unusedVariables false
set_option maxRecDepth 8000

theorem formN_twice (a : Nat) : formN (formN a) = formN a := by
  unfold formN
  by_cases h : nanB a = true
  · have h2 : nanB 9221120237041090561 = true := by rw [nanB_eq]; decide
    simp [h, h2]
  · simp [h]

theorem rdW_wr {a : Nat} (h : a < 18446744073709551616) : rdW (wrN 8 (a : Int)) = a := by
  unfold rdW
  rw [rdN_wrN 8 _ (by omega) (by have : (256 : Int) ^ 8 = 18446744073709551616 := by decide
                                 omega)]
  simp

def canO (x : Nat × Nat) : Nat × Nat := (formN x.1, formN x.2)

theorem valN_bd (a b : Nat) : ∀ z ∈ valN a b, 0 ≤ z ∧ z < 256 := by
  intro z hz
  rw [valN, List.mem_append] at hz
  rcases hz with h | h
  all_goals exact wrN_bd _ _ z h

theorem take_val (ao : Option Addr) (cap n m : Nat) (x : Nat × Nat) (zs : List Int) (w : World) (hrd : RdI w .u8 ao cap (valN x.1 x.2 ++ zs)) (hm : zs.length = m) (hn : n = 16 + m) (hx : wordB x) (hb : ∀ z ∈ zs, 0 ≤ z ∧ z < 256) (hlen : n ≤ 140737488355328) :
    Calls Tryz.prog 118 #[.slice ao n cap] w fun e w' => ∃ a2 c2, e = .returned (.tuple #[.complex .f64 (canO x).1 (canO x).2, .slice a2 m c2, .int .i64 0]) ∧ OwnI w' w.heap.size 5 .u8 a2 c2 zs ∧ Below w.heap.size w w' := by
  have hl := valN_length x.1 x.2
  have h1 : rdW ((valN x.1 x.2 ++ zs).take 8) = formN x.1 := by
    rw [valN, List.append_assoc, List.take_append_of_le_length (by simp), List.take_of_length_le (by simp), rdW_wr (formN_lt _ hx.1)]
  have h2 : rdW (((valN x.1 x.2 ++ zs).drop 8).take 8) = formN x.2 := by
    rw [valN, List.append_assoc, List.drop_append_of_le_length (by simp), List.drop_of_length_le (by simp), List.nil_append, List.take_append_of_le_length (by simp), List.take_of_length_le (by simp), rdW_wr (formN_lt _ hx.2)]
  refine (take_long ao cap n (valN x.1 x.2 ++ zs) w hrd (by rw [List.length_append, hl, hm, hn]) ?_ (by omega) hlen (by rw [h1, formN_twice]) (by rw [h2, formN_twice])).mono ?_
  · intro z hz
    rcases List.mem_append.1 hz with h | h
    · exact valN_bd _ _ z h
    · exact hb z h
  · rintro e w' ⟨a2, c2, rfl, ho, hbl⟩
    refine ⟨a2, c2, ?_, ?_, hbl⟩
    · rw [h1, h2, show n - 16 = m by omega]; rfl
    · rw [List.drop_append_of_le_length (by omega), List.drop_of_length_le (by omega), List.nil_append] at ho
      exact ho

theorem OwnI.other {w : World} {base : Nat} {e : TypeId} {k : IntKind} {ao : Option Addr} {cap : Nat} {zs : List Int} (h : OwnI w base e k ao cap zs) (p : Addr) (v : Value) (hp : p.block < base) : OwnI (w.setCell p v) base e k ao cap zs := by
  obtain ⟨h1, h2⟩ := h
  refine ⟨h1, ?_⟩
  rcases h2 with h2 | ⟨g, cp, cur, hv, hg, hh, r⟩
  · exact .inl h2
  · exact .inr ⟨g, cp, cur, hv, hg, by rw [Below.heap_setCell w p v g (by omega)]; exact hh, r⟩

theorem objsZ_bd (cs : List (Nat × Nat)) : ∀ z ∈ objsZ cs, 0 ≤ z ∧ z < 256 := by
  intro z hz
  obtain ⟨c, _, h⟩ := List.mem_flatMap.1 hz
  exact valN_bd _ _ z h

abbrev zO : Nat × Nat := (0, 0)

end Go.Proofs.YtpofihiojhbfgaaGreatDoor
