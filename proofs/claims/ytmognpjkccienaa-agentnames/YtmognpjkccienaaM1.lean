/- Messages as values and in memory; what the small functions of package msg do, walked. -/
import Derived.Test.YtmognpjkccienaaW2
namespace Go.Proofs.Ytmognpjkccienaa.Msg
open Go.RowKit
set_option linter.unusedVariables false
set_option maxRecDepth 8000

/-- Is a number from one to another? -/
def btw (n a b : Int) : Bool := decide (a ≤ n) && decide (n ≤ b)

theorem between_any (n a b : Int) (w : World) : Calls Try.prog 50 #[.int .i64 n, .int .i64 a, .int .i64 b] w fun e w' => e = .returned (.bool (btw n a b)) ∧ w' = w := by
  go_enter Try.func50, Try.ntmps50
  go_wp2
  all_goals
    go_ret
    exact ⟨ret_bool (by first | (simp_all [btw]; done) | (simp_all [btw]; omega)), rfl⟩

theorem wwithin_any (n a b : Int) (w : World) : Calls Try.prog 74 #[.int .i64 n, .int .i64 a, .int .i64 b] w fun e w' => e = .returned (.bool (btw n a b)) ∧ w' = w := by
  go_enter Try.func74, Try.ntmps74
  go_wp2
  all_goals
    go_ret
    exact ⟨ret_bool (by first | (simp_all [btw]; done) | (simp_all [btw]; omega)), rfl⟩

/-- A bool as a number. -/
def flgI (b : Bool) : Int := if b then 1 else 0

/-- Is a number a flag? -/
def isFlg (n : Int) : Bool := n == 0 || n == 1

/-- A message: its numbers, its puts, the words of its values. -/
structure Mg where
  k : Int
  p : Int
  o : Int
  t : Int
  c : Int
  n : Int
  wr : Bool
  ps : List PutG
  v0 : Nat × Nat
  v1 : Nat × Nat
  v2 : Nat × Nat
  v3 : Nat × Nat

/-- A message as a value. -/
abbrev msV (M : Mg) (ao : Option Addr) (n cap : Nat) : Value := .agg #[.int .i64 M.k, .int .i64 M.p, .int .i64 M.o, .int .i64 M.t, .int .i64 M.c, .int .i64 M.n, .bool M.wr, .slice ao n cap, .complex .f64 M.v0.1 M.v0.2, .complex .f64 M.v1.1 M.v1.2, .complex .f64 M.v2.1 M.v2.2, .complex .f64 M.v3.1 M.v3.2]

/-- A message in a block. -/
abbrev msO (M : Mg) (ao : Option Addr) (n cap : Nat) : Obj := .cells #[.int .i64 M.k, .int .i64 M.p, .int .i64 M.o, .int .i64 M.t, .int .i64 M.c, .int .i64 M.n, .bool M.wr, .slice ao n cap, .complex .f64 M.v0.1 M.v0.2, .complex .f64 M.v1.1 M.v1.2, .complex .f64 M.v2.1 M.v2.2, .complex .f64 M.v3.1 M.v3.2] 50

/-- A message lies in a block. -/
structure MgAt (w : World) (g : Nat) (M : Mg) (ao : Option Addr) (n cap : Nat) : Prop where
  c0 : w.cell? ⟨g, 0, none⟩ = some (.int .i64 M.k)
  c1 : w.cell? ⟨g, 1, none⟩ = some (.int .i64 M.p)
  c2 : w.cell? ⟨g, 2, none⟩ = some (.int .i64 M.o)
  c3 : w.cell? ⟨g, 3, none⟩ = some (.int .i64 M.t)
  c4 : w.cell? ⟨g, 4, none⟩ = some (.int .i64 M.c)
  c5 : w.cell? ⟨g, 5, none⟩ = some (.int .i64 M.n)
  c6 : w.cell? ⟨g, 6, none⟩ = some (.bool M.wr)
  c7 : w.cell? ⟨g, 7, none⟩ = some (.slice ao n cap)
  c8 : w.cell? ⟨g, 8, none⟩ = some (.complex .f64 M.v0.1 M.v0.2)
  c9 : w.cell? ⟨g, 9, none⟩ = some (.complex .f64 M.v1.1 M.v1.2)
  cA : w.cell? ⟨g, 10, none⟩ = some (.complex .f64 M.v2.1 M.v2.2)
  cB : w.cell? ⟨g, 11, none⟩ = some (.complex .f64 M.v3.1 M.v3.2)
  fz : ∀ j, w.frozen? ⟨g, j, none⟩ = false
  lt : g < w.heap.size

theorem MgAt.new (w : World) (M : Mg) (ao : Option Addr) (n cap : Nat) : MgAt (w.alloc (msO M ao n cap)) w.heap.size M ao n cap := by
  have h := heap_alloc_new w (msO M ao n cap)
  refine ⟨?_, ?_, ?_, ?_, ?_, ?_, ?_, ?_, ?_, ?_, ?_, ?_, fun j => frozen_of_row _ _ _ _ _ h, by simp⟩
  all_goals rw [cell_of_row _ _ _ _ _ _ h]; rfl

theorem MgAt.keep {w w' : World} {g : Nat} {M : Mg} {ao : Option Addr} {n cap : Nat} (h : MgAt w g M ao n cap) (hg : w'.heap[g]? = w.heap[g]?) (hs : w.heap.size ≤ w'.heap.size) : MgAt w' g M ao n cap := by
  have c := fun j => World.cell?_of_block (w := w) (w' := w') (a := ⟨g, j, none⟩) hg
  exact ⟨(c 0).trans h.c0, (c 1).trans h.c1, (c 2).trans h.c2, (c 3).trans h.c3, (c 4).trans h.c4, (c 5).trans h.c5, (c 6).trans h.c6, (c 7).trans h.c7, (c 8).trans h.c8, (c 9).trans h.c9, (c 10).trans h.cA, (c 11).trans h.cB, fun j => (World.frozen?_of_block (w := w) hg).trans (h.fz j), Nat.lt_of_lt_of_le h.lt hs⟩

theorem MgAt.below {w w' : World} {g : Nat} {M : Mg} {ao : Option Addr} {n cap : Nat} (h : MgAt w g M ao n cap) (hb : Below w.heap.size w w') : MgAt w' g M ao n cap := h.keep (hb.block g h.lt) hb.size

/-- Puts in their order, from a place on. -/
def putsFrom (z : Int) : List PutG → Bool
  | [] => true
  | p :: r => decide ((p.pg : Int) ≤ 5) && decide ((p.ob : Int) ≤ 3) && decide (z < (p.place : Int)) && putsFrom (p.place : Int) r

/-- Can these puts be? -/
def putsB (ps : List PutG) : Bool := decide (ps.length ≤ 24) && putsFrom (-1) ps

theorem putsFrom_at (z : Int) (ps : List PutG) (k : Nat) (h : k < ps.length) : putsFrom z (ps.drop k) = (decide ((ps[k].pg : Int) ≤ 5) && decide ((ps[k].ob : Int) ≤ 3) && decide (z < (ps[k].place : Int)) && putsFrom (ps[k].place : Int) (ps.drop (k + 1))) := by
  rw [List.drop_eq_getElem_cons h]; rfl

set_option maxHeartbeats 400000 in
theorem wrightPuts_any (ao : Option Addr) (n cap : Nat) (ps : List PutG) (w : World) (h : RdP w ao n cap ps) :
    Calls Try.prog 75 #[.slice ao n cap] w fun e w' => e = .returned (.bool (putsB ps)) ∧ Below w.heap.size w w' := by
  have hl := h.len
  have HR : Hid (RdP w ao n cap ps) := h
  clear h
  have hst := fun (ad : Addr) (re im : Nat) (W : World) => run_store Try.prog W ad (.complex .f64 re im) .plain rfl
  by_cases hn : n ≤ 24
  · have HB : Hid (putsB ps = putsFrom (-1) ps) := by simp [Hid, putsB, hl, hn]
    go_enter Try.func75, Try.ntmps75
    go_wp2
    go_loopw [3, 12] (fun t i wr => ∃ (k : Nat) (z : Int), k ≤ n ∧ i = .int .i64 k ∧ t = .int .i64 z ∧ putsFrom (-1) ps = putsFrom z (ps.drop k) ∧ -1 ≤ z ∧ z ≤ 30 ∧ Below w.heap.size w wr) (fun _ i _ => n - (intOf i).toNat)
    case atStart => exact ⟨0, -1, Nat.zero_le _, rfl, rfl, rfl, by omega, by omega, Below.refl _ _⟩
    case round =>
      obtain ⟨k, z, hk, rfl, rfl, hz, hz1, hz2, hbel⟩ := hrel
      by_cases hlt : k < n
      · obtain ⟨b, off, rfl, hb, q0, q1, q2⟩ := (HR.out.below hbel).cell k (by omega)
        rw [putsFrom_at z ps k (by omega)] at hz
        generalize ps[k] = p at *
        obtain ⟨pg, ob, c⟩ := p
        simp only at q0 q1 q2
        have HZ : Hid (putsFrom (-1) ps = (decide ((pg : Int) ≤ 5) && decide ((ob : Int) ≤ 3) && decide (z < (pg : Int) * 4 + ob) && putsFrom ((pg : Int) * 4 + ob) (ps.drop (k + 1)))) := by
          rw [Hid, hz]
          have e4 : ((PutG.place ⟨pg, ob, c⟩ : Nat) : Int) = (pg : Int) * 4 + ob := by simp [PutG.place]
          rw [e4]
        clear hz
        by_cases h1 : (pg : Int) ≤ 5
        · by_cases h2 : (ob : Int) ≤ 3
          · by_cases h3 : (pg : Int) * 4 + ob ≤ z
            · go_wp2_with (first
                | (go_at_call 74; refine (within_t _ _ _ ?_ ?_ _).mono ?_; omega; omega; rintro e w' ⟨rfl, hw⟩; subst w'))
              go_ret
              exact ⟨ret_bool (by rw [HB.out, HZ.out, decide_eq_false (show ¬ z < (pg : Int) * 4 + ob by omega)]; simp), hbel.alloc hbel.size _⟩
            · go_wp2_with (first
                | (go_at_call 74; refine (within_t _ _ _ ?_ ?_ _).mono ?_; omega; omega; rintro e w' ⟨rfl, hw⟩; subst w'))
              go_roundw
              case rel => exact ⟨k + 1, (pg : Int) * 4 + ob, by omega, by go_num, by go_num, by rw [HZ.out, decide_eq_true h1, decide_eq_true h2, decide_eq_true (show z < (pg : Int) * 4 + ob by omega)]; simp, by omega, by omega, hbel.alloc hbel.size _⟩
              case measure => simp [intOf]; omega
          · have e2 : btw (ob : Int) 0 3 = false := by simp [btw]; omega
            go_wp2_with (first
              | (go_at_call_of 74 (Value.int IntKind.i64 (ob : Int)); refine (wwithin_any _ _ _ _).mono ?_; rintro e w' ⟨rfl, hw⟩; subst w'; rw [e2])
              | (go_at_call 74; refine (within_t _ _ _ ?_ ?_ _).mono ?_; omega; omega; rintro e w' ⟨rfl, hw⟩; subst w'))
            go_ret
            exact ⟨ret_bool (by rw [HB.out, HZ.out, decide_eq_false (show ¬ (ob : Int) ≤ 3 by omega)]; simp), hbel.alloc hbel.size _⟩
        · have e1 : btw (pg : Int) 0 5 = false := by simp [btw]; omega
          go_wp2_with (first
            | (go_at_call 74; refine (wwithin_any _ _ _ _).mono ?_; rintro e w' ⟨rfl, hw⟩; subst w'; rw [e1]))
          go_ret
          exact ⟨ret_bool (by rw [HB.out, HZ.out, decide_eq_false (show ¬ (pg : Int) ≤ 5 by omega)]; simp), hbel.alloc hbel.size _⟩
      · go_wp2
        go_ret
        exact ⟨ret_bool (by rw [HB.out, hz, List.drop_of_length_le (by omega)]; rfl), hbel⟩
  · have HB : putsB ps = false := by simp [putsB, hl]; omega
    go_enter Try.func75, Try.ntmps75
    go_wp2
    go_ret
    exact ⟨ret_bool HB.symm, Below.refl _ _⟩

set_option maxHeartbeats 400000 in
theorem isCommit_any (ao : Option Addr) (n cap : Nat) (ps : List PutG) (w : World) (h : RdP w ao n cap ps) :
    Calls Try.prog 69 #[btV 1 0 1 1 ao n cap] w fun x w' => x = .returned (.bool (putsB ps)) ∧ Below w.heap.size w w' := by
  have h2 := h.below (below_box w (btO 1 0 1 1 ao n cap))
  go_enter Try.func69, Try.ntmps69
  go_wp2_with (first
    | (go_at_call 75; refine (wrightPuts_any _ _ _ _ _ h2).mono ?_; rintro x w' ⟨rfl, hb⟩)
    | (go_at_call 74; refine (within_t _ _ _ ?_ ?_ _).mono ?_; omega; omega; rintro x w' ⟨rfl, hw⟩; subst w'))
  go_ret
  exact ⟨rfl, below_alloc (hb.mono (by simp))⟩

set_option maxHeartbeats 400000 in
theorem wright_any (ao : Option Addr) (n cap : Nat) (ps : List PutG) (w : World) (h : RdP w ao n cap ps) :
    Calls Try.prog 65 #[btV 1 0 1 1 ao n cap] w fun x w' => x = .returned (.bool (putsB ps)) ∧ Below w.heap.size w w' := by
  have h2 := h.below (below_box w (btO 1 0 1 1 ao n cap))
  cases hB : putsB ps
  · go_enter Try.func65, Try.ntmps65
    go_wp2_with (first
      | (go_at_call 70; refine (isMark_no _ _ _ _ _ _ _ _ ⟨by omega, by omega⟩ (by omega)).mono ?_; rintro x w2 ⟨rfl, hb2⟩)
      | (go_at_call 69; refine (isCommit_any _ _ _ _ _ h2).mono ?_; rw [hB]; rintro x w1 ⟨rfl, hb⟩; have hq := (BtAt.new w 1 0 1 1 ao n cap).below hb; have q0 := hq.c0; have q1 := hq.c1; have q2 := hq.c2; have q3 := hq.c3; have q4 := hq.c4; clear hq))
    go_ret
    exact ⟨rfl, below_step (below_alloc (hb.mono (by simp))) hb2⟩
  · go_enter Try.func65, Try.ntmps65
    go_wp2_with (first
      | (go_at_call 69; refine (isCommit_any _ _ _ _ _ h2).mono ?_; rw [hB]; rintro x w1 ⟨rfl, hb⟩))
    go_ret
    exact ⟨rfl, below_alloc (hb.mono (by simp))⟩

theorem rightPuts_any (ao : Option Addr) (n cap : Nat) (ps : List PutG) (w : World) (h : RdP w ao n cap ps) :
    Calls Try.prog 52 #[.slice ao n cap] w fun x w' => x = .returned (.bool (putsB ps)) ∧ Below w.heap.size w w' := by
  go_enter Try.func52, Try.ntmps52
  go_wp2_with (first
    | (go_at_call 65; refine (wright_any _ _ _ _ _ h).mono ?_; rintro x w1 ⟨rfl, hb⟩))
  go_ret
  exact ⟨rfl, hb⟩

/-- Is the mask, or the error's number, within its bounds? -/
def copyB (k c : Int) : Bool := if k = 8 then btw c 1 999 else btw c 0 15

theorem rightCopy_any (M : Mg) (ao : Option Addr) (n cap : Nat) (w : World) : Calls Try.prog 51 #[msV M ao n cap] w fun x w' => x = .returned (.bool (copyB M.k M.c)) ∧ Below w.heap.size w w' := by
  by_cases h8 : M.k = 8
  all_goals
    go_enter Try.func51, Try.ntmps51
    go_wp2_with (first
      | (go_at_call 50; refine (between_any _ _ _ _).mono ?_; rintro x w1 ⟨rfl, hw⟩; subst w1))
    go_ret
    exact ⟨ret_bool (by simp [copyB, h8]), below_box _ _⟩

/-- Is each part within its bounds? -/
def withinB (M : Mg) : Bool := btw M.p 0 5 && btw M.o 0 3 && btw M.t 0 16777215 && copyB M.k M.c && btw M.n 0 15 && putsB M.ps

set_option maxHeartbeats 400000 in
theorem within_any (M : Mg) (ao : Option Addr) (n cap : Nat) (w : World) (h : RdP w ao n cap M.ps) : Calls Try.prog 35 #[msV M ao n cap] w fun x w' => x = .returned (.bool (withinB M)) ∧ Below w.heap.size w w' := by
  have h2 := h.below (below_box w (msO M ao n cap))
  have hB0 : Below w.heap.size w (w.alloc (msO M ao n cap)) := below_box _ _
  go_enter Try.func35, Try.ntmps35
  go_wp2_with (first
    | (go_at_call 52; refine (rightPuts_any _ _ _ _ _ (h2.below hb)).mono ?_; rintro x w2 ⟨rfl, hb2⟩; have hB2 : Below w.heap.size w w2 := below_step hB1 hb2)
    | (go_at_call 51; refine (rightCopy_any _ _ _ _ _).mono ?_; rintro x w1 ⟨rfl, hb⟩; have hB1 : Below w.heap.size w w1 := below_alloc (hb.mono (by simp)); have hq := (MgAt.new w M ao n cap).below hb; have q5 := hq.c5; have q7 := hq.c7; clear hq)
    | (go_at_call 50; refine (between_any _ _ _ _).mono ?_; rintro x w0 ⟨rfl, hw⟩; subst w0))
  all_goals
    go_ret
    refine ⟨ret_bool (by simp_all [withinB]), ?_⟩
    first | exact hB2 | exact hB1 | exact hB0

end Go.Proofs.Ytmognpjkccienaa.Msg
