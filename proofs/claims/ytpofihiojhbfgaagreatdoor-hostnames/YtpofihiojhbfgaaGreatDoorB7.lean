/- Messages as values and in memory; what the small functions of package msg do, walked. Are messages the same: what Same of package msg and what it calls do, walked. Are messages the same: what Same of package msg and what it calls do, walked (on). What Same, ownParts and Right of package msg do, walked. -/
import Derived.Test.YtpofihiojhbfgaaGreatDoorA6
import Derived.Deep.QuietTactic
import Derived.BigQuiet
import Derived.BigRegion
import Derived.Handy
import Derived.RegionTactic
namespace Go.Proofs.YtpofihiojhbfgaaGreatDoor.Msg
open Go.RowKit
set_option linter.unusedVariables false
set_option maxRecDepth 8000

def btw (n a b : Int) : Bool := decide (a ≤ n) && decide (n ≤ b)

theorem between_any (n a b : Int) (w : World) : Calls Tryz.prog 113 #[.int .i64 n, .int .i64 a, .int .i64 b] w fun e w' => e = .returned (.bool (btw n a b)) ∧ w' = w := by
  go_enter Tryz.func113, Tryz.ntmps113
  go_wp2
  all_goals
    go_ret
    exact ⟨ret_bool (by first | (simp_all [btw]; done) | (simp_all [btw]; omega)), rfl⟩

theorem wwithin_any (n a b : Int) (w : World) : Calls Tryz.prog 94 #[.int .i64 n, .int .i64 a, .int .i64 b] w fun e w' => e = .returned (.bool (btw n a b)) ∧ w' = w := by
  go_enter Tryz.func94, Tryz.ntmps94
  go_wp2
  all_goals
    go_ret
    exact ⟨ret_bool (by first | (simp_all [btw]; done) | (simp_all [btw]; omega)), rfl⟩

def flgI (b : Bool) : Int := if b then 1 else 0

theorem flag_any (b : Bool) (w : World) : Calls Tryz.prog 78 #[.bool b] w fun e w' => e = .returned (.int .i64 (flgI b)) ∧ w' = w := by
  cases b
  all_goals
    go_enter Tryz.func78, Tryz.ntmps78
    go_wp2
    go_ret
    exact ⟨rfl, rfl⟩

def isFlg (n : Int) : Bool := n == 0 || n == 1

theorem isFlag_any (n : Int) (w : World) : Calls Tryz.prog 83 #[.int .i64 n] w fun e w' => e = .returned (.bool (isFlg n)) ∧ w' = w := by
  go_enter Tryz.func83, Tryz.ntmps83
  go_wp2_with (first
    | (go_at_call 78; refine (flag_any _ _).mono ?_; rintro e w' ⟨rfl, hw⟩; subst w'; simp only [flgI]))
  all_goals
    go_ret
    exact ⟨ret_bool (by simp_all [isFlg]), rfl⟩

structure Mg where
  k : Int
  p : Int
  o : Int
  t : Int
  c : Int
  n : Int
  wr : Bool
  ps : List PutG
  v0 : Nat × Nat
  v1 : Nat × Nat
  v2 : Nat × Nat
  v3 : Nat × Nat

abbrev msV (M : Mg) (ao : Option Addr) (n cap : Nat) : Value := .agg #[.int .i64 M.k, .int .i64 M.p, .int .i64 M.o, .int .i64 M.t, .int .i64 M.c, .int .i64 M.n, .bool M.wr, .slice ao n cap, .complex .f64 M.v0.1 M.v0.2, .complex .f64 M.v1.1 M.v1.2, .complex .f64 M.v2.1 M.v2.2, .complex .f64 M.v3.1 M.v3.2]

abbrev msO (M : Mg) (ao : Option Addr) (n cap : Nat) : Obj := .cells #[.int .i64 M.k, .int .i64 M.p, .int .i64 M.o, .int .i64 M.t, .int .i64 M.c, .int .i64 M.n, .bool M.wr, .slice ao n cap, .complex .f64 M.v0.1 M.v0.2, .complex .f64 M.v1.1 M.v1.2, .complex .f64 M.v2.1 M.v2.2, .complex .f64 M.v3.1 M.v3.2] 47

structure MgAt (w : World) (g : Nat) (M : Mg) (ao : Option Addr) (n cap : Nat) : Prop where
  c0 : w.cell? ⟨g, 0, none⟩ = some (.int .i64 M.k)
  c1 : w.cell? ⟨g, 1, none⟩ = some (.int .i64 M.p)
  c2 : w.cell? ⟨g, 2, none⟩ = some (.int .i64 M.o)
  c3 : w.cell? ⟨g, 3, none⟩ = some (.int .i64 M.t)
  c4 : w.cell? ⟨g, 4, none⟩ = some (.int .i64 M.c)
  c5 : w.cell? ⟨g, 5, none⟩ = some (.int .i64 M.n)
  c6 : w.cell? ⟨g, 6, none⟩ = some (.bool M.wr)
  c7 : w.cell? ⟨g, 7, none⟩ = some (.slice ao n cap)
  c8 : w.cell? ⟨g, 8, none⟩ = some (.complex .f64 M.v0.1 M.v0.2)
  c9 : w.cell? ⟨g, 9, none⟩ = some (.complex .f64 M.v1.1 M.v1.2)
  cA : w.cell? ⟨g, 10, none⟩ = some (.complex .f64 M.v2.1 M.v2.2)
  cB : w.cell? ⟨g, 11, none⟩ = some (.complex .f64 M.v3.1 M.v3.2)
  fz : ∀ j, w.frozen? ⟨g, j, none⟩ = false
  lt : g < w.heap.size

theorem MgAt.new (w : World) (M : Mg) (ao : Option Addr) (n cap : Nat) : MgAt (w.alloc (msO M ao n cap)) w.heap.size M ao n cap := by
  have h := heap_alloc_new w (msO M ao n cap)
  refine ⟨?_, ?_, ?_, ?_, ?_, ?_, ?_, ?_, ?_, ?_, ?_, ?_, fun j => frozen_of_row _ _ _ _ _ h, by simp⟩
  all_goals rw [cell_of_row _ _ _ _ _ _ h]; rfl

theorem MgAt.keep {w w' : World} {g : Nat} {M : Mg} {ao : Option Addr} {n cap : Nat} (h : MgAt w g M ao n cap) (hg : w'.heap[g]? = w.heap[g]?) (hs : w.heap.size ≤ w'.heap.size) : MgAt w' g M ao n cap := by
  have c := fun j => World.cell?_of_block (w := w) (w' := w') (a := ⟨g, j, none⟩) hg
  exact ⟨(c 0).trans h.c0, (c 1).trans h.c1, (c 2).trans h.c2, (c 3).trans h.c3, (c 4).trans h.c4, (c 5).trans h.c5, (c 6).trans h.c6, (c 7).trans h.c7, (c 8).trans h.c8, (c 9).trans h.c9, (c 10).trans h.cA, (c 11).trans h.cB, fun j => (World.frozen?_of_block (w := w) hg).trans (h.fz j), Nat.lt_of_lt_of_le h.lt hs⟩

theorem MgAt.below {w w' : World} {g : Nat} {M : Mg} {ao : Option Addr} {n cap : Nat} (h : MgAt w g M ao n cap) (hb : Below w.heap.size w w') : MgAt w' g M ao n cap := h.keep (hb.block g h.lt) hb.size

def putsFrom (z : Int) : List PutG → Bool
  | [] => true
  | p :: r => decide ((p.pg : Int) ≤ 5) && decide ((p.ob : Int) ≤ 3) && decide (z < (p.place : Int)) && putsFrom (p.place : Int) r

def putsB (ps : List PutG) : Bool := decide (ps.length ≤ 24) && putsFrom (-1) ps

theorem putsFrom_at (z : Int) (ps : List PutG) (k : Nat) (h : k < ps.length) : putsFrom z (ps.drop k) = (decide ((ps[k].pg : Int) ≤ 5) && decide ((ps[k].ob : Int) ≤ 3) && decide (z < (ps[k].place : Int)) && putsFrom (ps[k].place : Int) (ps.drop (k + 1))) := by
  rw [List.drop_eq_getElem_cons h]; rfl

set_option maxHeartbeats 400000 in
theorem wrightPuts_any (ao : Option Addr) (n cap : Nat) (ps : List PutG) (w : World) (h : RdP w ao n cap ps) :
    Calls Tryz.prog 198 #[.slice ao n cap] w fun e w' => e = .returned (.bool (putsB ps)) ∧ Below w.heap.size w w' := by
  have hl := h.len
  have HR : Hid (RdP w ao n cap ps) := h
  clear h
  have hst := fun (ad : Addr) (re im : Nat) (W : World) => run_store Tryz.prog W ad (.complex .f64 re im) .plain rfl
  by_cases hn : n ≤ 24
  · have HB : Hid (putsB ps = putsFrom (-1) ps) := by simp [Hid, putsB, hl, hn]
    go_enter Tryz.func198, Tryz.ntmps198
    go_wp2
    go_loopw [3, 12] (fun t i wr => ∃ (k : Nat) (z : Int), k ≤ n ∧ i = .int .i64 k ∧ t = .int .i64 z ∧ putsFrom (-1) ps = putsFrom z (ps.drop k) ∧ -1 ≤ z ∧ z ≤ 30 ∧ Below w.heap.size w wr) (fun _ i _ => n - (intOf i).toNat)
    case atStart => exact ⟨0, -1, Nat.zero_le _, rfl, rfl, rfl, by omega, by omega, Below.refl _ _⟩
    case round =>
      obtain ⟨k, z, hk, rfl, rfl, hz, hz1, hz2, hbel⟩ := hrel
      by_cases hlt : k < n
      · obtain ⟨b, off, rfl, hb, q0, q1, q2⟩ := (HR.out.below hbel).cell k (by omega)
        rw [putsFrom_at z ps k (by omega)] at hz
        generalize ps[k] = p at *
        obtain ⟨pg, ob, c⟩ := p
        simp only at q0 q1 q2
        have HZ : Hid (putsFrom (-1) ps = (decide ((pg : Int) ≤ 5) && decide ((ob : Int) ≤ 3) && decide (z < (pg : Int) * 4 + ob) && putsFrom ((pg : Int) * 4 + ob) (ps.drop (k + 1)))) := by
          rw [Hid, hz]
          have e4 : ((PutG.place ⟨pg, ob, c⟩ : Nat) : Int) = (pg : Int) * 4 + ob := by simp [PutG.place]
          rw [e4]
        clear hz
        by_cases h1 : (pg : Int) ≤ 5
        · by_cases h2 : (ob : Int) ≤ 3
          · by_cases h3 : (pg : Int) * 4 + ob ≤ z
            · go_wp2_with (first
                | (go_at_call 94; refine (within_t _ _ _ ?_ ?_ _).mono ?_; omega; omega; rintro e w' ⟨rfl, hw⟩; subst w'))
              go_ret
              exact ⟨ret_bool (by rw [HB.out, HZ.out, decide_eq_false (show ¬ z < (pg : Int) * 4 + ob by omega)]; simp), hbel.alloc hbel.size _⟩
            · go_wp2_with (first
                | (go_at_call 94; refine (within_t _ _ _ ?_ ?_ _).mono ?_; omega; omega; rintro e w' ⟨rfl, hw⟩; subst w'))
              go_roundw
              case rel => exact ⟨k + 1, (pg : Int) * 4 + ob, by omega, by go_num, by go_num, by rw [HZ.out, decide_eq_true h1, decide_eq_true h2, decide_eq_true (show z < (pg : Int) * 4 + ob by omega)]; simp, by omega, by omega, hbel.alloc hbel.size _⟩
              case measure => simp [intOf]; omega
          · have e2 : btw (ob : Int) 0 3 = false := by simp [btw]; omega
            go_wp2_with (first
              | (go_at_call_of 94 (Value.int IntKind.i64 (ob : Int)); refine (wwithin_any _ _ _ _).mono ?_; rintro e w' ⟨rfl, hw⟩; subst w'; rw [e2])
              | (go_at_call 94; refine (within_t _ _ _ ?_ ?_ _).mono ?_; omega; omega; rintro e w' ⟨rfl, hw⟩; subst w'))
            go_ret
            exact ⟨ret_bool (by rw [HB.out, HZ.out, decide_eq_false (show ¬ (ob : Int) ≤ 3 by omega)]; simp), hbel.alloc hbel.size _⟩
        · have e1 : btw (pg : Int) 0 5 = false := by simp [btw]; omega
          go_wp2_with (first
            | (go_at_call 94; refine (wwithin_any _ _ _ _).mono ?_; rintro e w' ⟨rfl, hw⟩; subst w'; rw [e1]))
          go_ret
          exact ⟨ret_bool (by rw [HB.out, HZ.out, decide_eq_false (show ¬ (pg : Int) ≤ 5 by omega)]; simp), hbel.alloc hbel.size _⟩
      · go_wp2
        go_ret
        exact ⟨ret_bool (by rw [HB.out, hz, List.drop_of_length_le (by omega)]; rfl), hbel⟩
  · have HB : putsB ps = false := by simp [putsB, hl]; omega
    go_enter Tryz.func198, Tryz.ntmps198
    go_wp2
    go_ret
    exact ⟨ret_bool HB.symm, Below.refl _ _⟩

set_option maxHeartbeats 400000 in
theorem isCommit_any (ao : Option Addr) (n cap : Nat) (ps : List PutG) (w : World) (h : RdP w ao n cap ps) :
    Calls Tryz.prog 186 #[btV 1 0 1 1 ao n cap] w fun x w' => x = .returned (.bool (putsB ps)) ∧ Below w.heap.size w w' := by
  have h2 := h.below (below_box w (btO 1 0 1 1 ao n cap))
  go_enter Tryz.func186, Tryz.ntmps186
  go_wp2_with (first
    | (go_at_call 198; refine (wrightPuts_any _ _ _ _ _ h2).mono ?_; rintro x w' ⟨rfl, hb⟩)
    | (go_at_call 94; refine (within_t _ _ _ ?_ ?_ _).mono ?_; omega; omega; rintro x w' ⟨rfl, hw⟩; subst w'))
  go_ret
  exact ⟨rfl, below_alloc (hb.mono (by simp))⟩

set_option maxHeartbeats 400000 in
theorem wright_any (ao : Option Addr) (n cap : Nat) (ps : List PutG) (w : World) (h : RdP w ao n cap ps) :
    Calls Tryz.prog 167 #[btV 1 0 1 1 ao n cap] w fun x w' => x = .returned (.bool (putsB ps)) ∧ Below w.heap.size w w' := by
  have h2 := h.below (below_box w (btO 1 0 1 1 ao n cap))
  cases hB : putsB ps
  · go_enter Tryz.func167, Tryz.ntmps167
    go_wp2_with (first
      | (go_at_call 55; refine (isMark_no _ _ _ _ _ _ _ _ ⟨by omega, by omega⟩ (by omega)).mono ?_; rintro x w2 ⟨rfl, hb2⟩)
      | (go_at_call 186; refine (isCommit_any _ _ _ _ _ h2).mono ?_; rw [hB]; rintro x w1 ⟨rfl, hb⟩; have hq := (BtAt.new w 1 0 1 1 ao n cap).below hb; have q0 := hq.c0; have q1 := hq.c1; have q2 := hq.c2; have q3 := hq.c3; have q4 := hq.c4; clear hq))
    go_ret
    exact ⟨rfl, below_step (below_alloc (hb.mono (by simp))) hb2⟩
  · go_enter Tryz.func167, Tryz.ntmps167
    go_wp2_with (first
      | (go_at_call 186; refine (isCommit_any _ _ _ _ _ h2).mono ?_; rw [hB]; rintro x w1 ⟨rfl, hb⟩))
    go_ret
    exact ⟨rfl, below_alloc (hb.mono (by simp))⟩

theorem rightPuts_any (ao : Option Addr) (n cap : Nat) (ps : List PutG) (w : World) (h : RdP w ao n cap ps) :
    Calls Tryz.prog 152 #[.slice ao n cap] w fun x w' => x = .returned (.bool (putsB ps)) ∧ Below w.heap.size w w' := by
  go_enter Tryz.func152, Tryz.ntmps152
  go_wp2_with (first
    | (go_at_call 167; refine (wright_any _ _ _ _ _ h).mono ?_; rintro x w1 ⟨rfl, hb⟩))
  go_ret
  exact ⟨rfl, hb⟩

def copyB (k c : Int) : Bool := if k = 8 then btw c 1 999 else btw c 0 15

theorem rightCopy_any (M : Mg) (ao : Option Addr) (n cap : Nat) (w : World) : Calls Tryz.prog 151 #[msV M ao n cap] w fun x w' => x = .returned (.bool (copyB M.k M.c)) ∧ Below w.heap.size w w' := by
  by_cases h8 : M.k = 8
  all_goals
    go_enter Tryz.func151, Tryz.ntmps151
    go_wp2_with (first
      | (go_at_call 113; refine (between_any _ _ _ _).mono ?_; rintro x w1 ⟨rfl, hw⟩; subst w1))
    go_ret
    exact ⟨ret_bool (by simp [copyB, h8]), below_box _ _⟩

def withinB (M : Mg) : Bool := btw M.p 0 5 && btw M.o 0 3 && btw M.t 0 16777215 && copyB M.k M.c && btw M.n 0 15 && putsB M.ps

set_option maxHeartbeats 400000 in
theorem within_any (M : Mg) (ao : Option Addr) (n cap : Nat) (w : World) (h : RdP w ao n cap M.ps) : Calls Tryz.prog 120 #[msV M ao n cap] w fun x w' => x = .returned (.bool (withinB M)) ∧ Below w.heap.size w w' := by
  have h2 := h.below (below_box w (msO M ao n cap))
  have hB0 : Below w.heap.size w (w.alloc (msO M ao n cap)) := below_box _ _
  go_enter Tryz.func120, Tryz.ntmps120
  go_wp2_with (first
    | (go_at_call 152; refine (rightPuts_any _ _ _ _ _ (h2.below hb)).mono ?_; rintro x w2 ⟨rfl, hb2⟩; have hB2 : Below w.heap.size w w2 := below_step hB1 hb2)
    | (go_at_call 151; refine (rightCopy_any _ _ _ _ _).mono ?_; rintro x w1 ⟨rfl, hb⟩; have hB1 : Below w.heap.size w w1 := below_alloc (hb.mono (by simp)); have hq := (MgAt.new w M ao n cap).below hb; have q5 := hq.c5; have q7 := hq.c7; clear hq)
    | (go_at_call 113; refine (between_any _ _ _ _).mono ?_; rintro x w0 ⟨rfl, hw⟩; subst w0))
  all_goals
    go_ret
    refine ⟨ret_bool (by simp_all [withinB]), ?_⟩
    first | exact hB2 | exact hB1 | exact hB0

end Go.Proofs.YtpofihiojhbfgaaGreatDoor.Msg

namespace Go.Proofs.YtpofihiojhbfgaaGreatDoor.Msg
open Go.RowKit
set_option linter.unusedVariables false
set_option maxRecDepth 8000

abbrev putV (p : PutG) : Value := .agg #[.int .i64 (p.pg : Int), .int .i64 (p.ob : Int), .complex .f64 p.c.1 p.c.2]

def samePutB (p q : PutG) : Bool := (p.pg : Int) == (q.pg : Int) && (p.ob : Int) == (q.ob : Int) && sameB p.c.1 p.c.2 q.c.1 q.c.2

theorem samePut_any (p q : PutG) (w : World) : Calls Tryz.prog 207 #[putV p, putV q] w fun x w' => x = .returned (.bool (samePutB p q)) ∧ Below w.heap.size w w' := by
  go_enter Tryz.func207, Tryz.ntmps207
  go_wp2_with (first
    | (go_at_call 183; refine (same_any _ _ _ _ _).mono ?_; rintro x w0 ⟨rfl, hw⟩; subst w0))
  all_goals
    go_ret
    refine ⟨ret_bool (by simp_all [samePutB]), ?_⟩
    exact ((Below.refl _ _).alloc (Nat.le_refl _) _).alloc (by simp) _

def samePs : List PutG → List PutG → Bool
  | [], [] => true
  | p :: r, q :: s => samePutB p q && samePs r s
  | _, _ => false

theorem samePs_at (ps qs : List PutG) (k : Nat) (h1 : k < ps.length) (h2 : k < qs.length) : samePs (ps.drop k) (qs.drop k) = (samePutB ps[k] qs[k] && samePs (ps.drop (k + 1)) (qs.drop (k + 1))) := by
  rw [List.drop_eq_getElem_cons h1, List.drop_eq_getElem_cons h2]; rfl

theorem samePs_len : ∀ (ps qs : List PutG), ps.length ≠ qs.length → samePs ps qs = false
  | [], [], h => absurd rfl h
  | [], _ :: _, _ => rfl
  | _ :: _, [], _ => rfl
  | p :: r, q :: s, h => by simp only [samePs, samePs_len r s (by simpa using h), Bool.and_false]

set_option maxHeartbeats 800000 in
theorem eqPuts_any (a1 a2 : Option Addr) (n m c1 c2 : Nat) (ps qs : List PutG) (w : World) (h1 : RdP w a1 n c1 ps) (h2 : RdP w a2 m c2 qs) (hn : n ≤ 140737488355328) :
    Calls Tryz.prog 206 #[.slice a1 n c1, .slice a2 m c2, .func (.func 207) #[] #[]] w fun x w' => x = .returned (.bool (samePs ps qs)) ∧ Below w.heap.size w w' := by
  have l1 := h1.len
  have l2 := h2.len
  have H1 : Hid (RdP w a1 n c1 ps) := h1
  have H2 : Hid (RdP w a2 m c2 qs) := h2
  clear h1 h2
  have hst := fun (ad : Addr) (re im : Nat) (W : World) => run_store Tryz.prog W ad (.complex .f64 re im) .plain rfl
  by_cases hnm : n = m
  · subst hnm
    go_enter Tryz.func206, Tryz.ntmps206
    go_wp2
    go_loopw [17] (fun i wr => ∃ (k : Nat), k ≤ n ∧ i = .int .i64 k ∧ samePs ps qs = samePs (ps.drop k) (qs.drop k) ∧ Below w.heap.size w wr) (fun i _ => n - (intOf i).toNat)
    case atStart => exact ⟨0, Nat.zero_le _, rfl, rfl, Below.refl _ _⟩
    case round =>
      obtain ⟨k, hk, rfl, hsm, hbel⟩ := hrel
      by_cases hlt : k < n
      · rw [samePs_at ps qs k (by omega) (by omega)] at hsm
        have HSM : Hid (samePs ps qs = (samePutB (ps[k]'(by omega)) (qs[k]'(by omega)) && samePs (ps.drop (k + 1)) (qs.drop (k + 1)))) := hsm
        clear hsm
        obtain ⟨b1, o1, e1, hb1, q0, q1, q2⟩ := (H1.out.below hbel).cell k (by omega)
        obtain ⟨b2, o2, e2, hb2, r0, r1, r2⟩ := (H2.out.below hbel).cell k (by omega)
        subst e1 e2
        generalize ps[k] = p at *
        generalize qs[k] = q at *
        have f0 : (wr.alloc (.cells #[.int .i64 (p.pg : Int), .int .i64 (p.ob : Int), .complex .f64 p.c.1 p.c.2] 50)).cell? ⟨b2, o2 + k * 3, none⟩ = some (.int .i64 (q.pg : Int)) := ((below_box wr _).cell (p := ⟨b2, o2 + k * 3, none⟩) hb2).trans r0
        have f1 : (wr.alloc (.cells #[.int .i64 (p.pg : Int), .int .i64 (p.ob : Int), .complex .f64 p.c.1 p.c.2] 50)).cell? ⟨b2, o2 + k * 3 + 1, none⟩ = some (.int .i64 (q.ob : Int)) := ((below_box wr _).cell (p := ⟨b2, o2 + k * 3 + 1, none⟩) hb2).trans r1
        have f2 : (wr.alloc (.cells #[.int .i64 (p.pg : Int), .int .i64 (p.ob : Int), .complex .f64 p.c.1 p.c.2] 50)).cell? ⟨b2, o2 + k * 3 + 2, none⟩ = some (.complex .f64 q.c.1 q.c.2) := ((below_box wr _).cell (p := ⟨b2, o2 + k * 3 + 2, none⟩) hb2).trans r2
        have HN : Hid (∀ W, Below wr.heap.size wr W → Below w.heap.size w W) := fun W h => below_step hbel h
        go_wp2_with (first
          | (go_at_call 207; refine (samePut_any p q _).mono ?_; rintro x w2 ⟨rfl, hb⟩; have hB2 : Below w.heap.size w w2 := HN.out _ ((((Below.refl _ _).alloc (Nat.le_refl _) _).alloc (by simp) _).trans (hb.mono (by simp; omega))); clear hb))
        all_goals first
          | (go_ret; exact ⟨ret_bool (by rw [HSM.out]; simp_all), hB2⟩)
          | (go_roundw
             case rel => exact ⟨k + 1, by omega, by go_num, by rw [HSM.out]; simp_all, hB2⟩
             case measure => simp [intOf]; omega)
      · go_wp2
        go_ret
        exact ⟨ret_bool (by rw [hsm, List.drop_of_length_le (by omega), List.drop_of_length_le (by omega)]; rfl), hbel⟩
  · have hne : ((n : Int) == (m : Int)) = false := by simp; omega
    have HF : Hid (samePs ps qs = false) := samePs_len ps qs (by omega)
    go_enter Tryz.func206, Tryz.ntmps206
    go_wp2
    go_ret
    exact ⟨ret_bool HF.out.symm, Below.refl _ _⟩

end Go.Proofs.YtpofihiojhbfgaaGreatDoor.Msg

namespace Go.Proofs.YtpofihiojhbfgaaGreatDoor.Msg
open Go.RowKit
set_option linter.unusedVariables false
set_option maxRecDepth 8000

theorem below2 (w : World) (o1 o2 : Obj) : Below w.heap.size w ((w.alloc o1).alloc o2) := ((Below.refl _ _).alloc (Nat.le_refl _) _).alloc (by simp) _

set_option maxHeartbeats 400000 in
theorem sameBatch_any (a1 a2 : Option Addr) (n m c1 c2 : Nat) (ps qs : List PutG) (w : World) (h1 : RdP w a1 n c1 ps) (h2 : RdP w a2 m c2 qs) (hn : n ≤ 140737488355328) :
    Calls Tryz.prog 197 #[btV 0 0 0 0 a1 n c1, btV 0 0 0 0 a2 m c2] w fun x w' => x = .returned (.bool (samePs ps qs)) ∧ Below w.heap.size w w' := by
  have hb := below2 w (btO 0 0 0 0 a1 n c1) (btO 0 0 0 0 a2 m c2)
  have H := eqPuts_any a1 a2 n m c1 c2 ps qs _ (h1.below hb) (h2.below hb) hn
  clear h1 h2
  go_enter Tryz.func197, Tryz.ntmps197
  go_wp2_with (first
    | (go_at_call 206; refine H.mono ?_; rintro x w1 ⟨rfl, hb1⟩))
  go_ret
  exact ⟨rfl, hb.trans (hb1.mono (by simp; omega))⟩

set_option maxHeartbeats 800000 in
theorem eqBatch_any (g1 g2 : Nat) (a1 a2 : Option Addr) (n m c1 c2 : Nat) (ps qs : List PutG) (w : World) (t1 : BtAt w g1 0 0 0 0 a1 n c1) (t2 : BtAt w g2 0 0 0 0 a2 m c2) (h1 : RdP w a1 n c1 ps) (h2 : RdP w a2 m c2 qs) (hn : n ≤ 140737488355328) :
    Calls Tryz.prog 196 #[.slice (some ⟨g1, 0, none⟩) 1 1, .slice (some ⟨g2, 0, none⟩) 1 1, .func (.func 197) #[] #[]] w fun x w' => x = .returned (.bool (samePs ps qs)) ∧ Below w.heap.size w w' := by
  have H : Hid (∀ W, Below w.heap.size w W → Calls Tryz.prog 197 #[btV 0 0 0 0 a1 n c1, btV 0 0 0 0 a2 m c2] W fun x w' => x = .returned (.bool (samePs ps qs)) ∧ Below W.heap.size W w') := fun W hW => sameBatch_any a1 a2 n m c1 c2 ps qs W (h1.below hW) (h2.below hW) hn
  have T1 : Hid (BtAt w g1 0 0 0 0 a1 n c1) := t1
  have T2 : Hid (BtAt w g2 0 0 0 0 a2 m c2) := t2
  clear h1 h2 t1 t2
  go_enter Tryz.func196, Tryz.ntmps196
  go_wp2
  go_loopw [17] (fun i wr => ∃ (k : Nat), k ≤ 1 ∧ i = .int .i64 k ∧ (k = 1 → samePs ps qs = true) ∧ Below w.heap.size w wr) (fun i _ => 1 - (intOf i).toNat)
  case atStart => exact ⟨0, Nat.zero_le _, rfl, fun h => by omega, Below.refl _ _⟩
  case round =>
    obtain ⟨k, hk, rfl, hsm, hbel⟩ := hrel
    by_cases hlt : k < 1
    · obtain rfl : k = 0 := by omega
      have x1 := T1.out.below hbel
      have x2 := (T2.out.below hbel).below (below_box wr (btO 0 0 0 0 a1 n c1))
      have q0 := x1.c0
      have q1 := x1.c1
      have q2 := x1.c2
      have q3 := x1.c3
      have q4 := x1.c4
      have r0 := x2.c0
      have r1 := x2.c1
      have r2 := x2.c2
      have r3 := x2.c3
      have r4 := x2.c4
      have HB2 : Hid (Below w.heap.size w ((wr.alloc (btO 0 0 0 0 a1 n c1)).alloc (btO 0 0 0 0 a2 m c2))) := below_step hbel (below2 wr _ _)
      clear x1 x2 hsm
      go_wp2_with (first
        | (go_at_call 197; refine (H.out _ HB2.out).mono ?_; rintro x w2 ⟨rfl, hb⟩; have hB2 : Below w.heap.size w w2 := below_step HB2.out hb; clear hb))
      all_goals first
        | (go_ret; exact ⟨ret_bool (by simp_all), hB2⟩)
        | (go_roundw
           case rel => exact ⟨1, by omega, by go_num, fun _ => by simp_all, hB2⟩
           case measure => simp [intOf])
    · obtain rfl : k = 1 := by omega
      go_wp2
      go_ret
      exact ⟨rfl, hbel⟩

theorem walSame_any (g1 g2 : Nat) (a1 a2 : Option Addr) (n m c1 c2 : Nat) (ps qs : List PutG) (w : World) (t1 : BtAt w g1 0 0 0 0 a1 n c1) (t2 : BtAt w g2 0 0 0 0 a2 m c2) (h1 : RdP w a1 n c1 ps) (h2 : RdP w a2 m c2 qs) (hn : n ≤ 140737488355328) :
    Calls Tryz.prog 182 #[.slice (some ⟨g1, 0, none⟩) 1 1, .slice (some ⟨g2, 0, none⟩) 1 1] w fun x w' => x = .returned (.bool (samePs ps qs)) ∧ Below w.heap.size w w' := by
  go_enter Tryz.func182, Tryz.ntmps182
  go_wp2_with (first
    | (go_at_call 196; refine (eqBatch_any g1 g2 a1 a2 n m c1 c2 ps qs _ t1 t2 h1 h2 hn).mono ?_; rintro x w1 ⟨rfl, hb1⟩))
  go_ret
  exact ⟨rfl, hb1⟩

theorem samePuts_any (a1 a2 : Option Addr) (n m c1 c2 : Nat) (ps qs : List PutG) (w : World) (h1 : RdP w a1 n c1 ps) (h2 : RdP w a2 m c2 qs) (hn : n ≤ 140737488355328) :
    Calls Tryz.prog 153 #[.slice a1 n c1, .slice a2 m c2] w fun x w' => x = .returned (.bool (samePs ps qs)) ∧ Below w.heap.size w w' := by
  have hb := below2 w (btO 0 0 0 0 a1 n c1) (btO 0 0 0 0 a2 m c2)
  have t1 : BtAt ((w.alloc (btO 0 0 0 0 a1 n c1)).alloc (btO 0 0 0 0 a2 m c2)) w.heap.size 0 0 0 0 a1 n c1 := (BtAt.new w 0 0 0 0 a1 n c1).below (below_box _ _)
  have t2 : BtAt ((w.alloc (btO 0 0 0 0 a1 n c1)).alloc (btO 0 0 0 0 a2 m c2)) (w.heap.size + 1) 0 0 0 0 a2 m c2 := by
    have := BtAt.new (w.alloc (btO 0 0 0 0 a1 n c1)) 0 0 0 0 a2 m c2
    rwa [show (w.alloc (btO 0 0 0 0 a1 n c1)).heap.size = w.heap.size + 1 by simp] at this
  have H := walSame_any _ _ a1 a2 n m c1 c2 ps qs _ t1 t2 (h1.below hb) (h2.below hb) hn
  clear h1 h2 t1 t2
  go_enter Tryz.func153, Tryz.ntmps153
  go_wp2_with (first
    | (go_at_call 182; refine H.mono ?_; rintro x w1 ⟨rfl, hb1⟩))
  go_ret
  exact ⟨rfl, hb.trans (hb1.mono (by simp; omega))⟩

def allSame : List (Nat × Nat) → List (Nat × Nat) → Bool
  | [], [] => true
  | x :: r, y :: s => sameB x.1 x.2 y.1 y.2 && allSame r s
  | _, _ => false

theorem allSame_at (xs ys : List (Nat × Nat)) (k : Nat) (h1 : k < xs.length) (h2 : k < ys.length) : allSame (xs.drop k) (ys.drop k) = (sameB xs[k].1 xs[k].2 ys[k].1 ys[k].2 && allSame (xs.drop (k + 1)) (ys.drop (k + 1))) := by
  rw [List.drop_eq_getElem_cons h1, List.drop_eq_getElem_cons h2]; rfl

abbrev v4O (a b c d : Nat × Nat) : Obj := .cells #[.complex .f64 a.1 a.2, .complex .f64 b.1 b.2, .complex .f64 c.1 c.2, .complex .f64 d.1 d.2] 45

abbrev v4V (a b c d : Nat × Nat) : Value := .agg #[.complex .f64 a.1 a.2, .complex .f64 b.1 b.2, .complex .f64 c.1 c.2, .complex .f64 d.1 d.2]

theorem v4_at {w : World} {g : Nat} {a b c d : Nat × Nat} (h : w.heap[g]? = some (v4O a b c d)) (k : Nat) (hk : k < [a, b, c, d].length) : w.cell? ⟨g, k, none⟩ = some (.complex .f64 ([a, b, c, d][k]).1 ([a, b, c, d][k]).2) := by
  rw [cell_of_row _ _ _ _ _ _ h]
  simp at hk
  obtain rfl | rfl | rfl | rfl : k = 0 ∨ k = 1 ∨ k = 2 ∨ k = 3 := by omega
  all_goals rfl

set_option maxHeartbeats 800000 in
theorem sameValues_any (a0 a1 a2 a3 b0 b1 b2 b3 : Nat × Nat) (w : World) :
    Calls Tryz.prog 154 #[v4V a0 a1 a2 a3, v4V b0 b1 b2 b3] w fun x w' => x = .returned (.bool (allSame [a0, a1, a2, a3] [b0, b1, b2, b3])) ∧ Below w.heap.size w w' := by
  have hA : ((w.alloc (v4O a0 a1 a2 a3)).alloc (v4O b0 b1 b2 b3)).heap[w.heap.size]? = some (v4O a0 a1 a2 a3) := by
    rw [(below_box (w.alloc (v4O a0 a1 a2 a3)) (v4O b0 b1 b2 b3)).block w.heap.size (by simp)]
    exact heap_alloc_new w _
  have hB : ((w.alloc (v4O a0 a1 a2 a3)).alloc (v4O b0 b1 b2 b3)).heap[w.heap.size + 1]? = some (v4O b0 b1 b2 b3) := by
    have := heap_alloc_new (w.alloc (v4O a0 a1 a2 a3)) (v4O b0 b1 b2 b3)
    rwa [show (w.alloc (v4O a0 a1 a2 a3)).heap.size = w.heap.size + 1 by simp] at this
  have HA := v4_at hA
  have HB := v4_at hB
  clear hA hB
  have HL : Hid (below2 w (v4O a0 a1 a2 a3) (v4O b0 b1 b2 b3) = below2 w (v4O a0 a1 a2 a3) (v4O b0 b1 b2 b3)) := rfl
  have lx : [a0, a1, a2, a3].length = 4 := rfl
  have ly : [b0, b1, b2, b3].length = 4 := rfl
  generalize hxs : [a0, a1, a2, a3] = xs at *
  generalize hys : [b0, b1, b2, b3] = ys at *
  have HX : Hid (∀ k (h : k < xs.length), ((w.alloc (v4O a0 a1 a2 a3)).alloc (v4O b0 b1 b2 b3)).cell? ⟨w.heap.size, k, none⟩ = some (.complex .f64 xs[k].1 xs[k].2)) := HA
  have HY : Hid (∀ k (h : k < ys.length), ((w.alloc (v4O a0 a1 a2 a3)).alloc (v4O b0 b1 b2 b3)).cell? ⟨w.heap.size + 1, k, none⟩ = some (.complex .f64 ys[k].1 ys[k].2)) := HB
  clear HA HB hxs hys HL
  go_enter Tryz.func154, Tryz.ntmps154
  go_wp2
  generalize hW : (w.alloc (v4O a0 a1 a2 a3)).alloc (v4O b0 b1 b2 b3) = W0 at *
  have HBW : Hid (Below w.heap.size w W0) := by rw [← hW]; exact below2 _ _ _
  clear hW
  go_loopw [6] (fun i wr => ∃ (k j : Nat), k ≤ 4 ∧ i = .int .i64 k ∧ allSame xs ys = allSame (xs.drop k) (ys.drop k) ∧ wr = W0.drewN j) (fun i _ => 4 - (intOf i).toNat)
  case atStart => exact ⟨0, 0, Nat.zero_le _, rfl, rfl, rfl⟩
  case round =>
    obtain ⟨k, j, hk, rfl, hsm, rfl⟩ := hrel
    by_cases hlt : k < 4
    · rw [allSame_at xs ys k (by omega) (by omega)] at hsm
      have HSM : Hid (allSame xs ys = (sameB (xs[k]'(by omega)).1 (xs[k]'(by omega)).2 (ys[k]'(by omega)).1 (ys[k]'(by omega)).2 && allSame (xs.drop (k + 1)) (ys.drop (k + 1)))) := hsm
      have q1 := HX.out k (by omega)
      have q2 := HY.out k (by omega)
      clear hsm
      cases hs : sameB (xs[k]'(by omega)).1 (xs[k]'(by omega)).2 (ys[k]'(by omega)).1 (ys[k]'(by omega)).2
      · go_wp2
        go_quiet ((first
          | (go_at_call 183; refine (same_any _ _ _ _ _).mono ?_; rw [hs]; rintro x w0 ⟨rfl, hw⟩; subst w0; exact ⟨rfl, _, rfl⟩)))
        go_wp2
        go_ret
        exact ⟨ret_bool (by rw [HSM.out, hs]; rfl), ⟨HBW.out.os, HBW.out.tape, HBW.out.output, HBW.out.size, HBW.out.block⟩⟩
      · go_wp2
        go_quiet ((first
          | (go_at_call 183; refine (same_any _ _ _ _ _).mono ?_; rw [hs]; rintro x w0 ⟨rfl, hw⟩; subst w0; exact ⟨rfl, _, rfl⟩)))
        go_wp2
        go_roundw
        case rel => exact ⟨k + 1, _, by omega, by go_num, by rw [HSM.out, hs]; rfl, rfl⟩
        case measure => simp [intOf]; omega
    · go_wp2
      go_ret
      exact ⟨ret_bool (by rw [hsm, List.drop_of_length_le (by omega), List.drop_of_length_le (by omega)]; rfl), ⟨HBW.out.os, HBW.out.tape, HBW.out.output, HBW.out.size, HBW.out.block⟩⟩

abbrev Mg.vs (M : Mg) : List (Nat × Nat) := [M.v0, M.v1, M.v2, M.v3]

def sameM (A B : Mg) : Bool := A.k == B.k && A.p == B.p && A.o == B.o && A.t == B.t && A.c == B.c && A.n == B.n && A.wr == B.wr && samePs A.ps B.ps && allSame A.vs B.vs

end Go.Proofs.YtpofihiojhbfgaaGreatDoor.Msg

namespace Go.Proofs.YtpofihiojhbfgaaGreatDoor.Msg
open Go.RowKit
set_option linter.unusedVariables false
set_option maxRecDepth 8000

theorem MgAt.two (w : World) (A B : Mg) (a1 a2 : Option Addr) (n m c1 c2 : Nat) : MgAt ((w.alloc (msO A a1 n c1)).alloc (msO B a2 m c2)) w.heap.size A a1 n c1 ∧ MgAt ((w.alloc (msO A a1 n c1)).alloc (msO B a2 m c2)) (w.heap.size + 1) B a2 m c2 := by
  refine ⟨(MgAt.new w A a1 n c1).below (below_box _ _), ?_⟩
  have := MgAt.new (w.alloc (msO A a1 n c1)) B a2 m c2
  rwa [show (w.alloc (msO A a1 n c1)).heap.size = w.heap.size + 1 by simp] at this

set_option maxHeartbeats 1600000 in
set_option maxRecDepth 100000 in
theorem same_msg (A B : Mg) (a1 a2 : Option Addr) (n m c1 c2 : Nat) (w : World) (h1 : RdP w a1 n c1 A.ps) (h2 : RdP w a2 m c2 B.ps) (hn : n ≤ 140737488355328) :
    Calls Tryz.prog 121 #[msV A a1 n c1, msV B a2 m c2] w fun x w' => x = .returned (.bool (sameM A B)) ∧ Below w.heap.size w w' := by
  obtain ⟨ak, ap, ao, at', ac, an, aw, aps, x0, x1, x2, x3⟩ := A
  obtain ⟨bk, bp, bo, bt, bc, bn, bw, bps, y0, y1, y2, y3⟩ := B
  simp only at h1 h2 ⊢
  go_enter Tryz.func121, Tryz.ntmps121
  go_wp2_with (first
    | (go_at_call 154; refine (sameValues_any _ _ _ _ _ _ _ _ _).mono ?_; rintro x w2 ⟨rfl, hb2⟩; have hB2 : Below w.heap.size w w2 := below_step hB1 hb2; clear hb2)
    | (go_at_call 153; refine (samePuts_any a1 a2 n m c1 c2 aps bps _ (h1.below (below2 w _ _)) (h2.below (below2 w _ _)) hn).mono ?_; rintro x w1 ⟨rfl, hb1⟩; have hB1 : Below w.heap.size w w1 := (below2 w _ _).trans (hb1.mono (by simp; omega)); have t1 := (MgAt.two w ⟨bk, bp, bo, bt, bc, bn, bw, aps, x0, x1, x2, x3⟩ ⟨bk, bp, bo, bt, bc, bn, bw, bps, y0, y1, y2, y3⟩ a1 a2 n m c1 c2).1.below hb1; have t2 := (MgAt.two w ⟨bk, bp, bo, bt, bc, bn, bw, aps, x0, x1, x2, x3⟩ ⟨bk, bp, bo, bt, bc, bn, bw, bps, y0, y1, y2, y3⟩ a1 a2 n m c1 c2).2.below hb1; have q0 := t1.c8; have q1 := t1.c9; have q2 := t1.cA; have q3 := t1.cB; have r0 := t2.c8; have r1 := t2.c9; have r2 := t2.cA; have r3 := t2.cB; clear t1 t2 hb1))
  all_goals
    go_ret
    refine ⟨ret_bool (by simp_all [sameM, Mg.vs]), ?_⟩
    first | exact hB2 | exact hB1 | exact below2 _ _ _

def thereB (k : Int) : Bool := k == 4 || k == 6 || k == 0 || k == 1 || k == 5 || k == 3 || k == 2 || k == 7 || k == 8

abbrev z2 : Nat × Nat := (0, 0)

def ownM (M : Mg) : Mg :=
  if M.k = 4 ∨ M.k = 6 then ⟨M.k, M.p, M.o, 0, 0, 0, M.wr, [], z2, z2, z2, z2⟩
  else if M.k = 0 ∨ M.k = 1 then ⟨M.k, M.p, M.o, 0, 0, 0, false, [], z2, z2, z2, z2⟩
  else if M.k = 5 then ⟨M.k, M.p, 0, 0, M.c, M.n, false, [], M.v0, M.v1, M.v2, M.v3⟩
  else if M.k = 3 then ⟨M.k, M.p, 0, 0, M.c, M.n, false, [], z2, z2, z2, z2⟩
  else if M.k = 2 then ⟨M.k, 0, 0, M.t, 0, 0, false, M.ps, z2, z2, z2, z2⟩
  else if M.k = 7 then ⟨M.k, 0, 0, M.t, 0, 0, false, [], z2, z2, z2, z2⟩
  else if M.k = 8 then ⟨M.k, 0, 0, M.t, M.c, 0, false, [], z2, z2, z2, z2⟩
  else ⟨0, 0, 0, 0, 0, 0, false, [], z2, z2, z2, z2⟩

theorem _root_.Go.Proofs.YtpofihiojhbfgaaGreatDoor.RdP.none (w : World) : RdP w none 0 0 [] := ⟨rfl, fun t h => by simp at h⟩

def rightB (M : Mg) : Bool := thereB M.k && withinB M && sameM M (ownM M)

end Go.Proofs.YtpofihiojhbfgaaGreatDoor.Msg
