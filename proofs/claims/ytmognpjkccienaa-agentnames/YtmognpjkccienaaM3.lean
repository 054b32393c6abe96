/- Are messages the same: what Same of package msg and what it calls do, walked (on). -/
import Derived.Test.YtmognpjkccienaaM2
namespace Go.Proofs.Ytmognpjkccienaa.Msg
open Go.RowKit
set_option linter.unusedVariables false
set_option maxRecDepth 8000

theorem below2 (w : World) (o1 o2 : Obj) : Below w.heap.size w ((w.alloc o1).alloc o2) := ((Below.refl _ _).alloc (Nat.le_refl _) _).alloc (by simp) _

set_option maxHeartbeats 400000 in
theorem sameBatch_any (a1 a2 : Option Addr) (n m c1 c2 : Nat) (ps qs : List PutG) (w : World) (h1 : RdP w a1 n c1 ps) (h2 : RdP w a2 m c2 qs) (hn : n ≤ 140737488355328) :
    Calls Try.prog 72 #[btV 0 0 0 0 a1 n c1, btV 0 0 0 0 a2 m c2] w fun x w' => x = .returned (.bool (samePs ps qs)) ∧ Below w.heap.size w w' := by
  have hb := below2 w (btO 0 0 0 0 a1 n c1) (btO 0 0 0 0 a2 m c2)
  have H := eqPuts_any a1 a2 n m c1 c2 ps qs _ (h1.below hb) (h2.below hb) hn
  clear h1 h2
  go_enter Try.func72, Try.ntmps72
  go_wp2_with (first
    | (go_at_call 76; refine H.mono ?_; rintro x w1 ⟨rfl, hb1⟩))
  go_ret
  exact ⟨rfl, hb.trans (hb1.mono (by simp; omega))⟩

set_option maxHeartbeats 800000 in
theorem eqBatch_any (g1 g2 : Nat) (a1 a2 : Option Addr) (n m c1 c2 : Nat) (ps qs : List PutG) (w : World) (t1 : BtAt w g1 0 0 0 0 a1 n c1) (t2 : BtAt w g2 0 0 0 0 a2 m c2) (h1 : RdP w a1 n c1 ps) (h2 : RdP w a2 m c2 qs) (hn : n ≤ 140737488355328) :
    Calls Try.prog 71 #[.slice (some ⟨g1, 0, none⟩) 1 1, .slice (some ⟨g2, 0, none⟩) 1 1, .func (.func 72) #[] #[]] w fun x w' => x = .returned (.bool (samePs ps qs)) ∧ Below w.heap.size w w' := by
  have H : Hid (∀ W, Below w.heap.size w W → Calls Try.prog 72 #[btV 0 0 0 0 a1 n c1, btV 0 0 0 0 a2 m c2] W fun x w' => x = .returned (.bool (samePs ps qs)) ∧ Below W.heap.size W w') := fun W hW => sameBatch_any a1 a2 n m c1 c2 ps qs W (h1.below hW) (h2.below hW) hn
  have T1 : Hid (BtAt w g1 0 0 0 0 a1 n c1) := t1
  have T2 : Hid (BtAt w g2 0 0 0 0 a2 m c2) := t2
  clear h1 h2 t1 t2
  go_enter Try.func71, Try.ntmps71
  go_wp2
  go_loopw [17] (fun i wr => ∃ (k : Nat), k ≤ 1 ∧ i = .int .i64 k ∧ (k = 1 → samePs ps qs = true) ∧ Below w.heap.size w wr) (fun i _ => 1 - (intOf i).toNat)
  case atStart => exact ⟨0, Nat.zero_le _, rfl, fun h => by omega, Below.refl _ _⟩
  case round =>
    obtain ⟨k, hk, rfl, hsm, hbel⟩ := hrel
    by_cases hlt : k < 1
    · obtain rfl : k = 0 := by omega
      have x1 := T1.out.below hbel
      have x2 := (T2.out.below hbel).below (below_box wr (btO 0 0 0 0 a1 n c1))
      have q0 := x1.c0
      have q1 := x1.c1
      have q2 := x1.c2
      have q3 := x1.c3
      have q4 := x1.c4
      have r0 := x2.c0
      have r1 := x2.c1
      have r2 := x2.c2
      have r3 := x2.c3
      have r4 := x2.c4
      have HB2 : Hid (Below w.heap.size w ((wr.alloc (btO 0 0 0 0 a1 n c1)).alloc (btO 0 0 0 0 a2 m c2))) := below_step hbel (below2 wr _ _)
      clear x1 x2 hsm
      go_wp2_with (first
        | (go_at_call 72; refine (H.out _ HB2.out).mono ?_; rintro x w2 ⟨rfl, hb⟩; have hB2 : Below w.heap.size w w2 := below_step HB2.out hb; clear hb))
      all_goals first
        | (go_ret; exact ⟨ret_bool (by simp_all), hB2⟩)
        | (go_roundw
           case rel => exact ⟨1, by omega, by go_num, fun _ => by simp_all, hB2⟩
           case measure => simp [intOf])
    · obtain rfl : k = 1 := by omega
      go_wp2
      go_ret
      exact ⟨rfl, hbel⟩

theorem walSame_any (g1 g2 : Nat) (a1 a2 : Option Addr) (n m c1 c2 : Nat) (ps qs : List PutG) (w : World) (t1 : BtAt w g1 0 0 0 0 a1 n c1) (t2 : BtAt w g2 0 0 0 0 a2 m c2) (h1 : RdP w a1 n c1 ps) (h2 : RdP w a2 m c2 qs) (hn : n ≤ 140737488355328) :
    Calls Try.prog 66 #[.slice (some ⟨g1, 0, none⟩) 1 1, .slice (some ⟨g2, 0, none⟩) 1 1] w fun x w' => x = .returned (.bool (samePs ps qs)) ∧ Below w.heap.size w w' := by
  go_enter Try.func66, Try.ntmps66
  go_wp2_with (first
    | (go_at_call 71; refine (eqBatch_any g1 g2 a1 a2 n m c1 c2 ps qs _ t1 t2 h1 h2 hn).mono ?_; rintro x w1 ⟨rfl, hb1⟩))
  go_ret
  exact ⟨rfl, hb1⟩

theorem samePuts_any (a1 a2 : Option Addr) (n m c1 c2 : Nat) (ps qs : List PutG) (w : World) (h1 : RdP w a1 n c1 ps) (h2 : RdP w a2 m c2 qs) (hn : n ≤ 140737488355328) :
    Calls Try.prog 53 #[.slice a1 n c1, .slice a2 m c2] w fun x w' => x = .returned (.bool (samePs ps qs)) ∧ Below w.heap.size w w' := by
  have hb := below2 w (btO 0 0 0 0 a1 n c1) (btO 0 0 0 0 a2 m c2)
  have t1 : BtAt ((w.alloc (btO 0 0 0 0 a1 n c1)).alloc (btO 0 0 0 0 a2 m c2)) w.heap.size 0 0 0 0 a1 n c1 := (BtAt.new w 0 0 0 0 a1 n c1).below (below_box _ _)
  have t2 : BtAt ((w.alloc (btO 0 0 0 0 a1 n c1)).alloc (btO 0 0 0 0 a2 m c2)) (w.heap.size + 1) 0 0 0 0 a2 m c2 := by
    have := BtAt.new (w.alloc (btO 0 0 0 0 a1 n c1)) 0 0 0 0 a2 m c2
    rwa [show (w.alloc (btO 0 0 0 0 a1 n c1)).heap.size = w.heap.size + 1 by simp] at this
  have H := walSame_any _ _ a1 a2 n m c1 c2 ps qs _ t1 t2 (h1.below hb) (h2.below hb) hn
  clear h1 h2 t1 t2
  go_enter Try.func53, Try.ntmps53
  go_wp2_with (first
    | (go_at_call 66; refine H.mono ?_; rintro x w1 ⟨rfl, hb1⟩))
  go_ret
  exact ⟨rfl, hb.trans (hb1.mono (by simp; omega))⟩

/-- A complex number as a value. -/
def cxV (x : Nat × Nat) : Value := .complex .f64 x.1 x.2

/-- Are they the same, one by one? -/
def allSame : List (Nat × Nat) → List (Nat × Nat) → Bool
  | [], [] => true
  | x :: r, y :: s => sameB x.1 x.2 y.1 y.2 && allSame r s
  | _, _ => false

theorem allSame_at (xs ys : List (Nat × Nat)) (k : Nat) (h1 : k < xs.length) (h2 : k < ys.length) : allSame (xs.drop k) (ys.drop k) = (sameB xs[k].1 xs[k].2 ys[k].1 ys[k].2 && allSame (xs.drop (k + 1)) (ys.drop (k + 1))) := by
  rw [List.drop_eq_getElem_cons h1, List.drop_eq_getElem_cons h2]; rfl

/-- Four values in a block. -/
abbrev v4O (a b c d : Nat × Nat) : Obj := .cells #[.complex .f64 a.1 a.2, .complex .f64 b.1 b.2, .complex .f64 c.1 c.2, .complex .f64 d.1 d.2] 37

abbrev v4V (a b c d : Nat × Nat) : Value := .agg #[.complex .f64 a.1 a.2, .complex .f64 b.1 b.2, .complex .f64 c.1 c.2, .complex .f64 d.1 d.2]

theorem v4_at {w : World} {g : Nat} {a b c d : Nat × Nat} (h : w.heap[g]? = some (v4O a b c d)) (k : Nat) (hk : k < [a, b, c, d].length) : w.cell? ⟨g, k, none⟩ = some (.complex .f64 ([a, b, c, d][k]).1 ([a, b, c, d][k]).2) := by
  rw [cell_of_row _ _ _ _ _ _ h]
  simp at hk
  obtain rfl | rfl | rfl | rfl : k = 0 ∨ k = 1 ∨ k = 2 ∨ k = 3 := by omega
  all_goals rfl

set_option maxHeartbeats 800000 in
theorem sameValues_any (a0 a1 a2 a3 b0 b1 b2 b3 : Nat × Nat) (w : World) :
    Calls Try.prog 54 #[v4V a0 a1 a2 a3, v4V b0 b1 b2 b3] w fun x w' => x = .returned (.bool (allSame [a0, a1, a2, a3] [b0, b1, b2, b3])) ∧ Below w.heap.size w w' := by
  have hA : ((w.alloc (v4O a0 a1 a2 a3)).alloc (v4O b0 b1 b2 b3)).heap[w.heap.size]? = some (v4O a0 a1 a2 a3) := by
    rw [(below_box (w.alloc (v4O a0 a1 a2 a3)) (v4O b0 b1 b2 b3)).block w.heap.size (by simp)]
    exact heap_alloc_new w _
  have hB : ((w.alloc (v4O a0 a1 a2 a3)).alloc (v4O b0 b1 b2 b3)).heap[w.heap.size + 1]? = some (v4O b0 b1 b2 b3) := by
    have := heap_alloc_new (w.alloc (v4O a0 a1 a2 a3)) (v4O b0 b1 b2 b3)
    rwa [show (w.alloc (v4O a0 a1 a2 a3)).heap.size = w.heap.size + 1 by simp] at this
  have HA := v4_at hA
  have HB := v4_at hB
  clear hA hB
  have HL : Hid (below2 w (v4O a0 a1 a2 a3) (v4O b0 b1 b2 b3) = below2 w (v4O a0 a1 a2 a3) (v4O b0 b1 b2 b3)) := rfl
  have lx : [a0, a1, a2, a3].length = 4 := rfl
  have ly : [b0, b1, b2, b3].length = 4 := rfl
  generalize hxs : [a0, a1, a2, a3] = xs at *
  generalize hys : [b0, b1, b2, b3] = ys at *
  have HX : Hid (∀ k (h : k < xs.length), ((w.alloc (v4O a0 a1 a2 a3)).alloc (v4O b0 b1 b2 b3)).cell? ⟨w.heap.size, k, none⟩ = some (.complex .f64 xs[k].1 xs[k].2)) := HA
  have HY : Hid (∀ k (h : k < ys.length), ((w.alloc (v4O a0 a1 a2 a3)).alloc (v4O b0 b1 b2 b3)).cell? ⟨w.heap.size + 1, k, none⟩ = some (.complex .f64 ys[k].1 ys[k].2)) := HB
  clear HA HB hxs hys HL
  go_enter Try.func54, Try.ntmps54
  go_wp2
  generalize hW : (w.alloc (v4O a0 a1 a2 a3)).alloc (v4O b0 b1 b2 b3) = W0 at *
  have HBW : Hid (Below w.heap.size w W0) := by rw [← hW]; exact below2 _ _ _
  clear hW
  go_loopw [6] (fun i wr => ∃ (k j : Nat), k ≤ 4 ∧ i = .int .i64 k ∧ allSame xs ys = allSame (xs.drop k) (ys.drop k) ∧ wr = W0.drewN j) (fun i _ => 4 - (intOf i).toNat)
  case atStart => exact ⟨0, 0, Nat.zero_le _, rfl, rfl, rfl⟩
  case round =>
    obtain ⟨k, j, hk, rfl, hsm, rfl⟩ := hrel
    by_cases hlt : k < 4
    · rw [allSame_at xs ys k (by omega) (by omega)] at hsm
      have HSM : Hid (allSame xs ys = (sameB (xs[k]'(by omega)).1 (xs[k]'(by omega)).2 (ys[k]'(by omega)).1 (ys[k]'(by omega)).2 && allSame (xs.drop (k + 1)) (ys.drop (k + 1)))) := hsm
      have q1 := HX.out k (by omega)
      have q2 := HY.out k (by omega)
      clear hsm
      cases hs : sameB (xs[k]'(by omega)).1 (xs[k]'(by omega)).2 (ys[k]'(by omega)).1 (ys[k]'(by omega)).2
      · go_wp2
        go_quiet ((first
          | (go_at_call 67; refine (same_any _ _ _ _ _).mono ?_; rw [hs]; rintro x w0 ⟨rfl, hw⟩; subst w0; exact ⟨rfl, _, rfl⟩)))
        go_wp2
        go_ret
        exact ⟨ret_bool (by rw [HSM.out, hs]; rfl), ⟨HBW.out.os, HBW.out.tape, HBW.out.output, HBW.out.size, HBW.out.block⟩⟩
      · go_wp2
        go_quiet ((first
          | (go_at_call 67; refine (same_any _ _ _ _ _).mono ?_; rw [hs]; rintro x w0 ⟨rfl, hw⟩; subst w0; exact ⟨rfl, _, rfl⟩)))
        go_wp2
        go_roundw
        case rel => exact ⟨k + 1, _, by omega, by go_num, by rw [HSM.out, hs]; rfl, rfl⟩
        case measure => simp [intOf]; omega
    · go_wp2
      go_ret
      exact ⟨ret_bool (by rw [hsm, List.drop_of_length_le (by omega), List.drop_of_length_le (by omega)]; rfl), ⟨HBW.out.os, HBW.out.tape, HBW.out.output, HBW.out.size, HBW.out.block⟩⟩

/-- The words of the values. -/
abbrev Mg.vs (M : Mg) : List (Nat × Nat) := [M.v0, M.v1, M.v2, M.v3]

/-- Are two messages the same? -/
def sameM (A B : Mg) : Bool := A.k == B.k && A.p == B.p && A.o == B.o && A.t == B.t && A.c == B.c && A.n == B.n && A.wr == B.wr && samePs A.ps B.ps && allSame A.vs B.vs

end Go.Proofs.Ytmognpjkccienaa.Msg
