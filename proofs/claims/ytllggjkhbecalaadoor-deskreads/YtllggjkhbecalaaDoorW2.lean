/- What graphOf of package waits does, walked. -/
import Derived.Test.YtllggjkhbecalaaDoorW1
namespace Go.Proofs.YtllggjkhbecalaaDoor.Wai
open Go.RowKit
set_option linter.unusedVariables false
set_option maxRecDepth 8000

/-- An edge in a block. -/
abbrev eO (x y : Int) : Obj := .cells #[.int .i64 x, .int .i64 y] 64

theorem gk_put {E : List (Int × Int)} {k : Nat} {a b : Nat} (h : E[k]? = some ((a : Int), (b : Int))) (ha : a < 4) (hb : b < 4) : put (fun i => gk E i k) a (gk E a k ||| 2 ^ b) = fun i => gk E i (k + 1) := by
  funext i
  rw [gk_ok h ha hb]
  unfold put
  by_cases e : i = a
  · subst e; simp
  · rw [if_neg e, if_neg (by omega)]

set_option maxHeartbeats 800000 in
theorem graph_any (w : World) (ao : Option Addr) (n cap : Nat) (E : List (Int × Int)) (hr : RdE w ao cap E) (hn : E.length = n) : Calls Tryd.prog 48 #[.slice ao n cap] w fun e w' => e = .returned (gV (gA E)) ∧ Below w.heap.size w w' := by
  have hle := hr.le
  have hmx := hr.mx
  simp only [maxLen] at hmx
  go_enter Tryd.func48, Tryd.ntmps48
  go_wp2
  go_loopw [8] (fun i wr => ∃ k : Nat, k ≤ n ∧ i = .int .i64 k ∧ G4 wr w.heap.size (fun _ => 0) ∧ G4 wr (w.heap.size + 1) (fun i => gk E i k) ∧ Below w.heap.size w wr) (fun i _ => n - (intOf i).toNat)
  case atStart =>
    refine ⟨0, by omega, rfl, ?_, ?_, by go_grown⟩
    · exact ⟨(((Below.refl _ _).alloc (Nat.le_refl _) _).block _ (by simp)).trans (heap_alloc_new w (.cells #[.int .u64 0, .int .u64 0, .int .u64 0, .int .u64 0] 99))⟩
    · have h2 := heap_alloc_new (w.alloc (.cells #[.int .u64 0, .int .u64 0, .int .u64 0, .int .u64 0] 99)) (.cells #[.int .u64 0, .int .u64 0, .int .u64 0, .int .u64 0] 99)
      rw [show (w.alloc (.cells #[.int .u64 0, .int .u64 0, .int .u64 0, .int .u64 0] 99)).heap.size = w.heap.size + 1 from by simp] at h2
      exact ⟨h2⟩
  case round =>
    obtain ⟨k, hk, rfl, hA, hC, hbel⟩ := hrel
    rename World => wr
    by_cases hlt : k < n
    · obtain ⟨b, off, rfl, hbl, c0, c1⟩ := (hr.below hbel).at (t := k) (by omega)
      have he : E[k]? = some E[k] := List.getElem?_eq_getElem (by omega)
      generalize E[k] = x at *
      obtain ⟨x, y⟩ := x
      have HE : Hid (E[k]? = some (x, y)) := he
      clear he
      have hCs := hC.lt
      by_cases hok : okE (x, y) = true
      · obtain ⟨i, j, hi, hj, e⟩ := ok_nat hok
        obtain ⟨rfl, rfl⟩ := Prod.mk.inj e
        have h1 := cl_nat hi
        have h2 := cl_nat hj
        have HC : G4 (wr.alloc (eO (i : Int) (j : Int))) (w.heap.size + 1) (fun i => gk E i k) := hC.keep (heap_alloc_old _ _ hCs)
        have HA : G4 (wr.alloc (eO (i : Int) (j : Int))) w.heap.size (fun _ => 0) := hA.keep (heap_alloc_old _ _ hA.lt)
        have HB : Below w.heap.size w (wr.alloc (eO (i : Int) (j : Int))) := hbel.alloc hbel.size _
        have t0 := HC.cell i hi
        have f0 := HC.fz i
        have b0 := orP (gk E i k) (gk_lt E i k) j hj
        clear e
        go_upto_region 6 with (first
          | (go_at_call 55; with_reducible refine (client_any (i : Int) _).mono ?_; rw [h1]; rintro e w1 ⟨rfl, hw⟩; subst w1)
          | (go_at_call 55; with_reducible refine (client_any (j : Int) _).mono ?_; rw [h2]; rintro e w1 ⟨rfl, hw⟩; subst w1))
        go_big_region
        go_wp2
        go_roundw
        case rel =>
          have hP := hC.put i (gk E i k ||| 2 ^ j) hi
          rw [gk_put HE.out hi hj] at hP
          refine ⟨k + 1, by omega, by go_num, hA.keep ?_, ⟨?_⟩, ?_⟩
          · exact (heap_alloc_old (wr.setCell _ _) _ (by simp [World.setCell]; omega)).trans (Below.heap_setCell _ _ _ _ (by simp))
          · exact (heap_alloc_old (wr.setCell _ _) _ (by simp [World.setCell]; omega)).trans hP.blk
          · have hb := below_set hbel (p := ⟨w.heap.size + 1, i, none⟩) (Nat.le_succ _) (.int .u64 ((gk E i k ||| 2 ^ j : Nat) : Int))
            have hb2 := hb.alloc hb.size (eO (i : Int) (j : Int))
            exact ⟨hb2.os, hb2.tape, hb2.output, hb2.size, hb2.block⟩
        case measure => simp [intOf]; omega
      · have hok : okE (x, y) = false := by simpa using hok
        have HK : Hid (okE (x, y) = false) := hok
        simp only [okE] at hok
        cases h1 : clB x
        · clear hok
          go_wp2_with (first
            | (go_at_call 55; with_reducible refine (client_any x _).mono ?_; rw [h1]; rintro e w1 ⟨rfl, hw⟩; subst w1))
          go_roundw
          case rel =>
            refine ⟨k + 1, by omega, by go_num, hA.keep (heap_alloc_old _ _ (by omega)), ?_, hbel.alloc hbel.size _⟩
            simp only [gk_bad HE.out HK.out]
            exact hC.keep (heap_alloc_old _ _ hCs)
          case measure => simp [intOf]; omega
        · have h2 : clB y = false := by simpa [h1] using hok
          clear hok
          go_wp2_with (first
            | (go_at_call 55; with_reducible refine (client_any x _).mono ?_; rw [h1]; rintro e w1 ⟨rfl, hw⟩; subst w1)
            | (go_at_call 55; with_reducible refine (client_any y _).mono ?_; rw [h2]; rintro e w1 ⟨rfl, hw⟩; subst w1))
          go_roundw
          case rel =>
            refine ⟨k + 1, by omega, by go_num, hA.keep (heap_alloc_old _ _ (by omega)), ?_, hbel.alloc hbel.size _⟩
            simp only [gk_bad HE.out HK.out]
            exact hC.keep (heap_alloc_old _ _ hCs)
          case measure => simp [intOf]; omega
    · obtain rfl : k = n := by omega
      have a0 := hA.fz 0
      have a1 := hA.fz 1
      have a2 := hA.fz 2
      have a3 := hA.fz 3
      have b0 := hA.cell 0 (by decide)
      have b1 := hA.cell 1 (by decide)
      have b2 := hA.cell 2 (by decide)
      have b3 := hA.cell 3 (by decide)
      have c0 := hC.cell 0 (by decide)
      have c1 := hC.cell 1 (by decide)
      have c2 := hC.cell 2 (by decide)
      have c3 := hC.cell 3 (by decide)
      go_wp2
      have hF : G4 ((((wr.setCell ⟨w.heap.size, 0, none⟩ (.int .u64 (gk E 0 k : Nat))).setCell ⟨w.heap.size, 1, none⟩ (.int .u64 (gk E 1 k : Nat))).setCell ⟨w.heap.size, 2, none⟩ (.int .u64 (gk E 2 k : Nat))).setCell ⟨w.heap.size, 3, none⟩ (.int .u64 (gk E 3 k : Nat))) w.heap.size (fun i => gk E i k) := ⟨((((hA.put 0 (gk E 0 k) (by decide)).put 1 (gk E 1 k) (by decide)).put 2 (gk E 2 k) (by decide)).put 3 (gk E 3 k) (by decide)).blk⟩
      have hB : Below w.heap.size w ((((wr.setCell ⟨w.heap.size, 0, none⟩ (.int .u64 (gk E 0 k : Nat))).setCell ⟨w.heap.size, 1, none⟩ (.int .u64 (gk E 1 k : Nat))).setCell ⟨w.heap.size, 2, none⟩ (.int .u64 (gk E 2 k : Nat))).setCell ⟨w.heap.size, 3, none⟩ (.int .u64 (gk E 3 k : Nat))) := below_set (below_set (below_set (below_set hbel (Nat.le_refl _) _) (Nat.le_refl _) _) (Nat.le_refl _) _) (Nat.le_refl _) _
      generalize ((((wr.setCell ⟨w.heap.size, 0, none⟩ (.int .u64 (gk E 0 k : Nat))).setCell ⟨w.heap.size, 1, none⟩ (.int .u64 (gk E 1 k : Nat))).setCell ⟨w.heap.size, 2, none⟩ (.int .u64 (gk E 2 k : Nat))).setCell ⟨w.heap.size, 3, none⟩ (.int .u64 (gk E 3 k : Nat))) = W9 at *
      have e0 := hF.cell 0 (by decide)
      have e1 := hF.cell 1 (by decide)
      have e2 := hF.cell 2 (by decide)
      have e3 := hF.cell 3 (by decide)
      refine bodyPost_ret (by simp [results, Tryd.results48, go_sem, e0, e1, e2, e3]; try rfl) rfl ?_
      subst hn
      exact ⟨rfl, hB⟩

end Go.Proofs.YtllggjkhbecalaaDoor.Wai
