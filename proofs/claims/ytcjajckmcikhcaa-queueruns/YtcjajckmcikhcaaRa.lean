/- The document's Reserved, walked. -/
import Derived.Test.YtcjajckmcikhcaaRz
namespace Go.Proofs.Ytcjajckmcikhcaa
open Go.RowKit Go.Maps
set_option linter.unusedVariables false

def anyO (L : List Wt) (c p j : Int) : Bool := L.any (fun y => rsB y c p && y.o == j)
theorem anyO_snoc (L : List Wt) (y : Wt) (c p j : Int) : anyO (L ++ [y]) c p j = (anyO L c p j || (rsB y c p && y.o == j)) := by
  unfold anyO
  rw [List.any_append]
  simp
def b2 (b : Bool) (n : Nat) : Nat := if b then n else 0
def reS (L : List Wt) (c p : Int) : Nat → Nat
  | 0 => 0
  | k + 1 => reS L c p k + b2 (anyO L c p (k : Int)) (2 ^ k)
theorem reS4 (L : List Wt) (c p : Int) : reS L c p 4 = b2 (anyO L c p 0) 1 + b2 (anyO L c p 1) 2 + b2 (anyO L c p 2) 4 + b2 (anyO L c p 3) 8 := by
  simp only [reS]
  simp
theorem reS_le (L : List Wt) (c p : Int) : ∀ k, k ≤ 4 → reS L c p k ≤ 2 ^ k - 1
  | 0, _ => by simp [reS]
  | k + 1, h => by
    have ih := reS_le L c p k (by omega)
    have h1 : b2 (anyO L c p (k : Int)) (2 ^ k) ≤ 2 ^ k := by
      unfold b2
      split
      · exact Nat.le_refl _
      · exact Nat.zero_le _
    have h2 : 0 < 2 ^ k := Nat.pow_pos (by decide)
    rw [Nat.pow_succ]
    simp only [reS]
    omega
theorem anyO_cons (y : Wt) (L : List Wt) (c p j : Int) : anyO (y :: L) c p j = ((rsB y c p && y.o == j) || anyO L c p j) := by
  unfold anyO
  simp
theorem resN_sum (c p : Int) : ∀ (L : List Wt), (∀ x ∈ L, Rt x) → resN c p L = reS L c p 4
  | [], _ => by rw [reS4]; rfl
  | y :: L, h => by
    have ih := resN_sum c p L fun x hx => h x (by simp [hx])
    have hy := (h y (by simp)).2.2.2
    rw [reS4] at ih
    simp only [resN, ih]
    rw [reS4, anyO_cons, anyO_cons, anyO_cons, anyO_cons]
    cases rsB y c p
    · simp
    · obtain ⟨j, hj⟩ : ∃ j : Nat, y.o = j := ⟨y.o.toNat, by omega⟩
      rw [hj] at hy ⊢
      cases anyO L c p 0 <;> cases anyO L c p 1 <;> cases anyO L c p 2 <;> cases anyO L c p 3 <;> rcases (by omega : j = 0 ∨ j = 1 ∨ j = 2 ∨ j = 3) with rfl | rfl | rfl | rfl <;> rfl

theorem ar_cell {W : World} {g : Nat} (h : W.heap[g]? = some (.cells #[.int .i64 1, .int .i64 2, .int .i64 4, .int .i64 8] 77)) : ∀ k : Nat, k < 4 → W.cell? ⟨g, k, none⟩ = some (.int .i64 ((2 ^ k : Nat) : Int))
  | 0, _ => by rw [cell_of_row _ _ _ _ _ _ h]; rfl
  | 1, _ => by rw [cell_of_row _ _ _ _ _ _ h]; rfl
  | 2, _ => by rw [cell_of_row _ _ _ _ _ _ h]; rfl
  | 3, _ => by rw [cell_of_row _ _ _ _ _ _ h]; rfl

theorem arr_new (w : World) (a1 : Option Addr) (n1 c1 : Nat) (a2 : Option Addr) (n2 c2 : Nat) : P2 ((w.alloc (rqO a1 n1 c1 a2 n2 c2)).alloc (.cells #[.int .i64 1, .int .i64 2, .int .i64 4, .int .i64 8] 77)) w.heap.size (.slice a1 n1 c1) (.slice a2 n2 c2) ∧ ((w.alloc (rqO a1 n1 c1 a2 n2 c2)).alloc (.cells #[.int .i64 1, .int .i64 2, .int .i64 4, .int .i64 8] 77)).heap[w.heap.size + 1]? = some (.cells #[.int .i64 1, .int .i64 2, .int .i64 4, .int .i64 8] 77) ∧ Below w.heap.size w ((w.alloc (rqO a1 n1 c1 a2 n2 c2)).alloc (.cells #[.int .i64 1, .int .i64 2, .int .i64 4, .int .i64 8] 77)) := by
  refine ⟨⟨?_⟩, ?_, by go_grown⟩
  · rw [Below.heap_alloc _ _ _ (by simp)]
    exact heap_alloc_new w _
  · have := heap_alloc_new (w.alloc (rqO a1 n1 c1 a2 n2 c2)) (.cells #[.int .i64 1, .int .i64 2, .int .i64 4, .int .i64 8] 77)
    simpa using this

set_option maxRecDepth 100000 in
set_option maxHeartbeats 3200000 in
theorem rreserved_any (a1 : Option Addr) (n1 c1 : Nat) (a2 : Option Addr) (n2 c2 : Nat) (L : List Wt) (c p : Int) (w : World) (hL : RdR wtC w a1 c1 L) (hn : L.length = n1) (hl : n1 ≤ 1000) (hR : ∀ x ∈ L, Rt x) :
    Calls Try.prog 32 #[rqV a1 n1 c1 a2 n2 c2, .int .i64 c, .int .i64 p] w fun e w' => e = .returned (.int .i64 ((resN c p L : Nat) : Int)) ∧ Below w.heap.size w w' := by
  have HL : Hid (RdR wtC w a1 c1 L ∧ L.length = n1) := ⟨hL, hn⟩
  have HE : Hid (resN c p L = reS L c p 4) := resN_sum c p L hR
  have HW0 : Hid (P2 ((w.alloc (rqO a1 n1 c1 a2 n2 c2)).alloc (.cells #[.int .i64 1, .int .i64 2, .int .i64 4, .int .i64 8] 77)) w.heap.size (.slice a1 n1 c1) (.slice a2 n2 c2) ∧ ((w.alloc (rqO a1 n1 c1 a2 n2 c2)).alloc (.cells #[.int .i64 1, .int .i64 2, .int .i64 4, .int .i64 8] 77)).heap[w.heap.size + 1]? = some (.cells #[.int .i64 1, .int .i64 2, .int .i64 4, .int .i64 8] 77) ∧ Below w.heap.size w ((w.alloc (rqO a1 n1 c1 a2 n2 c2)).alloc (.cells #[.int .i64 1, .int .i64 2, .int .i64 4, .int .i64 8] 77))) := arr_new w a1 n1 c1 a2 n2 c2
  clear hL hn hR
  go_enter Try.func32, Try.ntmps32
  go_upto_region 3 with fail
  generalize (w.alloc (rqO a1 n1 c1 a2 n2 c2)).alloc (.cells #[.int .i64 1, .int .i64 2, .int .i64 4, .int .i64 8] 77) = W0 at *
  obtain ⟨g2, hg2⟩ : ∃ g, w.heap.size = g := ⟨_, rfl⟩
  obtain ⟨g8, hg8⟩ : ∃ g, w.heap.size + 1 = g := ⟨_, rfl⟩
  have HQ : Hid (P2 W0 g2 (.slice a1 n1 c1) (.slice a2 n2 c2) ∧ W0.heap[g8]? = some (.cells #[.int .i64 1, .int .i64 2, .int .i64 4, .int .i64 8] 77) ∧ Below w.heap.size w W0) := by
    obtain ⟨h1, h2, h4⟩ := HW0.out
    rw [hg8] at h2
    rw [hg2] at h1
    exact ⟨h1, h2, h4⟩
  rw [hg8, hg2]
  clear hg2 hg8 HW0
  have HN : Hid (∀ W : World, Below W0.heap.size W0 W → P2 W g2 (.slice a1 n1 c1) (.slice a2 n2 c2) ∧ W.heap[g8]? = some (.cells #[.int .i64 1, .int .i64 2, .int .i64 4, .int .i64 8] 77) ∧ Below w.heap.size w W) := fun W hW =>
    ⟨HQ.out.1.below hW, (hW.block _ (Array.getElem?_eq_some_iff.1 HQ.out.2.1).1).trans HQ.out.2.1, below_step HQ.out.2.2 hW⟩
  go_wp2
  go_loopw [7, 9] (fun v i wr => ∃ (k N0 : Nat), k ≤ 4 ∧ i = .int .i64 k ∧ v = .int .i64 (N0 : Int) ∧ Hid (reS L c p k = N0 ∧ Below W0.heap.size W0 wr)) (fun _ i _ => 4 - (intOf i).toNat)
  case atStart => exact ⟨0, 0, Nat.zero_le _, rfl, rfl, rfl, Below.refl _ _⟩
  case round =>
    obtain ⟨k, N0, hk, rfl, rfl, HJ⟩ := hrel
    rename World => wr
    by_cases hlt : k < 4
    · have e0' : decide ((k : Int) < 4) = true := by simp; omega
      have t0 := (HN.out _ HJ.out.2).1.c0
      go_wp2
      go_loopw [10, 21] (fun v i wq => ∃ (k2 : Nat) (b : Bool), k2 ≤ n1 ∧ i = .int .i64 k2 ∧ v = .bool b ∧ Hid (anyO (L.take k2) c p (k : Int) = b ∧ Below W0.heap.size W0 wq)) (fun _ i _ => n1 - (intOf i).toNat)
      case atStart => exact ⟨0, false, Nat.zero_le _, rfl, rfl, rfl, HJ.out.2⟩
      case round =>
        clear t0
        obtain ⟨k2, b, hk2, rfl, rfl, HI⟩ := hrel
        rename World => wq
        by_cases hlt2 : k2 < n1
        · have hkl : k2 < L.length := by have := HL.out.2; omega
          obtain ⟨bk, off, hao, -, hcc⟩ := (HL.out.1.below (HN.out _ HI.out.2).2.2).at wtE hkl
          subst hao
          obtain ⟨z0, z1, z2, z3⟩ := wtIn _ _ _ _ hcc
          have HS : Hid (anyO (L.take (k2 + 1)) c p (k : Int) = (b || (rsB L[k2] c p && L[k2].o == (k : Int)))) := by
            show _ = _
            rw [List.take_succ_eq_append_getElem hkl, anyO_snoc, HI.out.1]
          clear hcc
          generalize L[k2] = y at *
          obtain ⟨yc, yp, yo, yw⟩ := y
          simp only at z0 z1 z2 z3
          have e1' : decide ((k2 : Int) < n1) = true := by simp; omega
          have HB : Hid (Below W0.heap.size W0 (wq.alloc (wtO ⟨yc, yp, yo, yw⟩))) := HI.out.2.alloc HI.out.2.size _
          have HT : Hid (anyO (L.take (k2 + 1)) c p (k : Int) = (b || ((!(yc == c) && (yp == p && yw)) && yo == (k : Int)))) := HS.out
          clear HS HI
          cases b
          · cases h1 : (yc == c)
            · have h1' : (yc != c) = true := by simp [bne, h1]
              cases h2 : (yp == p)
              · go_wp2
                go_roundw
                case rel => exact ⟨k2 + 1, false, by omega, by go_num, rfl, by rw [HT.out, h1, h2]; rfl, HB.out⟩
                case measure => simp [intOf]; omega
              cases h3 : (yo == (k : Int))
              · go_wp2
                go_roundw
                case rel => exact ⟨k2 + 1, false, by omega, by go_num, rfl, by rw [HT.out, h1, h2, h3]; cases yw <;> rfl, HB.out⟩
                case measure => simp [intOf]; omega
              · go_wp2
                go_roundw
                case rel => exact ⟨k2 + 1, yw, by omega, by go_num, rfl, by rw [HT.out, h1, h2, h3]; cases yw <;> rfl, HB.out⟩
                case measure => simp [intOf]; omega
            · have h1' : (yc != c) = false := by simp [bne, h1]
              go_wp2
              go_roundw
              case rel => exact ⟨k2 + 1, false, by omega, by go_num, rfl, by rw [HT.out, h1]; rfl, HB.out⟩
              case measure => simp [intOf]; omega
          · go_wp2
            go_roundw
            case rel => exact ⟨k2 + 1, true, by omega, by go_num, rfl, by rw [HT.out]; rfl, HB.out⟩
            case measure => simp [intOf]; omega
        · obtain rfl : k2 = n1 := by omega
          have e1' : decide ((k2 : Int) < k2) = false := by simp
          have HA : Hid (anyO L c p (k : Int) = b) := by
            have := HI.out.1
            rw [List.take_of_length_le (by have := HL.out.2; omega)] at this
            exact this
          have a8 := ar_cell (HN.out _ HI.out.2).2.1 k hlt
          obtain ⟨P, hP⟩ : ∃ P, 2 ^ k = P := ⟨_, rfl⟩
          have hP8 : P ≤ 8 := by
            rw [← hP]
            rcases (by omega : k = 0 ∨ k = 1 ∨ k = 2 ∨ k = 3) with rfl | rfl | rfl | rfl <;> decide
          have hN8 : N0 ≤ 15 := by
            have h1 := reS_le L c p k hk
            rw [HJ.out.1, hP] at h1
            omega
          have HP : Hid (2 ^ k = P) := hP
          rw [hP] at a8
          clear hP
          have hsum : IntKind.i64.wrap ((N0 : Int) + (P : Int)) = ((N0 + P : Nat) : Int) := by rw [IntKind.wrap_i64]; omega
          have hlt' : (k : Int) < 4 := by omega
          have HF : Hid (reS L c p (k + 1) = N0 + b2 b P) := by
            show _ = _
            simp only [reS]
            rw [HJ.out.1, HA.out, HP.out]
          cases b
          · go_wp2
            go_roundw
            case rel => exact ⟨k + 1, N0, by omega, by go_num, rfl, by rw [HF.out]; rfl, HI.out.2⟩
            case measure => simp [intOf]; omega
          · go_wp2
            go_roundw
            case rel => exact ⟨k + 1, N0 + P, by omega, by go_num, rfl, by rw [HF.out]; rfl, HI.out.2⟩
            case measure => simp [intOf]; omega
    · obtain rfl : k = 4 := by omega
      go_wp2
      go_ret
      exact ⟨by rw [HE.out, HJ.out.1]; rfl, (HN.out _ HJ.out.2).2.2⟩

end Go.Proofs.Ytcjajckmcikhcaa
