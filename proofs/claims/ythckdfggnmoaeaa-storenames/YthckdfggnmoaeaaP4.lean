/- What sweep of package pool does with one frame, walked. -/
import Derived.Test.YthckdfggnmoaeaaP3
namespace Go.Proofs.Ythckdfggnmoaeaa
open Go.RowKit
set_option linter.unusedVariables false

set_option maxHeartbeats 800000 in
theorem sweep_pinned (gp gf g gl : Nat) (V : Nat → Prop) (L : List Sec) (x : Fr) (w : World) (h : St w gp gf g gl V L [x] 0) (hp : 0 < x.pn) :
    Calls Try.prog 71 #[tp gp] w fun e w' => e = .returned (.pointer none) ∧ St w' gp gf g gl V L [x] 0 ∧ Off3 gp gf g w w' := by
  have p2 := h.p.c2
  simp only [List.length_cons, List.length_nil, Nat.zero_add] at p2
  go_enter Try.func71, Try.ntmps71
  go_wp2
  go_loopw [10] (fun s wr => ∃ k : Nat, k ≤ 2 ∧ s = .int .i64 k ∧ St wr gp gf g gl V L [x] 0 ∧ Off3 gp gf g w wr) (fun s _ => 2 - (intOf s).toNat)
  case atStart => exact ⟨0, Nat.zero_le _, rfl, h, Off3.refl _ _ _ _⟩
  case round =>
    obtain ⟨k, hk, rfl, hS, hO⟩ := hrel
    by_cases hlt : k < 2
    · have q2 := hS.p.c2
      have q3 := hS.p.c3
      have z3 := hS.p.fp 3
      have c8 := hS.p.cell 0 (by simp) 8 _ rfl
      simp only [List.length_cons, List.length_nil, Nat.zero_add, Nat.zero_mul] at q2 c8
      go_wp2
      go_quiet (fail)
      go_wp2
      go_big_region
      go_wp2
      go_roundw
      case rel =>
        have hX := hS.below (below_drewN (Below.refl _ _) (nq + 1))
        exact ⟨k + 1, by omega, by go_num, hX.turn (hX.p.hand 0 (by simp)) (keepP _ _ _ _ _) (by simp [World.setCell]), (hO.trans (Off3.of_below (below_drewN (Below.refl _ _) (nq + 1)))).setP _ _⟩
      case measure => simp [intOf]; omega
    · go_wp2
      go_ret
      exact ⟨rfl, hS, hO⟩

/-- A frame that isn't used any more. -/
def Fr.un (x : Fr) : Fr := { x with us := false }

set_option maxHeartbeats 1600000 in
theorem sweep_take (gp gf g gl : Nat) (V : Nat → Prop) (L L' : List Sec) (x x' : Fr) (w : World) (h : St w gp gf g gl V L [x] 0) (hp : x.pn = 0) (hu : x.us = true)
    (HF : ∀ W, St W gp gf g gl V L [x.un] 0 → Off3 gp gf g w W → Calls Try.prog 82 #[tp gp, fp gf 0] W fun e w' => e = .returned (.tuple #[]) ∧ ∃ V', St w' gp gf g gl V' L' [x'] 0 ∧ (∀ k, k < W.heap.size → V' k → V k) ∧ Off3 gp gf g W w') :
    Calls Try.prog 71 #[tp gp] w fun e w' => e = .returned (fp gf 0) ∧ ∃ V', St w' gp gf g gl V' L' [x'] 0 ∧ (∀ k, k < w.heap.size → V' k → V k) ∧ Off3 gp gf g w w' := by
  have HH : Hid (∀ W, St W gp gf g gl V L [x.un] 0 → Off3 gp gf g w W → Calls Try.prog 82 #[tp gp, fp gf 0] W fun e w' => e = .returned (.tuple #[]) ∧ ∃ V', St w' gp gf g gl V' L' [x'] 0 ∧ (∀ k, k < W.heap.size → V' k → V k) ∧ Off3 gp gf g W w') := HF
  clear HF
  have p2 := h.p.c2
  simp only [List.length_cons, List.length_nil, Nat.zero_add] at p2
  go_enter Try.func71, Try.ntmps71
  go_wp2
  go_loopw [10] (fun s wr => ∃ k : Nat, k ≤ 1 ∧ s = .int .i64 k ∧ St wr gp gf g gl V L [if k = 0 then x else x.un] 0 ∧ Off3 gp gf g w wr) (fun s _ => 2 - (intOf s).toNat)
  case atStart => exact ⟨0, Nat.zero_le _, rfl, h, Off3.refl _ _ _ _⟩
  case round =>
    obtain ⟨k, hk, rfl, hS, hO⟩ := hrel
    obtain rfl | rfl : k = 0 ∨ k = 1 := by omega
    · simp only [if_true] at hS
      have q2 := hS.p.c2
      have q3 := hS.p.c3
      have z3 := hS.p.fp 3
      have z9 := hS.p.ff 9
      have c8 : wr.cell? ⟨gf, 0 * 10 + 8, none⟩ = some (.int .i64 (x.pn : Int)) := hS.p.cell 0 (by simp) 8 _ rfl
      have c9 : wr.cell? ⟨gf, 0 * 10 + 9, none⟩ = some (.bool x.us) := hS.p.cell 0 (by simp) 9 _ rfl
      rw [hp] at c8
      rw [hu] at c9
      have h8 : (wr.setCell ⟨gp, 3, none⟩ (.int .i64 0)).cell? ⟨gf, 8, none⟩ = wr.cell? ⟨gf, 8, none⟩ := World.cell?_of_block (w := wr) (Below.heap_setCell _ _ _ _ hS.p.ne)
      simp only [List.length_cons, List.length_nil, Nat.zero_add, Nat.zero_mul] at q2 c8 c9
      go_wp2
      go_quiet (fail)
      go_wp2
      go_big_region
      go_wp2
      go_roundw
      case rel =>
        have hX := hS.below (below_drewN (Below.refl _ _) (nq + 1))
        have hY := hX.turn (hX.p.hand 0 (by simp)) (keepP _ _ _ _ _) (by simp [World.setCell])
        exact ⟨1, by omega, by go_num, hY.turn (hY.p.put 0 (by simp) 9 (by omega) (.bool false) x.un rfl) (keepF _ _ _ _ _) (by simp [World.setCell]), ((hO.trans (Off3.of_below (below_drewN (Below.refl _ _) (nq + 1)))).setP _ _).setF _ _⟩
      case measure => simp [intOf]
    · simp only [if_neg (by omega : ¬ (1 : Nat) = 0)] at hS
      have q2 := hS.p.c2
      have q3 := hS.p.c3
      have z3 := hS.p.fp 3
      have c8 : wr.cell? ⟨gf, 0 * 10 + 8, none⟩ = some (.int .i64 (x.pn : Int)) := hS.p.cell 0 (by simp) 8 _ rfl
      have c9 : wr.cell? ⟨gf, 0 * 10 + 9, none⟩ = some (.bool false) := hS.p.cell 0 (by simp) 9 _ rfl
      rw [hp] at c8
      simp only [List.length_cons, List.length_nil, Nat.zero_add, Nat.zero_mul] at q2 c8 c9
      go_wp2
      go_quiet (fail)
      go_wp2
      go_big_region
      go_wp2_with (first
        | (go_at_call 82; have hX := hS.below (below_drewN (Below.refl _ _) (nq + 1)); have hY := hX.turn (hX.p.hand 0 (by simp)) (keepP _ _ _ _ _) (by simp [World.setCell]); have hOY := (hO.trans (Off3.of_below (below_drewN (Below.refl _ _) (nq + 1)))).setP 3 (.int .i64 0); refine (HH.out _ hY hOY).mono ?_; rintro e w2 ⟨rfl, V2, hS2, hV2, hO2⟩)
        | fail)
      go_ret
      refine ⟨rfl, V2, hS2, fun k hk hx => hV2 k (Nat.lt_of_lt_of_le hk hOY.size) hx, hOY.trans hO2⟩

end Go.Proofs.Ythckdfggnmoaeaa
