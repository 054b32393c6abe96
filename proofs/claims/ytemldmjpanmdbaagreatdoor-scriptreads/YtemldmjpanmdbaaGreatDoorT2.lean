/- The document's answer for scripts: which steps are right, walked. -/
import Derived.Test.YtemldmjpanmdbaaGreatDoorT1
namespace Go.Proofs.YtemldmjpanmdbaaGreatDoor
open Go.RowKit
set_option linter.unusedVariables false

set_option maxHeartbeats 4000000 in
set_option maxRecDepth 100000 in
theorem refright_out (k c l n a m ok op oo : Int) (v : Nat × Nat) (w : World) (h : ¬ ((0 ≤ k ∧ k ≤ 14) ∧ (0 ≤ c ∧ c ≤ 3) ∧ (0 ≤ l ∧ l ≤ 7) ∧ (-1 ≤ n ∧ n ≤ 65535) ∧ (-1 ≤ a ∧ a ≤ 65535))) :
    Calls Tryz.prog 66 #[sgV ⟨k, c, l, n, a, m, ok, op, oo, v⟩] w fun x w' => x = .returned (.bool false) ∧ Below w.heap.size w w' := by
  have hB0 := below_box w (sgO ⟨k, c, l, n, a, m, ok, op, oo, v⟩)
  by_cases h0 : k < 0
  · clear h
    go_enter Tryz.func66, Tryz.ntmps66
    go_wp2
    go_ret
    exact ⟨rfl, hB0⟩
  by_cases h1 : 14 < k
  · clear h
    go_enter Tryz.func66, Tryz.ntmps66
    go_wp2
    go_ret
    exact ⟨rfl, hB0⟩
  by_cases h2 : c < 0
  · clear h
    go_enter Tryz.func66, Tryz.ntmps66
    go_wp2
    go_ret
    exact ⟨rfl, hB0⟩
  by_cases h3 : 3 < c
  · clear h
    go_enter Tryz.func66, Tryz.ntmps66
    go_wp2
    go_ret
    exact ⟨rfl, hB0⟩
  by_cases h4 : l < 0
  · clear h
    go_enter Tryz.func66, Tryz.ntmps66
    go_wp2
    go_ret
    exact ⟨rfl, hB0⟩
  by_cases h5 : 7 < l
  · clear h
    go_enter Tryz.func66, Tryz.ntmps66
    go_wp2
    go_ret
    exact ⟨rfl, hB0⟩
  by_cases h6 : n < -1
  · clear h
    go_enter Tryz.func66, Tryz.ntmps66
    go_wp2
    go_ret
    exact ⟨rfl, hB0⟩
  by_cases h7 : 65535 < n
  · clear h
    go_enter Tryz.func66, Tryz.ntmps66
    go_wp2
    go_ret
    exact ⟨rfl, hB0⟩
  by_cases h8 : a < -1
  · clear h
    go_enter Tryz.func66, Tryz.ntmps66
    go_wp2
    go_ret
    exact ⟨rfl, hB0⟩
  by_cases h9 : 65535 < a
  · clear h
    go_enter Tryz.func66, Tryz.ntmps66
    go_wp2
    go_ret
    exact ⟨rfl, hB0⟩
  exact absurd ⟨⟨by omega, by omega⟩, ⟨by omega, by omega⟩, ⟨by omega, by omega⟩, ⟨by omega, by omega⟩, ⟨by omega, by omega⟩⟩ h

/-- Which parts a kind has. -/
theorem pattern (k : Int) (h0 : 0 ≤ k) (h14 : k ≤ 14) : ∃ b1 b2 b3 b4 b5 b6 : Bool, (kC k = b1 ∧ kO k = b2 ∧ kL k = b3 ∧ kN k = b4 ∧ kA k = b5 ∧ kM k = b6) ∧
    ((b1 = true ∧ b2 = true ∧ b3 = false ∧ b4 = false ∧ b5 = false ∧ b6 = false) ∨ (b1 = true ∧ b2 = false ∧ b3 = false ∧ b4 = false ∧ b5 = false ∧ b6 = false) ∨ (b1 = false ∧ b2 = false ∧ b3 = true ∧ b4 = true ∧ b5 = false ∧ b6 = false) ∨
      (b1 = false ∧ b2 = false ∧ b3 = true ∧ b4 = true ∧ b5 = true ∧ b6 = true) ∨ (b1 = false ∧ b2 = false ∧ b3 = false ∧ b4 = true ∧ b5 = true ∧ b6 = false) ∨ (b1 = false ∧ b2 = false ∧ b3 = false ∧ b4 = true ∧ b5 = false ∧ b6 = false) ∨
      (b1 = false ∧ b2 = false ∧ b3 = false ∧ b4 = false ∧ b5 = false ∧ b6 = false)) := by
  have : k = 0 ∨ k = 1 ∨ k = 2 ∨ k = 3 ∨ k = 4 ∨ k = 5 ∨ k = 6 ∨ k = 7 ∨ k = 8 ∨ k = 9 ∨ k = 10 ∨ k = 11 ∨ k = 12 ∨ k = 13 ∨ k = 14 := by omega
  rcases this with rfl | rfl | rfl | rfl | rfl | rfl | rfl | rfl | rfl | rfl | rfl | rfl | rfl | rfl | rfl <;> exact ⟨_, _, _, _, _, _, ⟨rfl, rfl, rfl, rfl, rfl, rfl⟩, by decide⟩

set_option maxHeartbeats 4000000 in
set_option maxRecDepth 100000 in
theorem refright_in (k c l n a m ok op oo : Int) (v : Nat × Nat) (hv : wordB v) (w : World) (hk : 0 ≤ k ∧ k ≤ 14) (hc : 0 ≤ c ∧ c ≤ 3) (hl : 0 ≤ l ∧ l ≤ 7) (hn : -1 ≤ n ∧ n ≤ 65535) (ha : -1 ≤ a ∧ a ≤ 65535) :
    Calls Tryz.prog 66 #[sgV ⟨k, c, l, n, a, m, ok, op, oo, v⟩] w fun x w' => x = .returned (.bool (rightS ⟨k, c, l, n, a, m, ok, op, oo, v⟩)) ∧ Below w.heap.size w w' := by
  have hB0 := below_box w (sgO ⟨k, c, l, n, a, m, ok, op, oo, v⟩)
  have hs := SgAt.new w ⟨k, c, l, n, a, m, ok, op, oo, v⟩
  obtain ⟨b1, b2, b3, b4, b5, b6, ⟨e1, e2, e3, e4, e5, e6⟩, hpat⟩ := pattern k hk.1 hk.2
  have hH := fun W => has_any k hk.1 hk.2 W
  unfold hasV at hH
  rw [e1, e2, e3, e4, e5, e6] at hH
  have HR : Hid (rightS ⟨k, c, l, n, a, m, ok, op, oo, v⟩ = ((bw ok 0 4 && bw op 0 5 && bw oo 0 3) && ((b1 || c == 0) && (b2 || (sameO ok op oo v 0 0 0 (0, 0))) && (b3 || l == 0) && (b4 || n == 0) && (b5 || a == 0) && (b6 || m == 0)))) := by
    have f0 : formN 0 = 0 := by kernel_rfl
    have w1 : bw k 0 14 = true := (bw_iff _ _ _).2 hk
    have w2 : bw c 0 3 = true := (bw_iff _ _ _).2 hc
    have w3 : bw l 0 7 = true := (bw_iff _ _ _).2 hl
    have w4 : bw n (-1) 65535 = true := (bw_iff _ _ _).2 hn
    have w5 : bw a (-1) 65535 = true := (bw_iff _ _ _).2 ha
    have hz : opZ ⟨k, c, l, n, a, m, ok, op, oo, v⟩ = sameO ok op oo v 0 0 0 (0, 0) := by
      have e : ∀ x : Nat, ((x : Int) == ((0 : Nat) : Int)) = (x == 0) := fun x => by
        by_cases h : x = 0
        · subst h; rfl
        · rw [beq_eq_false_iff_ne.2 h, beq_eq_false_iff_ne.2 (show (x : Int) ≠ ((0 : Nat) : Int) by omega)]
      unfold opZ sameO sameB
      simp only [f0, e, Bool.and_assoc]
    unfold Hid rightS withinS ownS
    simp only
    rw [w1, w2, w3, w4, w5, e1, e2, e3, e4, e5, e6, hz]
    simp only [Bool.true_and]
  generalize rightS ⟨k, c, l, n, a, m, ok, op, oo, v⟩ = R at *
  have n1 : ¬ k < 0 := by omega
  have n2 : ¬ 14 < k := by omega
  have n3 : ¬ c < 0 := by omega
  have n4 : ¬ 3 < c := by omega
  have n5 : ¬ l < 0 := by omega
  have n6 : ¬ 7 < l := by omega
  have n7 : ¬ n < -1 := by omega
  have n8 : ¬ 65535 < n := by omega
  have n9 : ¬ a < -1 := by omega
  have nA : ¬ 65535 < a := by omega
  have HV : Hid (wordB v) := hv
  have HS : Hid (SgAt (w.alloc (sgO ⟨k, c, l, n, a, m, ok, op, oo, v⟩)) w.heap.size ⟨k, c, l, n, a, m, ok, op, oo, v⟩ ∧ Below w.heap.size w (w.alloc (sgO ⟨k, c, l, n, a, m, ok, op, oo, v⟩))) := ⟨hs, hB0⟩
  clear hs hB0 hv e1 e2 e3 e4 e5 e6 hk hc hl hn ha
  obtain ⟨v1, v2⟩ := v
  go_enter Tryz.func66, Tryz.ntmps66
  go_upto_region 3 with fail
  have HNN : Hid (¬ k < 0 ∧ ¬ 14 < k ∧ ¬ c < 0 ∧ ¬ 3 < c ∧ ¬ l < 0 ∧ ¬ 7 < l ∧ ¬ n < -1 ∧ ¬ 65535 < n ∧ ¬ a < -1 ∧ ¬ 65535 < a) := ⟨n1, n2, n3, n4, n5, n6, n7, n8, n9, nA⟩
  clear n1 n2 n3 n4 n5 n6 n7 n8 n9 nA
  generalize w.alloc (sgO ⟨k, c, l, n, a, m, ok, op, oo, (v1, v2)⟩) = W0 at *
  obtain ⟨q0, q1, q2, q3, q4, q5, q6, q7, q8, q9⟩ := HS.out.1.cells
  simp only at q0 q1 q2 q3 q4 q5 q6 q7 q8 q9
  go_upto_region 4 with (first
    | (go_at_call 98; refine (hH _).mono ?_; rintro x w1 ⟨rfl, hb1⟩))
  have hb2 : Below W0.heap.size W0 (w1.alloc (.cells #[.bool b1, .bool b2, .bool b3, .bool b4, .bool b5, .bool b6] 179)) := hb1.alloc hb1.size _
  have hnew := heap_alloc_new w1 (.cells #[.bool b1, .bool b2, .bool b3, .bool b4, .bool b5, .bool b6] 179)
  generalize w1.alloc (.cells #[.bool b1, .bool b2, .bool b3, .bool b4, .bool b5, .bool b6] 179) = W at *
  generalize w1.heap.size = g3 at *
  have HA : Hid (W.heap[g3]? = some (.cells #[.bool b1, .bool b2, .bool b3, .bool b4, .bool b5, .bool b6] 179) ∧ g3 < W.heap.size ∧ SgAt W w.heap.size ⟨k, c, l, n, a, m, ok, op, oo, (v1, v2)⟩ ∧ Below w.heap.size w W) :=
    ⟨hnew, (Array.getElem?_eq_some_iff.1 hnew).1, HS.out.1.below hb2, HS.out.2.trans (hb2.mono HS.out.2.size)⟩
  clear hnew hb1 hb2 hH q0 q1 q2 q3 q4 q5 q6 q7 q8 q9
  have HC : Hid (∀ U : World, U.heap[g3]? = some (.cells #[.bool b1, .bool b2, .bool b3, .bool b4, .bool b5, .bool b6] 179) → U.cell? ⟨g3, 0, none⟩ = some (.bool b1) ∧ U.cell? ⟨g3, 1, none⟩ = some (.bool b2) ∧ U.cell? ⟨g3, 2, none⟩ = some (.bool b3) ∧ U.cell? ⟨g3, 3, none⟩ = some (.bool b4) ∧ U.cell? ⟨g3, 4, none⟩ = some (.bool b5) ∧ U.cell? ⟨g3, 5, none⟩ = some (.bool b6)) := by
    intro U hU
    refine ⟨?_, ?_, ?_, ?_, ?_, ?_⟩ <;> (rw [cell_of_row _ _ _ _ _ _ hU]; rfl)
  obtain ⟨q0, q1, q2, q3, q4, q5, q6, q7, q8, q9⟩ := HA.out.2.2.1.cells
  obtain ⟨r0, r1, r2, r3, r4, r5⟩ := HC.out W HA.out.1
  simp only at q0 q1 q2 q3 q4 q5 q6 q7 q8 q9
  have HB : Hid (Below w.heap.size w W) := HA.out.2.2.2
  rcases hpat with ⟨rfl, rfl, rfl, rfl, rfl, rfl⟩ | ⟨rfl, rfl, rfl, rfl, rfl, rfl⟩ | ⟨rfl, rfl, rfl, rfl, rfl, rfl⟩ | ⟨rfl, rfl, rfl, rfl, rfl, rfl⟩ | ⟨rfl, rfl, rfl, rfl, rfl, rfl⟩ | ⟨rfl, rfl, rfl, rfl, rfl, rfl⟩ | ⟨rfl, rfl, rfl, rfl, rfl, rfl⟩
  all_goals
    go_wp2_with (first
      | (go_at_call 21; refine (sameOp_any ok op oo (v1, v2) 0 0 0 (0, 0) HV.out ⟨by decide, by decide⟩ _).mono ?_; rintro x w2 ⟨rfl, hb2⟩
         obtain ⟨y0, y1, y2, y3, y4, y5, y6, y7, y8, y9⟩ := (HA.out.2.2.1.below hb2).cells
         obtain ⟨s0, s1, s2, s3, s4, s5⟩ := HC.out w2 ((hb2.block g3 HA.out.2.1).trans HA.out.1)
         simp only at y0 y1 y2 y3 y4 y5 y6 y7 y8 y9
         have HB2 : Hid (Below w.heap.size w w2) := HA.out.2.2.2.trans (hb2.mono HA.out.2.2.2.size)
         clear hb2))
    all_goals
      go_ret
      refine ⟨ret_bool ?_, by first | exact HB2.out | exact HB.out⟩
      rw [HR.out]
      clear HR HC HA HNN HV HS
      simp only [bw]
      first | (simp_all; done) | (simp_all; omega)
end Go.Proofs.YtemldmjpanmdbaaGreatDoor
