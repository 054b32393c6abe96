/- What the document's Grant does with any numbers, walked. -/
import Derived.Test.YtngfcnbcljcdfaaU6
namespace Go.Proofs.Ytngfcnbcljcdfaa
open Go.RowKit
set_option linter.unusedVariables false

set_option maxRecDepth 100000 in
set_option maxHeartbeats 3200000 in
theorem rgrant_any (T : Nat → Nat) (hT : ∀ i, T i < 16) (c p a b : Int) (w : World) : Calls Try.prog 14 #[.agg (rfA T), .int .i64 c, .int .i64 p, .int .i64 a, .int .i64 b] w fun e w' => e = .returned (.tuple #[.agg (rfA (gT T c p a b)), .bool (gOk T c p a b)]) ∧ Below w.heap.size w w' := by
  cases h : argB c p a b
  · have e0 : gOk T c p a b = false := by simp [gOk, h]
    have e1 : gT T c p a b = T := by rw [gT, e0]; rfl
    rw [e1, e0]
    have hz := zero37
    obtain ⟨a0, hA0⟩ : ∃ x, (maB a && a.toNat.testBit 0) = x := ⟨_, rfl⟩
    obtain ⟨a1, hA1⟩ : ∃ x, (maB a && a.toNat.testBit 1) = x := ⟨_, rfl⟩
    obtain ⟨a2, hA2⟩ : ∃ x, (maB a && a.toNat.testBit 2) = x := ⟨_, rfl⟩
    obtain ⟨a3, hA3⟩ : ∃ x, (maB a && a.toNat.testBit 3) = x := ⟨_, rfl⟩
    obtain ⟨b0, hB0⟩ : ∃ x, (maB b && b.toNat.testBit 0) = x := ⟨_, rfl⟩
    obtain ⟨b1, hB1⟩ : ∃ x, (maB b && b.toNat.testBit 1) = x := ⟨_, rfl⟩
    obtain ⟨b2, hB2⟩ : ∃ x, (maB b && b.toNat.testBit 2) = x := ⟨_, rfl⟩
    obtain ⟨b3, hB3⟩ : ∃ x, (maB b && b.toNat.testBit 3) = x := ⟨_, rfl⟩
    have HA : Hid (∀ W, Calls Try.prog 30 #[.int .i64 a] W fun e w' => e = .returned (.tuple #[.agg #[.bool a0, .bool a1, .bool a2, .bool a3], .bool (maB a)]) ∧ Below W.heap.size W w') := fun W => by rw [← hA0, ← hA1, ← hA2, ← hA3]; exact bits_any a W
    have HB : Hid (∀ W, Calls Try.prog 30 #[.int .i64 b] W fun e w' => e = .returned (.tuple #[.agg #[.bool b0, .bool b1, .bool b2, .bool b3], .bool (maB b)]) ∧ Below W.heap.size W w') := fun W => by rw [← hB0, ← hB1, ← hB2, ← hB3]; exact bits_any b W
    clear hA0 hA1 hA2 hA3 hB0 hB1 hB2 hB3 e1 e0
    rcases arg_no h with h1 | ⟨h1, h2⟩ | ⟨h1, h2, h3⟩
    all_goals
      clear h
      go_enter Try.func14, Try.ntmps14
      go_upto_region 4 with (first
        | (go_at_call 31; refine (In_any c p _).mono ?_; rw [h1]; rintro e wx ⟨rfl, hw⟩; subst wx)
        | (go_at_call 30; with_reducible refine (HB.out _).mono ?_; (try rw [h3]); rintro e w4 ⟨rfl, hb4⟩; have HL := Lay.mk' (b0 := b0) (b1 := b1) (b2 := b2) (b3 := b3) hb2 hb4)
        | (go_at_call 30; with_reducible refine (HA.out _).mono ?_; (try rw [h2]); rintro e w2 ⟨rfl, hb2⟩))
      refine wp_region_lit ?_
      refine wpList_load37 rfl _ rfl w.heap.size _ rfl HL.t ?_
      refine wpList_store37 rfl _ _ rfl (w.heap.size + 1) _ _ rfl rfl HL.z ?_
      intro w9 hR9 ho9
      clear hz
      go_wp2
      have hl9 := loadV37 hR9
      refine bodyPost_ret (results_cell2 Try.results14 (by rfl) (by rfl) hl9) (by rfl) ?_
      exact ⟨rfl, HL.bel.trans (ho9.below (by omega) HL.bel.size)⟩
  · obtain ⟨k, l, x, y, h1, h2, h3, h4, rfl, rfl, rfl, rfl⟩ := arg_yes h
    have e0 : gOk T k l x y = grB T k l x y := by simp [gOk, h]
    exact rgrant_in T hT k l x y h1 h2 h3 h4 w _ _ ⟨e0.symm, by rw [gT, e0]; simp⟩

end Go.Proofs.Ytngfcnbcljcdfaa
