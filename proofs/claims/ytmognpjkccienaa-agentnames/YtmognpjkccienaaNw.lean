/- AgentNames, walked. -/
import Derived.Test.YtmognpjkccienaaAl
namespace Go.Proofs.Ytmognpjkccienaa
open Go.RowKit
set_option linter.unusedVariables false
set_option maxRecDepth 8000

theorem n_state {w : World} {A : Nat → Prop} {a : Nat} (H : Aw w A a (newS 1)) : Calls Try.prog 5 #[cp a, .agg #[.int .i64 1, .int .i64 0, .int .i64 0, .complex .f64 0 0]] w fun e w' => e = .returned (.tuple #[.slice none 0 0, anV 171 z2 false]) ∧ Below w.heap.size w w' := by
  obtain ⟨c, pq, ko, kc, h⟩ := H
  exact do_state h ⟨1, 0, 0, z2⟩ (fun W => isPlace_rw ⟨1, 0, 0, z2⟩ (.inl rfl) (by decide) (by decide) W) (by decide)
theorem n_place {w : World} {A : Nat → Prop} {a : Nat} (H : Aw w A a (newS 1)) : Calls Try.prog 5 #[cp a, .agg #[.int .i64 5, .int .i64 0, .int .i64 0, .complex .f64 0 0]] w fun e w' => e = .returned (.tuple #[.slice none 0 0, anV 172 z2 false]) ∧ Below w.heap.size w w' := by
  obtain ⟨c, pq, ko, kc, h⟩ := H
  exact do_place h ⟨5, 0, 0, z2⟩ (fun W => isPlace_k ⟨5, 0, 0, z2⟩ (by decide) (by decide) W)
theorem n_txn {w : World} {A : Nat → Prop} {a : Nat} (H : Aw w A a (newS 1)) : Calls Try.prog 7 #[cp a] w fun e w' => e = .returned (.int .i64 0) ∧ w' = w := by
  obtain ⟨c, pq, ko, kc, h⟩ := H
  exact txn_any h

set_option maxHeartbeats 3200000 in
theorem names_walk (w : World) : Calls Try.prog 3 #[] w fun e w' => e = .returned (.bool true) ∧ Below w.heap.size w w' := by
  have hst := fun (ad : Addr) (re im : Nat) (W : World) => run_store Try.prog W ad (.complex .f64 re im) .plain rfl
  have HN : Hid (Calls Try.prog 4 #[.int .i64 1] w fun e w' => ∃ a A, e = .returned (cp a) ∧ Hid (Aw w' A a (newS 1) ∧ Below w.heap.size w w')) := by
    refine (new_agent 1 w).mono ?_
    rintro e w' ⟨a, A, rfl, h1, h2, h3⟩
    exact ⟨a, A, rfl, h1, h3⟩
  go_enter Try.func3, Try.ntmps3
  go_upto_region 3 with (first
    | (go_at_call 4; refine HN.out.mono ?_; rintro e W1 ⟨a, A1, rfl, H1⟩)
    | fail)
  clear HN
  have HC : Hid (Calls Try.prog 5 #[cp a, .agg #[.int .i64 1, .int .i64 0, .int .i64 0, .complex .f64 0 0]] W1 fun e w' => e = .returned (.tuple #[.slice none 0 0, anV 171 z2 false]) ∧ Hid (Below W1.heap.size W1 w')) := by
    refine (n_state H1.out.1).mono ?_
    rintro e w' ⟨rfl, hb⟩
    exact ⟨rfl, hb⟩
  go_upto_region 4 with (first
    | (go_at_call 5; refine HC.out.mono ?_; rintro e W2 ⟨rfl, HB2⟩)
    | fail)
  clear HC
  have H3 : Hid (Below W1.heap.size W1 (W2.alloc (anO 171 (0, 0) false)) ∧ (W2.alloc (anO 171 (0, 0) false)).heap[W2.heap.size]? = some (anO 171 (0, 0) false)) := ⟨below_step HB2.out ((Below.refl _ _).alloc (Nat.le_refl _) _), heap_alloc_new W2 _⟩
  show Code.wp _ _ _ _ (W2.alloc (anO 171 (0, 0) false))
  obtain ⟨g4, hg4⟩ : ∃ g, W2.heap.size = g := ⟨_, rfl⟩
  rw [hg4] at H3 ⊢
  clear hg4 HB2
  generalize W2.alloc (anO 171 (0, 0) false) = W3 at *
  have HC : Hid (Calls Try.prog 5 #[cp a, .agg #[.int .i64 5, .int .i64 0, .int .i64 0, .complex .f64 0 0]] W3 fun e w' => e = .returned (.tuple #[.slice none 0 0, anV 172 z2 false]) ∧ Hid (Below W3.heap.size W3 w')) := by
    refine (n_place (H1.out.1.below H3.out.1)).mono ?_
    rintro e w' ⟨rfl, hb⟩
    exact ⟨rfl, hb⟩
  go_upto_region 5 with (first
    | (go_at_call 5; refine HC.out.mono ?_; rintro e W4 ⟨rfl, HB4⟩)
    | fail)
  clear HC
  have H5 : Hid (Below W3.heap.size W3 (W4.alloc (anO 172 (0, 0) false)) ∧ (W4.alloc (anO 172 (0, 0) false)).heap[W4.heap.size]? = some (anO 172 (0, 0) false)) := ⟨below_step HB4.out ((Below.refl _ _).alloc (Nat.le_refl _) _), heap_alloc_new W4 _⟩
  show Code.wp _ _ _ _ (W4.alloc (anO 172 (0, 0) false))
  obtain ⟨g6, hg6⟩ : ∃ g, W4.heap.size = g := ⟨_, rfl⟩
  rw [hg6] at H5 ⊢
  clear hg6 HB4
  generalize W4.alloc (anO 172 (0, 0) false) = W5 at *
  have HL : Hid (Calls Try.prog 6 #[] W5 fun e w' => e = .returned (.bool true) ∧ w'.cell? ⟨g4, 0, none⟩ = some (.int .i64 171) ∧ w'.cell? ⟨g6, 0, none⟩ = some (.int .i64 172) ∧ Hid (Below w.heap.size w w' ∧ Calls Try.prog 7 #[cp a] w' fun e w2 => e = .returned (.int .i64 0) ∧ w2 = w')) := by
    refine (alive_any W5).mono ?_
    rintro e w' ⟨rfl, hb⟩
    have h4 : W5.heap[g4]? = some (anO 171 (0, 0) false) := (H5.out.1.block g4 (Array.getElem?_eq_some_iff.1 H3.out.2).1).trans H3.out.2
    refine ⟨rfl, (an_cells ((hb.block g4 (Array.getElem?_eq_some_iff.1 h4).1).trans h4)).1, (an_cells ((hb.block g6 (Array.getElem?_eq_some_iff.1 H5.out.2).1).trans H5.out.2)).1, ?_, ?_⟩
    · exact below_step (below_step (below_step H1.out.2 H3.out.1) H5.out.1) hb
    · exact n_txn (((H1.out.1.below H3.out.1).below H5.out.1).below hb)
  go_wp2_with (first
    | (go_at_call 6; refine HL.out.mono ?_; rintro e W6 ⟨rfl, hc4, hc6, H6⟩)
    | (go_at_call 7; refine H6.out.2.mono ?_; rintro e W7 ⟨rfl, hw⟩; subst W7)
    | fail)
  go_ret
  exact ⟨rfl, H6.out.1⟩

end Go.Proofs.Ytmognpjkccienaa
