/- DeskNames, walked. -/
import Derived.Test.YtllggjkhbecalaaDoorAl
namespace Go.Proofs.YtllggjkhbecalaaDoor
open Go.RowKit Go.Maps
set_option linter.unusedVariables false
set_option maxRecDepth 8000

set_option maxHeartbeats 800000 in
theorem names_walk (w : World) (H : Wai.Tz w) : Calls Tryd.prog 3 #[] w fun e w' => e = .returned (.bool true) ∧ Below w.heap.size w w' := by
  have hst := fun (ad : Addr) (re im : Nat) (W : World) => run_store Tryd.prog W ad (.complex .f64 re im) .plain rfl
  have HT : Hid (Wai.Tz w) := H
  clear H
  go_enter Tryd.func3, Tryd.ntmps3
  go_upto_region 3 with (first
    | (go_at_call 5; (with_reducible refine (new_alone w HT.out).mono ?_); rintro e w1 ⟨d, g, q, rfl, HK1⟩)
    | (go_at_call 7; (with_reducible refine (ask_any true 1 rfl w1).mono ?_); rintro e w2 ⟨rfl, hb2⟩; have HK2 : Hid (Da w.heap.size w2 d g q S0 0 ∧ Below w.heap.size w w2) := ⟨HK1.out.1.below hb2, HK1.out.2.trans (hb2.mono HK1.out.1.dk.hB)⟩; clear hb2)
    | (go_at_call 6; (with_reducible refine (hand_go HK2.out.1 (by omega) 3 1 1 2 0 0 false (in_small (by omega)) (in_small (by omega)) (in_small (by omega)) S7 _ ex7 1 rfl).mono ?_); rintro e w3 ⟨a3, c3, rfl, HA3, HO3, HB3⟩; have HK3 : Hid (Da w.heap.size w3 d g q S7 700 ∧ Below w.heap.size w w3) := ⟨HA3.out, HK2.out.2.trans HB3.out⟩)
    | fail)
  obtain ⟨bl, rfl, hc1, -, -, -, -⟩ := HO3.out.one
  have HO : Hid (∀ (U : World) (x : Pu) (u : Bool), Below w3.heap.size w3 U → owsB S7.T 3 [x] = u → Calls Tryd.prog 9 #[dp d, .int .i64 3, .slice (some ⟨U.heap.size, 0, none⟩) 1 1] (U.alloc (puO x)) fun e w' => e = .returned (.bool u) ∧ Below w3.heap.size w3 w') := fun U x u hU hu => by
    have hbA : Below U.heap.size U (U.alloc (puO x)) := (Below.refl _ _).alloc (Nat.le_refl _) _
    refine (owns_any (HK3.out.1.below (below_step hU hbA)).dk 3 _ 1 1 [x] (RdR.built puE U 37 _ [x] rfl 1 rfl (by simp [maxLen])) rfl (by omega)).mono ?_
    rw [hu]
    rintro e w' ⟨rfl, h⟩
    exact ⟨rfl, below_step (below_step hU hbA) h⟩
  have HWa : Hid (∀ U : World, Below w3.heap.size w3 U → Calls Tryd.prog 10 #[dp d] U fun e w' => ∃ a c, e = .returned (.slice a 0 c) ∧ Below w3.heap.size w3 w') := fun U hU => by
    refine (wants_any (HK3.out.1.below hU).dk).mono ?_
    rintro e w' ⟨a, c, rfl, -, -, h⟩
    exact ⟨a, c, rfl, below_step hU h⟩
  have HEd : Hid (∀ U : World, Below w3.heap.size w3 U → Calls Tryd.prog 11 #[dp d] U fun e w' => ∃ a c, e = .returned (.slice a 0 c) ∧ Below w3.heap.size w3 w') := fun U hU => by
    refine (edges_any (HK3.out.1.below hU).dk).mono ?_
    rintro e w' ⟨a, c, rfl, -, h⟩
    exact ⟨a, c, by rw [show (edg S7).length = 0 from by kernel_rfl], below_step hU h⟩
  have HO1 : Hid (∀ U : World, Below w3.heap.size w3 U → Calls Tryd.prog 9 #[dp d, .int .i64 3, .slice (some ⟨U.heap.size, 0, none⟩) 1 1] (U.alloc (.cells #[.int .i64 1, .int .i64 0, .complex .f64 0 0] 37)) fun e w' => e = .returned (.bool true) ∧ Below w3.heap.size w3 w') := fun U hU => HO.out U ⟨1, 0, 0, 0⟩ true hU (by kernel_rfl)
  have HO2 : Hid (∀ U : World, Below w3.heap.size w3 U → Calls Tryd.prog 9 #[dp d, .int .i64 3, .slice (some ⟨U.heap.size, 0, none⟩) 1 1] (U.alloc (.cells #[.int .i64 2, .int .i64 0, .complex .f64 0 0] 37)) fun e w' => e = .returned (.bool false) ∧ Below w3.heap.size w3 w') := fun U hU => HO.out U ⟨2, 0, 0, 0⟩ false hU (by kernel_rfl)
  clear HO
  go_wp2_with (first
    | (go_at_call 8; ((with_reducible refine (alive_any w3 HK3.out.1.tz).mono ?_); rintro e w4 ⟨rfl, hb4⟩; obtain ⟨b', e', hc', l0, l1, l5, l6⟩ := (HO3.out.below hb4).one; obtain rfl : bl = b' := (by simpa using e'); simp only at l0 l1 l5 l6))
    | (go_at_call 9; (with_reducible refine (HO1.out w4 hb4).mono ?_); rintro e w5 ⟨rfl, hb5⟩)
    | (go_at_call 9; (with_reducible refine (HO2.out w5 hb5).mono ?_); rintro e w6 ⟨rfl, hb6⟩)
    | (go_at_call 10; (with_reducible refine (HWa.out w6 hb6).mono ?_); rintro e w7 ⟨a7, c7, rfl, hb7⟩)
    | (go_at_call 11; (with_reducible refine (HEd.out w7 hb7).mono ?_); rintro e w8 ⟨a8, c8, rfl, hb8⟩)
    | fail)
  go_ret
  exact ⟨rfl, HK3.out.2.trans (hb8.mono HK3.out.2.size)⟩

end Go.Proofs.YtllggjkhbecalaaDoor
