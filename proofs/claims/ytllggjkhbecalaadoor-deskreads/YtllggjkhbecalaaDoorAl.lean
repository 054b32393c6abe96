/- The chapter's example, walked. -/
import Derived.Test.YtllggjkhbecalaaDoorD9
import Derived.Test.YtllggjkhbecalaaDoorDe
namespace Go.Proofs.YtllggjkhbecalaaDoor
open Go.RowKit Go.Maps
set_option linter.unusedVariables false
set_option maxRecDepth 8000

theorem in_small {x : Int} (h : 0 ≤ x ∧ x < 100) : inR x := by unfold inR; omega

theorem new_alone (w : World) (hT : Wai.Tz w) : Calls Tryd.prog 5 #[] w fun e w' => ∃ d g q, e = .returned (dp d) ∧ Hid (Da w.heap.size w' d g q S0 0 ∧ Below w.heap.size w w') := by
  refine (new_desk w).mono ?_
  rintro e w' ⟨d, g, q, rfl, h1, h2⟩
  exact ⟨d, g, q, rfl, ⟨h1, hT.on h2, hT.lt⟩, h2⟩

set_option maxHeartbeats 12800000 in
theorem alive_any (w : World) (hT : Wai.Tz w) : Calls Tryd.prog 8 #[] w fun e w' => e = .returned (.bool true) ∧ Below w.heap.size w w' := by
  have hst := fun (ad : Addr) (re im : Nat) (W : World) => run_store Tryd.prog W ad (.complex .f64 re im) .plain rfl
  have HT : Hid (Wai.Tz w) := hT
  clear hT
  go_enter Tryd.func8, Tryd.ntmps8
  go_upto_region 5 with (first
    | (go_at_call 5; (with_reducible refine (new_alone w HT.out).mono ?_); rintro e w1 ⟨d, g, q, rfl, HK1⟩)
    | (go_at_call 7; (with_reducible refine (ask_any false 0 rfl w1).mono ?_); rintro e w2 ⟨rfl, hb2⟩; have HK2 : Hid (Da w.heap.size w2 d g q _ 0 ∧ Below w.heap.size w w2) := ⟨HK1.out.1.below hb2, HK1.out.2.trans (hb2.mono HK1.out.1.dk.hB)⟩; clear hb2)
    | (go_at_call 6; (with_reducible refine (hand_go HK2.out.1 (by omega) 0 0 1 2 0 0 false (in_small (by omega)) (in_small (by omega)) (in_small (by omega)) S1 _ ex1 1 rfl).mono ?_); rintro e w3 ⟨a3, c3, rfl, HA3, -, HB3⟩; have HK3 : Hid (Da w.heap.size w3 d g q S1 700 ∧ Below w.heap.size w w3) := ⟨HA3.out, HK2.out.2.trans HB3.out⟩)
    | (go_at_call 7; (with_reducible refine (ask_any false 0 rfl w3).mono ?_); rintro e w4 ⟨rfl, hb4⟩; have HK4 : Hid (Da w.heap.size w4 d g q _ 700 ∧ Below w.heap.size w w4) := ⟨HK3.out.1.below hb4, HK3.out.2.trans (hb4.mono HK3.out.1.dk.hB)⟩; clear hb4)
    | (go_at_call 6; (with_reducible refine (hand_go HK4.out.1 (by omega) 1 0 1 2 0 0 false (in_small (by omega)) (in_small (by omega)) (in_small (by omega)) S2 _ ex2 1 rfl).mono ?_); rintro e w5 ⟨a5, c5, rfl, HA5, -, HB5⟩; have HK5 : Hid (Da w.heap.size w5 d g q S2 1400 ∧ Below w.heap.size w w5) := ⟨HA5.out, HK4.out.2.trans HB5.out⟩)
    | (go_at_call 7; (with_reducible refine (ask_any true 1 rfl w5).mono ?_); rintro e w6 ⟨rfl, hb6⟩; have HK6 : Hid (Da w.heap.size w6 d g q _ 1400 ∧ Below w.heap.size w w6) := ⟨HK5.out.1.below hb6, HK5.out.2.trans (hb6.mono HK5.out.1.dk.hB)⟩; clear hb6)
    | (go_at_call 6; (with_reducible refine (hand_go HK6.out.1 (by omega) 0 1 1 2 0 0 false (in_small (by omega)) (in_small (by omega)) (in_small (by omega)) S3 _ ex3 1 rfl).mono ?_); rintro e w7 ⟨a7, c7, rfl, HA7, -, HB7⟩; have HK7 : Hid (Da w.heap.size w7 d g q S3 2100 ∧ Below w.heap.size w w7) := ⟨HA7.out, HK6.out.2.trans HB7.out⟩)
    | (go_at_call 7; (with_reducible refine (ask_any true 1 rfl w7).mono ?_); rintro e w8 ⟨rfl, hb8⟩; have HK8 : Hid (Da w.heap.size w8 d g q _ 2100 ∧ Below w.heap.size w w8) := ⟨HK7.out.1.below hb8, HK7.out.2.trans (hb8.mono HK7.out.1.dk.hB)⟩; clear hb8)
    | (go_at_call 6; (with_reducible refine (hand_go HK8.out.1 (by omega) 1 1 1 2 0 0 false (in_small (by omega)) (in_small (by omega)) (in_small (by omega)) S4 _ ex4 0 rfl).mono ?_); rintro e w9 ⟨a9, c9, rfl, HA9, -, HB9⟩; have HK9 : Hid (Da w.heap.size w9 d g q S4 2800 ∧ Below w.heap.size w w9) := ⟨HA9.out, HK8.out.2.trans HB9.out⟩)
    | (go_at_call 6; (with_reducible refine (hand_go HK9.out.1 (by omega) 1 4 1 2 0 0 true (in_small (by omega)) (in_small (by omega)) (in_small (by omega)) S5 _ ex5 1 rfl).mono ?_); rintro e w10 ⟨a10, c10, rfl, HA10, HO10, HB10⟩; have HK10 : Hid (Da w.heap.size w10 d g q S5 3500 ∧ Below w.heap.size w w10) := ⟨HA10.out, HK9.out.2.trans HB10.out⟩)
    | fail)
  obtain ⟨bl, rfl, hc1, l0, l1, l5, l6⟩ := HO10.out.one
  simp only at l0 l1 l5 l6
  go_upto_region 8 with (first
    | (go_at_call 6; (with_reducible refine (hand_go HK10.out.1 (by omega) 1 3 1 0 4 0 false (in_small (by omega)) (in_small (by omega)) (in_small (by omega)) S6 _ ex6 1 rfl).mono ?_); rintro e w11 ⟨a11, c11, rfl, HA11, HO11, HB11⟩; have HK11 : Hid (Da w.heap.size w11 d g q S6 4200 ∧ Below w.heap.size w w11) := ⟨HA11.out, HK10.out.2.trans HB11.out⟩)
    | fail)
  obtain ⟨bm, rfl, hc2, m0, m1, m5, m6⟩ := HO11.out.one
  simp only at m0 m1 m5 m6
  have hc0 := HK11.out.1.dk.c0
  have HT1 : Hid (Calls Tryd.prog 20 #[Tab.tp g, .int .i64 0, .int .i64 1] w11 fun e w' => e = .returned (.int .i64 4) ∧ w' = w11) := Tab.own_is w11 g S6.T HK11.out.1.dk.tb 0 1 4 (by kernel_rfl)
  have HT2 : Hid (Calls Tryd.prog 21 #[Tab.tp g, .int .i64 1, .int .i64 1] w11 fun e w' => e = .returned (.int .i64 11) ∧ w' = w11) := Tab.copies_is w11 g S6.T HK11.out.1.dk.tb 1 1 11 (by kernel_rfl)
  go_wp2_with (first
    | (go_at_call 20; refine HT1.out.mono ?_; rintro e w' ⟨rfl, hw⟩; subst w')
    | (go_at_call 21; refine HT2.out.mono ?_; rintro e w' ⟨rfl, hw⟩; subst w')
    | fail)
  go_ret
  exact ⟨rfl, HK11.out.2⟩

end Go.Proofs.YtllggjkhbecalaaDoor
