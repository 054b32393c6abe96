/- Got of package agent, walked: a call, and a grant that was waited for. -/
import Derived.Test.YtmognpjkccienaaB4
namespace Go.Proofs.Ytmognpjkccienaa
open Go.RowKit
set_option linter.unusedVariables false
set_option maxRecDepth 8000

/-- Back to who called, with one message that is built last. -/
theorem one_close {w W W2 V : World} {A : Nat → Prop} {a : Nat} {s2 : As} {g : Nat} (M : Mg) (hlt : ∀ k, A k → k < w.heap.size) (hb : Below w.heap.size w W) (hg : w.heap.size ≤ g ∧ g < W.heap.size) (hn : Ng W W2 A a s2 Rn) (hV : OffS (fun k => k = g) W2 V) (hs : V.heap.size = W2.heap.size) :
    w.heap.size ≤ W2.heap.size ∧ RdR mgC (V.alloc (.cells #[.int .i64 M.k, .int .i64 M.p, .int .i64 M.o, .int .i64 M.t, .int .i64 M.c, .int .i64 M.n, .bool M.wr, .slice none 0 0, .complex .f64 M.v0.1 M.v0.2, .complex .f64 M.v1.1 M.v1.2, .complex .f64 M.v2.1 M.v2.2, .complex .f64 M.v3.1 M.v3.2] 50)) (some ⟨W2.heap.size, 0, none⟩) 1 [M] ∧ Ng w (V.alloc (.cells #[.int .i64 M.k, .int .i64 M.p, .int .i64 M.o, .int .i64 M.t, .int .i64 M.c, .int .i64 M.n, .bool M.wr, .slice none 0 0, .complex .f64 M.v0.1 M.v0.2, .complex .f64 M.v1.1 M.v1.2, .complex .f64 M.v2.1 M.v2.2, .complex .f64 M.v3.1 M.v3.2] 50)) A a s2 (Ro (some ⟨W2.heap.size, 0, none⟩)) := by
  have hb2 : Below V.heap.size V (V.alloc (.cells #[.int .i64 M.k, .int .i64 M.p, .int .i64 M.o, .int .i64 M.t, .int .i64 M.c, .int .i64 M.n, .bool M.wr, .slice none 0 0, .complex .f64 M.v0.1 M.v0.2, .complex .f64 M.v1.1 M.v1.2, .complex .f64 M.v2.1 M.v2.2, .complex .f64 M.v3.1 M.v3.2] 50)) := (Below.refl _ _).alloc (Nat.le_refl _) _
  have h1 := hn.size
  have h2 := hb.size
  refine ⟨by omega, hs ▸ RdR.built mgE V 50 _ [M] rfl 1 rfl (by decide), ?_⟩
  have h3 : Ng w V A a s2 Rn := Ng.put hlt hb hn (hV.mono fun k hk => by have e : k = g := hk; show w.heap.size ≤ k ∧ k < W.heap.size; omega)
  have h4 := h3.later hb2
  obtain ⟨A', h5, h6⟩ := h3.ag
  refine ⟨⟨A', fun k hk => ⟨(h5 k hk).1, ?_⟩, h6.below hb2⟩, h4.off⟩
  rintro ⟨p, hp, e⟩
  cases hp
  have := h6.lt k hk
  have e' : W2.heap.size = k := e
  omega

/-- What is sent for a call. -/
theorem got_call {w : World} {A : Nat → Prop} {a c : Nat} {pq ko : Option Addr} {kc : Nat} {s : As} (H : Ag w A a c pq ko kc s) (M : Mg) (hps : M.ps = []) (hr : Msg.rightB M = true) (hk : M.k = 6) (R : Mg) (s2 : As) (H25 : ∀ W, Below w.heap.size w W → Calls Try.prog 25 #[cp a, mgV M] W fun e w' => e = .returned (mgV R) ∧ Ng W w' A a s2 Rn) : Calls Try.prog 15 #[cp a, mgV M] w fun e w' => ∃ b, e = .returned (.tuple #[.slice (some ⟨b, 0, none⟩) 1 1, anV 0 z2 false, .bool false]) ∧ w.heap.size ≤ b ∧ RdR mgC w' (some ⟨b, 0, none⟩) 1 [R] ∧ Ng w w' A a s2 (Ro (some ⟨b, 0, none⟩)) := by
  have hst := fun (ad : Addr) (re im : Nat) (W : World) => run_store Try.prog W ad (.complex .f64 re im) .plain rfl
  obtain ⟨mk, mp, mo, mt, mc, mn, wr, ps, v0, v1, v2, v3⟩ := M
  simp only at hk
  subst hk
  have HW : Hid _ := al2n w (mgO ⟨6, mp, mo, mt, mc, mn, wr, ps, v0, v1, v2, v3⟩) anZ
  have HA : Hid (Ag w A a c pq ko kc s ∧ ps = [] ∧ Msg.rightB ⟨6, mp, mo, mt, mc, mn, wr, ps, v0, v1, v2, v3⟩ = true ∧ (∀ W, Below w.heap.size w W → Calls Try.prog 25 #[cp a, mgV ⟨6, mp, mo, mt, mc, mn, wr, ps, v0, v1, v2, v3⟩] W fun e w' => e = .returned (mgV R) ∧ Ng W w' A a s2 Rn)) := ⟨H, hps, hr, H25⟩
  clear H hps hr H25
  go_enter Try.func15, Try.ntmps15
  go_upto_region 1 with fail
  show Code.wp _ _ _ _ ((w.alloc (mgO ⟨6, mp, mo, mt, mc, mn, wr, ps, v0, v1, v2, v3⟩)).alloc anZ)
  generalize (w.alloc (mgO ⟨6, mp, mo, mt, mc, mn, wr, ps, v0, v1, v2, v3⟩)).alloc anZ = W at *
  obtain ⟨g3, hg3⟩ : ∃ g, w.heap.size = g := ⟨_, rfl⟩
  obtain ⟨g4, hg4⟩ : ∃ g, w.heap.size + 1 = g := ⟨_, rfl⟩
  have HG : Hid (w.heap.size = g3 ∧ w.heap.size + 1 = g4 ∧ Below w.heap.size w W ∧ g4 < W.heap.size) := ⟨hg3, hg4, HW.out.2.2, (Array.getElem?_eq_some_iff.1 (hg4 ▸ HW.out.2.1)).1⟩
  have HL : Hid (W.heap[g3]? = some (mgO ⟨6, mp, mo, mt, mc, mn, wr, ps, v0, v1, v2, v3⟩) ∧ W.heap[g4]? = some anZ) := ⟨hg3 ▸ HW.out.1, hg4 ▸ HW.out.2.1⟩
  rw [hg4, hg3]
  clear hg3 hg4 HW
  obtain ⟨y0, y1, y2, y3, y4, y5, y6, y7, y8, y9, yA, yB⟩ := mg_cells HL.out.1
  have HR : Hid (Calls Try.prog 24 #[mgV ⟨6, mp, mo, mt, mc, mn, wr, ps, v0, v1, v2, v3⟩] W fun e w' => e = .returned (.bool true) ∧ Hid (Below W.heap.size W w')) := by
    refine (Msg.right_any ⟨6, mp, mo, mt, mc, mn, wr, ps, v0, v1, v2, v3⟩ none 0 0 W (by rw [HA.out.2.1]; exact Msg.RdP.none _) (by decide)).mono ?_
    rintro e w' ⟨rfl, hb⟩
    exact ⟨by rw [HA.out.2.2.1], hb⟩
  go_upto_region 3 with (first
    | (go_at_call 24; refine HR.out.mono ?_; rintro e W1 ⟨rfl, HB1⟩)
    | fail)
  clear y0 y1 y2 y3 y4 y5 y6 y7 y8 y9 yA yB HR
  have HL1 : Hid (W1.heap[g3]? = some (mgO ⟨6, mp, mo, mt, mc, mn, wr, ps, v0, v1, v2, v3⟩) ∧ W1.heap[g4]? = some anZ ∧ Below w.heap.size w W1 ∧ g4 < W1.heap.size) := ⟨(HB1.out.block g3 (by have := HG.out; omega)).trans HL.out.1, (HB1.out.block g4 HG.out.2.2.2).trans HL.out.2, below_step HG.out.2.2.1 HB1.out, by have := HG.out.2.2.2; have := HB1.out.size; omega⟩
  clear HL
  obtain ⟨y0, y1, y2, y3, y4, y5, y6, y7, y8, y9, yA, yB⟩ := mg_cells HL1.out.1
  simp only at y0 y1 y2 y3 y4 y5 y6 y8 y9 yA yB
  have HC : Hid (Calls Try.prog 25 #[cp a, mgV ⟨6, mp, mo, mt, mc, mn, wr, ps, v0, v1, v2, v3⟩] W1 fun e w' => e = .returned (mgV R) ∧ w'.heap[g4]? = some anZ ∧ Hid (Ng W1 w' A a s2 Rn)) := by
    refine (HA.out.2.2.2 W1 HL1.out.2.2.1).mono ?_
    rintro e w' ⟨rfl, hn⟩
    exact ⟨rfl, hn.loc (fun e => by have := HA.out.1.lt g4 e; have := HG.out; omega) HL1.out.2.1, hn⟩
  go_wp2_with (first
    | (go_at_call 25; refine HC.out.mono ?_; rintro e W2 ⟨rfl, h4, HN⟩; obtain ⟨z0, z1, z2⟩ := an_cells h4; have zf := an_fz h4; have hl4 := (Array.getElem?_eq_some_iff.1 h4).1; clear h4)
    | fail)
  refine bodyPost_ret (by simp [results, Try.results15, go_sem, z0, z1, z2, hl4]; try rfl) rfl ?_
  refine ⟨W2.heap.size, rfl, one_close (g := g4) R HA.out.1.lt HL1.out.2.2.1 ?_ HN.out ?_ (by simp)⟩
  · have := HG.out
    have := HL1.out.2.2.2
    omega
  · repeat (first | (with_reducible exact OffS.refl _ _) | (with_reducible refine OffS.setCell (A := fun k => k = g4) ?_ rfl _))

set_option maxHeartbeats 6400000 in
theorem got_grant {w : World} {A : Nat → Prop} {a c : Nat} {pq ko : Option Addr} {kc : Nat} {s : As} (H : Ag w A a c pq ko kc s) (M : Mg) (hps : M.ps = []) (hr : Msg.rightB M = true) (hk : M.k = 5) (x : Og) (hq : s.q = some x) (hxk : x.k = 1) (hxp : x.p = M.p) (gv : Nat × Nat) (s2 : As) (H27 : ∀ W, Below w.heap.size w W → Calls Try.prog 27 #[cp a, mgV M] W fun e w' => e = .returned (.tuple #[.slice none 0 0, anV 0 gv false]) ∧ Ng W w' A a s2 Rn) : Calls Try.prog 15 #[cp a, mgV M] w fun e w' => e = .returned (.tuple #[.slice none 0 0, anV 0 gv false, .bool true]) ∧ Ng w w' A a s2 Rn := by
  have hst := fun (ad : Addr) (re im : Nat) (W : World) => run_store Try.prog W ad (.complex .f64 re im) .plain rfl
  obtain ⟨mk, mp, mo, mt, mc, mn, wr, ps, v0, v1, v2, v3⟩ := M
  simp only at hk hxp
  subst hk
  have HW : Hid _ := al2n w (mgO ⟨5, mp, mo, mt, mc, mn, wr, ps, v0, v1, v2, v3⟩) anZ
  have HA : Hid (Ag w A a c pq ko kc s ∧ ps = [] ∧ Msg.rightB ⟨5, mp, mo, mt, mc, mn, wr, ps, v0, v1, v2, v3⟩ = true ∧ (∀ W, Below w.heap.size w W → Calls Try.prog 27 #[cp a, mgV ⟨5, mp, mo, mt, mc, mn, wr, ps, v0, v1, v2, v3⟩] W fun e w' => e = .returned (.tuple #[.slice none 0 0, anV 0 gv false]) ∧ Ng W w' A a s2 Rn) ∧ s.q = some x ∧ x.k = 1 ∧ x.p = mp) := ⟨H, hps, hr, H27, hq, hxk, hxp⟩
  clear H hps hr H27 hq hxk hxp
  go_enter Try.func15, Try.ntmps15
  go_upto_region 1 with fail
  show Code.wp _ _ _ _ ((w.alloc (mgO ⟨5, mp, mo, mt, mc, mn, wr, ps, v0, v1, v2, v3⟩)).alloc anZ)
  generalize (w.alloc (mgO ⟨5, mp, mo, mt, mc, mn, wr, ps, v0, v1, v2, v3⟩)).alloc anZ = W at *
  obtain ⟨g3, hg3⟩ : ∃ g, w.heap.size = g := ⟨_, rfl⟩
  obtain ⟨g4, hg4⟩ : ∃ g, w.heap.size + 1 = g := ⟨_, rfl⟩
  have HG : Hid (w.heap.size = g3 ∧ w.heap.size + 1 = g4 ∧ Below w.heap.size w W ∧ g4 < W.heap.size) := ⟨hg3, hg4, HW.out.2.2, (Array.getElem?_eq_some_iff.1 (hg4 ▸ HW.out.2.1)).1⟩
  have HL : Hid (W.heap[g3]? = some (mgO ⟨5, mp, mo, mt, mc, mn, wr, ps, v0, v1, v2, v3⟩) ∧ W.heap[g4]? = some anZ) := ⟨hg3 ▸ HW.out.1, hg4 ▸ HW.out.2.1⟩
  rw [hg4, hg3]
  clear hg3 hg4 HW
  obtain ⟨y0, y1, y2, y3, y4, y5, y6, y7, y8, y9, yA, yB⟩ := mg_cells HL.out.1
  have HR : Hid (Calls Try.prog 24 #[mgV ⟨5, mp, mo, mt, mc, mn, wr, ps, v0, v1, v2, v3⟩] W fun e w' => e = .returned (.bool true) ∧ Hid (Below W.heap.size W w')) := by
    refine (Msg.right_any ⟨5, mp, mo, mt, mc, mn, wr, ps, v0, v1, v2, v3⟩ none 0 0 W (by rw [HA.out.2.1]; exact Msg.RdP.none _) (by decide)).mono ?_
    rintro e w' ⟨rfl, hb⟩
    exact ⟨by rw [HA.out.2.2.1], hb⟩
  go_upto_region 3 with (first
    | (go_at_call 24; refine HR.out.mono ?_; rintro e W1 ⟨rfl, HB1⟩)
    | fail)
  clear y0 y1 y2 y3 y4 y5 y6 y7 y8 y9 yA yB HR
  have HL1 : Hid (W1.heap[g3]? = some (mgO ⟨5, mp, mo, mt, mc, mn, wr, ps, v0, v1, v2, v3⟩) ∧ W1.heap[g4]? = some anZ ∧ Below w.heap.size w W1 ∧ g4 < W1.heap.size) := ⟨(HB1.out.block g3 (by have := HG.out; omega)).trans HL.out.1, (HB1.out.block g4 HG.out.2.2.2).trans HL.out.2, below_step HG.out.2.2.1 HB1.out, by have := HG.out.2.2.2; have := HB1.out.size; omega⟩
  clear HL
  obtain ⟨y0, y1, y2, y3, y4, y5, y6, y7, y8, y9, yA, yB⟩ := mg_cells HL1.out.1
  simp only at y0 y1 y2 y3 y4 y5 y6 y8 y9 yA yB
  go_upto_region 7 with fail
  obtain ⟨qb, hqb, hqh⟩ : ∃ g, pq = some ⟨g, 0, none⟩ ∧ W1.heap[g]? = some (opO x) := by
    rcases (HA.out.1.below HL1.out.2.2.1).q with ⟨e1, _⟩ | ⟨g, o', e1, e2, e3⟩
    · rw [HA.out.2.2.2.2.1] at e1; cases e1
    · rw [HA.out.2.2.2.2.1] at e1
      cases e1
      exact ⟨g, e2, e3⟩
  have HN : Hid (∀ U, Below W1.heap.size W1 U → U.cell? ⟨a, 39, none⟩ = some (.pointer (some ⟨qb, 0, none⟩)) ∧ U.cell? ⟨qb, 1, none⟩ = some (.int .i64 mp) ∧ U.cell? ⟨g3, 1, none⟩ = some (.int .i64 mp)) := by
    intro U hU
    have h1 := ((HA.out.1.below HL1.out.2.2.1).below hU).cq
    rw [hqb] at h1
    have h2 := (op_cells ((hU.block qb (Array.getElem?_eq_some_iff.1 hqh).1).trans hqh)).2.1
    rw [HA.out.2.2.2.2.2.2] at h2
    exact ⟨h1, h2, (mg_cells ((hU.block g3 (Array.getElem?_eq_some_iff.1 HL1.out.1).1).trans HL1.out.1)).2.1⟩
  clear hqb hqh y0 y1 y2 y3 y4 y5 y6 y7 y8 y9 yA yB
  have HB2 : Hid (Below W1.heap.size W1 (W1.drew.alloc (.cells #[.int .i64 1, .int .i64 2] 3)) ∧ RdI (W1.drew.alloc (.cells #[.int .i64 1, .int .i64 2] 3)) .i64 (some ⟨W1.drew.heap.size, 0, none⟩) 2 [1, 2]) := ⟨below_step (bel0 W1) ((Below.refl _ _).alloc (Nat.le_refl _) _), RdI.built W1.drew 3 .i64 _ 2 [1, 2] rfl rfl (by decide)⟩
  refine wp_region_held (S := fun U => Below W1.heap.size W1 U) (by kernel_rfl) ?_
  have hS : Below W1.heap.size W1 W1.drew := bel0 W1
  refine held_val (i := 0) ?_ 24 rfl rfl (by kernel_rfl) (by kernel_rfl) (by kernel_rfl) (by rfl) (fun _ _ _ h => h) hS ?_ ?_
  rotate_left
  · (intro w hSw; go_simp; first | done | with_reducible rfl)
  simp only [Act.put, List.setIfInBounds_toArray, List.set_cons_zero, List.set_cons_succ]
  refine held_run (i := 1) 25 (.slice (some ⟨W1.drew.heap.size, 0, none⟩) 2 2) (W1.drew.alloc (.cells #[.int .i64 1, .int .i64 2] 3)) rfl rfl (by kernel_rfl) (by rfl) (by go_simp; first | done | rfl) HB2.out.1 ?_
  simp only [Act.put, List.setIfInBounds_toArray, List.set_cons_zero, List.set_cons_succ]
  generalize W1.drew.heap.size = gz at *
  generalize W1.drew.alloc (.cells #[.int .i64 1, .int .i64 2] 3) = W3 at *
  have HWf : Hid (Calls Try.prog 26 #[cp a, .slice (some ⟨gz, 0, none⟩) 2 2] W3 fun e w' => e = .returned (.bool true) ∧ w' = W3) := by
    refine (waitsFor_some ((HA.out.1.below HL1.out.2.2.1).below HB2.out.1) x HA.out.2.2.2.2.1 (some ⟨gz, 0, none⟩) 2 2 [1, 2] HB2.out.2 rfl (by decide)).mono ?_
    rintro e w' ⟨rfl, rfl⟩
    exact ⟨by rw [HA.out.2.2.2.2.2.1]; rfl, rfl⟩
  refine held_call (i := 2) 26 26 #[cp a, .slice (some ⟨gz, 0, none⟩) 2 2] rfl rfl (by kernel_rfl) (by rfl) (by simp [go_sem]) HWf.out ?_
  rintro e w2 ⟨rfl, rfl⟩
  have hS2 := HB2.out.1
  refine ⟨_, rfl, hS2, ?_⟩
  simp only [Act.put, List.setIfInBounds_toArray, List.set_cons_zero, List.set_cons_succ]
  refine held_val (i := 3) (.bool true) 27 rfl rfl (by kernel_rfl) (by kernel_rfl) (by kernel_rfl) (by rfl) (fun _ _ _ h => h) hS2 ?_ ?_
  · (intro w hSw; go_simp; first | done | with_reducible rfl)
  simp only [Act.put, List.setIfInBounds_toArray, List.set_cons_zero, List.set_cons_succ]
  refine held_val (i := 4) ?_ 28 rfl rfl (by kernel_rfl) (by kernel_rfl) (by kernel_rfl) (by rfl) (fun _ _ _ h => h) hS2 ?_ ?_
  rotate_left
  · (intro w hSw; go_simp; first | done | with_reducible rfl)
  simp only [Act.put, List.setIfInBounds_toArray, List.set_cons_zero, List.set_cons_succ]
  refine held_val (i := 5) ?_ 29 rfl rfl (by kernel_rfl) (by kernel_rfl) (by kernel_rfl) (by rfl) (fun _ _ _ h => h) hS2 ?_ ?_
  rotate_left
  · (intro w hSw; go_simp; first | done | with_reducible rfl)
  simp only [Act.put, List.setIfInBounds_toArray, List.set_cons_zero, List.set_cons_succ]
  refine held_val (i := 6) ?_ 30 rfl rfl (by kernel_rfl) (by kernel_rfl) (by kernel_rfl) (by rfl) (fun _ _ _ h => h) hS2 ?_ ?_
  rotate_left
  · (intro w hSw; go_simp; first | done | with_reducible rfl)
  simp only [Act.put, List.setIfInBounds_toArray, List.set_cons_zero, List.set_cons_succ]
  refine held_val (i := 7) ?_ 31 rfl rfl (by kernel_rfl) (by kernel_rfl) (by kernel_rfl) (by rfl) (fun _ _ _ h => h) hS2 ?_ ?_
  rotate_left
  · (intro w hSw; obtain ⟨k0, k1, k2⟩ := HN.out w hSw; go_simp; first | done | with_reducible rfl)
  simp only [Act.put, List.setIfInBounds_toArray, List.set_cons_zero, List.set_cons_succ]
  refine held_val (i := 8) ?_ 32 rfl rfl (by kernel_rfl) (by kernel_rfl) (by kernel_rfl) (by rfl) (fun _ _ _ h => h) hS2 ?_ ?_
  rotate_left
  · (intro w hSw; go_simp; first | done | with_reducible rfl)
  simp only [Act.put, List.setIfInBounds_toArray, List.set_cons_zero, List.set_cons_succ]
  refine held_val (i := 9) ?_ 33 rfl rfl (by kernel_rfl) (by kernel_rfl) (by kernel_rfl) (by rfl) (fun _ _ _ h => h) hS2 ?_ ?_
  rotate_left
  · (intro w hSw; go_simp; first | done | with_reducible rfl)
  simp only [Act.put, List.setIfInBounds_toArray, List.set_cons_zero, List.set_cons_succ]
  refine held_val (i := 10) ?_ 34 rfl rfl (by kernel_rfl) (by kernel_rfl) (by kernel_rfl) (by rfl) (fun _ _ _ h => h) hS2 ?_ ?_
  rotate_left
  · (intro w hSw; obtain ⟨k0, k1, k2⟩ := HN.out w hSw; go_simp; first | done | with_reducible rfl)
  simp only [Act.put, List.setIfInBounds_toArray, List.set_cons_zero, List.set_cons_succ]
  refine held_val (i := 11) ?_ 35 rfl rfl (by kernel_rfl) (by kernel_rfl) (by kernel_rfl) (by rfl) (fun _ _ _ h => h) hS2 ?_ ?_
  rotate_left
  · (intro w hSw; go_simp; first | done | with_reducible rfl)
  simp only [Act.put, List.setIfInBounds_toArray, List.set_cons_zero, List.set_cons_succ]
  refine held_val (i := 12) ?_ 36 rfl rfl (by kernel_rfl) (by kernel_rfl) (by kernel_rfl) (by rfl) (fun _ _ _ h => h) hS2 ?_ ?_
  rotate_left
  · (intro w hSw; obtain ⟨k0, k1, k2⟩ := HN.out w hSw; go_simp; first | done | with_reducible rfl)
  simp only [Act.put, List.setIfInBounds_toArray, List.set_cons_zero, List.set_cons_succ]
  refine held_val (i := 13) ?_ 37 rfl rfl (by kernel_rfl) (by kernel_rfl) (by kernel_rfl) (by rfl) (fun _ _ _ h => h) hS2 ?_ ?_
  rotate_left
  · (intro w hSw; go_simp; first | done | with_reducible rfl)
  simp only [Act.put, List.setIfInBounds_toArray, List.set_cons_zero, List.set_cons_succ]
  refine held_val (i := 14) (.bool true) 38 rfl rfl (by kernel_rfl) (by kernel_rfl) (by kernel_rfl) (by rfl) (fun _ _ _ h => h) hS2 ?_ ?_
  · (intro w hSw; go_simp; first | done | with_reducible rfl)
  simp only [Act.put, List.setIfInBounds_toArray, List.set_cons_zero, List.set_cons_succ]
  refine wpAnyH_done (by kernel_rfl) ?_ _
  clear hS hS2 HWf
  have HLx : Hid (w2.heap[g3]? = some (mgO ⟨5, mp, mo, mt, mc, mn, wr, ps, v0, v1, v2, v3⟩) ∧ w2.heap[g4]? = some anZ ∧ Below w.heap.size w w2 ∧ g4 < w2.heap.size) := ⟨(HB2.out.1.block g3 (Array.getElem?_eq_some_iff.1 HL1.out.1).1).trans HL1.out.1, (HB2.out.1.block g4 HL1.out.2.2.2).trans HL1.out.2.1, below_step HL1.out.2.2.1 HB2.out.1, Nat.lt_of_lt_of_le HL1.out.2.2.2 HB2.out.1.size⟩
  obtain ⟨y0, y1, y2, y3, y4, y5, y6, y7, y8, y9, yA, yB⟩ := mg_cells HLx.out.1
  simp only at y0 y1 y2 y3 y4 y5 y6 y8 y9 yA yB
  have HC : Hid (Calls Try.prog 27 #[cp a, mgV ⟨5, mp, mo, mt, mc, mn, wr, ps, v0, v1, v2, v3⟩] w2 fun e w' => e = .returned (.tuple #[.slice none 0 0, anV 0 gv false]) ∧ w'.heap[g4]? = some anZ ∧ Hid (Ng w2 w' A a s2 Rn)) := by
    refine (HA.out.2.2.2.1 w2 HLx.out.2.2.1).mono ?_
    rintro e w' ⟨rfl, hn⟩
    exact ⟨rfl, hn.loc (fun e => by have := HA.out.1.lt g4 e; have := HG.out; omega) HLx.out.2.1, hn⟩
  go_upto_region 9 with (first
    | (go_at_call 27; refine HC.out.mono ?_; rintro e W5 ⟨rfl, h4, H5⟩)
    | fail)
  have HY : Hid (Ng w2 (W5.alloc (anO 0 gv false)) A a s2 Rn ∧ (W5.alloc (anO 0 gv false)).heap[W5.heap.size]? = some (anO 0 gv false) ∧ (W5.alloc (anO 0 gv false)).heap[g4]? = some anZ) := by
    have hb : Below W5.heap.size W5 (W5.alloc (anO 0 gv false)) := (Below.refl _ _).alloc (Nat.le_refl _) _
    exact ⟨H5.out.later hb, heap_alloc_new W5 _, (hb.block g4 (Array.getElem?_eq_some_iff.1 h4).1).trans h4⟩
  clear h4 y0 y1 y2 y3 y4 y5 y6 y7 y8 y9 yA yB HC
  show Code.wp _ _ _ _ (W5.alloc (anO 0 gv false))
  obtain ⟨gA, hgA⟩ : ∃ g, W5.heap.size = g := ⟨_, rfl⟩
  rw [hgA] at HY ⊢
  clear hgA
  generalize W5.alloc (anO 0 gv false) = W6 at *
  obtain ⟨z0, z1, z2⟩ := an_cells HY.out.2.2
  have zf := an_fz HY.out.2.2
  obtain ⟨u0, u1, u2⟩ := an_cells HY.out.2.1
  go_region
  go_wp2
  refine bodyPost_ret (by simp [results, Try.results15, go_sem, z0, z1, z2]; try rfl) rfl ?_
  refine ⟨rfl, Ng.put HA.out.1.lt HLx.out.2.2.1 HY.out.1 (OffS.mono (A := fun k => k = g4) ?_ fun k hk => ?_)⟩
  · refine OffS.trans (b := _) ?_ (OffS.of_below (bel0 _))
    repeat (first | (with_reducible exact OffS.refl _ _) | (with_reducible refine OffS.setCell (A := fun k => k = g4) ?_ rfl _))
  · have e : k = g4 := hk
    have := HG.out
    have := HLx.out.2.2.2
    show w.heap.size ≤ k ∧ k < w2.heap.size
    omega

end Go.Proofs.Ytmognpjkccienaa
