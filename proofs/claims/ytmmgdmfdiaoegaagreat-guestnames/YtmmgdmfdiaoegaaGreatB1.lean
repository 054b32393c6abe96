/- touch of package agent, walked. -/
import Derived.Test.YtmmgdmfdiaoegaaGreatA9
namespace Go.Proofs.YtmmgdmfdiaoegaaGreat
open Go.RowKit
set_option linter.unusedVariables false
set_option maxRecDepth 8000

/-- Back to who called, with what is sent. -/
theorem sent_close {w W W4 w' : World} {A : Nat → Prop} {a : Nat} {s2 : As} {b : Nat} {Ms : List Mg} {n : Nat} {g : Nat} (hlt : ∀ k, A k → k < w.heap.size) (hb : Below w.heap.size w W) (hg : w.heap.size ≤ g ∧ g < W.heap.size) (hn : Ng W W4 A a s2 (Ro (some ⟨b, 0, none⟩))) (hbW : W.heap.size ≤ b) (hr : RdR mgC W4 (some ⟨b, 0, none⟩) n Ms) (h3 : OffS (fun k => k = g) W4 w') :
    w.heap.size ≤ b ∧ RdR mgC w' (some ⟨b, 0, none⟩) n Ms ∧ Ng w w' A a s2 (Ro (some ⟨b, 0, none⟩)) := by
  have hs := hb.size
  refine ⟨by omega, hr.keep h3.size fun p hp hl => h3.block _ hl ?_, Ng.put hlt hb hn (h3.mono fun k hk => ?_)⟩
  · cases hp
    intro e
    have e' : b = g := e
    omega
  · have e : k = g := hk
    show w.heap.size ≤ k ∧ k < W.heap.size
    omega

set_option maxHeartbeats 3200000 in
theorem touch_miss {w : World} {A : Nat → Prop} {a c : Nat} {pq ko : Option Addr} {kc : Nat} {s : As} (H : Ag w A a c pq ko kc s) (x : Og) (hk : x.k = 1) (H20 : ∀ W, Below w.heap.size w W → Calls Tryz.prog 39 #[cp a, opV x] W fun e w' => e = .returned (.tuple #[anV 0 z2 false, .bool false]) ∧ Below W.heap.size W w') : Calls Tryz.prog 25 #[cp a, opV x] w fun e w' => ∃ b, e = .returned (.tuple #[.slice (some ⟨b, 0, none⟩) 1 1, anV 0 z2 true]) ∧ w.heap.size ≤ b ∧ RdR mgC w' (some ⟨b, 0, none⟩) 1 [⟨0, x.p, x.o, 0, 0, 0, false, [], z2, z2, z2, z2⟩] ∧ Ng w w' A a { s with q := some x } (Ro (some ⟨b, 0, none⟩)) := by
  have hst := fun (ad : Addr) (re im : Nat) (W : World) => run_store Tryz.prog W ad (.complex .f64 re im) .plain rfl
  obtain ⟨xk, xp, xo, xv⟩ := x
  have HW : Hid _ := al2n w (opO ⟨xk, xp, xo, xv⟩) anZ
  simp only at hk
  subst hk
  have HA : Hid (Ag w A a c pq ko kc s ∧ ∀ W, Below w.heap.size w W → Calls Tryz.prog 39 #[cp a, opV ⟨1, xp, xo, xv⟩] W fun e w' => e = .returned (.tuple #[anV 0 z2 false, .bool false]) ∧ Below W.heap.size W w') := ⟨H, H20⟩
  clear H H20
  go_enter Tryz.func25, Tryz.ntmps25
  go_upto_region 1 with fail
  show Code.wp _ _ _ _ ((w.alloc (opO ⟨1, xp, xo, xv⟩)).alloc anZ)
  generalize (w.alloc (opO ⟨1, xp, xo, xv⟩)).alloc anZ = W at *
  obtain ⟨g3, hg3⟩ : ∃ g, w.heap.size = g := ⟨_, rfl⟩
  obtain ⟨g4, hg4⟩ : ∃ g, w.heap.size + 1 = g := ⟨_, rfl⟩
  have HG : Hid (w.heap.size = g3 ∧ w.heap.size + 1 = g4 ∧ Below w.heap.size w W ∧ g4 < W.heap.size) := ⟨hg3, hg4, HW.out.2.2, (Array.getElem?_eq_some_iff.1 (hg4 ▸ HW.out.2.1)).1⟩
  have HL : Hid (W.heap[g3]? = some (opO ⟨1, xp, xo, xv⟩) ∧ W.heap[g4]? = some anZ) := ⟨hg3 ▸ HW.out.1, hg4 ▸ HW.out.2.1⟩
  rw [hg4, hg3]
  clear hg3 hg4 HW
  obtain ⟨y0, y1, y2, y3⟩ := op_cells HL.out.1
  have HT : Hid (Calls Tryz.prog 39 #[cp a, opV ⟨1, xp, xo, xv⟩] W fun e w' => e = .returned (.tuple #[anV 0 z2 false, .bool false]) ∧ Hid (Below W.heap.size W w')) := by
    refine (HA.out.2 W HG.out.2.2.1).mono ?_
    rintro e w' ⟨rfl, hb⟩
    exact ⟨rfl, hb⟩
  go_upto_region 2 with (first
    | (go_at_call 39; refine HT.out.mono ?_; rintro e W1 ⟨rfl, HB1⟩)
    | fail)
  have HB2 : Hid (Below W.heap.size W (W1.alloc anZ)) := below_step HB1.out ((Below.refl _ _).alloc (Nat.le_refl _) _)
  generalize W1.alloc anZ = W2 at *
  have HL2 : Hid (W2.heap[g3]? = some (opO ⟨1, xp, xo, xv⟩) ∧ W2.heap[g4]? = some anZ) := ⟨(HB2.out.block g3 (by have := HG.out; omega)).trans HL.out.1, (HB2.out.block g4 HG.out.2.2.2).trans HL.out.2⟩
  clear y0 y1 y2 y3 HT
  obtain ⟨y0, y1, y2, y3⟩ := op_cells HL2.out.1
  simp only at y0 y1 y2 y3
  go_upto_region 5 with fail
  have HM : Hid ((W2.alloc (mgO ⟨0, xp, xo, 0, 0, 0, false, [], z2, z2, z2, z2⟩)).heap[W2.heap.size]? = some (mgO ⟨0, xp, xo, 0, 0, 0, false, [], z2, z2, z2, z2⟩) ∧ Below W.heap.size W (W2.alloc (mgO ⟨0, xp, xo, 0, 0, 0, false, [], z2, z2, z2, z2⟩))) := ⟨heap_alloc_new W2 _, below_step HB2.out ((Below.refl _ _).alloc (Nat.le_refl _) _)⟩
  obtain ⟨g8, hg8⟩ : ∃ g, W2.heap.size = g := ⟨_, rfl⟩
  rw [hg8] at HM ⊢
  clear hg8
  show Code.wp _ _ _ _ (W2.alloc (mgO ⟨0, xp, xo, 0, 0, 0, false, [], z2, z2, z2, z2⟩))
  generalize W2.alloc (mgO ⟨0, xp, xo, 0, 0, 0, false, [], z2, z2, z2, z2⟩) = W3 at *
  have HL3 : Hid (W3.heap[g3]? = some (opO ⟨1, xp, xo, xv⟩) ∧ W3.heap[g4]? = some anZ) := ⟨(HM.out.2.block g3 (by have := HG.out; omega)).trans HL.out.1, (HM.out.2.block g4 HG.out.2.2.2).trans HL.out.2⟩
  clear y0 y1 y2 y3
  obtain ⟨y0, y1, y2, y3⟩ := op_cells HL3.out.1
  obtain ⟨m0, m1, m2, m3, m4, m5, m6, m7, m8, m9, mA, mB⟩ := mg_cells HM.out.1
  simp only at y0 y1 y2 y3 m0 m1 m2 m3 m4 m5 m6 m8 m9 mA mB
  have HK : Hid (Calls Tryz.prog 26 #[cp a, opV ⟨1, xp, xo, xv⟩, mgV ⟨0, xp, xo, 0, 0, 0, false, [], z2, z2, z2, z2⟩] W3 fun e w' => ∃ b, e = .returned (.tuple #[.slice (some ⟨b, 0, none⟩) 1 1, anV 0 z2 true]) ∧ w'.heap[g4]? = some anZ ∧ Hid (W3.heap.size ≤ b ∧ RdR mgC w' (some ⟨b, 0, none⟩) 1 [⟨0, xp, xo, 0, 0, 0, false, [], z2, z2, z2, z2⟩] ∧ Ng W3 w' A a { s with q := some ⟨1, xp, xo, xv⟩ } (Ro (some ⟨b, 0, none⟩)))) := by
    refine (ask_any (HA.out.1.below (below_step HG.out.2.2.1 HM.out.2)) ⟨1, xp, xo, xv⟩ ⟨0, xp, xo, 0, 0, 0, false, [], z2, z2, z2, z2⟩).mono ?_
    rintro e w' ⟨b, rfl, h1, h2, h3⟩
    exact ⟨b, rfl, h3.loc (fun e => by have := HA.out.1.lt g4 e; have := HG.out; omega) HL3.out.2, h1, h2, h3⟩
  go_wp2_with (first
    | (go_at_call 26; refine HK.out.mono ?_; rintro e W4 ⟨b, rfl, h4, HN⟩; obtain ⟨z0, z1, z2⟩ := an_cells h4; have zf := an_fz h4; clear h4)
    | fail)
  refine bodyPost_ret (by simp [results, Tryz.results25, go_sem, z0, z1, z2]; try rfl) rfl ?_
  refine ⟨b, rfl, sent_close (g := g4) HA.out.1.lt (below_step HG.out.2.2.1 HM.out.2) ?_ HN.out.2.2 HN.out.1 HN.out.2.1 ?_⟩
  · have := HG.out
    have := HM.out.2.size
    omega
  · repeat (first | (with_reducible exact OffS.refl _ _) | (with_reducible refine OffS.setCell (A := fun k => k = g4) ?_ rfl _))

set_option maxHeartbeats 3200000 in
theorem touch_hit {w : World} {A : Nat → Prop} {a c : Nat} {pq ko : Option Addr} {kc : Nat} {s : As} (H : Ag w A a c pq ko kc s) (x : Og) (v : Nat × Nat) (s2 : As) (H20 : ∀ W, Below w.heap.size w W → Calls Tryz.prog 39 #[cp a, opV x] W fun e w' => e = .returned (.tuple #[anV 0 v false, .bool true]) ∧ Ng W w' A a s2 Rn) : Calls Tryz.prog 25 #[cp a, opV x] w fun e w' => e = .returned (.tuple #[.slice none 0 0, anV 0 v false]) ∧ Ng w w' A a s2 Rn := by
  have hst := fun (ad : Addr) (re im : Nat) (W : World) => run_store Tryz.prog W ad (.complex .f64 re im) .plain rfl
  obtain ⟨xk, xp, xo, xv⟩ := x
  have HW : Hid _ := al2n w (opO ⟨xk, xp, xo, xv⟩) anZ
  have HA : Hid (Ag w A a c pq ko kc s ∧ ∀ W, Below w.heap.size w W → Calls Tryz.prog 39 #[cp a, opV ⟨xk, xp, xo, xv⟩] W fun e w' => e = .returned (.tuple #[anV 0 v false, .bool true]) ∧ Ng W w' A a s2 Rn) := ⟨H, H20⟩
  clear H H20
  go_enter Tryz.func25, Tryz.ntmps25
  go_upto_region 1 with fail
  show Code.wp _ _ _ _ ((w.alloc (opO ⟨xk, xp, xo, xv⟩)).alloc anZ)
  generalize (w.alloc (opO ⟨xk, xp, xo, xv⟩)).alloc anZ = W at *
  obtain ⟨g3, hg3⟩ : ∃ g, w.heap.size = g := ⟨_, rfl⟩
  obtain ⟨g4, hg4⟩ : ∃ g, w.heap.size + 1 = g := ⟨_, rfl⟩
  have HG : Hid (w.heap.size = g3 ∧ w.heap.size + 1 = g4 ∧ Below w.heap.size w W ∧ g4 < W.heap.size) := ⟨hg3, hg4, HW.out.2.2, (Array.getElem?_eq_some_iff.1 (hg4 ▸ HW.out.2.1)).1⟩
  have HL : Hid (W.heap[g3]? = some (opO ⟨xk, xp, xo, xv⟩) ∧ W.heap[g4]? = some anZ) := ⟨hg3 ▸ HW.out.1, hg4 ▸ HW.out.2.1⟩
  rw [hg4, hg3]
  clear hg3 hg4 HW
  obtain ⟨y0, y1, y2, y3⟩ := op_cells HL.out.1
  have HT : Hid (Calls Tryz.prog 39 #[cp a, opV ⟨xk, xp, xo, xv⟩] W fun e w' => e = .returned (.tuple #[anV 0 v false, .bool true]) ∧ w'.heap[g4]? = some anZ ∧ Hid (Ng W w' A a s2 Rn)) := by
    refine (HA.out.2 W HG.out.2.2.1).mono ?_
    rintro e w' ⟨rfl, hn⟩
    exact ⟨rfl, hn.loc (fun e => by have := HA.out.1.lt g4 e; have := HG.out; omega) HL.out.2, hn⟩
  go_upto_region 2 with (first
    | (go_at_call 39; refine HT.out.mono ?_; rintro e W1 ⟨rfl, h4, HB1⟩)
    | fail)
  have HB2 : Hid (Ng W (W1.alloc (anO 0 v false)) A a s2 Rn ∧ (W1.alloc (anO 0 v false)).heap[W1.heap.size]? = some (anO 0 v false) ∧ (W1.alloc (anO 0 v false)).heap[g4]? = some anZ) := by
    have hb : Below W1.heap.size W1 (W1.alloc (anO 0 v false)) := (Below.refl _ _).alloc (Nat.le_refl _) _
    exact ⟨HB1.out.later hb, heap_alloc_new W1 _, (hb.block g4 (Array.getElem?_eq_some_iff.1 h4).1).trans h4⟩
  clear h4
  show Code.wp _ _ _ _ (W1.alloc (anO 0 v false))
  obtain ⟨g6, hg6⟩ : ∃ g, W1.heap.size = g := ⟨_, rfl⟩
  rw [hg6] at HB2 ⊢
  clear hg6
  generalize W1.alloc (anO 0 v false) = W2 at *
  clear y0 y1 y2 y3 HT
  obtain ⟨z0, z1, z2⟩ := an_cells HB2.out.2.2
  have zf := an_fz HB2.out.2.2
  obtain ⟨v0, v1, v2⟩ := an_cells HB2.out.2.1
  go_upto_region 3 with fail
  go_region
  go_wp2
  refine bodyPost_ret (by simp [results, Tryz.results25, go_sem, z0, z1, z2]; try rfl) rfl ?_
  refine ⟨rfl, Ng.put HA.out.1.lt HG.out.2.2.1 HB2.out.1 (OffS.mono (A := fun k => k = g4) ?_ fun k hk => ?_)⟩
  · refine OffS.trans (b := _) ?_ (OffS.of_below (bel0 _))
    repeat (first | (with_reducible exact OffS.refl _ _) | (with_reducible refine OffS.setCell (A := fun k => k = g4) ?_ rfl _))
  · have e : k = g4 := hk
    have := HG.out
    show w.heap.size ≤ k ∧ k < W.heap.size
    omega

end Go.Proofs.YtmmgdmfdiaoegaaGreat
