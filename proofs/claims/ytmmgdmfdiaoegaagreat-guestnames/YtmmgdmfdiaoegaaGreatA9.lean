/- ask, take and touch of package agent, walked. -/
import Derived.Test.YtmmgdmfdiaoegaaGreatA8
namespace Go.Proofs.YtmmgdmfdiaoegaaGreat
open Go.RowKit
set_option linter.unusedVariables false
set_option maxRecDepth 8000

theorem al3n (w : World) (o1 o2 o3 : Obj) : (((w.alloc o1).alloc o2).alloc o3).heap[w.heap.size]? = some o1 ∧ (((w.alloc o1).alloc o2).alloc o3).heap[w.heap.size + 1]? = some o2 ∧ (((w.alloc o1).alloc o2).alloc o3).heap[w.heap.size + 1 + 1]? = some o3 ∧ Below w.heap.size w (((w.alloc o1).alloc o2).alloc o3) ∧ w.heap.size + 1 + 1 < (((w.alloc o1).alloc o2).alloc o3).heap.size :=
  ⟨(al3 w o1 o2 o3).1, (al3 w o1 o2 o3).2.1, (al3 w o1 o2 o3).2.2.1, (((Below.refl _ _).alloc (Nat.le_refl _) _).alloc (by simp) _).alloc (by simp; omega) _, (al3 w o1 o2 o3).2.2.2.2⟩

set_option maxHeartbeats 3200000 in
theorem ask_any {w : World} {A : Nat → Prop} {a c : Nat} {pq ko : Option Addr} {kc : Nat} {s : As} (H : Ag w A a c pq ko kc s) (x : Og) (M : Mg) : Calls Tryz.prog 26 #[cp a, opV x, mgV M] w fun e w' => ∃ b, e = .returned (.tuple #[.slice (some ⟨b, 0, none⟩) 1 1, anV 0 z2 true]) ∧ w.heap.size ≤ b ∧ RdR mgC w' (some ⟨b, 0, none⟩) 1 [M] ∧ Ng w w' A a { s with q := some x } (Ro (some ⟨b, 0, none⟩)) := by
  have hst := fun (ad : Addr) (re im : Nat) (W : World) => run_store Tryz.prog W ad (.complex .f64 re im) .plain rfl
  have HW : Hid _ := al3n w (opO x) (mgO M) anZ
  have HA : Hid (Ag w A a c pq ko kc s) := H
  clear H
  go_enter Tryz.func26, Tryz.ntmps26
  go_upto_region 1 with fail
  show Code.wp _ _ _ _ (((w.alloc (opO x)).alloc (mgO M)).alloc anZ)
  generalize ((w.alloc (opO x)).alloc (mgO M)).alloc anZ = W at *
  obtain ⟨g3, hg3⟩ : ∃ g, w.heap.size = g := ⟨_, rfl⟩
  obtain ⟨g4, hg4⟩ : ∃ g, w.heap.size + 1 = g := ⟨_, rfl⟩
  obtain ⟨g5, hg5⟩ : ∃ g, w.heap.size + 1 + 1 = g := ⟨_, rfl⟩
  have HG : Hid (w.heap.size = g3 ∧ w.heap.size + 1 = g4 ∧ w.heap.size + 1 + 1 = g5 ∧ Below w.heap.size w W ∧ g5 < W.heap.size) := ⟨hg3, hg4, hg5, HW.out.2.2.2.1, hg5 ▸ HW.out.2.2.2.2⟩
  have HL : Hid (W.heap[g3]? = some (opO x) ∧ W.heap[g4]? = some (mgO M) ∧ W.heap[g5]? = some anZ) := ⟨hg3 ▸ HW.out.1, hg4 ▸ HW.out.2.1, hg5 ▸ HW.out.2.2.1⟩
  rw [hg5, hg4, hg3]
  clear hg3 hg4 hg5 HW
  have h1 := HA.out.below HG.out.2.2.2.1
  have hcq := h1.cq
  have hfq := h1.fz 39
  clear h1
  go_upto_region 2 with fail
  have HZ : Hid (Ag (W.setCell ⟨a, 39, none⟩ (.pointer (some ⟨g3, 0, none⟩))) (fun k => A k ∨ k = g3) a c (some ⟨g3, 0, none⟩) ko kc { s with q := some x } ∧ OffS A w (W.setCell ⟨a, 39, none⟩ (.pointer (some ⟨g3, 0, none⟩))) ∧ (W.setCell ⟨a, 39, none⟩ (.pointer (some ⟨g3, 0, none⟩))).heap[g4]? = some (mgO M) ∧ (W.setCell ⟨a, 39, none⟩ (.pointer (some ⟨g3, 0, none⟩))).heap[g5]? = some anZ) := by
    have hG := HG.out
    have hsz := HA.out.sz
    have hbb : ∀ k, k ≠ a → (W.setCell ⟨a, 39, none⟩ (.pointer (some ⟨g3, 0, none⟩))).heap[k]? = W.heap[k]? := fun k hk => Below.heap_setCell _ _ _ _ hk
    refine ⟨(HA.out.below hG.2.2.2.1).asks g3 (fun e => by have := HA.out.lt g3 e; omega) x HL.out.1, ?_, ?_, ?_⟩
    · exact ((OffS.of_below hG.2.2.2.1).setCell (a := ⟨a, 39, none⟩) HA.out.aa _)
    · exact (hbb g4 (by omega)).trans HL.out.2.1
    · exact (hbb g5 (by omega)).trans HL.out.2.2
  generalize W.setCell ⟨a, 39, none⟩ (.pointer (some ⟨g3, 0, none⟩)) = W1 at *
  clear hcq hfq
  obtain ⟨y0, y1, y2, y3, y4, y5, y6, y7, y8, y9, yA, yB⟩ := mg_cells HZ.out.2.2.1
  obtain ⟨z0, z1, z2⟩ := an_cells HZ.out.2.2.2
  have zf := an_fz HZ.out.2.2.2
  have hl5 : g5 < W1.heap.size := (Array.getElem?_eq_some_iff.1 HZ.out.2.2.2).1
  go_wp2
  have key : ∀ V : World, OffS (fun k => k = g5) W1 V → V.heap.size = W1.heap.size → ∃ b, Ending.returned (.tuple #[.slice (some ⟨W1.heap.size, 0, none⟩) 1 1, anV 0 (0, 0) true]) = .returned (.tuple #[.slice (some ⟨b, 0, none⟩) 1 1, anV 0 (0, 0) true]) ∧ w.heap.size ≤ b ∧ RdR mgC (V.alloc (.cells #[.int .i64 M.k, .int .i64 M.p, .int .i64 M.o, .int .i64 M.t, .int .i64 M.c, .int .i64 M.n, .bool M.wr, .slice none 0 0, .complex .f64 M.v0.1 M.v0.2, .complex .f64 M.v1.1 M.v1.2, .complex .f64 M.v2.1 M.v2.2, .complex .f64 M.v3.1 M.v3.2] 73)) (some ⟨b, 0, none⟩) 1 [M] ∧ Ng w (V.alloc (.cells #[.int .i64 M.k, .int .i64 M.p, .int .i64 M.o, .int .i64 M.t, .int .i64 M.c, .int .i64 M.n, .bool M.wr, .slice none 0 0, .complex .f64 M.v0.1 M.v0.2, .complex .f64 M.v1.1 M.v1.2, .complex .f64 M.v2.1 M.v2.2, .complex .f64 M.v3.1 M.v3.2] 73)) A a { s with q := some x } (Ro (some ⟨b, 0, none⟩)) := by
    intro V hV hs
    have hG := HG.out
    have h1 := HZ.out.2.1.size
    have hb : Below V.heap.size V (V.alloc (.cells #[.int .i64 M.k, .int .i64 M.p, .int .i64 M.o, .int .i64 M.t, .int .i64 M.c, .int .i64 M.n, .bool M.wr, .slice none 0 0, .complex .f64 M.v0.1 M.v0.2, .complex .f64 M.v1.1 M.v1.2, .complex .f64 M.v2.1 M.v2.2, .complex .f64 M.v3.1 M.v3.2] 73)) := (Below.refl _ _).alloc (Nat.le_refl _) _
    refine ⟨W1.heap.size, rfl, h1, hs ▸ RdR.built mgE V 73 _ [M] rfl 1 rfl (by decide), ?_⟩
    have h2 : Ag V (fun k => A k ∨ k = g3) a c (some ⟨g3, 0, none⟩) ko kc { s with q := some x } := HZ.out.1.keep hV.size fun k hk => hV.block k (HZ.out.1.lt k hk) (by
      intro e
      have e' : k = g5 := e
      rcases hk with hk | hk
      · have := HA.out.lt k hk; omega
      · omega)
    refine Ng.of (h2.below hb) ?_ ((HZ.out.2.1.trans (hV.mono fun k hk => .inr (by have e : k = g5 := hk; omega))).trans (OffS.of_below hb))
    intro k hk
    have hkl := HZ.out.1.lt k hk
    refine ⟨?_, ?_⟩
    · rcases hk with hk | hk
      · exact .inl hk
      · exact .inr (by omega)
    · rintro ⟨p, hp, e⟩
      cases hp
      have e' : W1.heap.size = k := e
      omega
  refine bodyPost_ret (by simp [results, Tryz.results26, go_sem, z0, z1, z2, hl5]; try rfl) rfl ?_
  refine key _ ?_ (by simp)
  repeat (first | (with_reducible exact OffS.refl _ _) | (with_reducible refine OffS.setCell (A := fun k => k = g5) ?_ rfl _))

/-- What a read leads to, told by take too. -/
theorem take_same {w : World} {A : Nat → Prop} {a c : Nat} {pq ko : Option Addr} {kc : Nat} {s : As} (H : Ag w A a c pq ko kc s) (x : Og) (hk : (x.k == 2) = false) (er : Int) (v : Nat × Nat) (b : Bool) (H31 : ∀ W, Below w.heap.size w W → Calls Tryz.prog 62 #[cp a, opV x] W fun e w' => e = .returned (.tuple #[anV er v false, .bool b]) ∧ Below W.heap.size W w') : Calls Tryz.prog 39 #[cp a, opV x] w fun e w' => e = .returned (.tuple #[anV er v false, .bool b]) ∧ Below w.heap.size w w' := by
  have hst := fun (ad : Addr) (re im : Nat) (W : World) => run_store Tryz.prog W ad (.complex .f64 re im) .plain rfl
  have HW : Hid _ := al2n w (opO x) anZ
  have HC : Hid (∀ W, Below w.heap.size w W → Calls Tryz.prog 62 #[cp a, opV x] W fun e w' => e = .returned (.tuple #[anV er v false, .bool b]) ∧ Below W.heap.size W w') := H31
  clear H H31
  go_enter Tryz.func39, Tryz.ntmps39
  go_upto_region 1 with fail
  show Code.wp _ _ _ _ ((w.alloc (opO x)).alloc anZ)
  generalize (w.alloc (opO x)).alloc anZ = W at *
  obtain ⟨g3, hg3⟩ : ∃ g, w.heap.size = g := ⟨_, rfl⟩
  obtain ⟨g4, hg4⟩ : ∃ g, w.heap.size + 1 = g := ⟨_, rfl⟩
  have HG : Hid (w.heap.size = g3 ∧ w.heap.size + 1 = g4 ∧ Below w.heap.size w W) := ⟨hg3, hg4, HW.out.2.2⟩
  have HL : Hid (W.heap[g3]? = some (opO x) ∧ W.heap[g4]? = some anZ) := ⟨hg3 ▸ HW.out.1, hg4 ▸ HW.out.2.1⟩
  rw [hg4, hg3]
  clear hg3 hg4 HW
  obtain ⟨y0, y1, y2, y3⟩ := op_cells HL.out.1
  have HT : Hid (Calls Tryz.prog 62 #[cp a, opV x] W fun e w' => e = .returned (.tuple #[anV er v false, .bool b]) ∧ w'.heap[g4]? = some anZ ∧ Hid (Below W.heap.size W w')) := by
    refine (HC.out W HG.out.2.2).mono ?_
    rintro e w' ⟨rfl, hb⟩
    exact ⟨rfl, (hb.block g4 (Array.getElem?_eq_some_iff.1 HL.out.2).1).trans HL.out.2, hb⟩
  go_wp2_with (first
    | (go_at_call 62; refine HT.out.mono ?_; rintro e w1 ⟨rfl, h4, HB⟩; obtain ⟨z0, z1, z2⟩ := an_cells h4; have zf := an_fz h4; clear h4)
    | fail)
  refine bodyPost_ret (by simp [results, Tryz.results39, go_sem, z0, z1, z2]; try rfl) rfl ?_
  refine ⟨rfl, off_below (g := g4) (below_step HG.out.2.2 HB.out) (by have := HG.out; omega) ?_⟩
  repeat (first | (with_reducible exact OffS.refl _ _) | (with_reducible refine OffS.setCell (A := fun k => k = g4) ?_ rfl _))
theorem take_turn {w : World} {A : Nat → Prop} {a c : Nat} {pq ko : Option Addr} {kc : Nat} {s : As} (H : Ag w A a c pq ko kc s) (x : Og) (hk : (x.k == 2) = false) (er : Int) (v : Nat × Nat) (b : Bool) (s2 : As) (H31 : ∀ W, Below w.heap.size w W → Calls Tryz.prog 62 #[cp a, opV x] W fun e w' => e = .returned (.tuple #[anV er v false, .bool b]) ∧ Ng W w' A a s2 Rn) : Calls Tryz.prog 39 #[cp a, opV x] w fun e w' => e = .returned (.tuple #[anV er v false, .bool b]) ∧ Ng w w' A a s2 Rn := by
  have hst := fun (ad : Addr) (re im : Nat) (W : World) => run_store Tryz.prog W ad (.complex .f64 re im) .plain rfl
  have HW : Hid _ := al2n w (opO x) anZ
  have HC : Hid ((∀ W, Below w.heap.size w W → Calls Tryz.prog 62 #[cp a, opV x] W fun e w' => e = .returned (.tuple #[anV er v false, .bool b]) ∧ Ng W w' A a s2 Rn) ∧ ∀ k, A k → k < w.heap.size) := ⟨H31, H.lt⟩
  clear H H31
  go_enter Tryz.func39, Tryz.ntmps39
  go_upto_region 1 with fail
  show Code.wp _ _ _ _ ((w.alloc (opO x)).alloc anZ)
  generalize (w.alloc (opO x)).alloc anZ = W at *
  obtain ⟨g3, hg3⟩ : ∃ g, w.heap.size = g := ⟨_, rfl⟩
  obtain ⟨g4, hg4⟩ : ∃ g, w.heap.size + 1 = g := ⟨_, rfl⟩
  have HG : Hid (w.heap.size = g3 ∧ w.heap.size + 1 = g4 ∧ Below w.heap.size w W) := ⟨hg3, hg4, HW.out.2.2⟩
  have HL : Hid (W.heap[g3]? = some (opO x) ∧ W.heap[g4]? = some anZ) := ⟨hg3 ▸ HW.out.1, hg4 ▸ HW.out.2.1⟩
  rw [hg4, hg3]
  clear hg3 hg4 HW
  obtain ⟨y0, y1, y2, y3⟩ := op_cells HL.out.1
  have HT : Hid (Calls Tryz.prog 62 #[cp a, opV x] W fun e w' => e = .returned (.tuple #[anV er v false, .bool b]) ∧ w'.heap[g4]? = some anZ ∧ Hid (Ng W w' A a s2 Rn)) := by
    refine (HC.out.1 W HG.out.2.2).mono ?_
    rintro e w' ⟨rfl, hn⟩
    exact ⟨rfl, hn.loc (fun e => by have := HC.out.2 g4 e; have := HG.out; omega) HL.out.2, hn⟩
  go_wp2_with (first
    | (go_at_call 62; refine HT.out.mono ?_; rintro e w1 ⟨rfl, h4, HB⟩; obtain ⟨z0, z1, z2⟩ := an_cells h4; have zf := an_fz h4; clear h4)
    | fail)
  refine bodyPost_ret (by simp [results, Tryz.results39, go_sem, z0, z1, z2]; try rfl) rfl ?_
  refine ⟨rfl, Ng.put HC.out.2 HG.out.2.2 HB.out (OffS.mono (A := fun k => k = g4) ?_ fun k hk => ?_)⟩
  · repeat (first | (with_reducible exact OffS.refl _ _) | (with_reducible refine OffS.setCell (A := fun k => k = g4) ?_ rfl _))
  · have e : k = g4 := hk
    have := HG.out
    have := (Array.getElem?_eq_some_iff.1 HL.out.2).1
    show w.heap.size ≤ k ∧ k < W.heap.size
    omega

end Go.Proofs.YtmmgdmfdiaoegaaGreat
