/- granted of package agent, walked: a page that was asked for to be read, and has room. -/
import Derived.Test.YtmognpjkccienaaB3
namespace Go.Proofs.Ytmognpjkccienaa
open Go.RowKit
set_option linter.unusedVariables false
set_option maxRecDepth 8000

theorem Ng.put2 {w w0 w1 w2 : World} {A A3 : Nat → Prop} {a : Nat} {s : As} {R : Nat → Prop} {g : Nat} (hA3 : ∀ k, A3 k → A k ∨ w.heap.size ≤ k) (h3 : ¬ A3 g) (hg : w.heap.size ≤ g ∧ g < w0.heap.size) (ho : OffS A w w0) (h : Ng w0 w1 A3 a s R) (h2 : OffS (fun k => k = g) w1 w2) : Ng w w2 A a s R := by
  obtain ⟨A', h4, h5⟩ := h.ag
  refine ⟨⟨A', fun k hk => ⟨?_, (h4 k hk).2⟩, h5.keep h2.size fun k hk => h2.block k (h5.lt k hk) ?_⟩, (ho.trans (h.off.mono hA3)).trans (h2.mono fun k hk => .inr (by have e : k = g := hk; omega))⟩
  · rcases (h4 k hk).1 with h' | h'
    · exact hA3 k h'
    · exact .inr (Nat.le_trans ho.size h')
  · intro e
    have e' : k = g := e
    rcases (h4 k hk).1 with h' | h'
    · exact h3 (e' ▸ h')
    · omega

/-- The values of a message. -/
def mvN (M : Mg) : Nat → Nat × Nat
  | 0 => M.v0 | 1 => M.v1 | 2 => M.v2 | 3 => M.v3 | _ => (0, 0)
/-- The agent behind a page that was put. -/
def pgS (s : As) (M : Mg) (p cm om : Nat) : As := { s with q := none, L := putL s.L s.rm (touL s.d 6) p cm om (mvN M) }

structure GrOk (s : As) (M : Mg) (x : Og) (p o cm nm om : Nat) : Prop where
  q : s.q = some x
  xk : x.k = 1
  xp : x.p = p
  xo : x.o = o
  mp : M.p = p
  mc : M.c = cm
  mn : M.n = nm
  an : bits .and .i64 (nm : Int) (cm : Int) = (om : Int)
  put : PutOk p cm om
  o4 : o < 4
  yes : putB s.L s.rm (touL s.d 6) p = true
  none : putZ s.L s.rm (touL s.d 6) p = -1
  wr : (s.d p).w.testBit o = false
  cp : (cpN (pgS s M p cm om).L p).testBit o = true

set_option maxHeartbeats 6400000 in
theorem granted_read {w : World} {A : Nat → Prop} {a c : Nat} {pq ko : Option Addr} {kc : Nat} {s : As} (H : Ag w A a c pq ko kc s) (M : Mg) (x : Og) (p o cm nm om : Nat) (G : GrOk s M x p o cm nm om) : Calls Try.prog 27 #[cp a, mgV M] w fun e w' => e = .returned (.tuple #[.slice none 0 0, anV 0 (gotV (pgS s M p cm om).L p o) false]) ∧ Ng w w' A a (rdS (pgS s M p cm om) p o) Rn := by
  have hst := fun (ad : Addr) (re im : Nat) (W : World) => run_store Try.prog W ad (.complex .f64 re im) .plain rfl
  obtain ⟨mk, mp, mo, mt, mc, mn, wr, ps, v0, v1, v2, v3⟩ := M
  obtain ⟨xk, xp, xo, xv⟩ := x
  obtain ⟨g1, g2, g3, g4, g5, g6, g7, g8, g9, gA, gB, gC, gD, gE⟩ := G
  simp only at g1 g2 g3 g4 g5 g6 g7
  subst g2 g3 g4 g5 g6 g7
  obtain ⟨gv, hgv⟩ : ∃ v, gotV (pgS s ⟨mk, (p : Int), mo, mt, (cm : Int), (nm : Int), wr, ps, v0, v1, v2, v3⟩ p cm om).L p o = v := ⟨_, rfl⟩
  obtain ⟨s3, hs3⟩ : ∃ t, pgS s ⟨mk, (p : Int), mo, mt, (cm : Int), (nm : Int), wr, ps, v0, v1, v2, v3⟩ p cm om = t := ⟨_, rfl⟩
  rw [hgv]
  rw [hs3] at hgv gE ⊢
  obtain ⟨tl, htl⟩ : ∃ n, (touL s.d 6).length = n := ⟨_, rfl⟩
  have HA : Hid (Ag w A a c pq ko kc s ∧ s.q = some ⟨1, (p : Int), (o : Int), xv⟩ ∧ p < 6 ∧ o < 4 ∧ PutOk p cm om ∧ (touL s.d 6).length = tl) := ⟨H, g1, g9.p6, gA, g9, htl⟩
  have HP : Hid (putB s.L s.rm (touL s.d 6) p = true ∧ putZ s.L s.rm (touL s.d 6) p = -1 ∧ (s.d p).w.testBit o = false ∧ (cpN s3.L p).testBit o = true ∧ pgS s ⟨mk, (p : Int), mo, mt, (cm : Int), (nm : Int), wr, ps, v0, v1, v2, v3⟩ p cm om = s3 ∧ gotV s3.L p o = gv) := ⟨gB, gC, gD, gE, hs3, hgv⟩
  have htl6 : tl ≤ 6 := by rw [← htl]; exact touL_le _ _
  have hand := g8
  have HW : Hid _ := al2n w (mgO ⟨mk, (p : Int), mo, mt, (cm : Int), (nm : Int), wr, ps, v0, v1, v2, v3⟩) anZ
  clear H g1 g8 g9 gA gB gC gD gE hs3 hgv htl
  go_enter Try.func27, Try.ntmps27
  go_upto_region 1 with fail
  show Code.wp _ _ _ _ ((w.alloc (mgO ⟨mk, (p : Int), mo, mt, (cm : Int), (nm : Int), wr, ps, v0, v1, v2, v3⟩)).alloc anZ)
  generalize (w.alloc (mgO ⟨mk, (p : Int), mo, mt, (cm : Int), (nm : Int), wr, ps, v0, v1, v2, v3⟩)).alloc anZ = W at *
  obtain ⟨g3, hg3⟩ : ∃ g, w.heap.size = g := ⟨_, rfl⟩
  obtain ⟨g4, hg4⟩ : ∃ g, w.heap.size + 1 = g := ⟨_, rfl⟩
  have HG : Hid (w.heap.size = g3 ∧ w.heap.size + 1 = g4 ∧ Below w.heap.size w W ∧ g4 < W.heap.size) := ⟨hg3, hg4, HW.out.2.2, (Array.getElem?_eq_some_iff.1 (hg4 ▸ HW.out.2.1)).1⟩
  have HL : Hid (W.heap[g3]? = some (mgO ⟨mk, (p : Int), mo, mt, (cm : Int), (nm : Int), wr, ps, v0, v1, v2, v3⟩) ∧ W.heap[g4]? = some anZ) := ⟨hg3 ▸ HW.out.1, hg4 ▸ HW.out.2.1⟩
  rw [hg4, hg3]
  clear hg3 hg4 HW
  have h1 := HA.out.1.below HG.out.2.2.1
  obtain ⟨qb, hqb, hqh⟩ : ∃ g, pq = some ⟨g, 0, none⟩ ∧ W.heap[g]? = some (opO ⟨1, (p : Int), (o : Int), xv⟩) := by
    rcases h1.q with ⟨e1, _⟩ | ⟨g, o', e1, e2, e3⟩
    · rw [HA.out.2.1] at e1; cases e1
    · rw [HA.out.2.1] at e1
      cases e1
      exact ⟨g, e2, e3⟩
  have hcq := h1.cq
  rw [hqb] at hcq
  have hfq := h1.fz 39
  obtain ⟨y0, y1, y2, y3⟩ := op_cells hqh
  simp only at y0 y1 y2 y3
  clear h1 hqb hqh
  go_upto_region 2 with fail
  have HM1 : Hid (Below W.heap.size W (W.alloc (opO ⟨1, (p : Int), (o : Int), xv⟩)) ∧ (W.alloc (opO ⟨1, (p : Int), (o : Int), xv⟩)).heap[W.heap.size]? = some (opO ⟨1, (p : Int), (o : Int), xv⟩)) := ⟨(Below.refl _ _).alloc (Nat.le_refl _) _, heap_alloc_new W _⟩
  obtain ⟨g6, hg6⟩ : ∃ g, W.heap.size = g := ⟨_, rfl⟩
  have HG6 : Hid (W.heap.size = g6) := hg6
  have hcq1 : (W.alloc (opO ⟨1, (p : Int), (o : Int), xv⟩)).cell? ⟨a, 39, none⟩ = some (.pointer (some ⟨qb, 0, none⟩)) := (HM1.out.1.cell (p := ⟨a, 39, none⟩) (Nat.lt_of_lt_of_le HA.out.1.sz HG.out.2.2.1.size)).trans hcq
  have hfq1 : (W.alloc (opO ⟨1, (p : Int), (o : Int), xv⟩)).frozen? ⟨a, 39, none⟩ = false := (HM1.out.1.frozen (p := ⟨a, 39, none⟩) (Nat.lt_of_lt_of_le HA.out.1.sz HG.out.2.2.1.size)).trans hfq
  have HX1 : Hid ((W.alloc (opO ⟨1, (p : Int), (o : Int), xv⟩)).heap[g6]? = some (opO ⟨1, (p : Int), (o : Int), xv⟩) ∧ Below W.heap.size W (W.alloc (opO ⟨1, (p : Int), (o : Int), xv⟩))) := ⟨hg6 ▸ HM1.out.2, HM1.out.1⟩
  show Code.wp _ _ _ _ (W.alloc (opO ⟨1, (p : Int), (o : Int), xv⟩))
  rw [hg6]
  clear hg6 HM1 hcq hfq y0 y1 y2 y3
  generalize W.alloc (opO ⟨1, (p : Int), (o : Int), xv⟩) = W1 at *
  go_upto_region 3 with fail
  have HZ : Hid (Ag (W1.setCell ⟨a, 39, none⟩ (.pointer none)) A a c none ko kc { s with q := none } ∧ OffS A w (W1.setCell ⟨a, 39, none⟩ (.pointer none)) ∧ (W1.setCell ⟨a, 39, none⟩ (.pointer none)).heap[g3]? = some (mgO ⟨mk, (p : Int), mo, mt, (cm : Int), (nm : Int), wr, ps, v0, v1, v2, v3⟩) ∧ (W1.setCell ⟨a, 39, none⟩ (.pointer none)).heap[g4]? = some anZ ∧ (W1.setCell ⟨a, 39, none⟩ (.pointer none)).heap[g6]? = some (opO ⟨1, (p : Int), (o : Int), xv⟩)) := by
    have hG := HG.out
    have hsz := HA.out.1.sz
    have h6 := HG6.out
    have hw1 := below_step hG.2.2.1 HX1.out.2
    have hbb : ∀ k, k ≠ a → (W1.setCell ⟨a, 39, none⟩ (.pointer none)).heap[k]? = W1.heap[k]? := fun k hk => Below.heap_setCell _ _ _ _ hk
    refine ⟨(HA.out.1.below hw1).unask, (OffS.of_below hw1).setCell (a := ⟨a, 39, none⟩) HA.out.1.aa _, ?_, ?_, ?_⟩
    · exact (hbb g3 (by omega)).trans ((HX1.out.2.block g3 (by omega)).trans HL.out.1)
    · exact (hbb g4 (by omega)).trans ((HX1.out.2.block g4 (by omega)).trans HL.out.2)
    · exact (hbb g6 (by omega)).trans HX1.out.1
  have HSZ : Hid (g6 < (W1.setCell ⟨a, 39, none⟩ (.pointer none)).heap.size) := (Array.getElem?_eq_some_iff.1 HZ.out.2.2.2.2).1
  generalize W1.setCell ⟨a, 39, none⟩ (.pointer none) = W2 at *
  clear hcq1 hfq1 HX1 HL
  have HN : Hid (w.heap.size ≤ g3 ∧ w.heap.size ≤ g4 ∧ w.heap.size ≤ g6 ∧ g3 < W2.heap.size ∧ g4 < W2.heap.size ∧ g6 < W2.heap.size ∧ a < w.heap.size ∧ w.heap.size ≤ W2.heap.size) := by
    have := HG.out
    have := HG6.out
    have := HSZ.out
    have := HA.out.1.sz
    refine ⟨by omega, by omega, by omega, by omega, by omega, by omega, by omega, by omega⟩
  have HCe : Hid (∀ U : World, (∀ k, k = a ∨ k = g3 ∨ k = g4 ∨ k = g6 → U.heap[k]? = W2.heap[k]?) → U.cell? ⟨a, 0, none⟩ = some (cp c) ∧ MgW U g3 ⟨mk, (p : Int), mo, mt, (cm : Int), (nm : Int), wr, ps, v0, v1, v2, v3⟩ ∧ U.heap[g4]? = some anZ ∧ U.heap[g6]? = some (opO ⟨1, (p : Int), (o : Int), xv⟩)) := by
    intro U hU
    exact ⟨(World.cell?_of_block (w := W2) (w' := U) (a := ⟨a, 0, none⟩) (hU a (.inl rfl))).trans HZ.out.1.c0, mg_cells ((hU g3 (.inr (.inl rfl))).trans HZ.out.2.2.1), (hU g4 (.inr (.inr (.inl rfl)))).trans HZ.out.2.2.2.1, (hU g6 (.inr (.inr (.inr rfl)))).trans HZ.out.2.2.2.2⟩
  have HC : Hid (Calls Try.prog 43 #[cp a] W2.drew fun e w' => ∃ ao cap, e = .returned (.slice ao tl cap) ∧ (∀ k, k = a ∨ k = g3 ∨ k = g4 ∨ k = g6 → w'.heap[k]? = W2.heap[k]?) ∧ Hid (Calls Try.prog 42 #[cp c, .int .i64 (p : Int), .int .i64 (cm : Int), .int .i64 (om : Int), .agg #[.complex .f64 v0.1 v0.2, .complex .f64 v1.1 v1.2, .complex .f64 v2.1 v2.2, .complex .f64 v3.1 v3.2], .slice ao tl cap] w' fun e w3 => e = .returned (.tuple #[.int .i64 (-1), .bool true]) ∧ (∀ k, k = a ∨ k = g3 ∨ k = g4 ∨ k = g6 → w3.heap[k]? = W2.heap[k]?) ∧ Hid (Ag w3 (nwA A W2 w3) a c none ko kc s3 ∧ OffS A W2 w3))) := by
    refine (touched_any (HZ.out.1.below (bel0 W2))).mono ?_
    rintro e w' ⟨ao, cap, rfl, hr, hb⟩
    have hb' : Below W2.heap.size W2 w' := below_step (bel0 W2) hb
    have hn := HN.out
    have hkl : ∀ k, k = a ∨ k = g3 ∨ k = g4 ∨ k = g6 → k < W2.heap.size := by intro k hk; omega
    refine ⟨ao, cap, ret_slice HA.out.2.2.2.2.2, fun k hk => hb'.block k (hkl k hk), ?_⟩
    have h2 := HZ.out.1.below hb'
    have hput := putA h2.ca (fun k hk => h2.lt k hk.1) (by have := h2.ll; omega) p cm om HA.out.2.2.2.2.1 (mvN ⟨mk, (p : Int), mo, mt, (cm : Int), (nm : Int), wr, ps, v0, v1, v2, v3⟩) ao tl cap (touL s.d 6) hr HA.out.2.2.2.2.2 (by omega)
    refine hput.mono ?_
    rintro e w3 ⟨rfl, hx⟩
    have e1 : putZ s.L s.rm (touL s.d 6) p = -1 := HP.out.2.1
    have e2 : putB s.L s.rm (touL s.d 6) p = true := HP.out.1
    have hx2 : Nx w' w3 (acS A a none ko) c s.rm (putL s.L s.rm (touL s.d 6) p cm om (mvN ⟨mk, (p : Int), mo, mt, (cm : Int), (nm : Int), wr, ps, v0, v1, v2, v3⟩)) := hx
    have hag := h2.cache hx2 (HA.out.1.es.putL _ _ _ _ _ HA.out.2.2.2.2.1 _) (putL_len _ _ _ _ _ _ _ HA.out.1.rl HA.out.1.ll)
    have hs3 : ({ ({ s with q := none } : As) with L := putL s.L s.rm (touL s.d 6) p cm om (mvN ⟨mk, (p : Int), mo, mt, (cm : Int), (nm : Int), wr, ps, v0, v1, v2, v3⟩) } : As) = s3 := HP.out.2.2.2.2.1
    have hs1 := hb'.size
    have hs2 := hx2.2.size
    have ho : OffS A W2 w3 := (OffS.of_below hb').trans (hx2.2.mono fun k hk => .inl hk.1)
    refine ⟨?_, ?_, ?_, ho⟩
    · show Ending.returned (.tuple #[.int .i64 (putZ s.L s.rm (touL s.d 6) p), .bool (putB s.L s.rm (touL s.d 6) p)]) = _
      rw [e1, e2]
    · intro k hk
      refine (hx2.2.block k (Nat.lt_of_lt_of_le (hkl k hk) hs1) ?_).trans (hb'.block k (hkl k hk))
      intro e
      rcases hk with rfl | hk
      · exact e.2.1 rfl
      · have := HA.out.1.lt k e.1
        omega
    · rw [← hs3]
      refine hag.mono ?_ ?_
      · intro k hk
        rcases hk with hk | hk
        · exact .inl hk
        · exact .inr ⟨by omega, hk.2⟩
      · intro k hk
        rcases hk with hk | hk
        · have := HA.out.1.lt k hk; omega
        · exact hk.2
  refine wp_region_held (S := fun U => ∀ k, k = a ∨ k = g3 ∨ k = g4 ∨ k = g6 → U.heap[k]? = W2.heap[k]?) (by kernel_rfl) ?_
  have hS : ∀ k, k = a ∨ k = g3 ∨ k = g4 ∨ k = g6 → W2.drew.heap[k]? = W2.heap[k]? := fun _ _ => rfl
  refine held_val (i := 0) ?_ 21 rfl rfl (by kernel_rfl) (by kernel_rfl) (by kernel_rfl) (by rfl) (fun _ _ _ h => h) hS ?_ ?_
  rotate_left
  · (intro w hSw; go_simp; first | done | with_reducible rfl)
  simp only [Act.put, List.setIfInBounds_toArray, List.set_cons_zero, List.set_cons_succ]
  refine held_val (i := 1) ?_ 22 rfl rfl (by kernel_rfl) (by kernel_rfl) (by kernel_rfl) (by rfl) (fun _ _ _ h => h) hS ?_ ?_
  rotate_left
  · (intro w hSw; go_simp; first | done | with_reducible rfl)
  simp only [Act.put, List.setIfInBounds_toArray, List.set_cons_zero, List.set_cons_succ]
  refine held_val (i := 2) ?_ 23 rfl rfl (by kernel_rfl) (by kernel_rfl) (by kernel_rfl) (by rfl) (fun _ _ _ h => h) hS ?_ ?_
  rotate_left
  · (intro w hSw; go_simp; first | done | with_reducible rfl)
  simp only [Act.put, List.setIfInBounds_toArray, List.set_cons_zero, List.set_cons_succ]
  refine held_val (i := 3) ?_ 24 rfl rfl (by kernel_rfl) (by kernel_rfl) (by kernel_rfl) (by rfl) (fun _ _ _ h => h) hS ?_ ?_
  rotate_left
  · (intro w hSw; obtain ⟨k0, ⟨m0, m1, m2, m3, m4, m5, m6, m7, m8, m9, mA, mB⟩, k1, k2⟩ := HCe.out w hSw; clear k1 k2; go_simp; first | done | with_reducible rfl)
  simp only [Act.put, List.setIfInBounds_toArray, List.set_cons_zero, List.set_cons_succ]
  refine held_val (i := 4) ?_ 25 rfl rfl (by kernel_rfl) (by kernel_rfl) (by kernel_rfl) (by rfl) (fun _ _ _ h => h) hS ?_ ?_
  rotate_left
  · (intro w hSw; go_simp; first | done | with_reducible rfl)
  simp only [Act.put, List.setIfInBounds_toArray, List.set_cons_zero, List.set_cons_succ]
  refine held_val (i := 5) ?_ 26 rfl rfl (by kernel_rfl) (by kernel_rfl) (by kernel_rfl) (by rfl) (fun _ _ _ h => h) hS ?_ ?_
  rotate_left
  · (intro w hSw; obtain ⟨k0, ⟨m0, m1, m2, m3, m4, m5, m6, m7, m8, m9, mA, mB⟩, k1, k2⟩ := HCe.out w hSw; clear k1 k2; go_simp; first | done | with_reducible rfl)
  simp only [Act.put, List.setIfInBounds_toArray, List.set_cons_zero, List.set_cons_succ]
  refine held_val (i := 6) ?_ 27 rfl rfl (by kernel_rfl) (by kernel_rfl) (by kernel_rfl) (by rfl) (fun _ _ _ h => h) hS ?_ ?_
  rotate_left
  · (intro w hSw; go_simp; first | done | with_reducible rfl)
  simp only [Act.put, List.setIfInBounds_toArray, List.set_cons_zero, List.set_cons_succ]
  refine held_val (i := 7) ?_ 28 rfl rfl (by kernel_rfl) (by kernel_rfl) (by kernel_rfl) (by rfl) (fun _ _ _ h => h) hS ?_ ?_
  rotate_left
  · (intro w hSw; obtain ⟨k0, ⟨m0, m1, m2, m3, m4, m5, m6, m7, m8, m9, mA, mB⟩, k1, k2⟩ := HCe.out w hSw; clear k1 k2; go_simp; first | done | with_reducible rfl)
  simp only [Act.put, List.setIfInBounds_toArray, List.set_cons_zero, List.set_cons_succ]
  refine held_val (i := 8) ?_ 29 rfl rfl (by kernel_rfl) (by kernel_rfl) (by kernel_rfl) (by rfl) (fun _ _ _ h => h) hS ?_ ?_
  rotate_left
  · (intro w hSw; go_simp; first | done | with_reducible rfl)
  simp only [Act.put, List.setIfInBounds_toArray, List.set_cons_zero, List.set_cons_succ]
  refine held_val (i := 9) ?_ 30 rfl rfl (by kernel_rfl) (by kernel_rfl) (by kernel_rfl) (by rfl) (fun _ _ _ h => h) hS ?_ ?_
  rotate_left
  · (intro w hSw; obtain ⟨k0, ⟨m0, m1, m2, m3, m4, m5, m6, m7, m8, m9, mA, mB⟩, k1, k2⟩ := HCe.out w hSw; clear k1 k2; go_simp; first | done | with_reducible rfl)
  simp only [Act.put, List.setIfInBounds_toArray, List.set_cons_zero, List.set_cons_succ]
  refine held_val (i := 10) ?_ 31 rfl rfl (by kernel_rfl) (by kernel_rfl) (by kernel_rfl) (by rfl) (fun _ _ _ h => h) hS ?_ ?_
  rotate_left
  · (intro w hSw; go_simp; first | done | with_reducible rfl)
  simp only [Act.put, List.setIfInBounds_toArray, List.set_cons_zero, List.set_cons_succ]
  refine held_val (i := 11) ?_ 32 rfl rfl (by kernel_rfl) (by kernel_rfl) (by kernel_rfl) (by rfl) (fun _ _ _ h => h) hS ?_ ?_
  rotate_left
  · (intro w hSw; obtain ⟨k0, ⟨m0, m1, m2, m3, m4, m5, m6, m7, m8, m9, mA, mB⟩, k1, k2⟩ := HCe.out w hSw; clear k1 k2; go_simp; first | done | with_reducible rfl)
  simp only [Act.put, List.setIfInBounds_toArray, List.set_cons_zero, List.set_cons_succ]
  refine held_val (i := 12) ?_ 33 rfl rfl (by kernel_rfl) (by kernel_rfl) (by kernel_rfl) (by rfl) (fun _ _ _ h => h) hS ?_ ?_
  rotate_left
  · (intro w hSw; go_simp; first | done | with_reducible rfl)
  simp only [Act.put, List.setIfInBounds_toArray, List.set_cons_zero, List.set_cons_succ]
  refine held_val (i := 13) ?_ 34 rfl rfl (by kernel_rfl) (by kernel_rfl) (by kernel_rfl) (by rfl) (fun _ _ _ h => h) hS ?_ ?_
  rotate_left
  · (intro w hSw; go_simp; first | done | with_reducible rfl)
  simp only [Act.put, List.setIfInBounds_toArray, List.set_cons_zero, List.set_cons_succ]
  refine held_val (i := 14) ?_ 35 rfl rfl (by kernel_rfl) (by kernel_rfl) (by kernel_rfl) (by rfl) (fun _ _ _ h => h) hS ?_ ?_
  rotate_left
  · (intro w hSw; obtain ⟨k0, ⟨m0, m1, m2, m3, m4, m5, m6, m7, m8, m9, mA, mB⟩, k1, k2⟩ := HCe.out w hSw; clear k1 k2; go_simp; first | done | with_reducible rfl)
  simp only [Act.put, List.setIfInBounds_toArray, List.set_cons_zero, List.set_cons_succ]
  refine held_val (i := 15) ?_ 36 rfl rfl (by kernel_rfl) (by kernel_rfl) (by kernel_rfl) (by rfl) (fun _ _ _ h => h) hS ?_ ?_
  rotate_left
  · (intro w hSw; go_simp; first | done | with_reducible rfl)
  simp only [Act.put, List.setIfInBounds_toArray, List.set_cons_zero, List.set_cons_succ]
  refine held_call (i := 16) 37 43 #[cp a] rfl rfl (by kernel_rfl) (by rfl) (by simp [go_sem]) HC.out ?_
  rintro e w16 ⟨ao, cap, rfl, hS16, HPu⟩
  refine ⟨_, rfl, hS16, ?_⟩
  have hS16 := hS16
  simp only [Act.put, List.setIfInBounds_toArray, List.set_cons_zero, List.set_cons_succ]
  refine held_call (i := 17) 38 42 #[cp c, .int .i64 (p : Int), .int .i64 (cm : Int), .int .i64 (om : Int), .agg #[.complex .f64 v0.1 v0.2, .complex .f64 v1.1 v1.2, .complex .f64 v2.1 v2.2, .complex .f64 v3.1 v3.2], .slice ao tl cap] rfl rfl (by kernel_rfl) (by rfl) (by simp [go_sem]) HPu.out ?_
  rintro e w17 ⟨rfl, hS17, HD⟩
  refine ⟨_, rfl, hS17, ?_⟩
  have hS17 := hS17
  simp only [Act.put, List.setIfInBounds_toArray, List.set_cons_zero, List.set_cons_succ]
  refine held_val (i := 18) ?_ 20 rfl rfl (by kernel_rfl) (by kernel_rfl) (by kernel_rfl) (by rfl) (fun _ _ _ h => h) hS17 ?_ ?_
  rotate_left
  · (intro w hSw; go_simp; first | done | with_reducible rfl)
  simp only [Act.put, List.setIfInBounds_toArray, List.set_cons_zero, List.set_cons_succ]
  refine held_val (i := 19) ?_ 39 rfl rfl (by kernel_rfl) (by kernel_rfl) (by kernel_rfl) (by rfl) (fun _ _ _ h => h) hS17 ?_ ?_
  rotate_left
  · (intro w hSw; go_simp; first | done | with_reducible rfl)
  simp only [Act.put, List.setIfInBounds_toArray, List.set_cons_zero, List.set_cons_succ]
  refine held_val (i := 20) ?_ 40 rfl rfl (by kernel_rfl) (by kernel_rfl) (by kernel_rfl) (by rfl) (fun _ _ _ h => h) hS17 ?_ ?_
  rotate_left
  · (intro w hSw; go_simp; first | done | with_reducible rfl)
  simp only [Act.put, List.setIfInBounds_toArray, List.set_cons_zero, List.set_cons_succ]
  refine held_val (i := 21) ?_ 7 rfl rfl (by kernel_rfl) (by kernel_rfl) (by kernel_rfl) (by rfl) (fun _ _ _ h => h) hS17 ?_ ?_
  rotate_left
  · (intro w hSw; go_simp; first | done | with_reducible rfl)
  simp only [Act.put, List.setIfInBounds_toArray, List.set_cons_zero, List.set_cons_succ]
  refine held_val (i := 22) ?_ 8 rfl rfl (by kernel_rfl) (by kernel_rfl) (by kernel_rfl) (by rfl) (fun _ _ _ h => h) hS17 ?_ ?_
  rotate_left
  · (intro w hSw; go_simp; first | done | with_reducible rfl)
  simp only [Act.put, List.setIfInBounds_toArray, List.set_cons_zero, List.set_cons_succ]
  refine wpAnyH_done (by kernel_rfl) ?_ _
  have HS17 : Hid (∀ k, k = a ∨ k = g3 ∨ k = g4 ∨ k = g6 → w17.heap[k]? = W2.heap[k]?) := hS17
  clear hS hS16 hS17 HC HPu
  go_upto_region 9 with fail
  obtain ⟨-, -, -, h6⟩ := HCe.out w17 HS17.out
  obtain ⟨y0, y1, y2, y3⟩ := op_cells h6
  simp only at y0 y1 y2 y3
  clear h6
  have HT : Hid (Calls Try.prog 20 #[cp a, opV ⟨1, (p : Int), (o : Int), xv⟩] w17 fun e w' => e = .returned (.tuple #[anV 0 gv false, .bool true]) ∧ w'.heap[g4]? = some anZ ∧ Hid (Ng w17 w' (nwA A W2 w17) a (rdS s3 p o) Rn)) := by
    have hr : ∀ U, Below w17.heap.size w17 U → Calls Try.prog 31 #[cp a, opV ⟨1, (p : Int), (o : Int), xv⟩] U fun e w' => e = .returned (.tuple #[anV 0 gv false, .bool true]) ∧ Ng U w' (nwA A W2 w17) a (rdS s3 p o) Rn := by
      intro U hU
      have hd : s3.d = s.d := by rw [← HP.out.2.2.2.2.1]; rfl
      have h := read_yes (HD.out.1.below hU) ⟨1, (p : Int), (o : Int), xv⟩ p o HA.out.2.2.1 HA.out.2.2.2.1 rfl rfl (by rw [Hid, hd]; exact HP.out.2.2.1) HP.out.2.2.2.1
      rw [HP.out.2.2.2.2.2] at h
      exact h
    refine (take_turn HD.out.1 ⟨1, (p : Int), (o : Int), xv⟩ rfl 0 gv true (rdS s3 p o) hr).mono ?_
    rintro e w' ⟨rfl, hn⟩
    have hN := HN.out
    refine ⟨rfl, hn.loc ?_ (HCe.out w17 HS17.out).2.2.1, hn⟩
    rintro (e | e)
    · have := HA.out.1.lt g4 e; omega
    · omega
  go_upto_region 10 with (first
    | (go_at_call 20; refine HT.out.mono ?_; rintro e W5 ⟨rfl, h4, H5⟩)
    | fail)
  have HY : Hid (Ng w17 (W5.alloc (anO 0 gv false)) (nwA A W2 w17) a (rdS s3 p o) Rn ∧ (W5.alloc (anO 0 gv false)).heap[W5.heap.size]? = some (anO 0 gv false) ∧ (W5.alloc (anO 0 gv false)).heap[g4]? = some anZ) := by
    have hb : Below W5.heap.size W5 (W5.alloc (anO 0 gv false)) := (Below.refl _ _).alloc (Nat.le_refl _) _
    exact ⟨H5.out.later hb, heap_alloc_new W5 _, (hb.block g4 (Array.getElem?_eq_some_iff.1 h4).1).trans h4⟩
  clear h4 y0 y1 y2 y3 HT
  show Code.wp _ _ _ _ (W5.alloc (anO 0 gv false))
  obtain ⟨gA, hgA⟩ : ∃ g, W5.heap.size = g := ⟨_, rfl⟩
  rw [hgA] at HY ⊢
  clear hgA
  generalize W5.alloc (anO 0 gv false) = W6 at *
  obtain ⟨z0, z1, z2⟩ := an_cells HY.out.2.2
  have zf := an_fz HY.out.2.2
  obtain ⟨u0, u1, u2⟩ := an_cells HY.out.2.1
  go_upto_region 12 with fail
  go_region
  go_wp2
  refine bodyPost_ret (by simp [results, Try.results27, go_sem, z0, z1, z2]; try rfl) rfl ?_
  have hN := HN.out
  refine ⟨rfl, Ng.put2 (g := g4) (A3 := nwA A W2 w17) ?_ ?_ ?_ (HZ.out.2.1.trans (HD.out.2.mono fun k hk => .inl hk)) HY.out.1 ?_⟩
  · intro k hk
    rcases hk with hk | hk
    · exact .inl hk
    · exact .inr (by omega)
  · rintro (e | e)
    · have := HA.out.1.lt g4 e; omega
    · omega
  · have := HD.out.2.size
    omega
  · refine OffS.trans (b := _) ?_ (OffS.of_below (bel0 _))
    repeat (first | (with_reducible exact OffS.refl _ _) | (with_reducible refine OffS.setCell (A := fun k => k = g4) ?_ rfl _))

end Go.Proofs.Ytmognpjkccienaa
