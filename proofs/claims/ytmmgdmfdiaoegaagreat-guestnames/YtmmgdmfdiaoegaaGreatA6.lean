/- called of package agent: a call that has to wait, walked. -/
import Derived.Test.YtmmgdmfdiaoegaaGreatA5
namespace Go.Proofs.YtmmgdmfdiaoegaaGreat
open Go.RowKit
set_option linter.unusedVariables false
set_option maxRecDepth 8000

theorem busy_end {w w9 w' : World} {A A2 : Nat → Prop} {a c : Nat} {pq ko : Option Addr} {kc : Nat} {s : As} {g : Nat} (hlt : ∀ k, A k → k < w.heap.size) (hg : w.heap.size ≤ g) (h : Ag w9 A2 a c pq ko kc s) (h2 : ∀ k, A2 k → A k ∨ (w.heap.size ≤ k ∧ k ≠ g)) (ho : OffS A w w9) (h3 : OffS (fun k => k = g) w9 w') : Ng w w' A a s Rn := by
  have h4 : Ag w' A2 a c pq ko kc s := h.keep h3.size fun k hk => h3.block k (h.lt k hk) (by
    intro e
    have e' : k = g := e
    rcases h2 k hk with h' | h'
    · have := hlt k h'; omega
    · exact h'.2 e')
  exact Ng.of h4 (fun k hk => ⟨(h2 k hk).imp id fun h => h.1, fun h => h⟩) (ho.trans (h3.mono fun k hk => .inr (by have e : k = g := hk; omega)))

set_option maxHeartbeats 3200000 in
theorem called_busy {w : World} {A : Nat → Prop} {a c : Nat} {pq ko : Option Addr} {kc : Nat} {s : As} (H : Ag w A a c pq ko kc s) (hK : s.K = []) (M : Mg) (hM : CallOk M) (hu : useB s M = true) : Calls Tryz.prog 57 #[cp a, mgV M] w fun e w' => e = .returned (mgV ⟨4, M.p, M.o, 0, 0, 0, M.wr, [], z2, z2, z2, z2⟩) ∧ Ng w w' A a { s with K := [M] } Rn := by
  have hst := fun (ad : Addr) (re im : Nat) (W : World) => run_store Tryz.prog W ad (.complex .f64 re im) .plain rfl
  have HW : Hid _ := al2n w (mgO M) (mgO mZ)
  have HA : Hid (Ag w A a c pq ko kc s ∧ CallOk M ∧ useB s M = true ∧ s.K = []) := ⟨H, hM, hu, hK⟩
  clear H hM hu hK
  go_enter Tryz.func57, Tryz.ntmps57
  go_upto_region 1 with fail
  show Code.wp _ _ _ _ ((w.alloc (mgO M)).alloc (mgO mZ))
  generalize (w.alloc (mgO M)).alloc (mgO mZ) = W at *
  obtain ⟨g3, hg3⟩ : ∃ g, w.heap.size = g := ⟨_, rfl⟩
  obtain ⟨g4, hg4⟩ : ∃ g, w.heap.size + 1 = g := ⟨_, rfl⟩
  have HG : Hid (w.heap.size = g3 ∧ w.heap.size + 1 = g4 ∧ Below w.heap.size w W) := ⟨hg3, hg4, HW.out.2.2⟩
  have HL : Hid (W.heap[g3]? = some (mgO M) ∧ W.heap[g4]? = some (mgO mZ)) := ⟨hg3 ▸ HW.out.1, hg4 ▸ HW.out.2.1⟩
  rw [hg4, hg3]
  clear hg3 hg4 HW
  obtain ⟨y0, y1, y2, y3, y4, y5, y6, y7, y8, y9, yA, yB⟩ := mg_cells HL.out.1
  have HN : Hid (∀ U, Below W.heap.size W U → U.cell? ⟨a, 40, none⟩ = some (.slice ko 0 kc) ∧ U.frozen? ⟨a, 40, none⟩ = false ∧ MgW U g3 M) := by
    intro U hU
    have h1 := (HA.out.1.below HG.out.2.2).below hU
    have h2 := h1.ck
    rw [HA.out.2.2.2] at h2
    exact ⟨h2, h1.fz 40, mg_cells ((hU.block g3 (Array.getElem?_eq_some_iff.1 HL.out.1).1).trans HL.out.1)⟩
  have HI : Hid (Calls Tryz.prog 73 #[cp a, mgV M] W fun e w' => e = .returned (.bool true) ∧ Hid (Below W.heap.size W w')) := by
    refine (inUse_any (HA.out.1.below HG.out.2.2) M HA.out.2.1).mono ?_
    rintro e w' ⟨rfl, hb⟩
    exact ⟨by rw [HA.out.2.2.1], hb⟩
  go_upto_region 3 with (first
    | (go_at_call 73; refine HI.out.mono ?_; rintro e W1 ⟨rfl, HB1⟩)
    | fail)
  clear y0 y1 y2 y3 y4 y5 y6 y7 y8 y9 yA yB HI
  have hck := (HN.out _ HB1.out).1
  go_upto_region 4 with (first
    | (go_at_call 74; refine (contains0 _ _ _ _).mono ?_; rintro e W2 ⟨rfl, hw⟩; subst W2)
    | fail)
  clear hck
  have HC : Hid (Calls Tryz.prog 76 #[mgV M] W1.drew fun e w' => e = .returned (mgV M) ∧ Hid (Below W.heap.size W w')) := by
    refine (copy_any M W1.drew).mono ?_
    rintro e w' ⟨rfl, hb⟩
    exact ⟨rfl, below_step (below_step HB1.out (bel0 _)) hb⟩
  refine wp_region_till (fun U => U.cell? ⟨a, 40, none⟩ = some (.slice ko 0 kc) ∧ U.frozen? ⟨a, 40, none⟩ = false ∧ MgW U g3 M) 11 (by kernel_rfl) ?_
  have hF := HN.out _ (below_step HB1.out (bel0 W1))
  refine Till.val (i := 0) ?_ 19 rfl rfl rfl (by kernel_rfl) (by decide) (by kernel_rfl) (by kernel_rfl) (by kernel_rfl) (by kernel_rfl) (by rfl) (fun _ _ _ h => h) hF ?_ ?_
  rotate_left
  · (intro w hSw; go_simp; first | done | with_reducible rfl)
  simp only [Act.put, List.setIfInBounds_toArray, List.set_cons_zero, List.set_cons_succ]
  refine Till.val (i := 1) ?_ 20 rfl rfl rfl (by kernel_rfl) (by decide) (by kernel_rfl) (by kernel_rfl) (by kernel_rfl) (by kernel_rfl) (by rfl) (fun _ _ _ h => h) hF ?_ ?_
  rotate_left
  · (intro w hSw; go_simp; first | done | with_reducible rfl)
  simp only [Act.put, List.setIfInBounds_toArray, List.set_cons_zero, List.set_cons_succ]
  refine Till.val (i := 2) ?_ 21 rfl rfl rfl (by kernel_rfl) (by decide) (by kernel_rfl) (by kernel_rfl) (by kernel_rfl) (by kernel_rfl) (by rfl) (fun _ _ _ h => h) hF ?_ ?_
  rotate_left
  · (intro w hSw; go_simp; first | done | with_reducible rfl)
  simp only [Act.put, List.setIfInBounds_toArray, List.set_cons_zero, List.set_cons_succ]
  refine Till.val (i := 3) ?_ 22 rfl rfl rfl (by kernel_rfl) (by decide) (by kernel_rfl) (by kernel_rfl) (by kernel_rfl) (by kernel_rfl) (by rfl) (fun _ _ _ h => h) hF ?_ ?_
  rotate_left
  · (intro w hSw; go_simp; first | done | with_reducible rfl)
  simp only [Act.put, List.setIfInBounds_toArray, List.set_cons_zero, List.set_cons_succ]
  refine Till.val (i := 4) ?_ 23 rfl rfl rfl (by kernel_rfl) (by decide) (by kernel_rfl) (by kernel_rfl) (by kernel_rfl) (by kernel_rfl) (by rfl) (fun _ _ _ h => h) hF ?_ ?_
  rotate_left
  · (intro w hSw; obtain ⟨k0, k1, m0, m1, m2, m3, m4, m5, m6, m7, m8, m9, mA, mB⟩ := hSw; go_simp; first | done | with_reducible rfl)
  simp only [Act.put, List.setIfInBounds_toArray, List.set_cons_zero, List.set_cons_succ]
  refine Till.val (i := 5) ?_ 24 rfl rfl rfl (by kernel_rfl) (by decide) (by kernel_rfl) (by kernel_rfl) (by kernel_rfl) (by kernel_rfl) (by rfl) (fun _ _ _ h => h) hF ?_ ?_
  rotate_left
  · (intro w hSw; obtain ⟨k0, k1, m0, m1, m2, m3, m4, m5, m6, m7, m8, m9, mA, mB⟩ := hSw; go_simp; first | done | with_reducible rfl)
  simp only [Act.put, List.setIfInBounds_toArray, List.set_cons_zero, List.set_cons_succ]
  refine Till.call (i := 6) 25 76 #[mgV M] rfl rfl (by kernel_rfl) (by rfl) (by simp [go_sem]) HC.out ?_
  rintro e W6 ⟨rfl, HB6⟩
  have hF6 := HN.out _ HB6.out
  refine ⟨_, rfl, hF6, ?_⟩
  simp only [Act.put, List.setIfInBounds_toArray, List.set_cons_zero, List.set_cons_succ]
  have hb7 : Below W6.heap.size W6 (W6.alloc (.cells #[.int .i64 M.k, .int .i64 M.p, .int .i64 M.o, .int .i64 M.t, .int .i64 M.c, .int .i64 M.n, .bool M.wr, .slice none 0 0, .complex .f64 M.v0.1 M.v0.2, .complex .f64 M.v1.1 M.v1.2, .complex .f64 M.v2.1 M.v2.2, .complex .f64 M.v3.1 M.v3.2] 73)) := (Below.refl _ _).alloc (Nat.le_refl _) _
  have HB7 : Hid (Below W.heap.size W (W6.alloc (.cells #[.int .i64 M.k, .int .i64 M.p, .int .i64 M.o, .int .i64 M.t, .int .i64 M.c, .int .i64 M.n, .bool M.wr, .slice none 0 0, .complex .f64 M.v0.1 M.v0.2, .complex .f64 M.v1.1 M.v1.2, .complex .f64 M.v2.1 M.v2.2, .complex .f64 M.v3.1 M.v3.2] 73))) := below_step HB6.out hb7
  have hF7 := HN.out _ HB7.out
  refine Till.run (i := 7) 26 (.slice (some ⟨W6.heap.size, 0, none⟩) 1 1) (W6.alloc (.cells #[.int .i64 M.k, .int .i64 M.p, .int .i64 M.o, .int .i64 M.t, .int .i64 M.c, .int .i64 M.n, .bool M.wr, .slice none 0 0, .complex .f64 M.v0.1 M.v0.2, .complex .f64 M.v1.1 M.v1.2, .complex .f64 M.v2.1 M.v2.2, .complex .f64 M.v3.1 M.v3.2] 73)) rfl rfl (by kernel_rfl) (by rfl) (by go_simp) hF7 ?_
  simp only [Act.put, List.setIfInBounds_toArray, List.set_cons_zero, List.set_cons_succ]
  have HO : Hid (OwR mgC 12 73 (W6.alloc (.cells #[.int .i64 M.k, .int .i64 M.p, .int .i64 M.o, .int .i64 M.t, .int .i64 M.c, .int .i64 M.n, .bool M.wr, .slice none 0 0, .complex .f64 M.v0.1 M.v0.2, .complex .f64 M.v1.1 M.v1.2, .complex .f64 M.v2.1 M.v2.2, .complex .f64 M.v3.1 M.v3.2] 73)) ko kc [] ∧ RdR mgC (W6.alloc (.cells #[.int .i64 M.k, .int .i64 M.p, .int .i64 M.o, .int .i64 M.t, .int .i64 M.c, .int .i64 M.n, .bool M.wr, .slice none 0 0, .complex .f64 M.v0.1 M.v0.2, .complex .f64 M.v1.1 M.v1.2, .complex .f64 M.v2.1 M.v2.2, .complex .f64 M.v3.1 M.v3.2] 73)) (some ⟨W6.heap.size, 0, none⟩) 1 [M]) := by
    have h1 := ((HA.out.1.below HG.out.2.2).below HB7.out).k
    rw [HA.out.2.2.2] at h1
    exact ⟨h1, RdR.built mgE W6 73 _ [M] rfl 1 rfl (by decide)⟩
  generalize W6.alloc (.cells #[.int .i64 M.k, .int .i64 M.p, .int .i64 M.o, .int .i64 M.t, .int .i64 M.c, .int .i64 M.n, .bool M.wr, .slice none 0 0, .complex .f64 M.v0.1 M.v0.2, .complex .f64 M.v1.1 M.v1.2, .complex .f64 M.v2.1 M.v2.2, .complex .f64 M.v3.1 M.v3.2] 73) = W7 at *
  refine till_append_R mgE (i := 8) (n := 0) (m := 1) (L := []) (M := [M]) 27 (.tmp 23) (.tmp 26) 54 rfl rfl (by kernel_rfl) (by rfl) rfl 73 _ 144 Tryz.underlying54 info50 rfl rfl rfl HO.out.1 HO.out.2 rfl rfl (by decide) (by decide) ?_
  intro k2 c2 W8 ho8 hg8 hl8
  have HX : Hid (OwR mgC 12 73 W8 k2 c2 [M] ∧ W7.grownBy W8 (ko.map (·.block)) ∧ (k2 = ko ∨ k2 = some ⟨W7.heap.size, 0, none⟩)) := ⟨ho8, hg8, hl8⟩
  clear ho8 hg8 hl8
  have HK8 : Hid (∀ k, (A k ∨ k = g3 ∨ k = g4) → (∀ p, ko = some p → k ≠ p.block) → W8.heap[k]? = W.heap[k]?) := by
    intro k hk hne
    have hkl : k < W.heap.size := by
      rcases hk with hk | rfl | rfl
      · exact Nat.lt_of_lt_of_le (HA.out.1.lt k hk) HG.out.2.2.size
      · exact (Array.getElem?_eq_some_iff.1 HL.out.1).1
      · exact (Array.getElem?_eq_some_iff.1 HL.out.2).1
    refine (HX.out.2.1.block k (Nat.lt_of_lt_of_le hkl HB7.out.size) ?_).trans (HB7.out.block k hkl)
    intro e
    cases hko : ko with
    | none => rw [hko] at e; cases e
    | some p =>
      rw [hko] at e
      cases e
      exact hne p hko rfl
  have HKK : Hid (∀ k, k = g3 ∨ k = g4 → ∀ p, ko = some p → k ≠ p.block) := by
    intro k hk p hp e
    have h1 := HA.out.1.lt _ (HA.out.1.ak p hp)
    have h2 := HG.out
    omega
  have hF8 : W8.cell? ⟨a, 40, none⟩ = some (.slice ko 0 kc) ∧ W8.frozen? ⟨a, 40, none⟩ = false ∧ MgW W8 g3 M := by
    have e1 := HK8.out a (.inl HA.out.1.aa) fun p hp => (HA.out.1.ne_k p hp).symm
    have hF0 := HN.out W (Below.refl _ _)
    exact ⟨(World.cell?_of_block (w := W) (w' := W8) (a := ⟨a, 40, none⟩) e1).trans hF0.1, (World.frozen?_of_block (w := W) (a := ⟨a, 40, none⟩) e1).trans hF0.2.1, mg_cells ((HK8.out g3 (.inr (.inl rfl)) (HKK.out g3 (.inl rfl))).trans HL.out.1)⟩
  refine ⟨hF8, ?_⟩
  simp only [Act.put, List.setIfInBounds_toArray, List.set_cons_zero, List.set_cons_succ]
  refine Till.run (i := 9) 28 (.pointer (some ⟨a, 0, none⟩)) W8 rfl rfl (by kernel_rfl) (by rfl) (by go_simp) hF8 ?_
  simp only [Act.put, List.setIfInBounds_toArray, List.set_cons_zero, List.set_cons_succ]
  refine Till.run (i := 10) 29 (.pointer (some ⟨a, 40, none⟩)) W8 rfl rfl (by kernel_rfl) (by rfl) (by go_simp) hF8 ?_
  simp only [Act.put, List.setIfInBounds_toArray, List.set_cons_zero, List.set_cons_succ]
  obtain ⟨f1, f2, -⟩ := hF8
  refine Till.last (W8.setCell ⟨a, 40, none⟩ (.slice k2 1 c2)) rfl rfl (by kernel_rfl) (by decide) (by rfl) (by go_simp) ?_
  refine Till.done (by kernel_rfl) ?_ _
  obtain ⟨A2, hA2⟩ : ∃ A2 : Nat → Prop, A2 = fun k => A k ∨ Ro k2 k := ⟨_, rfl⟩
  have HZ : Hid (Ag (W8.setCell ⟨a, 40, none⟩ (.slice k2 1 c2)) A2 a c pq k2 c2 { s with K := [M] } ∧ (∀ k, A2 k → A k ∨ (w.heap.size ≤ k ∧ k ≠ g4)) ∧ OffS A w (W8.setCell ⟨a, 40, none⟩ (.slice k2 1 c2)) ∧ (W8.setCell ⟨a, 40, none⟩ (.slice k2 1 c2)).heap[g3]? = some (mgO M) ∧ (W8.setCell ⟨a, 40, none⟩ (.slice k2 1 c2)).heap[g4]? = some (mgO mZ)) := by
    have hG := HG.out
    have s1 := HB7.out.size
    have s2 := HX.out.2.1.size
    have s0 := hG.2.2.size
    have hl4 : g4 < W.heap.size := (Array.getElem?_eq_some_iff.1 HL.out.2).1
    have hk2 : ∀ p, k2 = some p → (k2 = ko ∧ A p.block) ∨ (p.block = W7.heap.size) := by
      intro p hp
      rcases HX.out.2.2 with e | e
      · exact .inl ⟨e, HA.out.1.ak p (e ▸ hp)⟩
      · rw [hp] at e
        cases e
        exact .inr rfl
    have ha3 : ∀ k, k = g3 ∨ k = g4 → k ≠ a := by
      intro k hk e
      have := HA.out.1.sz
      omega
    have hbb : ∀ k, k ≠ a → (W8.setCell ⟨a, 40, none⟩ (.slice k2 1 c2)).heap[k]? = W8.heap[k]? := fun k hk => Below.heap_setCell _ _ _ _ hk
    refine ⟨?_, ?_, ?_, ?_, ?_⟩
    · have h0 : Ag W A a c pq ko kc s := HA.out.1.below hG.2.2
      refine h0.recall A2 W8 (by omega) (fun k hk hne => HK8.out k (.inl hk) hne) k2 c2 [M] HX.out.1 (fun k hk => by rw [hA2]; exact .inl hk) ?_ ?_
      · intro k hk
        rw [hA2] at hk
        rcases hk with hk | ⟨p, hp, rfl⟩
        · have := HA.out.1.lt k hk; omega
        · exact (HX.out.1.lt p hp).1
      · intro p hp
        refine ⟨by rw [hA2]; exact .inr ⟨p, hp, rfl⟩, ?_⟩
        rcases hk2 p hp with e | e
        · exact .inl e.1
        · refine .inr fun h => ?_
          have := HA.out.1.lt _ h
          omega
    · intro k hk
      rw [hA2] at hk
      rcases hk with hk | ⟨p, hp, rfl⟩
      · exact .inl hk
      · rcases hk2 p hp with e | e
        · exact .inl e.2
        · refine .inr ⟨by omega, by omega⟩
    · refine ⟨HX.out.2.1.os.trans (HB7.out.os.trans hG.2.2.os), HX.out.2.1.tape.trans (HB7.out.tape.trans hG.2.2.tape), HX.out.2.1.output.trans (HB7.out.output.trans hG.2.2.output), by simp; omega, fun k hk hn => ?_⟩
      have h1 : k ≠ a := fun e => hn (e ▸ HA.out.1.aa)
      refine (hbb k h1).trans ((HX.out.2.1.block k (by omega) ?_).trans ((HB7.out.block k (by omega)).trans (hG.2.2.block k hk)))
      intro e
      cases hko : ko with
      | none => rw [hko] at e; cases e
      | some p =>
        rw [hko] at e
        cases e
        exact hn (HA.out.1.ak p hko)
    · exact (hbb g3 (ha3 g3 (.inl rfl))).trans ((HK8.out g3 (.inr (.inl rfl)) (HKK.out g3 (.inl rfl))).trans HL.out.1)
    · exact (hbb g4 (ha3 g4 (.inr rfl))).trans ((HK8.out g4 (.inr (.inr rfl)) (HKK.out g4 (.inr rfl))).trans HL.out.2)
  generalize W8.setCell ⟨a, 40, none⟩ (.slice k2 1 c2) = W9 at *
  clear HX HK8 HKK HO f1 f2 hF6 hF7 hF hA2 hb7
  obtain ⟨y0, y1, y2, y3, y4, y5, y6, y7, y8, y9, yA, yB⟩ := mg_cells HZ.out.2.2.2.1
  obtain ⟨x0, x1, x2, x3, x4, x5, x6, x7, x8, x9, xA, xB⟩ := mg_cells HZ.out.2.2.2.2
  have xf := mg_fz HZ.out.2.2.2.2
  simp only at x0 x1 x2 x3 x4 x5 x6 x8 x9 xA xB
  go_wp2
  refine bodyPost_ret (by simp [results, Tryz.results57, go_sem, x0, x1, x2, x3, x4, x5, x6, x7, x8, x9, xA, xB]; try rfl) rfl ?_
  refine ⟨rfl, busy_end (g := g4) HA.out.1.lt (by have := HG.out; omega) HZ.out.1 HZ.out.2.1 HZ.out.2.2.1 ?_⟩
  repeat (first | (with_reducible exact OffS.refl _ _) | (with_reducible refine OffS.setCell (A := fun k => k = g4) ?_ rfl _))

end Go.Proofs.YtmmgdmfdiaoegaaGreat
