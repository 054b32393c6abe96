/- guestAlive, walked. -/
import Derived.Test.YtmmgdmfdiaoegaaGreatG6
namespace Go.Proofs.YtmmgdmfdiaoegaaGreat
open Go.RowKit
set_option linter.unusedVariables false
set_option maxRecDepth 8000

abbrev x1 : Og := ⟨1, 1, 0, z2⟩
/-- What is asked. -/
abbrev aM : Mg := ⟨0, 1, 0, 0, 0, 0, false, [], z2, z2, z2, z2⟩
def t0 : As := newS 3
def t1 : As := begS t0
def t2 : As := { t1 with q := some x1 }

theorem g_begin {w : World} {G : Nat → Prop} {g : Nat} (H : Gw w G g 2 1 1 t0 [] 0 0) : Calls Tryz.prog 11 #[cp g, .agg #[.int .i64 0, .int .i64 0, .int .i64 0, .complex .f64 0 0]] w fun e w' => e = .returned (.tuple #[.slice none 0 0, anV 0 z2 false]) ∧ Hg w w' G g 2 1 1 t1 [] 0 0 := by
  refine gdo_none H ⟨0, 0, 0, z2⟩ 0 z2 false t1 ?_
  rintro A a W ⟨c, pq, ko, kc, h⟩
  exact do_begin h ⟨0, 0, 0, z2⟩ rfl (by decide) (by decide)

theorem g_read {w : World} {G : Nat → Prop} {g : Nat} (H : Gw w G g 2 1 1 t1 [] 0 0) : Calls Tryz.prog 11 #[cp g, .agg #[.int .i64 1, .int .i64 1, .int .i64 0, .complex .f64 0 0]] w fun e w' => ∃ b cap, e = .returned (.tuple #[.slice (some ⟨b, 0, none⟩) 1 cap, anV 0 z2 true]) ∧ (w'.cell? ⟨b, 3, none⟩ = some (.int .i64 1) ∧ w'.cell? ⟨b, 2, none⟩ = some (.int .i64 1)) ∧ Hg w w' G g 2 1 1 t2 [byB aM] 1 0 := by
  refine (gdo_say H x1 0 z2 true t2 1 [aM] ?_ rfl (by decide) (by decide) (by decide) ?_).mono ?_
  · intro M hM
    have e : M = aM := by simpa using hM
    subst e
    have hz : Msg.wordB z2 := ⟨by decide, by decide⟩
    exact ⟨by kernel_rfl, ⟨fun p hp => (by cases hp), hz, hz, hz, hz⟩⟩
  · rintro A a W ⟨c, pq, ko, kc, h⟩
    have h20 : ∀ V, Below W.heap.size W V → Calls Tryz.prog 39 #[cp a, opV x1] V fun e w' => e = .returned (.tuple #[anV 0 z2 false, .bool false]) ∧ Below V.heap.size V w' := by
      intro V hV
      refine take_same (h.below hV) x1 rfl 0 z2 false ?_
      intro U hU
      exact read_no ((h.below hV).below hU) x1 1 0 (by decide) (by decide) rfl rfl (by unfold Hid; decide) (by unfold Hid; decide)
    refine (do_miss h x1 rfl (fun V => isPlace_rw x1 (.inl rfl) (by decide) (by decide) V) (by decide) h20).mono ?_
    rintro e w' ⟨b, rfl, h1, h2, h3⟩
    refine ⟨some ⟨b, 0, none⟩, 1, none, 0, 0, rfl, h2, ?_, ?_, h3.less ?_⟩
    · intro M hM
      have e : M = aM := by simpa using hM
      subst e
      exact Msg.RdP.none w'
    · rintro p (hp | hp)
      · cases hp
        obtain ⟨b', off, e, hl, hc⟩ := h2.cell (by simp)
        cases e
        exact ⟨h1, hl⟩
      · cases hp
    · rintro k (h' | ⟨p, hp, _⟩)
      · exact h'
      · cases hp
  · rintro e w' ⟨vv, rfl, hp, hg⟩
    have hp' : Lnk.Pks w' w.heap.size (fun k => w.heap.size ≤ k) vv [⟨2, 1, 1, 1, 0, false, byB aM⟩] := hp
    obtain ⟨b, cap, u, rfl, -, hi, -⟩ := hp'.at 0 (by decide)
    have c2 := hi.c2
    have c3 := hi.c3
    exact ⟨b, cap, rfl, ⟨c3, c2⟩, hg⟩

set_option maxHeartbeats 3200000 in
theorem alive_any (w : World) : Calls Tryz.prog 5 #[] w fun e w' => e = .returned (.bool true) ∧ Below w.heap.size w w' := by
  have hst := fun (ad : Addr) (re im : Nat) (W : World) => run_store Tryz.prog W ad (.complex .f64 re im) .plain rfl
  have HN : Hid (Calls Tryz.prog 4 #[.int .i64 2, .int .i64 1, .int .i64 3] w fun e w' => ∃ g G, e = .returned (cp g) ∧ Hid (Gn w' G g 2 1 t0 ∧ (∀ k, G k → w.heap.size ≤ k) ∧ Below w.heap.size w w')) := by
    refine (gnew 2 1 3 w).mono ?_
    rintro e w' ⟨g, G, rfl, h1, h2, h3⟩
    exact ⟨g, G, rfl, h1, h2, h3⟩
  go_enter Tryz.func5, Tryz.ntmps5
  go_upto_region 4 with (first
    | (go_at_call 4; refine HN.out.mono ?_; rintro e W1 ⟨g, G1, rfl, H1⟩)
    | fail)
  clear HN
  have HC : Hid (Calls Tryz.prog 11 #[cp g, .agg #[.int .i64 0, .int .i64 0, .int .i64 0, .complex .f64 0 0]] W1 fun e w' => e = .returned (.tuple #[.slice none 0 0, anV 181 z2 false]) ∧ Hid (Below W1.heap.size W1 w')) := by
    obtain ⟨A, a, hb, -⟩ := H1.out.1
    refine (gdo_no hb ⟨0, 0, 0, z2⟩).mono ?_
    rintro e w' ⟨rfl, h⟩
    exact ⟨rfl, h⟩
  go_upto_region 5 with (first
    | (go_at_call 11; refine HC.out.mono ?_; rintro e W2 ⟨rfl, HB2⟩)
    | fail)
  clear HC
  have H3 : Hid (Below W1.heap.size W1 (W2.alloc (anO 181 (0, 0) false)) ∧ (W2.alloc (anO 181 (0, 0) false)).heap[W2.heap.size]? = some (anO 181 (0, 0) false)) := ⟨below_step HB2.out ((Below.refl _ _).alloc (Nat.le_refl _) _), heap_alloc_new W2 _⟩
  show Code.wp _ _ _ _ (W2.alloc (anO 181 (0, 0) false))
  obtain ⟨g3, hg3⟩ : ∃ g, W2.heap.size = g := ⟨_, rfl⟩
  rw [hg3] at H3 ⊢
  clear hg3 HB2
  generalize W2.alloc (anO 181 (0, 0) false) = W3 at *
  have HT : Hid (Calls Tryz.prog 12 #[cp g] W3 fun e w' => ∃ b, e = .returned (.slice (some ⟨b, 0, none⟩) 1 1) ∧ Hid (Lnk.PkIn w' b 0 (hiP 2 1) (.slice none 0 0) ∧ Below W3.heap.size W3 w')) := by
    obtain ⟨A, a, hb, -⟩ := H1.out.1.below H3.out.1
    refine (gtick_no hb).mono ?_
    rintro e w' ⟨b, rfl, h1, h2, h3⟩
    exact ⟨b, rfl, h1, h3⟩
  go_upto_region 6 with (first
    | (go_at_call 12; refine HT.out.mono ?_; rintro e W4 ⟨b4, rfl, H4⟩)
    | fail)
  clear HT
  obtain ⟨z0, z1, z2⟩ := an_cells ((H4.out.2.block g3 (Array.getElem?_eq_some_iff.1 H3.out.2).1).trans H3.out.2)
  have p0 := H4.out.1.c0
  have p1 := H4.out.1.c1
  have p2 := H4.out.1.c2
  have p5 := H4.out.1.c5
  simp only [Nat.zero_add] at p1 p2 p5
  simp only at p0 p1 p2 p5
  go_upto_region 8 with fail
  clear z0 z1 z2 p0 p1 p2 p5
  have HC : Hid (Calls Tryz.prog 13 #[cp g, .agg #[.int .i64 2, .int .i64 1, .int .i64 1, .int .i64 0, .int .i64 0, .bool true, .slice none 0 0]] W4 fun e w' => e = .returned (.tuple #[.slice none 0 0, anV 0 z2 false, .bool false]) ∧ ∃ G', Hid (Gw w' G' g 2 1 1 t0 [] 0 0 ∧ (∀ k, G' k → w.heap.size ≤ k) ∧ Below w.heap.size w w')) := by
    have hb4 : Below w.heap.size w W4 := below_step (below_step H1.out.2.2 H3.out.1) H4.out.2
    refine (got_new ((H1.out.1.below H3.out.1).below H4.out.2) 1 0 0 [] (.slice none 0 0) (fun _ => True) (Lnk.By.nil _ _) (by decide) (by decide) (by decide) (by kernel_rfl)).mono ?_
    rintro e w' ⟨rfl, hn⟩
    obtain ⟨G', i1, i2, i4⟩ := hn.nextB H1.out.2.1 hb4 (Nat.le_refl _)
    exact ⟨rfl, G', i2, i1, i4⟩
  go_upto_region 9 with (first
    | (go_at_call 13; refine HC.out.mono ?_; rintro e W5 ⟨rfl, G5, H5⟩)
    | fail)
  clear HC H1 H3 H4
  have HC : Hid (Calls Tryz.prog 11 #[cp g, .agg #[.int .i64 0, .int .i64 0, .int .i64 0, .complex .f64 0 0]] W5 fun e w' => e = .returned (.tuple #[.slice none 0 0, anV 0 z2 false]) ∧ ∃ G', Hid (Gw w' G' g 2 1 1 t1 [] 0 0 ∧ (∀ k, G' k → w.heap.size ≤ k) ∧ Below w.heap.size w w')) := by
    refine (g_begin H5.out.1).mono ?_
    rintro e w' ⟨rfl, hn⟩
    obtain ⟨G', i1, i2, i4⟩ := hn.nextB H5.out.2.1 H5.out.2.2 (Nat.le_refl _)
    exact ⟨rfl, G', i2, i1, i4⟩
  go_upto_region 10 with (first
    | (go_at_call 11; refine HC.out.mono ?_; rintro e W6 ⟨rfl, G6, H6⟩)
    | fail)
  clear HC H5
  have H7 : Hid (Gw (W6.alloc anZ) G6 g 2 1 1 t1 [] 0 0 ∧ (∀ k, G6 k → w.heap.size ≤ k) ∧ Below w.heap.size w (W6.alloc anZ) ∧ (W6.alloc anZ).heap[W6.heap.size]? = some anZ ∧ ¬ G6 W6.heap.size) := by
    have hb : Below W6.heap.size W6 (W6.alloc anZ) := (Below.refl _ _).alloc (Nat.le_refl _) _
    exact ⟨H6.out.1.below hb, H6.out.2.1, below_step H6.out.2.2 hb, heap_alloc_new W6 _, fun e => by have := H6.out.1.lt _ e; omega⟩
  show Code.wp _ _ _ _ (W6.alloc anZ)
  obtain ⟨g7, hg7⟩ : ∃ g, W6.heap.size = g := ⟨_, rfl⟩
  rw [hg7] at H7 ⊢
  clear hg7 H6
  generalize W6.alloc anZ = W7 at *
  have HC : Hid (Calls Tryz.prog 11 #[cp g, .agg #[.int .i64 1, .int .i64 1, .int .i64 0, .complex .f64 0 0]] W7 fun e w' => ∃ b cap, e = .returned (.tuple #[.slice (some ⟨b, 0, none⟩) 1 cap, anV 0 z2 true]) ∧ Hid ((w'.cell? ⟨b, 3, none⟩ = some (.int .i64 1) ∧ w'.cell? ⟨b, 2, none⟩ = some (.int .i64 1)) ∧ w'.heap[g7]? = some anZ ∧ (∃ G', Gw w' G' g 2 1 1 t2 [byB aM] 1 0) ∧ Below w.heap.size w w')) := by
    refine (g_read H7.out.1).mono ?_
    rintro e w' ⟨b, cap, rfl, hc, hn⟩
    obtain ⟨G', i1, i2, i4⟩ := hn.nextB H7.out.2.1 H7.out.2.2.1 (Nat.le_refl _)
    exact ⟨b, cap, rfl, hc, (hn.off.block g7 (Array.getElem?_eq_some_iff.1 H7.out.2.2.2.1).1 H7.out.2.2.2.2).trans H7.out.2.2.2.1, ⟨G', i2⟩, i4⟩
  go_upto_region 11 with (first
    | (go_at_call 11; refine HC.out.mono ?_; rintro e W8 ⟨b8, cap8, rfl, H8⟩)
    | fail)
  clear HC H7
  have H9 : Hid ((W8.alloc (anO 0 (0, 0) true)).cell? ⟨b8, 3, none⟩ = some (.int .i64 1) ∧ (W8.alloc (anO 0 (0, 0) true)).cell? ⟨b8, 2, none⟩ = some (.int .i64 1) ∧ (W8.alloc (anO 0 (0, 0) true)).heap[g7]? = some anZ ∧ (∃ G', Gw (W8.alloc (anO 0 (0, 0) true)) G' g 2 1 1 t2 [byB aM] 1 0) ∧ Below w.heap.size w (W8.alloc (anO 0 (0, 0) true)) ∧ (W8.alloc (anO 0 (0, 0) true)).heap[W8.heap.size]? = some (anO 0 (0, 0) true)) := by
    have hb : Below W8.heap.size W8 (W8.alloc (anO 0 (0, 0) true)) := (Below.refl _ _).alloc (Nat.le_refl _) _
    obtain ⟨⟨h1, h2⟩, h3, ⟨G', h4⟩, h5⟩ := H8.out
    have hl := World.block_lt_of_cell? W8 _ h1
    exact ⟨(hb.cell (p := ⟨b8, 3, none⟩) hl).trans h1, (hb.cell (p := ⟨b8, 2, none⟩) hl).trans h2, (hb.block g7 (Array.getElem?_eq_some_iff.1 h3).1).trans h3, ⟨G', h4.below hb⟩, below_step h5 hb, heap_alloc_new W8 _⟩
  show Code.wp _ _ _ _ (W8.alloc (anO 0 (0, 0) true))
  obtain ⟨g9, hg9⟩ : ∃ g, W8.heap.size = g := ⟨_, rfl⟩
  rw [hg9] at H9 ⊢
  clear hg9 H8
  generalize W8.alloc (anO 0 (0, 0) true) = W9 at *
  obtain ⟨z0, z1, z2⟩ := an_cells H9.out.2.2.1
  obtain ⟨y0, y1, y2⟩ := an_cells H9.out.2.2.2.2.2
  have p3 := H9.out.1
  have p2 := H9.out.2.1
  obtain ⟨G', A, D, a, l, xo, xc, hK, -⟩ := H9.out.2.2.2.1
  have H10 : Hid (Calls Tryz.prog 7 #[cp g] W9 fun e w' => e = .returned (.int .i64 1) ∧ w' = W9) := gboot hK.blk
  have H11 : Hid (Calls Tryz.prog 8 #[cp g] W9 fun e w' => e = .returned (cp a) ∧ w' = W9) := gagent hK.blk
  have H12 : Hid (Calls Tryz.prog 9 #[cp a] W9 fun e w' => e = .returned (.bool true) ∧ w' = W9) := by
    obtain ⟨c, pq, ko, kc, hA⟩ := hK.ag
    exact open_any hA
  clear hK
  go_wp2_with (first
    | (go_at_call 7; refine H10.out.mono ?_; rintro e W10 ⟨rfl, hw⟩; subst W10)
    | (go_at_call 8; refine H11.out.mono ?_; rintro e W10 ⟨rfl, hw⟩; subst W10)
    | (go_at_call 9; refine H12.out.mono ?_; rintro e W10 ⟨rfl, hw⟩; subst W10)
    | fail)
  go_ret
  exact ⟨rfl, H9.out.2.2.2.2.1⟩

set_option maxHeartbeats 3200000 in
theorem names_walk (w : World) : Calls Tryz.prog 3 #[] w fun e w' => e = .returned (.bool true) ∧ Below w.heap.size w w' := by
  have HN : Hid (Calls Tryz.prog 4 #[.int .i64 0, .int .i64 5, .int .i64 1] w fun e w' => ∃ g G, e = .returned (cp g) ∧ Hid (Gn w' G g 0 5 (newS 1) ∧ Below w.heap.size w w')) := by
    refine (gnew 0 5 1 w).mono ?_
    rintro e w' ⟨g, G, rfl, h1, h2, h3⟩
    exact ⟨g, G, rfl, h1, h3⟩
  go_enter Tryz.func3, Tryz.ntmps3
  go_upto_region 2 with (first
    | (go_at_call 4; refine HN.out.mono ?_; rintro e W1 ⟨g, G1, rfl, H1⟩)
    | fail)
  clear HN
  obtain ⟨A, a, h1, h2, -⟩ := H1.out.1
  have HX : Hid (W1.heap[g]? = some (guO 0 5 a none 0 none 0 0) ∧ Aw W1 A a (newS 1)) := ⟨h1, h2⟩
  clear h1 h2
  have HL : Hid (Calls Tryz.prog 5 #[] W1 fun e w' => e = .returned (.bool true) ∧ Hid (Below w.heap.size w w' ∧ (Calls Tryz.prog 6 #[cp g] w' fun e w2 => e = .returned (.int .i64 5) ∧ w2 = w') ∧ (Calls Tryz.prog 7 #[cp g] w' fun e w2 => e = .returned (.int .i64 0) ∧ w2 = w') ∧ (Calls Tryz.prog 8 #[cp g] w' fun e w2 => e = .returned (cp a) ∧ w2 = w') ∧ (Calls Tryz.prog 9 #[cp a] w' fun e w2 => e = .returned (.bool false) ∧ w2 = w'))) := by
    refine (alive_any W1).mono ?_
    rintro e w' ⟨rfl, hb⟩
    have hg := (hb.block g (Array.getElem?_eq_some_iff.1 HX.out.1).1).trans HX.out.1
    refine ⟨rfl, below_step H1.out.2 hb, gepoch hg, gboot hg, gagent hg, ?_⟩
    obtain ⟨c, pq, ko, kc, hA⟩ := HX.out.2.below hb
    exact open_any hA
  go_wp2_with (first
    | (go_at_call 5; refine HL.out.mono ?_; rintro e W6 ⟨rfl, H6⟩)
    | (go_at_call 6; refine H6.out.2.1.mono ?_; rintro e W7 ⟨rfl, hw⟩; subst W7)
    | (go_at_call 7; refine H6.out.2.2.1.mono ?_; rintro e W7 ⟨rfl, hw⟩; subst W7)
    | (go_at_call 8; refine H6.out.2.2.2.1.mono ?_; rintro e W7 ⟨rfl, hw⟩; subst W7)
    | (go_at_call 9; refine H6.out.2.2.2.2.mono ?_; rintro e W7 ⟨rfl, hw⟩; subst W7)
    | fail)
  go_ret
  exact ⟨rfl, H6.out.1⟩

end Go.Proofs.YtmmgdmfdiaoegaaGreat
