/- agentAlive, walked. -/
import Derived.Test.YtmognpjkccienaaB5
namespace Go.Proofs.Ytmognpjkccienaa
open Go.RowKit
set_option linter.unusedVariables false
set_option maxRecDepth 8000

abbrev x1 : Og := ⟨1, 1, 1, z2⟩
abbrev cM : Mg := ⟨6, 1, 1, 0, 0, 0, true, [], z2, z2, z2, z2⟩
def s0 : As := newS 2
def s1 : As := begS s0
def s2 : As := { s1 with q := some x1 }
def s3 : As := rdS (pgS s2 gM 1 15 4) 1 1
def s4 : As := { s3 with K := [cM] }
def s5 : As := endS s4

theorem Ng.nextB {W W' w : World} {A : Nat → Prop} {a : Nat} {s : As} {R : Nat → Prop} {B : Nat} (h : Ng W W' A a s R) (hA : ∀ k, A k → B ≤ k) (hb : Below B w W) (hB : B ≤ w.heap.size) : ∃ A', (∀ k, A' k → B ≤ k) ∧ Aw W' A' a s ∧ (∀ k, A' k → ¬ R k) ∧ Below B w W' := by
  obtain ⟨A', h1, h2⟩ := h.ag
  have hs := hb.size
  exact ⟨A', fun k hk => (h1 k hk).1.elim (hA k) (fun h' => by omega), h2, fun k hk => (h1 k hk).2, hb.trans (h.off.below hA (by omega))⟩

theorem a_begin {w : World} {A : Nat → Prop} {a : Nat} (H : Aw w A a s0) : Calls Try.prog 5 #[cp a, .agg #[.int .i64 0, .int .i64 0, .int .i64 0, .complex .f64 0 0]] w fun e w' => e = .returned (.tuple #[.slice none 0 0, anV 0 z2 false]) ∧ Ng w w' A a s1 Rn := by
  obtain ⟨c, pq, ko, kc, h⟩ := H
  exact do_begin h ⟨0, 0, 0, z2⟩ rfl (by decide) (by decide)

theorem a_read {w : World} {A : Nat → Prop} {a : Nat} (H : Aw w A a s1) : Calls Try.prog 5 #[cp a, .agg #[.int .i64 1, .int .i64 1, .int .i64 1, .complex .f64 0 0]] w fun e w' => ∃ b, e = .returned (.tuple #[.slice (some ⟨b, 0, none⟩) 1 1, anV 0 z2 true]) ∧ w'.cell? ⟨b, 0, none⟩ = some (.int .i64 0) ∧ Ng w w' A a s2 Rn := by
  obtain ⟨c, pq, ko, kc, h⟩ := H
  have h20 : ∀ W, Below w.heap.size w W → Calls Try.prog 20 #[cp a, opV x1] W fun e w' => e = .returned (.tuple #[anV 0 z2 false, .bool false]) ∧ Below W.heap.size W w' := by
    intro W hW
    refine take_same (h.below hW) x1 rfl 0 z2 false ?_
    intro U hU
    exact read_no ((h.below hW).below hU) x1 1 1 (by decide) (by decide) rfl rfl (by unfold Hid; decide) (by unfold Hid; decide)
  refine (do_miss h x1 rfl (fun W => isPlace_rw x1 (.inl rfl) (by decide) (by decide) W) (by decide) h20).mono ?_
  rintro e w' ⟨b, rfl, h1, h2, h3⟩
  refine ⟨b, rfl, ?_, h3.less fun k hk => hk.elim⟩
  obtain ⟨b', off, e, hl, hc⟩ := h2.cell (by simp)
  cases e
  exact hc 0 _ rfl

theorem a_grant {w : World} {A : Nat → Prop} {a : Nat} (H : Aw w A a s2) : Calls Try.prog 15 #[cp a, mgV gM] w fun e w' => e = .returned (.tuple #[.slice none 0 0, anV 0 (4611686018427387904, 0) false, .bool true]) ∧ Ng w w' A a s3 Rn := by
  obtain ⟨c, pq, ko, kc, h⟩ := H
  have hG : GrOk s2 gM x1 1 1 15 4 4 := ⟨rfl, rfl, rfl, rfl, rfl, rfl, rfl, by kernel_rfl, ⟨by omega, by omega, by omega, by omega, by kernel_rfl⟩, by omega, by kernel_rfl, by kernel_rfl, by kernel_rfl, by kernel_rfl⟩
  refine got_grant h gM rfl (by kernel_rfl) rfl x1 rfl rfl rfl (4611686018427387904, 0) s3 ?_
  intro W hW
  have hr := granted_read (h.below hW) gM x1 1 1 15 4 4 hG
  have e : gotV (pgS s2 gM 1 15 4).L ((1 : Nat) : Int) 1 = (4611686018427387904, 0) := by kernel_rfl
  rw [e] at hr
  exact hr

theorem a_call {w : World} {A : Nat → Prop} {a : Nat} (H : Aw w A a s3) : Calls Try.prog 15 #[cp a, .agg #[.int .i64 6, .int .i64 1, .int .i64 1, .int .i64 0, .int .i64 0, .int .i64 0, .bool true, .slice none 0 0, .complex .f64 0 0, .complex .f64 0 0, .complex .f64 0 0, .complex .f64 0 0]] w fun e w' => ∃ b, e = .returned (.tuple #[.slice (some ⟨b, 0, none⟩) 1 1, anV 0 z2 false, .bool false]) ∧ w'.cell? ⟨b, 0, none⟩ = some (.int .i64 4) ∧ Ng w w' A a s4 Rn := by
  obtain ⟨c, pq, ko, kc, h⟩ := H
  refine (got_call h cM rfl (by kernel_rfl) rfl ⟨4, 1, 1, 0, 0, 0, true, [], z2, z2, z2, z2⟩ s4 ?_).mono ?_
  · intro W hW
    exact called_busy (h.below hW) (by kernel_rfl) cM ⟨1, 1, by omega, by omega, rfl, rfl⟩ (by kernel_rfl)
  · rintro e w' ⟨b, rfl, h1, h2, h3⟩
    refine ⟨b, rfl, ?_, h3.less fun k hk => hk.elim⟩
    obtain ⟨b', off, e, hl, hc⟩ := h2.cell (by simp)
    cases e
    exact hc 0 _ rfl

theorem a_abort {w : World} {A : Nat → Prop} {a : Nat} (H : Aw w A a s4) : Calls Try.prog 5 #[cp a, .agg #[.int .i64 4, .int .i64 0, .int .i64 0, .complex .f64 0 0]] w fun e w' => ∃ b off lc, e = .returned (.tuple #[.slice (some ⟨b, off, none⟩) 1 lc, anV 0 z2 false]) ∧ w'.cell? ⟨b, off, none⟩ = some (.int .i64 3) ∧ w'.cell? ⟨b, off + 4, none⟩ = some (.int .i64 2) ∧ Ng w w' A a s5 Rn := by
  obtain ⟨c, pq, ko, kc, h⟩ := H
  have hK : s4.K = [cM] := rfl
  refine (do_abort h ⟨4, 0, 0, z2⟩ rfl (by kernel_rfl) (fun M hM => by rw [hK] at hM; obtain rfl : M = cM := (by simpa using hM); exact ⟨1, 1, by omega, by omega, rfl, rfl⟩) (by rw [hK]; decide)).mono ?_
  rintro e w' ⟨lo, lc, rfl, h1, h2, h3⟩
  have e2 : (gvF (forS s4) s4.K).2 = [⟨3, 1, 0, 0, 2, 2, false, [], z2, z2, z2, z2⟩] := by kernel_rfl
  rw [e2] at h1
  obtain ⟨b, off, rfl, hl, hc⟩ := h1.cell (by simp)
  exact ⟨b, off, lc, rfl, hc 0 _ rfl, hc 4 _ rfl, h2.less fun k hk => hk.elim⟩

theorem a_copies {w : World} {A : Nat → Prop} {a : Nat} (H : Aw w A a s5) : Calls Try.prog 17 #[cp a, .int .i64 1] w fun e w' => e = .returned (.int .i64 13) ∧ Below w.heap.size w w' := by
  obtain ⟨c, pq, ko, kc, h⟩ := H
  have e : ((cpN s5.L 1 : Nat) : Int) = 13 := by kernel_rfl
  have h1 := acopies_any h 1
  rw [e] at h1
  exact h1
theorem a_open {w : World} {A : Nat → Prop} {a : Nat} (H : Aw w A a s5) : Calls Try.prog 18 #[cp a] w fun e w' => e = .returned (.bool false) ∧ w' = w := by
  obtain ⟨c, pq, ko, kc, h⟩ := H
  exact open_any h

set_option maxHeartbeats 6400000 in
theorem alive_any (w : World) : Calls Try.prog 6 #[] w fun e w' => e = .returned (.bool true) ∧ Below w.heap.size w w' := by
  have hst := fun (ad : Addr) (re im : Nat) (W : World) => run_store Try.prog W ad (.complex .f64 re im) .plain rfl
  have hne : ∀ W : World, (binOp .neq 26 (.complex .f64 4611686018427387904 0) (.complex .f64 4611686018427387904 0)).run Try.prog W = .ok (.bool false) W := fun _ => by kernel_rfl
  have HN : Hid (Calls Try.prog 4 #[.int .i64 2] w fun e w' => ∃ a A, e = .returned (cp a) ∧ Hid (Aw w' A a s0 ∧ (∀ k, A k → w.heap.size ≤ k) ∧ Below w.heap.size w w')) := by
    refine (new_agent 2 w).mono ?_
    rintro e w' ⟨a, A, rfl, h1, h2, h3⟩
    exact ⟨a, A, rfl, h1, h2, h3⟩
  go_enter Try.func6, Try.ntmps6
  go_upto_region 4 with (first
    | (go_at_call 4; refine HN.out.mono ?_; rintro e W1 ⟨a, A1, rfl, H1⟩)
    | fail)
  clear HN
  have HC : Hid (Calls Try.prog 5 #[cp a, .agg #[.int .i64 0, .int .i64 0, .int .i64 0, .complex .f64 0 0]] W1 fun e w' => e = .returned (.tuple #[.slice none 0 0, anV 0 z2 false]) ∧ ∃ A', Hid (Aw w' A' a s1 ∧ (∀ k, A' k → w.heap.size ≤ k) ∧ Below w.heap.size w w')) := by
    refine (a_begin H1.out.1).mono ?_
    rintro e w' ⟨rfl, hn⟩
    obtain ⟨A', i1, i2, _, i4⟩ := hn.nextB H1.out.2.1 H1.out.2.2 (Nat.le_refl _)
    exact ⟨rfl, A', i2, i1, i4⟩
  go_upto_region 5 with (first
    | (go_at_call 5; refine HC.out.mono ?_; rintro e W2 ⟨rfl, A2, H2⟩)
    | fail)
  clear HC H1
  have HC : Hid (Calls Try.prog 5 #[cp a, .agg #[.int .i64 1, .int .i64 1, .int .i64 1, .complex .f64 0 0]] W2 fun e w' => ∃ b, e = .returned (.tuple #[.slice (some ⟨b, 0, none⟩) 1 1, anV 0 z2 true]) ∧ Hid (w'.cell? ⟨b, 0, none⟩ = some (.int .i64 0)) ∧ ∃ A', Hid (Aw w' A' a s2 ∧ (∀ k, A' k → w.heap.size ≤ k) ∧ Below w.heap.size w w')) := by
    refine (a_read H2.out.1).mono ?_
    rintro e w' ⟨b, rfl, hc, hn⟩
    obtain ⟨A', i1, i2, _, i4⟩ := hn.nextB H2.out.2.1 H2.out.2.2 (Nat.le_refl _)
    exact ⟨b, rfl, hc, A', i2, i1, i4⟩
  go_upto_region 6 with (first
    | (go_at_call 5; refine HC.out.mono ?_; rintro e W3 ⟨b3, rfl, hb3, A3, H3⟩)
    | fail)
  clear HC H2
  have HX : Hid (Below W3.heap.size W3 (W3.alloc (anO 0 z2 true)) ∧ (W3.alloc (anO 0 z2 true)).heap[W3.heap.size]? = some (anO 0 z2 true) ∧ b3 < W3.heap.size) := ⟨(Below.refl _ _).alloc (Nat.le_refl _) _, heap_alloc_new W3 _, World.block_lt_of_cell? W3 _ hb3.out⟩
  show Code.wp _ _ _ _ (W3.alloc (anO 0 z2 true))
  obtain ⟨g3, hg3⟩ : ∃ g, W3.heap.size = g := ⟨_, rfl⟩
  have H4 : Hid (Aw (W3.alloc (anO 0 z2 true)) A3 a s2 ∧ (∀ k, A3 k → w.heap.size ≤ k) ∧ Below w.heap.size w (W3.alloc (anO 0 z2 true))) := ⟨H3.out.1.below HX.out.1, H3.out.2.1, below_step H3.out.2.2 HX.out.1⟩
  have hc0 : (W3.alloc (anO 0 z2 true)).cell? ⟨b3, 0, none⟩ = some (.int .i64 0) := (HX.out.1.cell (p := ⟨b3, 0, none⟩) HX.out.2.2).trans hb3.out
  obtain ⟨z0, z1, z2⟩ := an_cells HX.out.2.1
  rw [hg3] at z0 z1 z2 ⊢
  clear hg3 HX hb3 H3
  generalize W3.alloc (anO 0 (0, 0) true) = W4 at *
  go_upto_region 8 with fail
  clear hc0 z0 z1 z2
  have HGr : Hid (Calls Try.prog 16 #[] W4 fun e w' => e = .returned (mgV gM) ∧ Hid (Calls Try.prog 15 #[cp a, mgV gM] w' fun e w' => e = .returned (.tuple #[.slice none 0 0, anV 0 (4611686018427387904, 0) false, .bool true]) ∧ ∃ A', Hid (Aw w' A' a s3 ∧ (∀ k, A' k → w.heap.size ≤ k) ∧ Below w.heap.size w w'))) := by
    refine (grant_any W4).mono ?_
    rintro e w' ⟨rfl, hb⟩
    refine ⟨rfl, (a_grant (H4.out.1.below hb)).mono ?_⟩
    rintro e w2 ⟨rfl, hn⟩
    obtain ⟨A', i1, i2, _, i4⟩ := hn.nextB H4.out.2.1 (below_step H4.out.2.2 hb) (Nat.le_refl _)
    exact ⟨rfl, A', i2, i1, i4⟩
  go_upto_region 9 with (first
    | (go_at_call 16; (with_reducible refine HGr.out.mono ?_); rintro e W5 ⟨rfl, HG2⟩)
    | (go_at_call 15; (with_reducible refine HG2.out.mono ?_); rintro e W6 ⟨rfl, A6, H6⟩)
    | fail)
  clear HGr HG2 H4
  have HX : Hid (Below W6.heap.size W6 (W6.alloc (anO 0 (4611686018427387904, 0) false)) ∧ (W6.alloc (anO 0 (4611686018427387904, 0) false)).heap[W6.heap.size]? = some (anO 0 (4611686018427387904, 0) false)) := ⟨(Below.refl _ _).alloc (Nat.le_refl _) _, heap_alloc_new W6 _⟩
  show Code.wp _ _ _ _ (W6.alloc (anO 0 (4611686018427387904, 0) false))
  obtain ⟨g5, hg5⟩ : ∃ g, W6.heap.size = g := ⟨_, rfl⟩
  have H7 : Hid (Aw (W6.alloc (anO 0 (4611686018427387904, 0) false)) A6 a s3 ∧ (∀ k, A6 k → w.heap.size ≤ k) ∧ Below w.heap.size w (W6.alloc (anO 0 (4611686018427387904, 0) false)) ∧ ¬ A6 g5 ∧ (W6.alloc (anO 0 (4611686018427387904, 0) false)).heap[g5]? = some (anO 0 (4611686018427387904, 0) false)) := ⟨H6.out.1.below HX.out.1, H6.out.2.1, below_step H6.out.2.2 HX.out.1, fun e => by have := H6.out.1.lt g5 e; omega, hg5 ▸ HX.out.2⟩
  rw [hg5]
  clear hg5 HX H6
  generalize W6.alloc (anO 0 (4611686018427387904, 0) false) = W7 at *
  have HC : Hid (Calls Try.prog 15 #[cp a, .agg #[.int .i64 6, .int .i64 1, .int .i64 1, .int .i64 0, .int .i64 0, .int .i64 0, .bool true, .slice none 0 0, .complex .f64 0 0, .complex .f64 0 0, .complex .f64 0 0, .complex .f64 0 0]] W7 fun e w' => ∃ b, e = .returned (.tuple #[.slice (some ⟨b, 0, none⟩) 1 1, anV 0 z2 false, .bool false]) ∧ Hid (w'.cell? ⟨b, 0, none⟩ = some (.int .i64 4)) ∧ ∃ A', Hid (Aw w' A' a s4 ∧ (∀ k, A' k → w.heap.size ≤ k) ∧ Below w.heap.size w w' ∧ w'.heap[g5]? = some (anO 0 (4611686018427387904, 0) false))) := by
    refine (a_call H7.out.1).mono ?_
    rintro e w' ⟨b, rfl, hc, hn⟩
    obtain ⟨A', i1, i2, _, i4⟩ := hn.nextB H7.out.2.1 H7.out.2.2.1 (Nat.le_refl _)
    exact ⟨b, rfl, hc, A', i2, i1, i4, hn.loc H7.out.2.2.2.1 H7.out.2.2.2.2⟩
  go_upto_region 10 with (first
    | (go_at_call 15; refine HC.out.mono ?_; rintro e W8 ⟨b8, rfl, hb8, A8, H8⟩)
    | fail)
  clear HC H7
  have HX : Hid (Below W8.heap.size W8 (W8.alloc anZ) ∧ b8 < W8.heap.size) := ⟨(Below.refl _ _).alloc (Nat.le_refl _) _, World.block_lt_of_cell? W8 _ hb8.out⟩
  show Code.wp _ _ _ _ (W8.alloc anZ)
  have H9 : Hid (Aw (W8.alloc anZ) A8 a s4 ∧ (∀ k, A8 k → w.heap.size ≤ k) ∧ Below w.heap.size w (W8.alloc anZ)) := ⟨H8.out.1.below HX.out.1, H8.out.2.1, below_step H8.out.2.2.1 HX.out.1⟩
  have hc0 : (W8.alloc anZ).cell? ⟨b8, 0, none⟩ = some (.int .i64 4) := (HX.out.1.cell (p := ⟨b8, 0, none⟩) HX.out.2).trans hb8.out
  obtain ⟨z0, z1, z2⟩ := an_cells ((HX.out.1.block g5 (Array.getElem?_eq_some_iff.1 H8.out.2.2.2).1).trans H8.out.2.2.2)
  clear HX hb8 H8
  generalize W8.alloc anZ = W9 at *
  generalize W8.heap.size = g8 at *
  go_upto_region 12 with fail
  clear hc0 z0 z1 z2
  have HC : Hid (Calls Try.prog 5 #[cp a, .agg #[.int .i64 4, .int .i64 0, .int .i64 0, .complex .f64 0 0]] W9 fun e w' => ∃ b off lc, e = .returned (.tuple #[.slice (some ⟨b, off, none⟩) 1 lc, anV 0 z2 false]) ∧ Hid (w'.cell? ⟨b, off, none⟩ = some (.int .i64 3) ∧ w'.cell? ⟨b, off + 4, none⟩ = some (.int .i64 2)) ∧ ∃ A', Hid (Aw w' A' a s5 ∧ (∀ k, A' k → w.heap.size ≤ k) ∧ Below w.heap.size w w')) := by
    refine (a_abort H9.out.1).mono ?_
    rintro e w' ⟨b, off, lc, rfl, hc, hd, hn⟩
    obtain ⟨A', i1, i2, _, i4⟩ := hn.nextB H9.out.2.1 H9.out.2.2 (Nat.le_refl _)
    exact ⟨b, off, lc, rfl, ⟨hc, hd⟩, A', i2, i1, i4⟩
  go_upto_region 13 with (first
    | (go_at_call 5; refine HC.out.mono ?_; rintro e WA ⟨bA, oA, lA, rfl, hbA, AA, HA⟩)
    | fail)
  clear HC H9
  have HX : Hid (Below WA.heap.size WA (WA.alloc anZ) ∧ bA < WA.heap.size ∧ (WA.alloc anZ).heap[WA.heap.size]? = some anZ) := ⟨(Below.refl _ _).alloc (Nat.le_refl _) _, World.block_lt_of_cell? WA _ hbA.out.1, heap_alloc_new WA _⟩
  show Code.wp _ _ _ _ (WA.alloc anZ)
  obtain ⟨gB, hgB⟩ : ∃ g, WA.heap.size = g := ⟨_, rfl⟩
  have HB : Hid (Aw (WA.alloc anZ) AA a s5 ∧ Below w.heap.size w (WA.alloc anZ)) := ⟨HA.out.1.below HX.out.1, below_step HA.out.2.2 HX.out.1⟩
  have hc0 : (WA.alloc anZ).cell? ⟨bA, oA, none⟩ = some (.int .i64 3) := (HX.out.1.cell (p := ⟨bA, oA, none⟩) HX.out.2.1).trans hbA.out.1
  have hc4 : (WA.alloc anZ).cell? ⟨bA, oA + 4, none⟩ = some (.int .i64 2) := (HX.out.1.cell (p := ⟨bA, oA + 4, none⟩) HX.out.2.1).trans hbA.out.2
  obtain ⟨z0, z1, z2⟩ := an_cells HX.out.2.2
  rw [hgB] at z0 z1 z2 ⊢
  clear HX hbA HA hgB
  generalize WA.alloc anZ = WB at *
  have HK : Hid (Calls Try.prog 17 #[cp a, .int .i64 1] WB fun e w' => e = .returned (.int .i64 13) ∧ Hid (Below WB.heap.size WB w' ∧ Calls Try.prog 18 #[cp a] w' fun e w2 => e = .returned (.bool false) ∧ w2 = w')) := by
    refine (a_copies HB.out.1).mono ?_
    rintro e w' ⟨rfl, hb⟩
    exact ⟨rfl, hb, a_open (HB.out.1.below hb)⟩
  go_wp2_with (first
    | (go_at_call 17; refine HK.out.mono ?_; rintro e WC ⟨rfl, HD⟩)
    | (go_at_call 18; refine HD.out.2.mono ?_; rintro e WD ⟨rfl, hw⟩; subst WD)
    | fail)
  go_ret
  exact ⟨rfl, below_step HB.out.2 HD.out.1⟩

end Go.Proofs.Ytmognpjkccienaa
