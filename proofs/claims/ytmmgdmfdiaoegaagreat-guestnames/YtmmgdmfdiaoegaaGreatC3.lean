/- remove of package cache, walked. -/
import Derived.Test.YtmmgdmfdiaoegaaGreatC2
namespace Go.Proofs.YtmmgdmfdiaoegaaGreat
open Go.RowKit
set_option linter.unusedVariables false
set_option maxRecDepth 8000

theorem enCells {w : World} {g : Nat} {x : En} (h : w.heap[g]? = some (enO x)) : w.cell? ⟨g, 0, none⟩ = some (.int .i64 (x.p : Int)) ∧ w.cell? ⟨g, 1, none⟩ = some (.int .i64 (x.c : Int)) ∧ w.cell? ⟨g, 2, none⟩ = some (.int .i64 (x.o : Int)) ∧ w.cell? ⟨g, 3, none⟩ = some (.complex .f64 (x.v 0).1 (x.v 0).2) ∧ w.cell? ⟨g, 4, none⟩ = some (.complex .f64 (x.v 1).1 (x.v 1).2) ∧ w.cell? ⟨g, 5, none⟩ = some (.complex .f64 (x.v 2).1 (x.v 2).2) ∧ w.cell? ⟨g, 6, none⟩ = some (.complex .f64 (x.v 3).1 (x.v 3).2) := by
  refine ⟨?_, ?_, ?_, ?_, ?_, ?_, ?_⟩
  all_goals rw [cell_of_row _ _ _ _ _ _ h]; rfl

abbrev zO : Obj := .cells #[.int .i64 0, .int .i64 0, .int .i64 0, .complex .f64 0 0, .complex .f64 0 0, .complex .f64 0 0, .complex .f64 0 0] 135

theorem OffS.beyond {A : Nat → Prop} {w w' : World} (h : OffS A w w') {a : Addr} (ha : w.heap.size ≤ a.block) (u : Value) : OffS A w (w'.setCell a u) :=
  ⟨h.os, h.tape, h.output, by simpa using h.size, fun k hk hA => (Below.heap_setCell _ _ _ _ (by omega)).trans (h.block k hk hA)⟩

/-- Seven cells of a block written. -/
abbrev st7 (W : World) (n : Nat) (x : En) : World := ((((((W.setCell ⟨n, 0, none⟩ (.int .i64 (x.p : Int))).setCell ⟨n, 1, none⟩ (.int .i64 (x.c : Int))).setCell ⟨n, 2, none⟩ (.int .i64 (x.o : Int))).setCell ⟨n, 3, none⟩ (.complex .f64 (x.v 0).1 (x.v 0).2)).setCell ⟨n, 4, none⟩ (.complex .f64 (x.v 1).1 (x.v 1).2)).setCell ⟨n, 5, none⟩ (.complex .f64 (x.v 2).1 (x.v 2).2)).setCell ⟨n, 6, none⟩ (.complex .f64 (x.v 3).1 (x.v 3).2)
theorem st7_facts (W : World) (n : Nat) (x y : En) (h : W.heap[n]? = some (enO y)) : (st7 W n x).heap[n]? = some (enO x) ∧ (∀ j, j ≠ n → (st7 W n x).heap[j]? = W.heap[j]?) ∧ (∀ A : Nat → Prop, ∀ w : World, OffS A w W → w.heap.size ≤ n → OffS A w (st7 W n x)) := by
  refine ⟨?_, fun j hj => ?_, fun A w hO hn => ?_⟩
  · obtain ⟨y0, y1, y2, y3, y4, y5, y6, hy⟩ : ∃ y0 y1 y2 y3 y4 y5 y6 : Value, enO y = .cells #[y0, y1, y2, y3, y4, y5, y6] 135 := ⟨_, _, _, _, _, _, _, rfl⟩
    rw [hy] at h
    have h0 := heap_setCell_same _ n 0 _ 135 (.int .i64 (x.p : Int)) h
    simp only [List.setIfInBounds_toArray, List.set_cons_zero] at h0
    have h1 := heap_setCell_same _ n 1 _ 135 (.int .i64 (x.c : Int)) h0
    simp only [List.setIfInBounds_toArray, List.set_cons_zero, List.set_cons_succ] at h1
    have h2 := heap_setCell_same _ n 2 _ 135 (.int .i64 (x.o : Int)) h1
    simp only [List.setIfInBounds_toArray, List.set_cons_zero, List.set_cons_succ] at h2
    have h3 := heap_setCell_same _ n 3 _ 135 (.complex .f64 (x.v 0).1 (x.v 0).2) h2
    simp only [List.setIfInBounds_toArray, List.set_cons_zero, List.set_cons_succ] at h3
    have h4 := heap_setCell_same _ n 4 _ 135 (.complex .f64 (x.v 1).1 (x.v 1).2) h3
    simp only [List.setIfInBounds_toArray, List.set_cons_zero, List.set_cons_succ] at h4
    have h5 := heap_setCell_same _ n 5 _ 135 (.complex .f64 (x.v 2).1 (x.v 2).2) h4
    simp only [List.setIfInBounds_toArray, List.set_cons_zero, List.set_cons_succ] at h5
    have h6 := heap_setCell_same _ n 6 _ 135 (.complex .f64 (x.v 3).1 (x.v 3).2) h5
    simp only [List.setIfInBounds_toArray, List.set_cons_zero, List.set_cons_succ] at h6
    exact h6
  · unfold st7
    iterate 7 rw [Below.heap_setCell _ _ _ _ (by simpa using hj)]
  · exact ((((((hO.beyond (a := ⟨n, 0, none⟩) hn _).beyond (a := ⟨n, 1, none⟩) hn _).beyond (a := ⟨n, 2, none⟩) hn _).beyond (a := ⟨n, 3, none⟩) hn _).beyond (a := ⟨n, 4, none⟩) hn _).beyond (a := ⟨n, 5, none⟩) hn _).beyond (a := ⟨n, 6, none⟩) hn _

/-- The cache behind a step that turned the row alone, and the slice that is kept then. -/
theorem Ca.stored {w w6 : World} {A : Nat → Prop} {c : Nat} {room : Int} {ao : Option Addr} {cap : Nat} {L : List En} (H : Ca w A c room ao cap L) (hg : w.grownBy w6 (ao.map (·.block))) {ao3 : Option Addr} {cap3 m3 : Nat} {L3 : List En} (ho : OwR enC 7 135 w6 ao3 cap3 L3) (hm : L3.length = m3) (B : Nat → Prop) (hB : ∀ k, A k → B k) (hloc : ∀ a, ao3 = some a → B a.block) :
    Ca (w6.setCell ⟨c, 1, none⟩ (.slice ao3 m3 cap3)) B c room ao3 cap3 L3 ∧ OffS A w (w6.setCell ⟨c, 1, none⟩ (.slice ao3 m3 cap3)) := by
  subst hm
  have hq : w6.heap[c]? = some (.cells #[.int .i64 room, .slice ao L.length cap] 66 (0, 0)) := by
    refine (hg.block c H.lt ?_).trans H.blk
    intro e
    cases ao with
    | none => cases e
    | some a => exact (H.ne a rfl) (by simpa using e.symm)
  have hne : ∀ a, ao3 = some a → a.block ≠ c := by
    intro a ha e
    obtain ⟨_, cur, h1⟩ := ho.lt a ha
    rw [e, hq] at h1
    cases h1
  refine ⟨⟨?_, ho.keep fun a ha _ => Below.heap_setCell _ _ _ _ (hne a ha), hB _ H.ac, hloc⟩, ?_⟩
  · rw [heap_setCell_same w6 c 1 _ 66 _ hq]; rfl
  · refine OffS.setCell (OffS.grown hg fun k hk => ?_) H.ac _
    cases ao with
    | none => cases hk
    | some a =>
      have : a.block = k := by simpa using hk
      rw [← this]
      exact H.ar a rfl

set_option maxHeartbeats 1600000 in
theorem remove_any (w : World) (A : Nat → Prop) (c : Nat) (room : Int) (g cap : Nat) (L : List En) (H : Ca w A c room (some ⟨g, 0, none⟩) cap L) (q : Nat) (hq : L.length = q + 1) (hl : q ≤ 1000000) (k : Nat) (hk : k < q + 1) (x : En) (hx : L[k]? = some x) :
    Calls Tryz.prog 85 #[cp c, .int .i64 (k : Int)] w fun e w' => e = .returned (enV x) ∧ Ca w' A c room (some ⟨g, 0, none⟩) cap (L.take k ++ L.drop (k + 1)) ∧ OffS A w w' := by
  have hst := fun (ad : Addr) (re im : Nat) (W : World) => run_store Tryz.prog W ad (.complex .f64 re im) .plain rfl
  obtain ⟨hkl, hxe⟩ := List.getElem?_eq_some_iff.1 hx
  have hb0 : Below w.heap.size w (w.alloc zO) := (Below.refl _ _).alloc (Nat.le_refl _) _
  have hb1 : Below w.heap.size w ((w.alloc zO).alloc (enO x)) := hb0.alloc (by simp) _
  have h1 := (H.below hb0).c1
  rw [hq] at h1
  obtain ⟨bk, off, hbk, -, hcc⟩ := (H.below hb0).own.rd.at enE hkl
  cases hbk
  rw [hxe] at hcc
  obtain ⟨z0, z1, z2, z3, z4, z5, z6⟩ := enIn _ _ _ _ hcc
  simp only [Nat.zero_add] at z0 z1 z2 z3 z4 z5 z6
  have H1 := H.below hb1
  have h1' := H1.c1
  rw [hq] at h1'
  have hj63 : IntKind.i64.wrap ((k : Int) + 1) = (k : Int) + 1 := by rw [IntKind.wrap_i64]; omega
  have HD : Hid (Calls Tryz.prog 103 #[.slice (some ⟨g, 0, none⟩) (q + 1) cap, .int .i64 (k : Int), .int .i64 ((k : Int) + 1)] ((w.alloc zO).alloc (enO x)) fun e w' => e = .returned (.slice (some ⟨g, 0, none⟩) q cap) ∧ w'.cell? ⟨c, 1, none⟩ = some (.slice (some ⟨g, 0, none⟩) (q + 1) cap) ∧ w'.frozen? ⟨c, 1, none⟩ = false ∧ Hid (Ca (w'.setCell ⟨c, 1, none⟩ (.slice (some ⟨g, 0, none⟩) q cap)) A c room (some ⟨g, 0, none⟩) cap (L.take k ++ L.drop (k + 1)) ∧ OffS A w (w'.setCell ⟨c, 1, none⟩ (.slice (some ⟨g, 0, none⟩) q cap)) ∧ (w'.setCell ⟨c, 1, none⟩ (.slice (some ⟨g, 0, none⟩) q cap)).heap[w.heap.size]? = some zO ∧ (w'.setCell ⟨c, 1, none⟩ (.slice (some ⟨g, 0, none⟩) q cap)).heap[w.heap.size + 1]? = some (enO x))) := by
    refine (delete_any g q cap L k _ H1.own hq hk hl).mono ?_
    rintro e w' ⟨rfl, ho, hg⟩
    have hcl := H.lt
    have hgl := (H.own.lt _ rfl).1
    have hgc := H.ne _ rfl
    simp only at hgl hgc
    have hc' : w'.heap[c]? = some (.cells #[.int .i64 room, .slice (some ⟨g, 0, none⟩) L.length cap] 66 (0, 0)) := (hg.block c H1.lt (by intro e; exact hgc (by simpa using e.symm))).trans H1.blk
    obtain ⟨k1, k2⟩ := H1.stored hg ho (m3 := q) (by rw [List.length_append, List.length_take, List.length_drop, hq]; omega) A (fun _ h => h) (fun a ha => H.ar a ha)
    have hkeep : ∀ j, j < ((w.alloc zO).alloc (enO x)).heap.size → j ≠ g → j ≠ c → (w'.setCell ⟨c, 1, none⟩ (.slice (some ⟨g, 0, none⟩) q cap)).heap[j]? = ((w.alloc zO).alloc (enO x)).heap[j]? := fun j hj h1 h2 => (Below.heap_setCell _ _ _ _ (fun e => h2 (by simpa using e))).trans (hg.block j hj (fun e => h1 (by simpa using e)))
    refine ⟨rfl, ?_, frozen_of_row _ _ _ _ _ hc', k1, (OffS.of_below hb1).trans (k2.mono fun _ h => .inl h), ?_, ?_⟩
    · rw [cell_of_row _ _ _ _ _ _ hc', hq]; rfl
    · rw [hkeep _ (by simp; omega) (by omega) (by omega), Below.heap_alloc _ _ _ (by simp)]
      exact heap_alloc_new w _
    · rw [hkeep _ (by simp) (by omega) (by omega)]
      have := heap_alloc_new (w.alloc zO) (enO x)
      simpa using this
  have HCG : Hid (c < w.heap.size ∧ g < w.heap.size) := ⟨H.lt, (H.own.lt _ rfl).1⟩
  clear hcc hx hxe hb0 hb1 H1 H hq
  go_enter Tryz.func85, Tryz.ntmps85
  go_upto_region 3 with (first
    | (go_at_call 103; refine HD.out.mono ?_; rintro e w1 ⟨rfl, hc1, hf1, HN⟩)
    | fail)
  generalize w1.setCell ⟨c, 1, none⟩ (.slice (some ⟨g, 0, none⟩) q cap) = W3 at *
  clear hc1 hf1 h1 h1' z0 z1 z2 z3 z4 z5 z6 HD
  obtain ⟨n4, hn4⟩ : ∃ n, w.heap.size = n := ⟨_, rfl⟩
  obtain ⟨n5, hn5⟩ : ∃ n, w.heap.size + 1 = n := ⟨_, rfl⟩
  rw [hn5, hn4]
  have HB : Hid (W3.heap[n4]? = some zO ∧ W3.heap[n5]? = some (enO x) ∧ w.heap.size ≤ n4) := ⟨hn4 ▸ HN.out.2.2.1, hn5 ▸ HN.out.2.2.2, by omega⟩
  obtain ⟨y0, y1, y2, y3, y4, y5, y6⟩ := enCells HB.out.2.1
  have f4 := fun j => frozen_of_row W3 n4 j _ _ HB.out.1
  obtain ⟨x0, x1, x2, x3, x4, x5, x6⟩ := enCells (x := ⟨0, 0, 0, fun _ => (0, 0)⟩) HB.out.1
  have HM : Hid (Ca W3 A c room (some ⟨g, 0, none⟩) cap (L.take k ++ L.drop (k + 1)) ∧ OffS A w W3) := ⟨HN.out.1, HN.out.2.1⟩
  have HS := st7_facts W3 n4 x ⟨0, 0, 0, fun _ => (0, 0)⟩ HB.out.1
  have HE : Hid (Ca (st7 W3 n4 x) A c room (some ⟨g, 0, none⟩) cap (L.take k ++ L.drop (k + 1)) ∧ OffS A w (st7 W3 n4 x) ∧ (st7 W3 n4 x).heap[n4]? = some (enO x)) := by
    refine ⟨?_, HS.2.2 A w HN.out.2.1 (by omega), HS.1⟩
    have hH := HN.out.1
    exact ⟨(HS.2.1 c (by have := HCG.out.1; omega)).trans hH.blk, hH.own.keep fun a ha _ => HS.2.1 _ (by cases ha; have := HCG.out.2; simp only; omega), hH.ac, hH.ar⟩
  clear HN hn4 hn5 HS HM
  go_wp2
  unfold st7 at HE
  generalize ((((((W3.setCell ⟨n4, 0, none⟩ (.int .i64 (x.p : Int))).setCell ⟨n4, 1, none⟩ (.int .i64 (x.c : Int))).setCell ⟨n4, 2, none⟩ (.int .i64 (x.o : Int))).setCell ⟨n4, 3, none⟩ (.complex .f64 (x.v 0).1 (x.v 0).2)).setCell ⟨n4, 4, none⟩ (.complex .f64 (x.v 1).1 (x.v 1).2)).setCell ⟨n4, 5, none⟩ (.complex .f64 (x.v 2).1 (x.v 2).2)).setCell ⟨n4, 6, none⟩ (.complex .f64 (x.v 3).1 (x.v 3).2) = W4 at *
  obtain ⟨u0, u1, u2, u3, u4, u5, u6⟩ := enCells HE.out.2.2
  refine bodyPost_ret (by simp [results, Tryz.results85, go_sem, u0, u1, u2, u3, u4, u5, u6]; try rfl) rfl ?_
  exact ⟨rfl, HE.out.1, HE.out.2.1⟩

end Go.Proofs.YtmmgdmfdiaoegaaGreat
