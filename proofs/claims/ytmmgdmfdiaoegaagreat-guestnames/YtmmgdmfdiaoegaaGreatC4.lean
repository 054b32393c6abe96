/- use of package cache, walked. -/
import Derived.Test.YtmmgdmfdiaoegaaGreatC3
namespace Go.Proofs.YtmmgdmfdiaoegaaGreat
open Go.RowKit
set_option linter.unusedVariables false
set_option maxRecDepth 8000

section
variable {α : Type} {en : α → List Value} {s : Nat} {P : Program} {ops : Array Oper} {Q : Exit → Act → World → Prop} {md : Region.Mode}
theorem exec_append_fitR (E : Enc en s) {w : World} {o : Oper} {a : Act} (so x : Operand) (t : TypeId) (hop : o.op = .call { callee := .builtin .append, args := #[so, x], argTypes := #[t, t] })
    (e : TypeId) (z : Value) (bytes : Nat) (ht : P.underlying t = some (.slice e)) (hinfo : (P.info? e).map (fun i => (i.zero, i.size, i.bytes)) = some (some z, s, bytes))
    {g cap n : Nat} {N : List α} {a' : Addr} {cap' m : Nat} {M : List α} (hs : a.eval so = .slice (some ⟨g, 0, none⟩) n cap) (hx : a.eval x = .slice (some a') m cap') (ho : OwR en s e w (some ⟨g, 0, none⟩) cap N) (hr : RdR en w (some a') cap' M) (hn : N.length = n) (hm : M.length = m) (q : Nat) (hq : n + m = q) (hroom : q ≤ cap) :
    ∃ w', (execOp a.eval o).run P w = .ok (.value (.slice (some ⟨g, 0, none⟩) q cap)) w' ∧ OwR en s e w' (some ⟨g, 0, none⟩) cap (N ++ M) ∧ w.grownBy w' (some g) := by
  subst hn hm hq
  obtain ⟨w', hrun, h2, h3⟩ := run_append_fitR E (P := P) t o.type z bytes ht hinfo ho hr hroom
  refine ⟨w', ?_, h2, h3⟩
  unfold execOp
  simp only [hop, resolve, invoke, builtin, Sem.run_bind, Sem.run_pure, Result.andThen_ok, List.map_toArray, List.map_cons, List.map_nil, hs, hx, hrun]

theorem till_append_fitR (E : Enc en s) {F : World → Prop} {z : Nat} {i : Nat} {oi : Oper} (d : Nat) (so x : Operand) (t : TypeId) {fuel : Nat} {l : Array Bool} {a : Act} {w : World} (hi : ops[i]? = some oi) (hd : oi.dst = some d) (hrd : Region.ready md ops l = [i])
    (hw : Region.wanted oi (yielded ops a.tmps) = true) (hop : oi.op = .call { callee := .builtin .append, args := #[so, x], argTypes := #[t, t] })
    (e : TypeId) (zv : Value) (bytes : Nat) (ht : P.underlying t = some (.slice e)) (hinfo : (P.info? e).map (fun i => (i.zero, i.size, i.bytes)) = some (some zv, s, bytes))
    {g cap n : Nat} {N : List α} {a' : Addr} {cap' m : Nat} {M : List α} (hs : a.eval so = .slice (some ⟨g, 0, none⟩) n cap) (hx : a.eval x = .slice (some a') m cap') (ho : OwR en s e w (some ⟨g, 0, none⟩) cap N) (hr : RdR en w (some a') cap' M) (hn : N.length = n) (hm : M.length = m) (q : Nat) (hq : n + m = q) (hroom : q ≤ cap)
    (h : ∀ w', OwR en s e w' (some ⟨g, 0, none⟩) cap (N ++ M) → w.grownBy w' (some g) → F w' ∧ Till P md ops Q F z fuel (l.setIfInBounds i true) (a.put (some d) (.slice (some ⟨g, 0, none⟩) q cap)) w') : Till P md ops Q F z (fuel + 1) l a w := by
  obtain ⟨w', hr2, h2, h3⟩ := exec_append_fitR E (P := P) (w := w) (o := oi) (a := a) so x t hop e zv bytes ht hinfo hs hx ho hr hn hm q hq hroom
  obtain ⟨h5, h6⟩ := h w' h2 h3
  exact Till.run d _ w' hi hd hrd hw hr2 h5 h6
end

set_option maxHeartbeats 1600000 in
theorem use_any (w : World) (A : Nat → Prop) (c : Nat) (room : Int) (g cap : Nat) (L : List En) (H : Ca w A c room (some ⟨g, 0, none⟩) cap L) (q : Nat) (hq : L.length = q + 1) (hl : q ≤ 1000000) (k : Nat) (hk : k < q + 1) (x : En) (hx : L[k]? = some x) :
    Calls Tryz.prog 97 #[cp c, .int .i64 (k : Int)] w fun e w' => e = .returned (.pointer (some ⟨g, q * 7, none⟩)) ∧ Ca w' A c room (some ⟨g, 0, none⟩) cap (L.take k ++ L.drop (k + 1) ++ [x]) ∧ OffS A w w' := by
  have hst := fun (ad : Addr) (re im : Nat) (W : World) => run_store Tryz.prog W ad (.complex .f64 re im) .plain rfl
  have HR : Hid (Calls Tryz.prog 85 #[cp c, .int .i64 (k : Int)] w fun e w' => e = .returned (enV x) ∧ Ca w' A c room (some ⟨g, 0, none⟩) cap (L.take k ++ L.drop (k + 1)) ∧ OffS A w w') := remove_any w A c room g cap L H q hq hl k hk x hx
  have hcap : q + 1 ≤ cap := by have := H.len; omega
  obtain ⟨M, hM⟩ : ∃ M, L.take k ++ L.drop (k + 1) = M := ⟨_, rfl⟩
  rw [hM] at HR ⊢
  have HM : Hid (M.length = q) := by unfold Hid; rw [← hM, List.length_append, List.length_take, List.length_drop]; omega
  have hq1 : IntKind.i64.wrap ((q : Int) + 1 - 1) = (q : Int) := by rw [IntKind.wrap_i64]; omega
  clear H hM hx hq hk
  go_enter Tryz.func97, Tryz.ntmps97
  go_upto_region 2 with (first
    | (go_at_call 85; refine HR.out.mono ?_; rintro e w1 ⟨rfl, hc1, ho1⟩)
    | fail)
  have hbW : Below w1.heap.size w1 (w1.alloc (enO x)) := (Below.refl _ _).alloc (Nat.le_refl _) _
  have HW : Hid (Ca (w1.alloc (enO x)) A c room (some ⟨g, 0, none⟩) cap M ∧ OffS A w (w1.alloc (enO x)) ∧ (w1.alloc (enO x)).heap[w1.heap.size]? = some (enO x) ∧ c < w1.heap.size ∧ g < w1.heap.size) :=
    ⟨hc1.below hbW, ho1.trans (.of_below hbW), heap_alloc_new w1 _, hc1.lt, (hc1.own.lt _ rfl).1⟩
  clear hc1 ho1 hbW HR
  generalize w1.alloc (enO x) = W at *
  obtain ⟨n5, hn5⟩ : ∃ n, w1.heap.size = n := ⟨_, rfl⟩
  rw [hn5] at HW ⊢
  clear hn5
  have HX : Hid (∀ V : World, V.heap[c]? = W.heap[c]? → V.heap[n5]? = W.heap[n5]? → V.cell? ⟨c, 1, none⟩ = some (.slice (some ⟨g, 0, none⟩) q cap) ∧ V.cell? ⟨n5, 0, none⟩ = some (.int .i64 (x.p : Int)) ∧ V.cell? ⟨n5, 1, none⟩ = some (.int .i64 (x.c : Int)) ∧ V.cell? ⟨n5, 2, none⟩ = some (.int .i64 (x.o : Int)) ∧ V.cell? ⟨n5, 3, none⟩ = some (.complex .f64 (x.v 0).1 (x.v 0).2) ∧ V.cell? ⟨n5, 4, none⟩ = some (.complex .f64 (x.v 1).1 (x.v 1).2) ∧ V.cell? ⟨n5, 5, none⟩ = some (.complex .f64 (x.v 2).1 (x.v 2).2) ∧ V.cell? ⟨n5, 6, none⟩ = some (.complex .f64 (x.v 3).1 (x.v 3).2) ∧ V.frozen? ⟨c, 1, none⟩ = false) := fun V hV1 hV2 => by
    have a1 := hV1.trans HW.out.1.blk
    rw [HM.out] at a1
    obtain ⟨b0, b1, b2, b3, b4, b5, b6⟩ := enCells (hV2.trans HW.out.2.2.1)
    refine ⟨?_, b0, b1, b2, b3, b4, b5, b6, frozen_of_row _ _ _ _ _ a1⟩
    rw [cell_of_row _ _ _ _ _ _ a1]; rfl
  have hF0 := HX.out W.drew rfl rfl
  have hbA : Below W.heap.size W (W.alloc (enO x)).drew := ⟨rfl, rfl, rfl, by simp, fun k hk => Below.heap_alloc W _ k hk⟩
  have hnW : n5 < W.heap.size := (Array.getElem?_eq_some_iff.1 HW.out.2.2.1).1
  have hcW := HW.out.1.lt
  have hF1 := HX.out (W.alloc (enO x)).drew (hbA.block _ hcW) (hbA.block _ hnW)
  refine wp_region_till (fun V => V.cell? ⟨c, 1, none⟩ = some (.slice (some ⟨g, 0, none⟩) q cap) ∧ V.cell? ⟨n5, 0, none⟩ = some (.int .i64 (x.p : Int)) ∧ V.cell? ⟨n5, 1, none⟩ = some (.int .i64 (x.c : Int)) ∧ V.cell? ⟨n5, 2, none⟩ = some (.int .i64 (x.o : Int)) ∧ V.cell? ⟨n5, 3, none⟩ = some (.complex .f64 (x.v 0).1 (x.v 0).2) ∧ V.cell? ⟨n5, 4, none⟩ = some (.complex .f64 (x.v 1).1 (x.v 1).2) ∧ V.cell? ⟨n5, 5, none⟩ = some (.complex .f64 (x.v 2).1 (x.v 2).2) ∧ V.cell? ⟨n5, 6, none⟩ = some (.complex .f64 (x.v 3).1 (x.v 3).2) ∧ V.frozen? ⟨c, 1, none⟩ = false) 10 (by kernel_rfl) ?_
  refine Till.val (i := 0) ?_ 9 rfl rfl rfl (by kernel_rfl) (by decide) (by kernel_rfl) (by kernel_rfl) (by kernel_rfl) (by kernel_rfl) (by rfl) (fun _ _ _ h => h) hF0 ?_ ?_
  rotate_left
  · (intro w hSw; obtain ⟨c1, d0, d1, d2, d3, d4, d5, d6, c9⟩ := hSw; go_simp; first | done | with_reducible rfl)
  simp only [Act.put, List.setIfInBounds_toArray, List.set_cons_zero, List.set_cons_succ]
  refine Till.val (i := 1) ?_ 10 rfl rfl rfl (by kernel_rfl) (by decide) (by kernel_rfl) (by kernel_rfl) (by kernel_rfl) (by kernel_rfl) (by rfl) (fun _ _ _ h => h) hF0 ?_ ?_
  rotate_left
  · (intro w hSw; obtain ⟨c1, d0, d1, d2, d3, d4, d5, d6, c9⟩ := hSw; go_simp; first | done | with_reducible rfl)
  simp only [Act.put, List.setIfInBounds_toArray, List.set_cons_zero, List.set_cons_succ]
  refine Till.val (i := 2) ?_ 11 rfl rfl rfl (by kernel_rfl) (by decide) (by kernel_rfl) (by kernel_rfl) (by kernel_rfl) (by kernel_rfl) (by rfl) (fun _ _ _ h => h) hF0 ?_ ?_
  rotate_left
  · (intro w hSw; obtain ⟨c1, d0, d1, d2, d3, d4, d5, d6, c9⟩ := hSw; go_simp; first | done | with_reducible rfl)
  simp only [Act.put, List.setIfInBounds_toArray, List.set_cons_zero, List.set_cons_succ]
  refine Till.val (i := 3) ?_ 12 rfl rfl rfl (by kernel_rfl) (by decide) (by kernel_rfl) (by kernel_rfl) (by kernel_rfl) (by kernel_rfl) (by rfl) (fun _ _ _ h => h) hF0 ?_ ?_
  rotate_left
  · (intro w hSw; obtain ⟨c1, d0, d1, d2, d3, d4, d5, d6, c9⟩ := hSw; go_simp; first | done | with_reducible rfl)
  simp only [Act.put, List.setIfInBounds_toArray, List.set_cons_zero, List.set_cons_succ]
  refine Till.val (i := 4) ?_ 13 rfl rfl rfl (by kernel_rfl) (by decide) (by kernel_rfl) (by kernel_rfl) (by kernel_rfl) (by kernel_rfl) (by rfl) (fun _ _ _ h => h) hF0 ?_ ?_
  rotate_left
  · (intro w hSw; obtain ⟨c1, d0, d1, d2, d3, d4, d5, d6, c9⟩ := hSw; go_simp; first | done | with_reducible rfl)
  simp only [Act.put, List.setIfInBounds_toArray, List.set_cons_zero, List.set_cons_succ]
  refine Till.val (i := 5) (enV x) 14 rfl rfl rfl (by kernel_rfl) (by decide) (by kernel_rfl) (by kernel_rfl) (by kernel_rfl) (by kernel_rfl) (by rfl) (fun _ _ _ h => h) hF0 ?_ ?_
  skip
  · (intro w hSw; obtain ⟨c1, d0, d1, d2, d3, d4, d5, d6, c9⟩ := hSw; go_simp; first | done | with_reducible rfl)
  simp only [Act.put, List.setIfInBounds_toArray, List.set_cons_zero, List.set_cons_succ]
  refine Till.run (i := 6) 15 (.slice (some ⟨W.heap.size, 0, none⟩) 1 1) (W.alloc (enO x)).drew rfl rfl (by kernel_rfl) (by rfl) (by go_simp) hF1 ?_
  simp only [Act.put, List.setIfInBounds_toArray, List.set_cons_zero, List.set_cons_succ]
  refine till_append_fitR enE (i := 7) (n := q) (m := 1) (N := M) (M := [x]) 16 (.tmp 13) (.tmp 15) 64 rfl rfl (by kernel_rfl) (by rfl) rfl 135 zE 88 Tryz.underlying64 info43 rfl rfl ((HW.out.1.below hbA).own) (RdR.drew (RdR.built enE W 135 _ [x] rfl 1 rfl (by unfold maxLen; omega))) HM.out rfl (q + 1) rfl hcap ?_
  intro w6 ho6 hg6
  have hk6 : ∀ j, j < W.heap.size → j ≠ g → w6.heap[j]? = W.heap[j]? := fun j hj hne => (hg6.block j (by have := hbA.size; omega) (fun e => hne (by simpa using e))).trans (hbA.block j hj)
  have hF6 := HX.out w6 (hk6 c hcW (fun e => HW.out.1.ne _ rfl e.symm)) (hk6 n5 hnW (by
    have := HW.out.2.2.2.2
    omega))
  refine ⟨hF6, ?_⟩
  simp only [Act.put, List.setIfInBounds_toArray, List.set_cons_zero, List.set_cons_succ]
  refine Till.run (i := 8) 17 (cp c) w6 rfl rfl (by kernel_rfl) (by rfl) (by go_simp) hF6 ?_
  simp only [Act.put, List.setIfInBounds_toArray, List.set_cons_zero, List.set_cons_succ]
  refine Till.run (i := 9) 18 (.pointer (some ⟨c, 1, none⟩)) w6 rfl rfl (by kernel_rfl) (by rfl) (by go_simp) hF6 ?_
  simp only [Act.put, List.setIfInBounds_toArray, List.set_cons_zero, List.set_cons_succ]
  have hN : Ca (w6.setCell ⟨c, 1, none⟩ (.slice (some ⟨g, 0, none⟩) (q + 1) cap)) A c room (some ⟨g, 0, none⟩) cap (M ++ [x]) ∧ OffS A w (w6.setCell ⟨c, 1, none⟩ (.slice (some ⟨g, 0, none⟩) (q + 1) cap)) := by
    obtain ⟨k1, k2⟩ := HW.out.1.stored (w6 := w6) (ao3 := some ⟨g, 0, none⟩) (cap3 := cap) (m3 := q + 1) (L3 := M ++ [x]) ⟨hg6.os, hg6.tape, hg6.output, Nat.le_trans hbA.size hg6.size, fun j hj hne => hk6 j hj (fun e => hne (by simp [e]))⟩ ho6 (by rw [List.length_append, HM.out]; rfl) A (fun _ h => h) (fun a ha => HW.out.1.ar a ha)
    exact ⟨k1, HW.out.2.1.trans (k2.mono fun _ h => .inl h)⟩
  obtain ⟨f1, f2, f3, f4, f5, f6, f7, f8, f9⟩ := hF6
  refine Till.last (w6.setCell ⟨c, 1, none⟩ (.slice (some ⟨g, 0, none⟩) (q + 1) cap)) rfl rfl (by kernel_rfl) (by decide) (by rfl) (by go_simp) ?_
  refine Till.done (by kernel_rfl) ?_ _
  have HN : Hid (Ca (w6.setCell ⟨c, 1, none⟩ (.slice (some ⟨g, 0, none⟩) (q + 1) cap)) A c room (some ⟨g, 0, none⟩) cap (M ++ [x]) ∧ OffS A w (w6.setCell ⟨c, 1, none⟩ (.slice (some ⟨g, 0, none⟩) (q + 1) cap))) := hN
  clear hN hF0 hF1 f1 f2 f3 f4 f5 f6 f7 f8 f9 hk6 hg6 ho6 HX
  generalize w6.setCell ⟨c, 1, none⟩ (.slice (some ⟨g, 0, none⟩) (q + 1) cap) = W7 at *
  have y1 := HN.out.1.c1
  rw [List.length_append, HM.out] at y1
  simp only [List.length_cons, List.length_nil, Nat.zero_add] at y1
  go_wp2
  go_quiet (fail)
  go_wp2
  go_ret
  exact ⟨rfl, (HN.out.1.below ⟨rfl, rfl, rfl, Nat.le_refl _, fun _ _ => rfl⟩), ⟨HN.out.2.os, HN.out.2.tape, HN.out.2.output, HN.out.2.size, HN.out.2.block⟩⟩

end Go.Proofs.YtmmgdmfdiaoegaaGreat
