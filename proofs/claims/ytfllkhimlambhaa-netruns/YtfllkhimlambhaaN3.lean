/- remove and Take of package net, walked. -/
import Derived.Test.YtfllkhimlambhaaN2
namespace Go.Proofs.Ytfllkhimlambhaa
open Go.RowKit
set_option linter.unusedVariables false
set_option maxRecDepth 8000

/-- Two cells of a block written. -/
abbrev st2 (W : World) (n : Nat) (x : Fv) : World := (W.setCell ⟨n, 0, none⟩ (.slice x.ao x.n x.cap)).setCell ⟨n, 1, none⟩ (.bool x.sp)
theorem st2_facts (W : World) (n : Nat) (x y : Fv) (h : W.heap[n]? = some (fvO y)) : (st2 W n x).heap[n]? = some (fvO x) ∧ (∀ j, j ≠ n → (st2 W n x).heap[j]? = W.heap[j]?) ∧ (∀ A : Nat → Prop, ∀ w : World, OffN A w W → w.heap.size ≤ n → OffN A w (st2 W n x)) ∧ W.heap.size ≤ (st2 W n x).heap.size := by
  refine ⟨?_, fun j hj => ?_, fun A w hO hn => ?_, by simp⟩
  · obtain ⟨y0, y1, hy⟩ : ∃ y0 y1 : Value, fvO y = .cells #[y0, y1] 63 := ⟨_, _, rfl⟩
    rw [hy] at h
    have h0 := heap_setCell_same _ n 0 _ 63 (.slice x.ao x.n x.cap) h
    simp only [List.setIfInBounds_toArray, List.set_cons_zero] at h0
    have h1 := heap_setCell_same _ n 1 _ 63 (.bool x.sp) h0
    simp only [List.setIfInBounds_toArray, List.set_cons_zero, List.set_cons_succ] at h1
    exact h1
  · unfold st2
    iterate 2 rw [Below.heap_setCell _ _ _ _ (by simpa using hj)]
  · exact (hO.beyond (a := ⟨n, 0, none⟩) hn _).beyond (a := ⟨n, 1, none⟩) hn _

theorem al2 (w : World) (o1 o2 : Obj) : ((w.alloc o1).alloc o2).heap[w.heap.size]? = some o1 ∧ ((w.alloc o1).alloc o2).heap[w.heap.size + 1]? = some o2 ∧ Below w.heap.size w ((w.alloc o1).alloc o2) := by
  have b1 : Below w.heap.size w (w.alloc o1) := (Below.refl _ _).alloc (Nat.le_refl _) _
  have b2 : Below (w.alloc o1).heap.size (w.alloc o1) ((w.alloc o1).alloc o2) := (Below.refl _ _).alloc (Nat.le_refl _) _
  have e1 : (w.alloc o1).heap.size = w.heap.size + 1 := by simp
  have n1 := heap_alloc_new w o1
  have n2 := heap_alloc_new (w.alloc o1) o2
  rw [e1] at n2
  exact ⟨(b2.block _ (by omega)).trans n1, n2, below_step b1 b2⟩

/-- What a lane is without one of its frames. -/
def outL (L : List It) (k : Nat) : List It := L.take k ++ L.drop (k + 1)

set_option maxHeartbeats 3200000 in
theorem remove_any {w : World} {g : Nat} {V : Nat → Prop} {T : Nat → List It} (H : Net w g V T) (hV : ∀ k, V k → k < w.heap.size) (l : Nat) (hl : l < 8) (k : Nat) (hk : k < (T l).length) :
    Calls Try.prog 27 #[np g, .int .i64 (l : Int), .int .i64 (k : Int)] w fun e w' => ∃ x : Fv, e = .returned (fvV x) ∧ (T l)[k]? = some x.it ∧ Net w' g V (upd T l (outL (T l) k)) ∧ Fb w' V x ∧ OffN V w w' := by
  obtain ⟨A, C, F, H, hT⟩ := H
  have e1 : (F l).length = (T l).length := by rw [← hT l hl, List.length_map]
  obtain ⟨q, hq⟩ : ∃ q, (F l).length = q + 1 := ⟨(F l).length - 1, by omega⟩
  have hkq : k < q + 1 := by omega
  have hq200 : q + 1 ≤ 200 := hq ▸ H.le l hl
  obtain ⟨x, hx⟩ : ∃ x, (F l)[k]? = some x := ⟨(F l)[k]'(by omega), List.getElem?_eq_getElem _⟩
  obtain ⟨hkl, hxe⟩ := List.getElem?_eq_some_iff.1 hx
  obtain ⟨r, off, hA, hrl, hcc⟩ := (H.row l hl).rd.at fvE hkl
  rw [hxe] at hcc
  have hA0 : A l = some ⟨r, 0, none⟩ := by
    rcases H.row l hl with ⟨h, _⟩ | ⟨g', cur, h, _⟩
    · rw [h] at hA; cases hA
    · rw [h] at hA; cases hA; exact h
  rw [hA0] at hA
  cases hA
  have hrg : r ≠ g := H.ne hl hA0
  have hrV : V r := H.inV.2 l hl _ hA0
  obtain ⟨z0, z1⟩ := fvIn _ _ _ _ hcc
  simp only [Nat.zero_add] at z0 z1
  have hb0 : Below w.heap.size w (w.alloc zFO) := (Below.refl _ _).alloc (Nat.le_refl _) _
  have hc := (H.keep hb0.size fun k hk _ => hb0.block k hk).cell l hl
  rw [hA0, hq] at hc
  have z0 := (hb0.cell (p := ⟨r, k * 2, none⟩) hrl).trans z0
  have z1 := (hb0.cell (p := ⟨r, k * 2 + 1, none⟩) hrl).trans z1
  clear hb0
  obtain ⟨cap, hcap⟩ : ∃ c, C l = c := ⟨_, rfl⟩
  rw [hcap] at hc
  have hkcap : q + 1 ≤ cap := by have := (H.row l hl).le; omega
  have HA : Hid (Nt w g V A C F ∧ A l = some ⟨r, 0, none⟩ ∧ C l = cap ∧ (F l).length = q + 1 ∧ (F l)[k]? = some x ∧ (∀ l, l < 8 → (F l).map Fv.it = T l) ∧ (∀ k, V k → k < w.heap.size) ∧ r < w.heap.size) := ⟨H, hA0, hcap, hq, hx, hT, hV, hrl⟩
  have hj63 : IntKind.i64.wrap ((k : Int) + 1) = (k : Int) + 1 := by rw [IntKind.wrap_i64]; omega
  have HG : Hid _ := al2 w zFO (fvO x)
  clear hcc hx hxe hkl hA0 hcap hq hT hV H e1 hk
  go_enter Try.func27, Try.ntmps27
  go_upto_region 2 with fail
  show Code.wp _ _ _ _ ((w.alloc zFO).alloc (fvO x))
  generalize (w.alloc zFO).alloc (fvO x) = W at *
  clear z0 z1 hc
  obtain ⟨n6, hn6⟩ : ∃ n, w.heap.size = n := ⟨_, rfl⟩
  obtain ⟨n7, hn7⟩ : ∃ n, w.heap.size + 1 = n := ⟨_, rfl⟩
  have HL : Hid (W.heap[n6]? = some zFO ∧ W.heap[n7]? = some (fvO x) ∧ Below w.heap.size w W ∧ w.heap.size = n6 ∧ w.heap.size + 1 = n7) := ⟨hn6 ▸ HG.out.1, hn7 ▸ HG.out.2.1, HG.out.2.2, hn6, hn7⟩
  rw [hn7, hn6]
  clear hn6 hn7 HG
  have HS : Hid (∀ U, Below w.heap.size w U → U.cell? ⟨g, l, none⟩ = some (.slice (some ⟨r, 0, none⟩) (q + 1) cap) ∧ U.frozen? ⟨g, l, none⟩ = false) := by
    intro U hU
    have h1 := HA.out.1.keep hU.size fun k hk _ => hU.block k hk
    have h2 := h1.cell l hl
    rw [HA.out.2.1, HA.out.2.2.1, HA.out.2.2.2.1] at h2
    exact ⟨h2, h1.fz l⟩
  have HD : Hid (Calls Try.prog 35 #[.slice (some ⟨r, 0, none⟩) (q + 1) cap, .int .i64 (k : Int), .int .i64 ((k : Int) + 1)] W.drew fun e w' => e = .returned (.slice (some ⟨r, 0, none⟩) q cap) ∧ Hid (OwR fvC 2 63 w' (some ⟨r, 0, none⟩) cap ((F l).take k ++ (F l).drop (k + 1)) ∧ W.drew.grownBy w' (some r))) := by
    have h1 := (HA.out.1.row l hl).below HL.out.2.2.1
    rw [HA.out.2.1, HA.out.2.2.1] at h1
    exact delete_any r q cap (F l) k W.drew (h1.keep fun _ _ _ => rfl) HA.out.2.2.2.1 hkq (by omega)
  refine wp_region_till (fun U => U.cell? ⟨g, l, none⟩ = some (.slice (some ⟨r, 0, none⟩) (q + 1) cap) ∧ U.frozen? ⟨g, l, none⟩ = false) 15 (by kernel_rfl) ?_
  have hF := HS.out _ (below_step HL.out.2.2.1 (bel0 W))
  have hlz : (l : Int) < 8 := by omega
  refine Till.val (i := 0) ?_ 17 rfl rfl rfl (by kernel_rfl) (by decide) (by kernel_rfl) (by kernel_rfl) (by kernel_rfl) (by kernel_rfl) (by rfl) (fun _ _ _ h => h) hF ?_ ?_
  rotate_left
  · (intro w hSw; go_simp; first | done | with_reducible rfl)
  simp only [Act.put, List.setIfInBounds_toArray, List.set_cons_zero, List.set_cons_succ]
  refine Till.val (i := 1) ?_ 18 rfl rfl rfl (by kernel_rfl) (by decide) (by kernel_rfl) (by kernel_rfl) (by kernel_rfl) (by kernel_rfl) (by rfl) (fun _ _ _ h => h) hF ?_ ?_
  rotate_left
  · (intro w hSw; go_simp; first | done | with_reducible rfl)
  simp only [Act.put, List.setIfInBounds_toArray, List.set_cons_zero, List.set_cons_succ]
  refine Till.val (i := 2) ?_ 19 rfl rfl rfl (by kernel_rfl) (by decide) (by kernel_rfl) (by kernel_rfl) (by kernel_rfl) (by kernel_rfl) (by rfl) (fun _ _ _ h => h) hF ?_ ?_
  rotate_left
  · (intro w hSw; go_simp; first | done | with_reducible rfl)
  simp only [Act.put, List.setIfInBounds_toArray, List.set_cons_zero, List.set_cons_succ]
  refine Till.val (i := 3) ?_ 20 rfl rfl rfl (by kernel_rfl) (by decide) (by kernel_rfl) (by kernel_rfl) (by kernel_rfl) (by kernel_rfl) (by rfl) (fun _ _ _ h => h) hF ?_ ?_
  rotate_left
  · (intro w hSw; go_simp; first | done | with_reducible rfl)
  simp only [Act.put, List.setIfInBounds_toArray, List.set_cons_zero, List.set_cons_succ]
  refine Till.val (i := 4) ?_ 21 rfl rfl rfl (by kernel_rfl) (by decide) (by kernel_rfl) (by kernel_rfl) (by kernel_rfl) (by kernel_rfl) (by rfl) (fun _ _ _ h => h) hF ?_ ?_
  rotate_left
  · (intro w hSw; go_simp; first | done | with_reducible rfl)
  simp only [Act.put, List.setIfInBounds_toArray, List.set_cons_zero, List.set_cons_succ]
  refine Till.val (i := 5) ?_ 22 rfl rfl rfl (by kernel_rfl) (by decide) (by kernel_rfl) (by kernel_rfl) (by kernel_rfl) (by kernel_rfl) (by rfl) (fun _ _ _ h => h) hF ?_ ?_
  rotate_left
  · (intro w hSw; go_simp; first | done | with_reducible rfl)
  simp only [Act.put, List.setIfInBounds_toArray, List.set_cons_zero, List.set_cons_succ]
  refine Till.val (i := 6) ?_ 23 rfl rfl rfl (by kernel_rfl) (by decide) (by kernel_rfl) (by kernel_rfl) (by kernel_rfl) (by kernel_rfl) (by rfl) (fun _ _ _ h => h) hF ?_ ?_
  rotate_left
  · (intro w hSw; go_simp; first | done | with_reducible rfl)
  simp only [Act.put, List.setIfInBounds_toArray, List.set_cons_zero, List.set_cons_succ]
  refine Till.val (i := 7) ?_ 24 rfl rfl rfl (by kernel_rfl) (by decide) (by kernel_rfl) (by kernel_rfl) (by kernel_rfl) (by kernel_rfl) (by rfl) (fun _ _ _ h => h) hF ?_ ?_
  rotate_left
  · (intro w hSw; obtain ⟨k0, k1⟩ := hSw; go_simp; first | done | with_reducible rfl)
  simp only [Act.put, List.setIfInBounds_toArray, List.set_cons_zero, List.set_cons_succ]
  refine Till.val (i := 8) ?_ 25 rfl rfl rfl (by kernel_rfl) (by decide) (by kernel_rfl) (by kernel_rfl) (by kernel_rfl) (by kernel_rfl) (by rfl) (fun _ _ _ h => h) hF ?_ ?_
  rotate_left
  · (intro w hSw; go_simp; first | done | with_reducible rfl)
  simp only [Act.put, List.setIfInBounds_toArray, List.set_cons_zero, List.set_cons_succ]
  refine Till.val (i := 9) ?_ 26 rfl rfl rfl (by kernel_rfl) (by decide) (by kernel_rfl) (by kernel_rfl) (by kernel_rfl) (by kernel_rfl) (by rfl) (fun _ _ _ h => h) hF ?_ ?_
  rotate_left
  · (intro w hSw; go_simp; first | done | with_reducible rfl)
  simp only [Act.put, List.setIfInBounds_toArray, List.set_cons_zero, List.set_cons_succ]
  refine Till.val (i := 10) ?_ 27 rfl rfl rfl (by kernel_rfl) (by decide) (by kernel_rfl) (by kernel_rfl) (by kernel_rfl) (by kernel_rfl) (by rfl) (fun _ _ _ h => h) hF ?_ ?_
  rotate_left
  · (intro w hSw; go_simp; first | done | with_reducible rfl)
  simp only [Act.put, List.setIfInBounds_toArray, List.set_cons_zero, List.set_cons_succ]
  refine Till.valD (i := 12) [13, 14, 15] ?_ 29 rfl rfl (by decide) (by decide) (by kernel_rfl) (by kernel_rfl) (by kernel_rfl) (by kernel_rfl) (by kernel_rfl) (by rfl) (fun _ _ _ h => h) hF ?_ ?_
  rotate_left
  · (intro w hSw; go_simp; first | done | with_reducible rfl)
  simp only [Act.put, List.setIfInBounds_toArray, List.set_cons_zero, List.set_cons_succ]
  refine Till.valD (i := 13) [14, 15] ?_ 30 rfl rfl (by decide) (by decide) (by kernel_rfl) (by kernel_rfl) (by kernel_rfl) (by kernel_rfl) (by kernel_rfl) (by rfl) (fun _ _ _ h => h) hF ?_ ?_
  rotate_left
  · (intro w hSw; go_simp; first | done | with_reducible rfl)
  simp only [Act.put, List.setIfInBounds_toArray, List.set_cons_zero, List.set_cons_succ]
  refine Till.call (i := 11) 28 35 #[.slice (some ⟨r, 0, none⟩) (q + 1) cap, .int .i64 (k : Int), .int .i64 ((k : Int) + 1)] rfl rfl (by kernel_rfl) (by rfl) (by simp [go_sem]) HD.out ?_
  rintro e W2 ⟨rfl, HB2⟩
  have hF2 : W2.cell? ⟨g, l, none⟩ = some (.slice (some ⟨r, 0, none⟩) (q + 1) cap) ∧ W2.frozen? ⟨g, l, none⟩ = false := by
    have e1 : W2.heap[g]? = W.heap[g]? := HB2.out.2.block g (Nat.lt_of_lt_of_le HA.out.1.lt HL.out.2.2.1.size) (by intro e; exact hrg (by simpa using e.symm))
    have hF0 := HS.out W HL.out.2.2.1
    exact ⟨(World.cell?_of_block (w := W) (w' := W2) (a := ⟨g, l, none⟩) e1).trans hF0.1, (World.frozen?_of_block (w := W) (a := ⟨g, l, none⟩) e1).trans hF0.2⟩
  refine ⟨_, rfl, hF2, ?_⟩
  simp only [Act.put, List.setIfInBounds_toArray, List.set_cons_zero, List.set_cons_succ]
  refine Till.run (i := 14) 31 (.pointer (some ⟨g, l, none⟩)) W2 rfl rfl (by kernel_rfl) (by rfl) (by go_simp) hF2 ?_
  simp only [Act.put, List.setIfInBounds_toArray, List.set_cons_zero, List.set_cons_succ]
  obtain ⟨f1, f2⟩ := hF2
  refine Till.last (W2.setCell ⟨g, l, none⟩ (.slice (some ⟨r, 0, none⟩) q cap)) rfl rfl (by kernel_rfl) (by decide) (by rfl) (by go_simp) ?_
  refine Till.done (by kernel_rfl) ?_ _
  have HZ : Hid (Net (W2.setCell ⟨g, l, none⟩ (.slice (some ⟨r, 0, none⟩) q cap)) g V (upd T l (outL (T l) k)) ∧ OffN V w (W2.setCell ⟨g, l, none⟩ (.slice (some ⟨r, 0, none⟩) q cap)) ∧ Fb (W2.setCell ⟨g, l, none⟩ (.slice (some ⟨r, 0, none⟩) q cap)) V x ∧ (W2.setCell ⟨g, l, none⟩ (.slice (some ⟨r, 0, none⟩) q cap)).heap[n6]? = some zFO ∧ (W2.setCell ⟨g, l, none⟩ (.slice (some ⟨r, 0, none⟩) q cap)).heap[n7]? = some (fvO x)) := by
    obtain ⟨H, hA0, hcap, hq, hx, hT, hV, hrl⟩ := HA.out
    obtain ⟨hn6, hn7, hbW, e6, e7⟩ := HL.out
    obtain ⟨ho, hg⟩ := HB2.out
    have hbl : ∀ k, k < W.heap.size → k ≠ r → W2.heap[k]? = W.heap[k]? := fun k hk hne => hg.block k hk (by intro e; exact hne (by simpa using e))
    have hl6 : n6 < W.heap.size := (Array.getElem?_eq_some_iff.1 hn6).1
    have hl7 : n7 < W.heap.size := (Array.getElem?_eq_some_iff.1 hn7).1
    have hk5 : ∀ (k : Nat) (cs' : Array Value), V k → w.heap[k]? = some (.cells cs' 5) → W2.heap[k]? = w.heap[k]? := by
      intro k cs' _ hc
      have hkw := (Array.getElem?_eq_some_iff.1 hc).1
      refine (hbl k (Nat.lt_of_lt_of_le hkw hbW.size) ?_).trans (hbW.block k hkw)
      rintro rfl
      obtain ⟨_, cur, h2⟩ := (H.row l hl).lt _ hA0
      rw [hc] at h2
      cases h2
    have hsz : w.heap.size ≤ W2.heap.size := Nat.le_trans hbW.size hg.size
    have hlen : ((F l).take k ++ (F l).drop (k + 1)).length = q := by rw [List.length_append, List.length_take, List.length_drop, hq]; omega
    have hst := H.stored (U := V) hl hsz (hg.os.trans hbW.os) (hg.tape.trans hbW.tape) (hg.output.trans hbW.output) (fun k hk hne => (hbl k (Nat.lt_of_lt_of_le hk hbW.size) (fun e => hne _ hA0 e.symm)).trans (hbW.block k hk)) ho hlen (by omega) (fun _ h => h) (.inl hA0.symm) (fun y hy => (H.by' l hl y (by
      rcases List.mem_append.1 hy with hy | hy
      · exact List.mem_of_mem_take hy
      · exact List.mem_of_mem_drop hy)).keep hsz hk5)
    have hgne : ∀ k, k ≠ g → (W2.setCell ⟨g, l, none⟩ (.slice (some ⟨r, 0, none⟩) q cap)).heap[k]? = W2.heap[k]? := fun k hk => Below.heap_setCell _ _ _ _ (by simpa using hk)
    have hgl := H.lt
    refine ⟨⟨_, _, _, hst.1, ?_⟩, hst.2, ((H.by' l hl x (List.mem_of_getElem? hx)).keep hsz hk5).keep (by simp) ?_, ?_, ?_⟩
    · intro j hj
      by_cases e : j = l
      · subst e
        rw [upd_same, upd_same, List.map_append, List.map_take, List.map_drop, hT j hj]
        rfl
      · rw [upd_other _ _ e, upd_other _ _ e]
        exact hT j hj
    · intro k cs' _ hc
      refine hgne k ?_
      rintro rfl
      obtain ⟨cs, hcs⟩ := H.blk
      rw [hbl k (Nat.lt_of_lt_of_le hgl hbW.size) (Ne.symm hrg), hbW.block k hgl, hcs] at hc
      cases hc
    · rw [hgne n6 (by omega), hbl n6 hl6 (by omega)]
      exact hn6
    · rw [hgne n7 (by omega), hbl n7 hl7 (by omega)]
      exact hn7
  clear f1 f2 hF HD HS
  generalize W2.setCell ⟨g, l, none⟩ (.slice (some ⟨r, 0, none⟩) q cap) = W3 at *
  obtain ⟨y0, y1⟩ := fvCells HZ.out.2.2.2.2
  obtain ⟨x0, x1⟩ := fvCells (x := ⟨none, 0, 0, [], false⟩) HZ.out.2.2.2.1
  have f4 := fun j => frozen_of_row W3 n6 j _ _ HZ.out.2.2.2.1
  have HE : Hid (Net (st2 W3 n6 x) g V (upd T l (outL (T l) k)) ∧ OffN V w (st2 W3 n6 x) ∧ Fb (st2 W3 n6 x) V x ∧ (st2 W3 n6 x).heap[n6]? = some (fvO x) ∧ (T l)[k]? = some x.it) := by
    obtain ⟨h1, h2, h3, h4, h5⟩ := HZ.out
    obtain ⟨s1, s2, s3, s4⟩ := st2_facts W3 n6 x ⟨none, 0, 0, [], false⟩ h4
    have hV := HA.out.2.2.2.2.2.2.1
    have hn := HL.out.2.2.2.1
    have hne : ∀ k, V k → k ≠ n6 := fun k hk e => by have := hV k hk; omega
    refine ⟨h1.keep s4 fun k _ hv => s2 k (hne k hv), s3 V w h2 (by omega), h3.keep s4 fun k _ hv _ => s2 k (hne k hv), s1, ?_⟩
    rw [← HA.out.2.2.2.2.2.1 l hl, List.getElem?_map, HA.out.2.2.2.2.1]
    rfl
  clear HZ
  go_wp2
  unfold st2 at HE
  generalize (W3.setCell ⟨n6, 0, none⟩ (.slice x.ao x.n x.cap)).setCell ⟨n6, 1, none⟩ (.bool x.sp) = W4 at *
  obtain ⟨u0, u1⟩ := fvCells HE.out.2.2.2.1
  refine bodyPost_ret (by simp [results, Try.results27, go_sem, u0, u1]; try rfl) rfl ?_
  exact ⟨x, rfl, HE.out.2.2.2.2, HE.out.1, HE.out.2.2.1, HE.out.2.1⟩

/-- Is there one? -/
theorem hasB_yes {T : Nat → List It} {z i : Int} (h : hasB T z i = true) : ∃ l k : Nat, z = (l : Int) ∧ i = (k : Int) ∧ l < 8 ∧ k < (T l).length := by
  unfold hasB at h
  rw [decide_eq_true_eq] at h
  obtain ⟨h0, h1⟩ := h
  by_cases hz : 0 ≤ z ∧ z < 8
  · obtain ⟨l, rfl⟩ : ∃ l : Nat, z = (l : Int) := ⟨z.toNat, by omega⟩
    have hl : l < 8 := by omega
    rw [lenZ_nat T hl] at h1
    exact ⟨l, i.toNat, rfl, by omega, hl, by omega⟩
  · unfold lenZ at h1
    rw [if_neg hz] at h1
    omega
theorem hasB_nat (T : Nat → List It) {l : Nat} (hl : l < 8) (k : Nat) : hasB T (l : Int) (k : Int) = decide (k < (T l).length) := by
  unfold hasB
  rw [lenZ_nat T hl]
  congr 1
  simp only [eq_iff_iff]
  omega

theorem take_no {w : World} {g : Nat} {V : Nat → Prop} {T : Nat → List It} (H : Net w g V T) (z i : Int) (h : hasB T z i = false) : Calls Try.prog 14 #[np g, .int .i64 z, .int .i64 i] w fun e w' => e = .returned (.tuple #[.slice none 0 0, .bool false]) ∧ w' = w := by
  go_enter Try.func14, Try.ntmps14
  go_wp2_with (go_at_call 26; refine (has_any H _ _).mono ?_; rw [h]; rintro e w1 ⟨rfl, hw1⟩; subst w1)
  go_ret2
  exact ⟨rfl, rfl⟩

theorem Net.tight {w : World} {g : Nat} {V : Nat → Prop} {T : Nat → List It} (H : Net w g V T) : Net w g (fun k => V k ∧ k < w.heap.size) T := H.mono fun k hk hv => ⟨hv, hk⟩

theorem take_yes {w : World} {g : Nat} {V : Nat → Prop} {T : Nat → List It} (H : Net w g V T) (l : Nat) (hl : l < 8) (k : Nat) (hk : k < (T l).length) : Calls Try.prog 14 #[np g, .int .i64 (l : Int), .int .i64 (k : Int)] w fun e w' => ∃ x : Fv, e = .returned (.tuple #[.slice x.ao x.n x.cap, .bool true]) ∧ (T l)[k]? = some x.it ∧ Fb w' V x ∧ Ned w w' g V (upd T l (outL (T l) k)) := by
  have h : hasB T (l : Int) (k : Int) = true := by rw [hasB_nat T hl]; simpa using hk
  have HC : Hid (Calls Try.prog 27 #[np g, .int .i64 (l : Int), .int .i64 (k : Int)] w fun e w' => ∃ x : Fv, e = .returned (fvV x) ∧ Hid ((T l)[k]? = some x.it ∧ Fb w' V x ∧ Ned w w' g V (upd T l (outL (T l) k)))) := by
    refine (remove_any H.tight (fun k hk => hk.2) l hl k hk).mono ?_
    rintro e w' ⟨x, rfl, h1, h2, h3, h4⟩
    exact ⟨x, rfl, h1, h3.mono fun k _ hv => hv.1, h2.mono fun k _ hv => .inl hv.1, h4.mono fun k hv => hv.1⟩
  have hf : ∀ (x : Fv) (W : World), (Instr.field 63 (.agg #[.slice x.ao x.n x.cap, .bool x.sp]) 0).run Try.prog W = .ok (.slice x.ao x.n x.cap) W := fun x W => rfl
  clear hk
  go_enter Try.func14, Try.ntmps14
  go_wp2_with (first
    | (go_at_call 27; refine HC.out.mono ?_; rintro e w1 ⟨x, rfl, HN⟩)
    | (go_at_call 26; refine (has_any H _ _).mono ?_; rw [h]; rintro e w1 ⟨rfl, hw1⟩; subst w1))
  go_ret2
  exact ⟨x, rfl, HN.out⟩

end Go.Proofs.Ytfllkhimlambhaa
