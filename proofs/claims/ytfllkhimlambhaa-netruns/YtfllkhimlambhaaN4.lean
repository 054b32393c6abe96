/- Double, Late and Spoil of package net, bytes.Equal, walked. -/
import Derived.Test.YtfllkhimlambhaaN3
namespace Go.Proofs.Ytfllkhimlambhaa
open Go.RowKit
set_option linter.unusedVariables false
set_option maxRecDepth 8000

/-- The frame with k ahead of it, in memory. -/
theorem Nt.at (l k : Nat) {w : World} {g : Nat} {V : Nat → Prop} {A : Nat → Option Addr} {C : Nat → Nat} {F : Nat → List Fv} (H : Nt w g V A C F) (hl : l < 8) (hk : k < (F l).length) :
    ∃ r x, A l = some ⟨r, 0, none⟩ ∧ (F l)[k]? = some x ∧ V r ∧ r < w.heap.size ∧ r ≠ g ∧ Fb w V x ∧ w.cell? ⟨r, k * 2, none⟩ = some (.slice x.ao x.n x.cap) ∧ w.cell? ⟨r, k * 2 + 1, none⟩ = some (.bool x.sp) := by
  obtain ⟨r, off, hA, hrl, hcc⟩ := (H.row l hl).rd.at fvE hk
  have hA0 : A l = some ⟨r, 0, none⟩ := by
    rcases H.row l hl with ⟨h, _⟩ | ⟨g', cur, h, _⟩
    · rw [h] at hA; cases hA
    · rw [h] at hA; cases hA; exact h
  rw [hA0] at hA
  cases hA
  obtain ⟨z0, z1⟩ := fvIn _ _ _ _ hcc
  simp only [Nat.zero_add] at z0 z1
  exact ⟨r, (F l)[k], hA0, List.getElem?_eq_getElem hk, H.inV.2 l hl _ hA0, hrl, H.ne hl hA0, H.by' l hl _ (List.getElem_mem hk), z0, z1⟩

/-! ### Double -/

theorem double_no {w : World} {g : Nat} {V : Nat → Prop} {T : Nat → List It} (H : Net w g V T) (z i : Int) (h : hasB T z i = false) : Calls Try.prog 16 #[np g, .int .i64 z, .int .i64 i] w fun e w' => e = .returned (.bool false) ∧ w' = w := by
  go_enter Try.func16, Try.ntmps16
  go_wp2_with (go_at_call 26; refine (has_any H _ _).mono ?_; rw [h]; rintro e w1 ⟨rfl, hw1⟩; subst w1)
  go_ret
  exact ⟨rfl, rfl⟩

/-- A lane's frame, or any. -/
def itAt (L : List It) (k : Nat) : It := L.getD k ([], false)
theorem itAt_of {L : List It} {k : Nat} {x : It} (h : L[k]? = some x) : itAt L k = x := by simp [itAt, List.getD, h]

set_option maxHeartbeats 800000 in
theorem double_yes {w : World} {g : Nat} {V : Nat → Prop} {T : Nat → List It} (H : Net w g V T) (l : Nat) (hl : l < 8) (k : Nat) (hk : k < (T l).length) : Calls Try.prog 16 #[np g, .int .i64 (l : Int), .int .i64 (k : Int)] w fun e w' => e = .returned (.bool (putB T (l : Int))) ∧ Ned w w' g V (putT T (l : Int) (itAt (T l) k)) := by
  have h : hasB T (l : Int) (k : Int) = true := by rw [hasB_nat T hl]; simpa using hk
  have HH : Hid (Net w g V T) := H
  have HHas := has_any H (l : Int) (k : Int)
  rw [h] at HHas
  have HQ : Hid (Calls Try.prog 26 #[np g, .int .i64 (l : Int), .int .i64 (k : Int)] w fun e w' => e = .returned (.bool true) ∧ w' = w) := HHas
  clear HHas
  obtain ⟨A, C, F, H, hT⟩ := H
  have e1 : (F l).length = (T l).length := by rw [← hT l hl, List.length_map]
  obtain ⟨r, x, hA, hx, hrV, hrl, hrg, hby, z0, z1⟩ := H.at l k hl (by omega)
  have hc := H.cell l hl
  rw [hA, e1] at hc
  have hxi : itAt (T l) k = x.it := itAt_of (by rw [← hT l hl, List.getElem?_map, hx]; rfl)
  have hlz : (l : Int) < 8 := by omega
  have hb0 : Below w.heap.size w (w.alloc (fvO x)) := (Below.refl _ _).alloc (Nat.le_refl _) _
  have HC : Hid (Calls Try.prog 24 #[np g, .int .i64 (l : Int), .slice x.ao x.n x.cap, .bool x.sp] (w.alloc (fvO x)) fun e w' => e = .returned (.bool (putB T (l : Int))) ∧ Hid (Ned w w' g V (putT T (l : Int) (itAt (T l) k)))) := by
    rw [hxi]
    refine (add_any ((HH.out.tight).below hb0) (l : Int) x.ao x.n x.cap x.bs (hby.rd.below hb0) hby.sz x.sp).mono ?_
    rintro e w' ⟨rfl, h1, h2⟩
    have hs := hb0.size
    refine ⟨rfl, h1.mono ?_, ?_⟩
    · rintro k _ (hv | hv)
      · exact .inl hv.1
      · exact .inr (by omega)
    · exact (OffN.of_below hb0).trans (h2.mono fun k hv => .inl hv.1)
  clear hT hx hrV hby hxi hb0 H e1 h
  generalize (T l).length = n at *
  generalize putB T (l : Int) = b at *
  go_enter Try.func16, Try.ntmps16
  go_wp2_with (first
    | (go_at_call 24; refine HC.out.mono ?_; rintro e w1 ⟨rfl, HN⟩)
    | (go_at_call 26; refine HQ.out.mono ?_; rintro e w1 ⟨rfl, hw1⟩; subst w1))
  go_ret
  exact ⟨rfl, HN.out⟩

/-! ### Late -/

theorem late_no {w : World} {g : Nat} {V : Nat → Prop} {T : Nat → List It} (H : Net w g V T) (z i : Int) (h : hasB T z i = false) : Calls Try.prog 18 #[np g, .int .i64 z, .int .i64 i] w fun e w' => e = .returned (.bool false) ∧ w' = w := by
  go_enter Try.func18, Try.ntmps18
  go_wp2_with (go_at_call 26; refine (has_any H _ _).mono ?_; rw [h]; rintro e w1 ⟨rfl, hw1⟩; subst w1)
  go_ret
  exact ⟨rfl, rfl⟩

def lateT (T : Nat → List It) (l k : Nat) : Nat → List It := upd T l (outL (T l) k ++ [itAt (T l) k])

theorem outL_length (L : List It) (k : Nat) (h : k < L.length) : (outL L k).length + 1 = L.length := by
  unfold outL
  rw [List.length_append, List.length_take, List.length_drop]
  omega

set_option maxHeartbeats 3200000 in
theorem late_yes {w : World} {g : Nat} {V : Nat → Prop} {T : Nat → List It} (H : Net w g V T) (l : Nat) (hl : l < 8) (k : Nat) (hk : k < (T l).length) : Calls Try.prog 18 #[np g, .int .i64 (l : Int), .int .i64 (k : Int)] w fun e w' => e = .returned (.bool true) ∧ Ned w w' g V (lateT T l k) := by
  have h : hasB T (l : Int) (k : Int) = true := by rw [hasB_nat T hl]; simpa using hk
  have HHas := has_any H (l : Int) (k : Int)
  rw [h] at HHas
  have HQ : Hid (Calls Try.prog 26 #[np g, .int .i64 (l : Int), .int .i64 (k : Int)] w fun e w' => e = .returned (.bool true) ∧ w' = w) := HHas
  have HR : Hid (Calls Try.prog 27 #[np g, .int .i64 (l : Int), .int .i64 (k : Int)] w fun e w' => ∃ x : Fv, e = .returned (fvV x) ∧ Hid ((T l)[k]? = some x.it ∧ Net w' g (fun k => V k ∧ k < w.heap.size) (upd T l (outL (T l) k)) ∧ Fb w' (fun k => V k ∧ k < w.heap.size) x ∧ OffN (fun k => V k ∧ k < w.heap.size) w w')) := by
    refine (remove_any H.tight (fun k hk => hk.2) l hl k hk).mono ?_
    rintro e w' ⟨x, rfl, h1⟩
    exact ⟨x, rfl, h1⟩
  have HT : Hid (k < (T l).length ∧ (T l).length ≤ 200) := ⟨hk, by obtain ⟨_, _, _, _, _, _, _, h⟩ := H.lane hl; exact h⟩
  clear hk HHas H h
  go_enter Try.func18, Try.ntmps18
  go_upto_region 4 with (first
    | (go_at_call 27; refine HR.out.mono ?_; rintro e w1 ⟨x, rfl, HN⟩)
    | (go_at_call 26; refine HQ.out.mono ?_; rintro e w1 ⟨rfl, hw1⟩; subst w1)
    | fail)
  show Code.wp _ _ _ _ (w1.alloc (fvO x))
  obtain ⟨n7, hn7⟩ : ∃ n, w1.heap.size = n := ⟨_, rfl⟩
  rw [hn7]
  have hW : (w1.alloc (fvO x)).heap[n7]? = some (fvO x) := by rw [← hn7]; exact heap_alloc_new w1 _
  have hbW : Below w1.heap.size w1 (w1.alloc (fvO x)) := (Below.refl _ _).alloc (Nat.le_refl _) _
  obtain ⟨W, hWe⟩ : ∃ W, w1.alloc (fvO x) = W := ⟨_, rfl⟩
  rw [hWe] at hW hbW ⊢
  obtain ⟨A, C, F, H, hT⟩ := HN.out.2.1
  have hT' := hT l hl
  rw [upd_same] at hT'
  have e1 : (F l).length + 1 = (T l).length := by
    rw [← outL_length (T l) k HT.out.1, ← hT', List.length_map]
  obtain ⟨n, hn⟩ : ∃ n, (F l).length = n := ⟨_, rfl⟩
  obtain ⟨ao, hA⟩ : ∃ ao, A l = ao := ⟨_, rfl⟩
  obtain ⟨cap, hC⟩ : ∃ cap, C l = cap := ⟨_, rfl⟩
  have hn200 : n < 200 := by have := HT.out.2; omega
  have HA : Hid (Nt w1 g (fun k => V k ∧ k < w.heap.size) A C F ∧ A l = ao ∧ C l = cap ∧ (F l).length = n ∧ (∀ l_1, l_1 < 8 → (F l_1).map Fv.it = upd T l (outL (T l) k) l_1) ∧ Below w1.heap.size w1 W ∧ Fb w1 (fun k => V k ∧ k < w.heap.size) x ∧ OffN (fun k => V k ∧ k < w.heap.size) w w1 ∧ (T l)[k]? = some x.it ∧ w.heap.size ≤ w1.heap.size ∧ w1.heap.size = n7) := ⟨H, hA, hC, hn, hT, hbW, HN.out.2.2.1, HN.out.2.2.2, HN.out.1, HN.out.2.2.2.size, hn7⟩
  have HS : Hid (∀ U, Below w1.heap.size w1 U → U.cell? ⟨g, l, none⟩ = some (.slice ao n cap) ∧ U.frozen? ⟨g, l, none⟩ = false) := by
    intro U hU
    have h1 := H.keep hU.size fun k hk _ => hU.block k hk
    have h2 := h1.cell l hl
    rw [hA, hC, hn] at h2
    exact ⟨h2, h1.fz l⟩
  have HW : Hid (W.heap[n7]? = some (fvO x)) := hW
  clear HN hT H hn7 hW hbW hWe hT' e1 hn hA hC HR HQ
  have hlz : (l : Int) < 8 := by omega
  refine wp_region_till (fun U => U.cell? ⟨g, l, none⟩ = some (.slice ao n cap) ∧ U.frozen? ⟨g, l, none⟩ = false ∧ U.cell? ⟨n7, 0, none⟩ = some (.slice x.ao x.n x.cap) ∧ U.cell? ⟨n7, 1, none⟩ = some (.bool x.sp)) 14 (by kernel_rfl) ?_
  have hF : W.drew.cell? ⟨g, l, none⟩ = some (.slice ao n cap) ∧ W.drew.frozen? ⟨g, l, none⟩ = false ∧ W.drew.cell? ⟨n7, 0, none⟩ = some (.slice x.ao x.n x.cap) ∧ W.drew.cell? ⟨n7, 1, none⟩ = some (.bool x.sp) := by
    obtain ⟨h1, h2⟩ := HS.out _ (below_step HA.out.2.2.2.2.2.1 (bel0 W))
    exact ⟨h1, h2, fvCells HW.out⟩
  refine Till.val (i := 0) ?_ 17 rfl rfl rfl (by kernel_rfl) (by decide) (by kernel_rfl) (by kernel_rfl) (by kernel_rfl) (by kernel_rfl) (by rfl) (fun _ _ _ h => h) hF ?_ ?_
  rotate_left
  · (intro w hSw; go_simp; first | done | with_reducible rfl)
  simp only [Act.put, List.setIfInBounds_toArray, List.set_cons_zero, List.set_cons_succ]
  refine Till.val (i := 1) ?_ 18 rfl rfl rfl (by kernel_rfl) (by decide) (by kernel_rfl) (by kernel_rfl) (by kernel_rfl) (by kernel_rfl) (by rfl) (fun _ _ _ h => h) hF ?_ ?_
  rotate_left
  · (intro w hSw; go_simp; first | done | with_reducible rfl)
  simp only [Act.put, List.setIfInBounds_toArray, List.set_cons_zero, List.set_cons_succ]
  refine Till.val (i := 2) ?_ 19 rfl rfl rfl (by kernel_rfl) (by decide) (by kernel_rfl) (by kernel_rfl) (by kernel_rfl) (by kernel_rfl) (by rfl) (fun _ _ _ h => h) hF ?_ ?_
  rotate_left
  · (intro w hSw; go_simp; first | done | with_reducible rfl)
  simp only [Act.put, List.setIfInBounds_toArray, List.set_cons_zero, List.set_cons_succ]
  refine Till.val (i := 3) ?_ 20 rfl rfl rfl (by kernel_rfl) (by decide) (by kernel_rfl) (by kernel_rfl) (by kernel_rfl) (by kernel_rfl) (by rfl) (fun _ _ _ h => h) hF ?_ ?_
  rotate_left
  · (intro w hSw; go_simp; first | done | with_reducible rfl)
  simp only [Act.put, List.setIfInBounds_toArray, List.set_cons_zero, List.set_cons_succ]
  refine Till.val (i := 4) ?_ 21 rfl rfl rfl (by kernel_rfl) (by decide) (by kernel_rfl) (by kernel_rfl) (by kernel_rfl) (by kernel_rfl) (by rfl) (fun _ _ _ h => h) hF ?_ ?_
  rotate_left
  · (intro w hSw; go_simp; first | done | with_reducible rfl)
  simp only [Act.put, List.setIfInBounds_toArray, List.set_cons_zero, List.set_cons_succ]
  refine Till.val (i := 5) ?_ 22 rfl rfl rfl (by kernel_rfl) (by decide) (by kernel_rfl) (by kernel_rfl) (by kernel_rfl) (by kernel_rfl) (by rfl) (fun _ _ _ h => h) hF ?_ ?_
  rotate_left
  · (intro w hSw; go_simp; first | done | with_reducible rfl)
  simp only [Act.put, List.setIfInBounds_toArray, List.set_cons_zero, List.set_cons_succ]
  refine Till.val (i := 6) ?_ 23 rfl rfl rfl (by kernel_rfl) (by decide) (by kernel_rfl) (by kernel_rfl) (by kernel_rfl) (by kernel_rfl) (by rfl) (fun _ _ _ h => h) hF ?_ ?_
  rotate_left
  · (intro w hSw; go_simp; first | done | with_reducible rfl)
  simp only [Act.put, List.setIfInBounds_toArray, List.set_cons_zero, List.set_cons_succ]
  refine Till.val (i := 7) ?_ 24 rfl rfl rfl (by kernel_rfl) (by decide) (by kernel_rfl) (by kernel_rfl) (by kernel_rfl) (by kernel_rfl) (by rfl) (fun _ _ _ h => h) hF ?_ ?_
  rotate_left
  · (intro w hSw; obtain ⟨k0, k1, k2, k3⟩ := hSw; go_simp; first | done | with_reducible rfl)
  simp only [Act.put, List.setIfInBounds_toArray, List.set_cons_zero, List.set_cons_succ]
  refine Till.val (i := 8) ?_ 25 rfl rfl rfl (by kernel_rfl) (by decide) (by kernel_rfl) (by kernel_rfl) (by kernel_rfl) (by kernel_rfl) (by rfl) (fun _ _ _ h => h) hF ?_ ?_
  rotate_left
  · (intro w hSw; obtain ⟨k0, k1, k2, k3⟩ := hSw; go_simp; first | done | with_reducible rfl)
  simp only [Act.put, List.setIfInBounds_toArray, List.set_cons_zero, List.set_cons_succ]
  refine Till.valD (i := 11) [12, 13, 14] ?_ 28 rfl rfl (by decide) (by decide) (by kernel_rfl) (by kernel_rfl) (by kernel_rfl) (by kernel_rfl) (by kernel_rfl) (by rfl) (fun _ _ _ h => h) hF ?_ ?_
  rotate_left
  · (intro w hSw; go_simp; first | done | with_reducible rfl)
  simp only [Act.put, List.setIfInBounds_toArray, List.set_cons_zero, List.set_cons_succ]
  refine Till.valD (i := 12) [13, 14] ?_ 29 rfl rfl (by decide) (by decide) (by kernel_rfl) (by kernel_rfl) (by kernel_rfl) (by kernel_rfl) (by kernel_rfl) (by rfl) (fun _ _ _ h => h) hF ?_ ?_
  rotate_left
  · (intro w hSw; go_simp; first | done | with_reducible rfl)
  simp only [Act.put, List.setIfInBounds_toArray, List.set_cons_zero, List.set_cons_succ]
  have HB7 : Hid (Below w1.heap.size w1 (W.drew.alloc (fvO x)) ∧ Below W.heap.size W (W.drew.alloc (fvO x))) := ⟨(below_step HA.out.2.2.2.2.2.1 (bel0 W)).alloc (Nat.le_trans HA.out.2.2.2.2.2.1.size (Nat.le_refl _)) _, (bel0 W).alloc (Nat.le_refl _) _⟩
  have hF7 : (W.drew.alloc (fvO x)).cell? ⟨g, l, none⟩ = some (.slice ao n cap) ∧ (W.drew.alloc (fvO x)).frozen? ⟨g, l, none⟩ = false ∧ (W.drew.alloc (fvO x)).cell? ⟨n7, 0, none⟩ = some (.slice x.ao x.n x.cap) ∧ (W.drew.alloc (fvO x)).cell? ⟨n7, 1, none⟩ = some (.bool x.sp) := by
    obtain ⟨h1, h2⟩ := HS.out _ HB7.out.1
    exact ⟨h1, h2, fvCells ((HB7.out.2.block n7 (Array.getElem?_eq_some_iff.1 HW.out).1).trans HW.out)⟩
  refine Till.run (i := 9) 26 (.slice (some ⟨W.drew.heap.size, 0, none⟩) 1 1) (W.drew.alloc (fvO x)) rfl rfl (by kernel_rfl) (by rfl) (by go_simp) hF7 ?_
  simp only [Act.put, List.setIfInBounds_toArray, List.set_cons_zero, List.set_cons_succ]
  have HO : Hid (OwR fvC 2 63 (W.drew.alloc (fvO x)) ao cap (F l) ∧ RdR fvC (W.drew.alloc (fvO x)) (some ⟨W.drew.heap.size, 0, none⟩) 1 [x] ∧ Fb (W.drew.alloc (fvO x)) (Grow w1 (fun k => V k ∧ k < w.heap.size)) x ∧ (F l).length = n) := by
    have h1 := HA.out.1.row l hl
    rw [HA.out.2.1, HA.out.2.2.1] at h1
    exact ⟨h1.below HB7.out.1, RdR.built fvE W.drew 63 _ [x] rfl 1 rfl (by decide), (HA.out.2.2.2.2.2.2.1.mono fun _ _ h => .inl h).below HB7.out.1, HA.out.2.2.2.1⟩
  generalize W.drew.alloc (fvO x) = W7 at *
  refine till_append_R fvE (i := 10) (n := n) (m := 1) (L := F l) (M := [x]) 27 (.tmp 24) (.tmp 26) 56 rfl rfl (by kernel_rfl) (by rfl) rfl 63 _ 32 Try.underlying56 info63 rfl rfl rfl HO.out.1 HO.out.2.1 HO.out.2.2.2 rfl (by omega) (by unfold maxLen; omega) ?_
  intro k2 c2 W8 ho8 hg8 hl8
  have HX : Hid (OwR fvC 2 63 W8 k2 c2 (F l ++ [x]) ∧ W7.grownBy W8 (ao.map (·.block)) ∧ (k2 = ao ∨ k2 = some ⟨W7.heap.size, 0, none⟩)) := ⟨ho8, hg8, hl8⟩
  clear ho8 hg8 hl8
  have HZ : Hid (Ned w (W8.setCell ⟨g, l, none⟩ (.slice k2 (n + 1) c2)) g V (lateT T l k)) := by
    have hX := HX.out
    rw [← HA.out.2.1] at hX
    have hap := HA.out.1.appended hl HB7.out.1 hX.2.1 HO.out.2.2.1 hX.1 hX.2.2 (by rw [HA.out.2.2.2.1]; exact hn200)
    rw [HA.out.2.2.2.1] at hap
    have hsz := HA.out.2.2.2.2.2.2.2.2.2.1
    refine ⟨⟨_, _, _, hap.1.mono ?_, ?_⟩, ?_⟩
    · rintro k _ (hv | hv)
      · exact .inl hv.1
      · exact .inr (by omega)
    · intro j hj
      unfold lateT
      have hT := HA.out.2.2.2.2.1
      by_cases e : j = l
      · subst e
        rw [upd_same, upd_same, List.map_append, hT j hj, upd_same, itAt_of HA.out.2.2.2.2.2.2.2.2.1]
        rfl
      · rw [upd_other _ _ e, upd_other _ _ e, hT j hj, upd_other _ _ e]
    · exact (HA.out.2.2.2.2.2.2.2.1.mono fun k hv => hv.1).trans (hap.2.mono fun k hv => .inl hv.1)
  have hF8 : W8.cell? ⟨g, l, none⟩ = some (.slice ao n cap) ∧ W8.frozen? ⟨g, l, none⟩ = false ∧ W8.cell? ⟨n7, 0, none⟩ = some (.slice x.ao x.n x.cap) ∧ W8.cell? ⟨n7, 1, none⟩ = some (.bool x.sp) := by
    have hne : ∀ b, b < w1.heap.size ∨ b = n7 → (∀ a, ao = some a → a.block ≠ b) → W8.heap[b]? = W7.heap[b]? := by
      intro b hb hne
      refine HX.out.2.1.block b ?_ ?_
      · rcases hb with hb | rfl
        · exact Nat.lt_of_lt_of_le hb HB7.out.1.size
        · exact Nat.lt_of_lt_of_le (Array.getElem?_eq_some_iff.1 HW.out).1 HB7.out.2.size
      · intro e
        cases hao : ao with
        | none => rw [hao] at e; cases e
        | some a => rw [hao] at e; exact hne a hao (by simpa using e.symm)
    have e1 := hne g (.inl HA.out.1.lt) fun a ha => HA.out.1.ne hl (HA.out.2.1.trans ha)
    have e2 := hne n7 (.inr rfl) fun a ha e => by
      have h1 := ((HA.out.1.row l hl).lt a (HA.out.2.1.trans ha)).1
      have := HA.out.2.2.2.2.2.2.2.2.2.2
      omega
    exact ⟨(World.cell?_of_block (w := W7) (w' := W8) (a := ⟨g, l, none⟩) e1).trans hF7.1, (World.frozen?_of_block (w := W7) (a := ⟨g, l, none⟩) e1).trans hF7.2.1, (World.cell?_of_block (w := W7) (w' := W8) (a := ⟨n7, 0, none⟩) e2).trans hF7.2.2.1, (World.cell?_of_block (w := W7) (w' := W8) (a := ⟨n7, 1, none⟩) e2).trans hF7.2.2.2⟩
  refine ⟨hF8, ?_⟩
  simp only [Act.put, List.setIfInBounds_toArray, List.set_cons_zero, List.set_cons_succ]
  refine Till.run (i := 13) 30 (.pointer (some ⟨g, l, none⟩)) W8 rfl rfl (by kernel_rfl) (by rfl) (by go_simp) hF8 ?_
  simp only [Act.put, List.setIfInBounds_toArray, List.set_cons_zero, List.set_cons_succ]
  obtain ⟨f1, f2, f3, f4⟩ := hF8
  refine Till.last (W8.setCell ⟨g, l, none⟩ (.slice k2 (n + 1) c2)) rfl rfl (by kernel_rfl) (by decide) (by rfl) (by go_simp) ?_
  refine Till.done (by kernel_rfl) ?_ _
  clear f1 f2 f3 f4 hF hF7
  generalize W8.setCell ⟨g, l, none⟩ (.slice k2 (n + 1) c2) = W9 at *
  go_wp2
  go_ret
  exact ⟨rfl, HZ.out⟩

end Go.Proofs.Ytfllkhimlambhaa
