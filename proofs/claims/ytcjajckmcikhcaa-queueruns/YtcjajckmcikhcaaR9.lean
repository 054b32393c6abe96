/- The document's Ahead, walked. -/
import Derived.Test.YtcjajckmcikhcaaRz
namespace Go.Proofs.Ytcjajckmcikhcaa
open Go.RowKit Go.Maps
set_option linter.unusedVariables false

theorem pair_new2 (w : World) (a1 : Option Addr) (n1 c1 : Nat) (a2 : Option Addr) (n2 c2 : Nat) (x : Wt) : P2 ((w.alloc (rqO a1 n1 c1 a2 n2 c2)).alloc (wtO x)) w.heap.size (.slice a1 n1 c1) (.slice a2 n2 c2) ∧ ((w.alloc (rqO a1 n1 c1 a2 n2 c2)).alloc (wtO x)).heap[w.heap.size + 1]? = some (wtO x) ∧ Below w.heap.size w ((w.alloc (rqO a1 n1 c1 a2 n2 c2)).alloc (wtO x)) := by
  refine ⟨⟨?_⟩, ?_, by go_grown⟩
  · rw [Below.heap_alloc _ _ _ (by simp)]
    exact heap_alloc_new w _
  · have := heap_alloc_new (w.alloc (rqO a1 n1 c1 a2 n2 c2)) (wtO x)
    simpa using this

theorem plN_here {L : List Wt} {c : Int} {k : Nat} (hk : k < L.length) (h : L[k].c = c) (hp : ∀ t (h : t < L.length), t < k → L[t].c ≠ c) : plN L c = k := by
  unfold plN
  rw [List.findIdx_eq hk]
  exact ⟨by simpa using h, fun j hj => by simpa using hp j (by omega) hj⟩
theorem ahead_here {L : List Wt} {x : Wt} {k : Nat} (hk : k < L.length) (h : L[k].c = x.c) (hp : ∀ t (h : t < L.length), t < k → L[t].c ≠ x.c) : ahead L x = ahL (L.take k) x := by
  unfold ahead
  rw [plN_here hk h hp, if_pos hk]
theorem ahead_none {L : List Wt} {x : Wt} (hp : ∀ t (h : t < L.length), L[t].c ≠ x.c) : ahead L x = ahL L x := by
  unfold ahead
  rw [if_neg]
  intro e
  have h1 := List.findIdx_getElem (w := e)
  exact hp _ e (by unfold plN; simpa using h1)
theorem ahL_le (L : List Wt) (x : Wt) (k : Nat) : (ahL (L.take k) x).length ≤ k := by
  unfold ahL
  rw [List.length_map]
  exact Nat.le_trans (List.length_filter_le _ _) (by rw [List.length_take]; omega)

set_option maxRecDepth 100000 in
set_option maxHeartbeats 3200000 in
theorem rahead_any (a1 : Option Addr) (n1 c1 : Nat) (a2 : Option Addr) (n2 c2 : Nat) (L : List Wt) (x : Wt) (w : World) (hL : RdR wtC w a1 c1 L) (hn : L.length = n1) (hl : n1 ≤ 1000) :
    Calls Try.prog 31 #[rqV a1 n1 c1 a2 n2 c2, wtV x] w fun e w' => ∃ a c, e = .returned (.slice a (ahead L x).length c) ∧ OwnI w' w.heap.size 3 .i64 a c (ahead L x) ∧ Below w.heap.size w w' := by
  have HL : Hid (RdR wtC w a1 c1 L ∧ L.length = n1) := ⟨hL, hn⟩
  have HW0 : Hid (P2 ((w.alloc (rqO a1 n1 c1 a2 n2 c2)).alloc (wtO x)) w.heap.size (.slice a1 n1 c1) (.slice a2 n2 c2) ∧ ((w.alloc (rqO a1 n1 c1 a2 n2 c2)).alloc (wtO x)).heap[w.heap.size + 1]? = some (wtO x) ∧ Below w.heap.size w ((w.alloc (rqO a1 n1 c1 a2 n2 c2)).alloc (wtO x))) := pair_new2 w a1 n1 c1 a2 n2 c2 x
  clear hL hn
  obtain ⟨xc, xp, xo, xw⟩ := x
  obtain ⟨x', hx'⟩ : ∃ x' : Wt, x' = ⟨xc, xp, xo, xw⟩ := ⟨_, rfl⟩
  have HX : Hid (x' = ⟨xc, xp, xo, xw⟩) := hx'
  clear hx'
  suffices hs : Calls Try.prog 31 #[rqV a1 n1 c1 a2 n2 c2, .agg #[.int .i64 xc, .int .i64 xp, .int .i64 xo, .bool xw]] w fun e w' => ∃ a c, e = .returned (.slice a (ahead L x').length c) ∧ OwnI w' w.heap.size 3 .i64 a c (ahead L x') ∧ Below w.heap.size w w' by
    rw [HX.out] at hs
    exact hs
  go_enter Try.func31, Try.ntmps31
  go_upto_region 1 with fail
  generalize (w.alloc (rqO a1 n1 c1 a2 n2 c2)).alloc (wtO ⟨xc, xp, xo, xw⟩) = W0 at *
  obtain ⟨g2, hg2⟩ : ∃ g, w.heap.size = g := ⟨_, rfl⟩
  obtain ⟨g3, hg3⟩ : ∃ g, w.heap.size + 1 = g := ⟨_, rfl⟩
  have HQ : Hid (P2 W0 g2 (.slice a1 n1 c1) (.slice a2 n2 c2) ∧ W0.heap[g3]? = some (wtO ⟨xc, xp, xo, xw⟩) ∧ Below w.heap.size w W0) := by
    obtain ⟨h1, h2, h4⟩ := HW0.out
    rw [hg3] at h2
    rw [hg2] at h1
    exact ⟨h1, h2, h4⟩
  rw [hg3, hg2]
  clear hg2 hg3 HW0
  have HN : Hid (∀ W : World, Below W0.heap.size W0 W → P2 W g2 (.slice a1 n1 c1) (.slice a2 n2 c2) ∧ W.heap[g3]? = some (wtO ⟨xc, xp, xo, xw⟩) ∧ Below w.heap.size w W) := fun W hW =>
    ⟨HQ.out.1.below hW, (hW.block _ (Array.getElem?_eq_some_iff.1 HQ.out.2.1).1).trans HQ.out.2.1, below_step HQ.out.2.2 hW⟩
  obtain ⟨x0, x1, x2, x3⟩ := wt_cells HQ.out.2.1 (Below.refl _ _)
  simp only at x0 x1 x2 x3
  have q0 := HQ.out.1.c0
  have q1 := HQ.out.1.c1
  have HI0 : Hid (OwnI (W0.alloc (.cells #[] 3)) W0.heap.size 3 .i64 (some ⟨W0.heap.size, 0, none⟩) 0 [] ∧ Below W0.heap.size W0 (W0.alloc (.cells #[] 3))) := ⟨OwnI.fresh W0 _ 3 .i64 (Nat.le_refl _), (Below.refl _ _).alloc (Nat.le_refl _) _⟩
  go_upto_region 2 with fail
  generalize W0.alloc (.cells #[] 3) = W3 at *
  have t0 := (HN.out _ HI0.out.2).1.c0
  go_wp2
  go_loopw [5, 12] (fun v i wr => ∃ (k m : Nat) (a : Option Addr) (c : Nat), k ≤ n1 ∧ i = .int .i64 k ∧ v = .slice a m c ∧ m ≤ k ∧ Hid (OwnI wr W0.heap.size 3 .i64 a c (ahL (L.take k) x') ∧ (ahL (L.take k) x').length = m ∧ Below W0.heap.size W0 wr ∧ ∀ t (h : t < L.length), t < k → L[t].c ≠ x'.c)) (fun _ i _ => n1 - (intOf i).toNat)
  case atStart => exact ⟨0, 0, _, _, Nat.zero_le _, rfl, rfl, Nat.le_refl _, by simpa [ahL] using HI0.out.1, rfl, HI0.out.2, fun _ _ h => absurd h (by omega)⟩
  case round =>
    clear HI0 t0
    obtain ⟨k, m, a, c, hk, rfl, rfl, hmk, HJ⟩ := hrel
    rename World => wr
    by_cases hlt : k < n1
    · have hkl : k < L.length := by have := HL.out.2; omega
      obtain ⟨bk, off, hao, -, hcc⟩ := (HL.out.1.below (HN.out _ HJ.out.2.2.1).2.2).at wtE hkl
      subst hao
      obtain ⟨z0, z1, z2, z3⟩ := wtIn _ _ _ _ hcc
      have HS : Hid ((ahL (L.take (k + 1)) x' = if wayB L[k] x' then ahL (L.take k) x' ++ [L[k].c] else ahL (L.take k) x') ∧ (L[k].c = x'.c → ahead L x' = ahL (L.take k) x') ∧ (L[k].c ≠ x'.c → ∀ t (h : t < L.length), t < k + 1 → L[t].c ≠ x'.c)) := by
        refine ⟨by rw [List.take_succ_eq_append_getElem hkl, ahL_snoc], fun h => ahead_here hkl h HJ.out.2.2.2, fun h t ht hk => ?_⟩
        by_cases e : t = k
        · subst e; exact h
        · exact HJ.out.2.2.2 t ht (by omega)
      clear hcc
      generalize L[k] = y at *
      obtain ⟨yc, yp, yo, yw⟩ := y
      simp only at z0 z1 z2 z3
      have e0' : decide ((k : Int) < n1) = true := by simp; omega
      have hbA : Below wr.heap.size wr (wr.alloc (wtO ⟨yc, yp, yo, yw⟩)) := (Below.refl _ _).alloc (Nat.le_refl _) _
      have HJA : Hid (OwnI (wr.alloc (wtO ⟨yc, yp, yo, yw⟩)) W0.heap.size 3 .i64 a c (ahL (L.take k) x') ∧ (ahL (L.take k) x').length = m ∧ Below W0.heap.size W0 (wr.alloc (wtO ⟨yc, yp, yo, yw⟩)) ∧ (wr.alloc (wtO ⟨yc, yp, yo, yw⟩)).heap[wr.heap.size]? = some (wtO ⟨yc, yp, yo, yw⟩)) := ⟨HJ.out.1.alloc _, HJ.out.2.1, below_step HJ.out.2.2.1 hbA, heap_alloc_new wr _⟩
      obtain ⟨p0, p1, p2, p3⟩ := wt_cells (HN.out _ HJA.out.2.2.1).2.1 (Below.refl _ _)
      simp only at p0 p1 p2 p3
      clear hbA HJ
      have HT : Hid (wayB ⟨yc, yp, yo, yw⟩ x' = (yp == xp && (yo == xo && (!(yc == xc) && (yw || xw)))) ∧ x'.c = xc) := by rw [HX.out]; exact ⟨rfl, rfl⟩
      cases h0 : (yc == xc)
      · have hne : yc ≠ xc := by simpa using h0
        have HS3 : Hid (∀ t (h : t < L.length), t < k + 1 → L[t].c ≠ x'.c) := HS.out.2.2 (by rw [HT.out.2]; exact hne)
        clear hne
        cases h1 : (yp == xp)
        · go_wp2
          go_roundw
          case rel =>
            have e1 : ahL (L.take (k + 1)) x' = ahL (L.take k) x' := by rw [HS.out.1, HT.out.1, h1]; rfl
            exact ⟨k + 1, m, a, c, by omega, by go_num, rfl, by omega, by rw [e1]; exact HJA.out.1, by rw [e1]; exact HJA.out.2.1, HJA.out.2.2.1, HS3.out⟩
          case measure => simp [intOf]; omega
        cases h2 : (yo == xo)
        · go_wp2
          go_roundw
          case rel =>
            have e1 : ahL (L.take (k + 1)) x' = ahL (L.take k) x' := by rw [HS.out.1, HT.out.1, h1, h2]; rfl
            exact ⟨k + 1, m, a, c, by omega, by go_num, rfl, by omega, by rw [e1]; exact HJA.out.1, by rw [e1]; exact HJA.out.2.1, HJA.out.2.2.1, HS3.out⟩
          case measure => simp [intOf]; omega
        cases hw : (yw || xw)
        · obtain ⟨rfl, rfl⟩ : yw = false ∧ xw = false := by simpa using hw
          go_wp2
          go_roundw
          case rel =>
            have e1 : ahL (L.take (k + 1)) x' = ahL (L.take k) x' := by rw [HS.out.1, HT.out.1, h1, h2, h0]; rfl
            exact ⟨k + 1, m, a, c, by omega, by go_num, rfl, by omega, by rw [e1]; exact HJA.out.1, by rw [e1]; exact HJA.out.2.1, HJA.out.2.2.1, HS3.out⟩
          case measure => simp [intOf]; omega
        · have HE1 : Hid (ahL (L.take (k + 1)) x' = ahL (L.take k) x' ++ [yc]) := by
            show _ = _
            rw [HS.out.1, HT.out.1, h1, h2, h0, hw]; rfl
          have HY : Hid (Below W0.heap.size W0 (wr.alloc (wtO ⟨yc, yp, yo, yw⟩))) := HJA.out.2.2.1
          have HRb : Hid (∀ q, RdI ((wr.alloc (wtO ⟨yc, yp, yo, q⟩)).alloc (.cells #[.int .i64 yc] 3)) .i64 (some ⟨wr.heap.size + 1, 0, none⟩) 1 [yc]) := fun q => by
            have hh := RdI.one (wr.alloc (wtO ⟨yc, yp, yo, q⟩)) 3 .i64 yc
            have e : (wr.alloc (wtO ⟨yc, yp, yo, q⟩)).heap.size = wr.heap.size + 1 := by simp
            rw [e] at hh
            exact hh
          cases yw
          · cases xw
            · cases hw
            · go_wp2_with (first
                | (at_builtin; refine wpList_append_rdI _ rfl _ _ 54 rfl W0.heap.size 3 .i64 _ 8 Try.underlying54 info3 rfl rfl rfl (HJA.out.1.alloc _) (HRb.out _) HJA.out.2.1 rfl (by omega) (by unfold maxLen; omega) (by have := HY.out.size; simp at this ⊢; omega) ?_; intro a3 c3 w3 ho3 hb3)
                | fail)
              go_roundw
              case rel => exact ⟨k + 1, m + 1, a3, c3, by omega, by go_num, rfl, by omega, by rw [HE1.out]; exact ho3, by rw [HE1.out, List.length_append, HJA.out.2.1]; rfl, (HY.out.alloc HY.out.size _).trans hb3, HS3.out⟩
              case measure => simp [intOf]; omega
          · go_wp2_with (first
              | (at_builtin; refine wpList_append_rdI _ rfl _ _ 54 rfl W0.heap.size 3 .i64 _ 8 Try.underlying54 info3 rfl rfl rfl (HJA.out.1.alloc _) (HRb.out _) HJA.out.2.1 rfl (by omega) (by unfold maxLen; omega) (by have := HY.out.size; simp at this ⊢; omega) ?_; intro a3 c3 w3 ho3 hb3)
              | fail)
            go_roundw
            case rel => exact ⟨k + 1, m + 1, a3, c3, by omega, by go_num, rfl, by omega, by rw [HE1.out]; exact ho3, by rw [HE1.out, List.length_append, HJA.out.2.1]; rfl, (HY.out.alloc HY.out.size _).trans hb3, HS3.out⟩
            case measure => simp [intOf]; omega
      · have HF : Hid (ahead L x' = ahL (L.take k) x') := HS.out.2.1 (by rw [HT.out.2]; simpa using h0)
        go_wp2
        go_ret
        refine ⟨a, c, by rw [HF.out, HJA.out.2.1]; rfl, ?_, (HN.out _ HJA.out.2.2.1).2.2⟩
        rw [HF.out]
        exact HJA.out.1.mono HQ.out.2.2.size
    · obtain rfl : k = n1 := by omega
      have e0' : decide ((k : Int) < k) = false := by simp
      have HF : Hid (ahead L x' = ahL (L.take k) x') := by
        show _ = _
        rw [List.take_of_length_le (by have := HL.out.2; omega)]
        exact ahead_none fun t ht => HJ.out.2.2.2 t ht (by have := HL.out.2; omega)
      go_wp2
      go_ret
      refine ⟨a, c, by rw [HF.out, HJ.out.2.1]; rfl, ?_, (HN.out _ HJ.out.2.2.1).2.2⟩
      rw [HF.out]
      exact HJ.out.1.mono HQ.out.2.2.size

end Go.Proofs.Ytcjajckmcikhcaa
