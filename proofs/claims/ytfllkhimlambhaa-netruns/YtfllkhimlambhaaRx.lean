/- The document's Late, walked. -/
import Derived.Test.YtfllkhimlambhaaRw
namespace Go.Proofs.Ytfllkhimlambhaa
open Go.RowKit
set_option linter.unusedVariables false
set_option maxRecDepth 8000

theorem Fb.st8 {W : World} {U : Nat → Prop} {y : Fv} (h : Fb W U y) {R' Z : Nat → Rw} {q6 : Nat} (h6 : Bx W q6 Z) : Fb (st8 W q6 R') U y := by
  obtain ⟨s1, s2, s3, -⟩ := st8_facts R' h6
  exact h.keep (by rw [s3]; exact Nat.le_refl _) fun k cs _ hc => s2 _ (bx_ne h6 hc (by decide))

def outF (L : List Fv) (k : Nat) : List Fv := L.take k ++ L.drop (k + 1)
theorem outF_len (L : List Fv) (k : Nat) (h : k < L.length) : (outF L k).length + 1 = L.length := by
  unfold outF
  rw [List.length_append, List.length_take, List.length_drop]
  omega

set_option maxHeartbeats 3200000 in
theorem rlate_yes {w : World} {U : Nat → Prop} {R : Nat → Rw} {F : Nat → List Fv} (H : Rn w U R F) (l : Nat) (hl : l < 8) (k : Nat) (hk : k < (F l).length) (y : It) (hy : ((F l).map Fv.it)[k]? = some y) (hsz : ∀ x ∈ F l, x.n ≤ 140737488351232) : Calls Try.prog 19 #[rnV R, .int .i64 (l : Int), .int .i64 (k : Int)] w fun e w' => RPt w w' U R F l (outF (F l) k) y e := by
  have HN : Hid (((F l).map Fv.it)[k]? = some y ∧ ∀ x ∈ F l, x.n ≤ 140737488351232) := ⟨hy, hsz⟩
  clear hy hsz
  obtain ⟨hb, hq3, hq6⟩ := two_al w (rnO R) (rnO r0)
  have HW : Hid (Below w.heap.size w ((w.alloc (rnO R)).alloc (rnO r0)) ∧ Bx ((w.alloc (rnO R)).alloc (rnO r0)) w.heap.size R ∧ Bx ((w.alloc (rnO R)).alloc (rnO r0)) (w.heap.size + 1) r0) := ⟨hb, Bx.of hq3, Bx.of hq6⟩
  clear hb hq3 hq6
  have HH : Hid (Rn w U R F ∧ k < (F l).length) := ⟨H, hk⟩
  clear H hk
  go_enter Try.func19, Try.ntmps19
  go_upto_region 1 with fail
  show Code.wp _ _ _ _ ((w.alloc (rnO R)).alloc (rnO r0))
  obtain ⟨q3, hq3⟩ : ∃ q, w.heap.size = q := ⟨_, rfl⟩
  obtain ⟨q6, hq6⟩ : ∃ q, w.heap.size + 1 = q := ⟨_, rfl⟩
  rw [hq6, hq3]
  have HW2 : Hid (Below w.heap.size w ((w.alloc (rnO R)).alloc (rnO r0)) ∧ Bx ((w.alloc (rnO R)).alloc (rnO r0)) q3 R ∧ Bx ((w.alloc (rnO R)).alloc (rnO r0)) q6 r0 ∧ w.heap.size = q3 ∧ w.heap.size + 1 = q6) := by rw [← hq3, ← hq6]; exact ⟨HW.out.1, HW.out.2.1, HW.out.2.2, rfl, rfl⟩
  clear HW hq3 hq6
  generalize (w.alloc (rnO R)).alloc (rnO r0) = W at *
  obtain ⟨b0, b1, b2, b3, b4, b5, b6, b7⟩ := HW2.out.2.1.all
  have HA : Hid (Calls Try.prog 28 #[rnV R, .int .i64 (l : Int), .int .i64 (k : Int)] W fun e w' => ∃ x, (F l)[k]? = some x ∧ e = .returned (.tuple #[.agg #[.slice x.ao x.n x.cap, .bool x.sp], .bool true]) ∧ Hid (Below W.heap.size W w')) := at_yes (HH.out.1.below HW2.out.1) l hl k HH.out.2
  go_upto_region 2 with (first
    | (go_at_call 28; refine HA.out.mono ?_; rintro e W1 ⟨x, hx, rfl, HB1⟩)
    | fail)
  show Code.wp _ _ _ _ (W1.alloc (itO x))
  obtain ⟨q9, hq9⟩ : ∃ q, W1.heap.size = q := ⟨_, rfl⟩
  have HX : Hid ((F l)[k]? = some x) := hx
  have HB2 : Hid (Below W.heap.size W (W1.alloc (itO x)) ∧ (W1.alloc (itO x)).heap[q9]? = some (itO x) ∧ W.heap.size ≤ q9) := ⟨below_step HB1.out ((Below.refl _ _).alloc (Nat.le_refl _) _), hq9 ▸ heap_alloc_new W1 (itO x), hq9 ▸ HB1.out.size⟩
  rw [hq9]
  clear b0 b1 b2 b3 b4 b5 b6 b7 HA hx hq9
  generalize W1.alloc (itO x) = W2 at *
  have HRn : Hid (Rn W2 U R F) := (HH.out.1.below HW2.out.1).below HB2.out.1
  obtain ⟨e0, e1⟩ := itCells HB2.out.2.1
  have hxm : x ∈ F l := List.mem_of_getElem? HX.out
  have HY : Hid (x.it = y) := by
    have h1 := HN.out.1
    rw [List.getElem?_map, HX.out] at h1
    exact Option.some.inj h1
  have HTk : Hid (Calls Try.prog 15 #[rnV R, .int .i64 (l : Int), .int .i64 (k : Int)] W2 fun e w' => ∃ r1 s1, e = .returned (.tuple #[rnV (upd R l r1), s1, .bool true]) ∧ Hid (Rn w' U (upd R l r1) (upd F l (outF (F l) k)) ∧ Below W2.heap.size W2 w')) := by
    refine (rtake_yes HRn.out l hl k HH.out.2).mono ?_
    rintro e w' ⟨x1, r1, h1, h2, h3, h4⟩
    exact ⟨r1, _, h2, h3, h4⟩
  have HFx : Hid (Fb W2 U x ∧ x.n ≤ 140737488351232) := ⟨HRn.out.by' l hl x hxm, HN.out.2 x hxm⟩
  have hk3 := HW2.out.2.1.below HB2.out.1
  obtain ⟨b0, b1, b2, b3, b4, b5, b6, b7⟩ := hk3.all
  clear hxm hk3
  have HS3 : Hid (∀ W3 r1, (Rn W3 U (upd R l r1) (upd F l (outF (F l) k)) ∧ Below W2.heap.size W2 W3) → Bx W3 q3 R ∧ Hid (Bx (st8 W3 q3 (upd R l r1)) q3 (upd R l r1) ∧ Bx (st8 W3 q3 (upd R l r1)) q6 r0 ∧ (st8 W3 q3 (upd R l r1)).heap[q9]? = some (itO x) ∧ Below w.heap.size w (st8 W3 q3 (upd R l r1)) ∧ Rn (st8 W3 q3 (upd R l r1)) U (upd R l r1) (upd F l (outF (F l) k)) ∧ Fb (st8 W3 q3 (upd R l r1)) U x)) := by
    rintro W3 r1 ⟨h1, h2⟩
    have k3 := (HW2.out.2.1.below HB2.out.1).below h2
    have k6 := (HW2.out.2.2.1.below HB2.out.1).below h2
    obtain ⟨g1, g2, -⟩ := st8_facts (upd R l r1) k3
    have h9 := (Array.getElem?_eq_some_iff.1 HB2.out.2.1).1
    have hs := Nat.le_trans HW2.out.1.size HB2.out.1.size
    have e9 : W3.heap[q9]? = some (itO x) := (h2.block q9 h9).trans HB2.out.2.1
    exact ⟨k3, g1, k6.keep (g2 q6 (by have := HW2.out; omega)), (g2 q9 (bx_ne k3 e9 (by decide))).trans e9, st8_below _ k3 ((HW2.out.1.trans (HB2.out.1.mono HW2.out.1.size)).trans (h2.mono hs)) (by have := HW2.out; omega), h1.st8 k3, (HFx.out.1.below h2).st8 k3⟩
  go_upto_region 5 with (first
    | (go_at_call 15; refine HTk.out.mono ?_; rintro e W3 ⟨r1, s1, rfl, HB3⟩; obtain ⟨hk3, HZ4⟩ := HS3.out W3 r1 HB3.out; obtain ⟨d0, d1, d2, d3, d4, d5, d6, d7⟩ := hk3.all; have f3 := hk3.fz; clear hk3 HS3 HTk b0 b1 b2 b3 b4 b5 b6 b7)
    | fail)
  clear d0 d1 d2 d3 d4 d5 d6 d7 f3 e0 e1
  unfold st8 at HZ4
  obtain ⟨R1, hR1⟩ : ∃ R1, upd R l r1 = R1 := ⟨_, rfl⟩
  rw [hR1] at HZ4 ⊢
  generalize (((((((W3.setCell ⟨q3, 0, none⟩ (.slice (R1 0).ao (R1 0).n (R1 0).cap)).setCell ⟨q3, 1, none⟩ (.slice (R1 1).ao (R1 1).n (R1 1).cap)).setCell ⟨q3, 2, none⟩ (.slice (R1 2).ao (R1 2).n (R1 2).cap)).setCell ⟨q3, 3, none⟩ (.slice (R1 3).ao (R1 3).n (R1 3).cap)).setCell ⟨q3, 4, none⟩ (.slice (R1 4).ao (R1 4).n (R1 4).cap)).setCell ⟨q3, 5, none⟩ (.slice (R1 5).ao (R1 5).n (R1 5).cap)).setCell ⟨q3, 6, none⟩ (.slice (R1 6).ao (R1 6).n (R1 6).cap)).setCell ⟨q3, 7, none⟩ (.slice (R1 7).ao (R1 7).n (R1 7).cap) = W4 at *
  obtain ⟨b0, b1, b2, b3, b4, b5, b6, b7⟩ := HZ4.out.1.all
  obtain ⟨e0, e1⟩ := itCells HZ4.out.2.2.1
  have HP : Hid (Calls Try.prog 13 #[rnV R1, .int .i64 (l : Int), .agg #[.slice x.ao x.n x.cap, .bool x.sp]] W4 fun e w' => ∃ r', e = .returned (.tuple #[rnV (upd R1 l r'), .bool true]) ∧ Hid (∃ x', x'.it = x.it ∧ Rn w' (Grow W4 U) (upd R1 l r') (upd F l (outF (F l) k ++ [x'])) ∧ Below W4.heap.size W4 w')) := by
    have hlen := outF_len (F l) k HH.out.2
    have hle := HH.out.1.le l hl
    refine (rput_yes HZ4.out.2.2.2.2.1 l hl _ rfl (by rw [upd_same]; omega) x HZ4.out.2.2.2.2.2.rd HFx.out.2).mono ?_
    rintro e w' ⟨r', x', h1, h2, h3, h4⟩
    rw [upd_same, upd_upd] at h3
    exact ⟨r', h1, x', h2, h3, h4⟩
  have HR1 : Hid (upd R l r1 = R1) := hR1
  clear hR1
  have HQ : Hid (∀ W5 r', (∃ x', x'.it = x.it ∧ Rn W5 (Grow W4 U) (upd R1 l r') (upd F l (outF (F l) k ++ [x'])) ∧ Below W4.heap.size W4 W5) → Bx W5 q6 r0 ∧ Hid (Bx (st8 W5 q6 (upd R1 l r')) q6 (upd R1 l r') ∧ RPt w (st8 W5 q6 (upd R1 l r')) U R F l (outF (F l) k) y (.returned (.tuple #[rnV (upd R1 l r'), .bool true])))) := by
    rintro W5 r' ⟨x', h1, h2, h3⟩
    have k6 := HZ4.out.2.1.below h3
    have hs := HZ4.out.2.2.2.1.size
    have hb := st8_below (upd R1 l r') k6 (HZ4.out.2.2.2.1.trans (h3.mono hs)) (by have := HW2.out; omega)
    have e2 : upd R1 l r' = upd R l r' := by rw [← HR1.out, upd_upd]
    refine ⟨k6, (st8_facts (upd R1 l r') k6).1, r', x', by rw [e2], h1.trans HY.out, ?_, hb⟩
    rw [← e2]
    refine (h2.st8 k6).mono ?_
    rintro k _ (hv | hv)
    · exact .inl hv
    · exact .inr (Nat.le_trans hs hv)
  go_wp2_with (go_at_call 13; refine HP.out.mono ?_; rintro e W5 ⟨r', rfl, HB5⟩; obtain ⟨hk6, HZ⟩ := HQ.out W5 r' HB5.out; obtain ⟨d0, d1, d2, d3, d4, d5, d6, d7⟩ := hk6.all; have f6 := hk6.fz; clear hk6 HQ; obtain ⟨R', hR'⟩ : ∃ R', upd R1 l r' = R' := ⟨_, rfl⟩; rw [hR'] at HZ)
  unfold st8 at HZ
  generalize (((((((W5.setCell ⟨q6, 0, none⟩ (.slice (R' 0).ao (R' 0).n (R' 0).cap)).setCell ⟨q6, 1, none⟩ (.slice (R' 1).ao (R' 1).n (R' 1).cap)).setCell ⟨q6, 2, none⟩ (.slice (R' 2).ao (R' 2).n (R' 2).cap)).setCell ⟨q6, 3, none⟩ (.slice (R' 3).ao (R' 3).n (R' 3).cap)).setCell ⟨q6, 4, none⟩ (.slice (R' 4).ao (R' 4).n (R' 4).cap)).setCell ⟨q6, 5, none⟩ (.slice (R' 5).ao (R' 5).n (R' 5).cap)).setCell ⟨q6, 6, none⟩ (.slice (R' 6).ao (R' 6).n (R' 6).cap)).setCell ⟨q6, 7, none⟩ (.slice (R' 7).ao (R' 7).n (R' 7).cap) = W4 at *
  obtain ⟨u0, u1, u2, u3, u4, u5, u6, u7⟩ := HZ.out.1.all
  refine bodyPost_ret (by simp [results, Try.results19, go_sem, u0, u1, u2, u3, u4, u5, u6, u7]; try rfl) rfl ?_
  exact HZ.out.2

end Go.Proofs.Ytfllkhimlambhaa
