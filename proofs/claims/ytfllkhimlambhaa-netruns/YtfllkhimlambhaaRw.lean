/- The document's Double and Late, walked. -/
import Derived.Test.YtfllkhimlambhaaRv
namespace Go.Proofs.Ytfllkhimlambhaa
open Go.RowKit
set_option linter.unusedVariables false
set_option maxRecDepth 8000

theorem Rn.st8 {W : World} {U : Nat → Prop} {R R' Z : Nat → Rw} {F : Nat → List Fv} {q6 : Nat} (H : Rn W U R F) (h6 : Bx W q6 Z) : Rn (st8 W q6 R') U R F := by
  obtain ⟨s1, s2, s3, -⟩ := st8_facts R' h6
  refine ⟨fun l hl => (H.row l hl).keep fun a ha _ => ?_, H.len, fun l hl x hx => (H.by' l hl x hx).keep (by rw [s3]; exact Nat.le_refl _) fun k cs _ hc => s2 _ (bx_ne h6 hc (by decide)), H.le⟩
  obtain ⟨_, cur, hc⟩ := (H.row l hl).lt a ha
  exact s2 _ (bx_ne h6 hc (by decide))

/-- What the document's Put answers where there is room. -/
def RPt (w w' : World) (U : Nat → Prop) (R : Nat → Rw) (F : Nat → List Fv) (l : Nat) (L : List Fv) (y : It) (e : Ending) : Prop := ∃ r' x', e = .returned (.tuple #[rnV (upd R l r'), .bool true]) ∧ x'.it = y ∧ Rn w' (Grow w U) (upd R l r') (upd F l (L ++ [x'])) ∧ Below w.heap.size w w'

set_option maxHeartbeats 1600000 in
theorem rdouble_full {w : World} {U : Nat → Prop} {R : Nat → Rw} {F : Nat → List Fv} (H : Rn w U R F) (l : Nat) (hl : l < 8) (k : Nat) (hk : k < (F l).length) (h200 : ¬ (F l).length < 200) : Calls Try.prog 17 #[rnV R, .int .i64 (l : Int), .int .i64 (k : Int)] w fun e w' => e = .returned (.tuple #[rnV R, .bool false]) ∧ Below w.heap.size w w' := by
  have HN : Hid (putR R (l : Int) = false) := by
    unfold Hid putR
    rw [Int.toNat_natCast, decide_eq_false_iff_not]
    have := H.len l hl
    omega
  clear h200
  obtain ⟨hb, hq3, hq6⟩ := two_al w (rnO R) (rnO r0)
  have HW : Hid (Below w.heap.size w ((w.alloc (rnO R)).alloc (rnO r0)) ∧ Bx ((w.alloc (rnO R)).alloc (rnO r0)) w.heap.size R ∧ Bx ((w.alloc (rnO R)).alloc (rnO r0)) (w.heap.size + 1) r0) := ⟨hb, Bx.of hq3, Bx.of hq6⟩
  clear hb hq3 hq6
  have HH : Hid (Rn w U R F ∧ k < (F l).length) := ⟨H, hk⟩
  clear H hk
  go_enter Try.func17, Try.ntmps17
  go_upto_region 1 with fail
  show Code.wp _ _ _ _ ((w.alloc (rnO R)).alloc (rnO r0))
  obtain ⟨q3, hq3⟩ : ∃ q, w.heap.size = q := ⟨_, rfl⟩
  obtain ⟨q6, hq6⟩ : ∃ q, w.heap.size + 1 = q := ⟨_, rfl⟩
  rw [hq6, hq3]
  have HW2 : Hid (Below w.heap.size w ((w.alloc (rnO R)).alloc (rnO r0)) ∧ Bx ((w.alloc (rnO R)).alloc (rnO r0)) q3 R ∧ Bx ((w.alloc (rnO R)).alloc (rnO r0)) q6 r0 ∧ w.heap.size = q3 ∧ w.heap.size + 1 = q6) := by rw [← hq3, ← hq6]; exact ⟨HW.out.1, HW.out.2.1, HW.out.2.2, rfl, rfl⟩
  clear HW hq3 hq6
  generalize (w.alloc (rnO R)).alloc (rnO r0) = W at *
  obtain ⟨b0, b1, b2, b3, b4, b5, b6, b7⟩ := HW2.out.2.1.all
  have HA : Hid (Calls Try.prog 28 #[rnV R, .int .i64 (l : Int), .int .i64 (k : Int)] W fun e w' => ∃ x, (F l)[k]? = some x ∧ e = .returned (.tuple #[.agg #[.slice x.ao x.n x.cap, .bool x.sp], .bool true]) ∧ Hid (Below W.heap.size W w')) := at_yes (HH.out.1.below HW2.out.1) l hl k HH.out.2
  go_upto_region 2 with (first
    | (go_at_call 28; refine HA.out.mono ?_; rintro e W1 ⟨x, hx, rfl, HB1⟩)
    | fail)
  show Code.wp _ _ _ _ (W1.alloc (itO x))
  obtain ⟨q9, hq9⟩ : ∃ q, W1.heap.size = q := ⟨_, rfl⟩
  have HX : Hid ((F l)[k]? = some x) := hx
  have HB2 : Hid (Below W.heap.size W (W1.alloc (itO x)) ∧ (W1.alloc (itO x)).heap[q9]? = some (itO x) ∧ W.heap.size ≤ q9) := ⟨below_step HB1.out ((Below.refl _ _).alloc (Nat.le_refl _) _), hq9 ▸ heap_alloc_new W1 (itO x), hq9 ▸ HB1.out.size⟩
  rw [hq9]
  clear b0 b1 b2 b3 b4 b5 b6 b7 HA hx hq9
  generalize W1.alloc (itO x) = W2 at *
  have HRn : Hid (Rn W2 U R F) := (HH.out.1.below HW2.out.1).below HB2.out.1
  obtain ⟨e0, e1⟩ := itCells HB2.out.2.1
  have HP : Hid (Calls Try.prog 13 #[rnV R, .int .i64 (l : Int), .agg #[.slice x.ao x.n x.cap, .bool x.sp]] W2 fun e w' => e = .returned (.tuple #[rnV R, .bool false]) ∧ Hid (Below W2.heap.size W2 w')) := rput_no R (l : Int) x W2 HN.out
  obtain ⟨b0, b1, b2, b3, b4, b5, b6, b7⟩ := (HW2.out.2.1.below HB2.out.1).all
  have HQ : Hid (∀ W3, Below W2.heap.size W2 W3 → Bx W3 q6 r0 ∧ Hid (Bx (st8 W3 q6 R) q6 R ∧ Below w.heap.size w (st8 W3 q6 R))) := by
    intro W3 h3
    have k6 := (HW2.out.2.2.1.below HB2.out.1).below h3
    exact ⟨k6, (st8_facts R k6).1, st8_below R k6 ((HW2.out.1.trans (HB2.out.1.mono HW2.out.1.size)).trans (h3.mono (Nat.le_trans HW2.out.1.size HB2.out.1.size))) (by have := HW2.out; omega)⟩
  go_wp2_with (go_at_call 13; refine HP.out.mono ?_; rintro e W3 ⟨rfl, HB3⟩; obtain ⟨hk6, HZ⟩ := HQ.out W3 HB3.out; obtain ⟨d0, d1, d2, d3, d4, d5, d6, d7⟩ := hk6.all; have f6 := hk6.fz; clear hk6 HQ)
  unfold st8 at HZ
  generalize (((((((W3.setCell ⟨q6, 0, none⟩ (.slice (R 0).ao (R 0).n (R 0).cap)).setCell ⟨q6, 1, none⟩ (.slice (R 1).ao (R 1).n (R 1).cap)).setCell ⟨q6, 2, none⟩ (.slice (R 2).ao (R 2).n (R 2).cap)).setCell ⟨q6, 3, none⟩ (.slice (R 3).ao (R 3).n (R 3).cap)).setCell ⟨q6, 4, none⟩ (.slice (R 4).ao (R 4).n (R 4).cap)).setCell ⟨q6, 5, none⟩ (.slice (R 5).ao (R 5).n (R 5).cap)).setCell ⟨q6, 6, none⟩ (.slice (R 6).ao (R 6).n (R 6).cap)).setCell ⟨q6, 7, none⟩ (.slice (R 7).ao (R 7).n (R 7).cap) = W4 at *
  obtain ⟨u0, u1, u2, u3, u4, u5, u6, u7⟩ := HZ.out.1.all
  refine bodyPost_ret (by simp [results, Try.results17, go_sem, u0, u1, u2, u3, u4, u5, u6, u7]; try rfl) rfl ?_
  exact ⟨rfl, HZ.out.2⟩

set_option maxHeartbeats 1600000 in
theorem rdouble_yes {w : World} {U : Nat → Prop} {R : Nat → Rw} {F : Nat → List Fv} (H : Rn w U R F) (l : Nat) (hl : l < 8) (k : Nat) (hk : k < (F l).length) (h200 : (F l).length < 200) (y : It) (hy : ((F l).map Fv.it)[k]? = some y) (hsz : ∀ x ∈ F l, x.n ≤ 140737488351232) : Calls Try.prog 17 #[rnV R, .int .i64 (l : Int), .int .i64 (k : Int)] w fun e w' => RPt w w' U R F l (F l) y e := by
  have HN : Hid ((F l).length < 200 ∧ ((F l).map Fv.it)[k]? = some y ∧ ∀ x ∈ F l, x.n ≤ 140737488351232) := ⟨h200, hy, hsz⟩
  clear h200 hy hsz
  obtain ⟨hb, hq3, hq6⟩ := two_al w (rnO R) (rnO r0)
  have HW : Hid (Below w.heap.size w ((w.alloc (rnO R)).alloc (rnO r0)) ∧ Bx ((w.alloc (rnO R)).alloc (rnO r0)) w.heap.size R ∧ Bx ((w.alloc (rnO R)).alloc (rnO r0)) (w.heap.size + 1) r0) := ⟨hb, Bx.of hq3, Bx.of hq6⟩
  clear hb hq3 hq6
  have HH : Hid (Rn w U R F ∧ k < (F l).length) := ⟨H, hk⟩
  clear H hk
  go_enter Try.func17, Try.ntmps17
  go_upto_region 1 with fail
  show Code.wp _ _ _ _ ((w.alloc (rnO R)).alloc (rnO r0))
  obtain ⟨q3, hq3⟩ : ∃ q, w.heap.size = q := ⟨_, rfl⟩
  obtain ⟨q6, hq6⟩ : ∃ q, w.heap.size + 1 = q := ⟨_, rfl⟩
  rw [hq6, hq3]
  have HW2 : Hid (Below w.heap.size w ((w.alloc (rnO R)).alloc (rnO r0)) ∧ Bx ((w.alloc (rnO R)).alloc (rnO r0)) q3 R ∧ Bx ((w.alloc (rnO R)).alloc (rnO r0)) q6 r0 ∧ w.heap.size = q3 ∧ w.heap.size + 1 = q6) := by rw [← hq3, ← hq6]; exact ⟨HW.out.1, HW.out.2.1, HW.out.2.2, rfl, rfl⟩
  clear HW hq3 hq6
  generalize (w.alloc (rnO R)).alloc (rnO r0) = W at *
  obtain ⟨b0, b1, b2, b3, b4, b5, b6, b7⟩ := HW2.out.2.1.all
  have HA : Hid (Calls Try.prog 28 #[rnV R, .int .i64 (l : Int), .int .i64 (k : Int)] W fun e w' => ∃ x, (F l)[k]? = some x ∧ e = .returned (.tuple #[.agg #[.slice x.ao x.n x.cap, .bool x.sp], .bool true]) ∧ Hid (Below W.heap.size W w')) := at_yes (HH.out.1.below HW2.out.1) l hl k HH.out.2
  go_upto_region 2 with (first
    | (go_at_call 28; refine HA.out.mono ?_; rintro e W1 ⟨x, hx, rfl, HB1⟩)
    | fail)
  show Code.wp _ _ _ _ (W1.alloc (itO x))
  obtain ⟨q9, hq9⟩ : ∃ q, W1.heap.size = q := ⟨_, rfl⟩
  have HX : Hid ((F l)[k]? = some x) := hx
  have HB2 : Hid (Below W.heap.size W (W1.alloc (itO x)) ∧ (W1.alloc (itO x)).heap[q9]? = some (itO x) ∧ W.heap.size ≤ q9) := ⟨below_step HB1.out ((Below.refl _ _).alloc (Nat.le_refl _) _), hq9 ▸ heap_alloc_new W1 (itO x), hq9 ▸ HB1.out.size⟩
  rw [hq9]
  clear b0 b1 b2 b3 b4 b5 b6 b7 HA hx hq9
  generalize W1.alloc (itO x) = W2 at *
  have HRn : Hid (Rn W2 U R F) := (HH.out.1.below HW2.out.1).below HB2.out.1
  obtain ⟨e0, e1⟩ := itCells HB2.out.2.1
  have hxm : x ∈ F l := List.mem_of_getElem? HX.out
  have HY : Hid (x.it = y) := by
    have h1 := HN.out.2.1
    rw [List.getElem?_map, HX.out] at h1
    exact Option.some.inj h1
  have HP : Hid (Calls Try.prog 13 #[rnV R, .int .i64 (l : Int), .agg #[.slice x.ao x.n x.cap, .bool x.sp]] W2 fun e w' => ∃ r', e = .returned (.tuple #[rnV (upd R l r'), .bool true]) ∧ Hid (∃ x', x'.it = x.it ∧ Rn w' (Grow W2 U) (upd R l r') (upd F l (F l ++ [x'])) ∧ Below W2.heap.size W2 w')) := by
    refine (rput_yes HRn.out l hl _ rfl HN.out.1 x (HRn.out.by' l hl x hxm).rd (HN.out.2.2 x hxm)).mono ?_
    rintro e w' ⟨r', x', h1, h2, h3, h4⟩
    exact ⟨r', h1, x', h2, h3, h4⟩
  obtain ⟨b0, b1, b2, b3, b4, b5, b6, b7⟩ := (HW2.out.2.1.below HB2.out.1).all
  clear hxm
  have HQ : Hid (∀ W3 r', (∃ x', x'.it = x.it ∧ Rn W3 (Grow W2 U) (upd R l r') (upd F l (F l ++ [x'])) ∧ Below W2.heap.size W2 W3) → Bx W3 q6 r0 ∧ Hid (Bx (st8 W3 q6 (upd R l r')) q6 (upd R l r') ∧ RPt w (st8 W3 q6 (upd R l r')) U R F l (F l) y (.returned (.tuple #[rnV (upd R l r'), .bool true])))) := by
    rintro W3 r' ⟨x', h1, h2, h3⟩
    have k6 := (HW2.out.2.2.1.below HB2.out.1).below h3
    have hs := Nat.le_trans HW2.out.1.size HB2.out.1.size
    have hb := st8_below (upd R l r') k6 ((HW2.out.1.trans (HB2.out.1.mono HW2.out.1.size)).trans (h3.mono hs)) (by have := HW2.out; omega)
    refine ⟨k6, (st8_facts (upd R l r') k6).1, r', x', rfl, h1.trans HY.out, (h2.st8 k6).mono ?_, hb⟩
    rintro k _ (hv | hv)
    · exact .inl hv
    · exact .inr (Nat.le_trans hs hv)
  go_wp2_with (go_at_call 13; refine HP.out.mono ?_; rintro e W3 ⟨r', rfl, HB3⟩; obtain ⟨hk6, HZ⟩ := HQ.out W3 r' HB3.out; obtain ⟨d0, d1, d2, d3, d4, d5, d6, d7⟩ := hk6.all; have f6 := hk6.fz; clear hk6 HQ; obtain ⟨R', hR'⟩ : ∃ R', upd R l r' = R' := ⟨_, rfl⟩; rw [hR'] at HZ)
  unfold st8 at HZ
  generalize (((((((W3.setCell ⟨q6, 0, none⟩ (.slice (R' 0).ao (R' 0).n (R' 0).cap)).setCell ⟨q6, 1, none⟩ (.slice (R' 1).ao (R' 1).n (R' 1).cap)).setCell ⟨q6, 2, none⟩ (.slice (R' 2).ao (R' 2).n (R' 2).cap)).setCell ⟨q6, 3, none⟩ (.slice (R' 3).ao (R' 3).n (R' 3).cap)).setCell ⟨q6, 4, none⟩ (.slice (R' 4).ao (R' 4).n (R' 4).cap)).setCell ⟨q6, 5, none⟩ (.slice (R' 5).ao (R' 5).n (R' 5).cap)).setCell ⟨q6, 6, none⟩ (.slice (R' 6).ao (R' 6).n (R' 6).cap)).setCell ⟨q6, 7, none⟩ (.slice (R' 7).ao (R' 7).n (R' 7).cap) = W4 at *
  obtain ⟨u0, u1, u2, u3, u4, u5, u6, u7⟩ := HZ.out.1.all
  refine bodyPost_ret (by simp [results, Try.results17, go_sem, u0, u1, u2, u3, u4, u5, u6, u7]; try rfl) rfl ?_
  exact HZ.out.2

end Go.Proofs.Ytfllkhimlambhaa
