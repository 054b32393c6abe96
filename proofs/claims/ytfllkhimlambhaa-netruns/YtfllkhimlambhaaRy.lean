/- The document's Spoil, walked. -/
import Derived.Test.YtfllkhimlambhaaRx
namespace Go.Proofs.Ytfllkhimlambhaa
open Go.RowKit
set_option linter.unusedVariables false
set_option maxRecDepth 8000

set_option maxHeartbeats 1600000 in
theorem rspoil_stay {w : World} {U : Nat → Prop} {R : Nat → Rw} {F : Nat → List Fv} (H : Rn w U R F) (l : Nat) (hl : l < 8) (k : Nat) (hk : k < (F l).length) (y : It) (hy : ((F l).map Fv.it)[k]? = some y) (hsz : ∀ x ∈ F l, x.n ≤ 140737488351232) (p : Int) (m : Nat) (hm : m < 65536) (hp : -9223372036854775808 ≤ p) (hp2 : p ≤ 9223372036854775807) (hst : y.2 = true ∨ brI y p m = y.1) : Calls Try.prog 21 #[rnV R, .int .i64 (l : Int), .int .i64 (k : Int), .int .i64 p, .int .u16 (m : Int)] w fun e w' => e = .returned (.tuple #[rnV R, .bool false]) ∧ Below w.heap.size w w' := by
  have HN : Hid (((F l).map Fv.it)[k]? = some y ∧ (∀ x ∈ F l, x.n ≤ 140737488351232) ∧ m < 65536 ∧ (-9223372036854775808 ≤ p ∧ p ≤ 9223372036854775807) ∧ (y.2 = true ∨ brI y p m = y.1)) := ⟨hy, hsz, hm, ⟨hp, hp2⟩, hst⟩
  clear hy hsz hm hp hp2 hst
  obtain ⟨hb, hq3, hq6⟩ := two_al w (rnO R) (rnO r0)
  have HW : Hid (Below w.heap.size w ((w.alloc (rnO R)).alloc (rnO r0)) ∧ Bx ((w.alloc (rnO R)).alloc (rnO r0)) w.heap.size R ∧ Bx ((w.alloc (rnO R)).alloc (rnO r0)) (w.heap.size + 1) r0) := ⟨hb, Bx.of hq3, Bx.of hq6⟩
  clear hb hq3 hq6
  have HH : Hid (Rn w U R F ∧ k < (F l).length) := ⟨H, hk⟩
  clear H hk
  go_enter Try.func21, Try.ntmps21
  go_upto_region 1 with fail
  show Code.wp _ _ _ _ ((w.alloc (rnO R)).alloc (rnO r0))
  obtain ⟨q3, hq3⟩ : ∃ q, w.heap.size = q := ⟨_, rfl⟩
  obtain ⟨q6, hq6⟩ : ∃ q, w.heap.size + 1 = q := ⟨_, rfl⟩
  rw [hq6, hq3]
  have HW2 : Hid (Below w.heap.size w ((w.alloc (rnO R)).alloc (rnO r0)) ∧ Bx ((w.alloc (rnO R)).alloc (rnO r0)) q3 R ∧ Bx ((w.alloc (rnO R)).alloc (rnO r0)) q6 r0 ∧ w.heap.size = q3 ∧ w.heap.size + 1 = q6) := by rw [← hq3, ← hq6]; exact ⟨HW.out.1, HW.out.2.1, HW.out.2.2, rfl, rfl⟩
  clear HW hq3 hq6
  generalize (w.alloc (rnO R)).alloc (rnO r0) = W at *
  obtain ⟨b0, b1, b2, b3, b4, b5, b6, b7⟩ := HW2.out.2.1.all
  have HA : Hid (Calls Try.prog 28 #[rnV R, .int .i64 (l : Int), .int .i64 (k : Int)] W fun e w' => ∃ x, (F l)[k]? = some x ∧ e = .returned (.tuple #[.agg #[.slice x.ao x.n x.cap, .bool x.sp], .bool true]) ∧ Hid (Below W.heap.size W w')) := at_yes (HH.out.1.below HW2.out.1) l hl k HH.out.2
  go_upto_region 2 with (first
    | (go_at_call 28; refine HA.out.mono ?_; rintro e W1 ⟨x, hx, rfl, HB1⟩)
    | fail)
  show Code.wp _ _ _ _ (W1.alloc (itO x))
  obtain ⟨q9, hq9⟩ : ∃ q, W1.heap.size = q := ⟨_, rfl⟩
  have HX : Hid ((F l)[k]? = some x) := hx
  have HB2 : Hid (Below W.heap.size W (W1.alloc (itO x)) ∧ (W1.alloc (itO x)).heap[q9]? = some (itO x) ∧ W.heap.size ≤ q9) := ⟨below_step HB1.out ((Below.refl _ _).alloc (Nat.le_refl _) _), hq9 ▸ heap_alloc_new W1 (itO x), hq9 ▸ HB1.out.size⟩
  rw [hq9]
  clear b0 b1 b2 b3 b4 b5 b6 b7 HA hx hq9
  generalize W1.alloc (itO x) = W2 at *
  have HRn : Hid (Rn W2 U R F) := (HH.out.1.below HW2.out.1).below HB2.out.1
  obtain ⟨e0, e1⟩ := itCells HB2.out.2.1
  have hxm : x ∈ F l := List.mem_of_getElem? HX.out
  have HY : Hid (x.it = y) := by
    have h1 := HN.out.1
    rw [List.getElem?_map, HX.out] at h1
    exact Option.some.inj h1
  have HFx : Hid (Fb W2 U x ∧ x.n ≤ 140737488351232) := ⟨HRn.out.by' l hl x hxm, HN.out.2.1 x hxm⟩
  clear hxm
  have HQ : Hid (∀ W3, Below W2.heap.size W2 W3 → (Bx W3 q3 R ∧ Bx W3 q6 r0 ∧ W3.heap[q9]? = some (itO x)) ∧ Hid (Bx (st8 W3 q6 R) q6 R ∧ Below w.heap.size w (st8 W3 q6 R))) := by
    intro W3 h3
    have k6 := (HW2.out.2.2.1.below HB2.out.1).below h3
    exact ⟨⟨(HW2.out.2.1.below HB2.out.1).below h3, k6, (h3.block q9 (Array.getElem?_eq_some_iff.1 HB2.out.2.1).1).trans HB2.out.2.1⟩, (st8_facts R k6).1, st8_below R k6 ((HW2.out.1.trans (HB2.out.1.mono HW2.out.1.size)).trans (h3.mono (Nat.le_trans HW2.out.1.size HB2.out.1.size))) (by have := HW2.out; omega)⟩
  by_cases hsp : x.sp = true
  · obtain ⟨⟨k3, k6, -⟩, HZ⟩ := HQ.out W2 (Below.refl _ _)
    obtain ⟨b0, b1, b2, b3, b4, b5, b6, b7⟩ := k3.all
    obtain ⟨d0, d1, d2, d3, d4, d5, d6, d7⟩ := k6.all
    have f6 := k6.fz
    rw [hsp] at e1
    clear k3 k6 HQ hsp
    go_wp2
    unfold st8 at HZ
    generalize (((((((W2.setCell ⟨q6, 0, none⟩ (.slice (R 0).ao (R 0).n (R 0).cap)).setCell ⟨q6, 1, none⟩ (.slice (R 1).ao (R 1).n (R 1).cap)).setCell ⟨q6, 2, none⟩ (.slice (R 2).ao (R 2).n (R 2).cap)).setCell ⟨q6, 3, none⟩ (.slice (R 3).ao (R 3).n (R 3).cap)).setCell ⟨q6, 4, none⟩ (.slice (R 4).ao (R 4).n (R 4).cap)).setCell ⟨q6, 5, none⟩ (.slice (R 5).ao (R 5).n (R 5).cap)).setCell ⟨q6, 6, none⟩ (.slice (R 6).ao (R 6).n (R 6).cap)).setCell ⟨q6, 7, none⟩ (.slice (R 7).ao (R 7).n (R 7).cap) = W4 at *
    obtain ⟨u0, u1, u2, u3, u4, u5, u6, u7⟩ := HZ.out.1.all
    refine bodyPost_ret (by simp [results, Try.results21, go_sem, u0, u1, u2, u3, u4, u5, u6, u7]; try rfl) rfl ?_
    exact ⟨rfl, HZ.out.2⟩
  · have hsp' : x.sp = false := by simpa using hsp
    rw [hsp'] at e1
    have HE : Hid (brN x.bs p m (L16 m) = x.bs) := by
      rcases HN.out.2.2.2.2 with h | h
      · rw [← HY.out] at h
        exact absurd h hsp
      · rw [← HY.out] at h
        exact h
    have HC : Hid (Calls Try.prog 31 #[.slice x.ao x.n x.cap, .int .i64 p, .int .u16 (m : Int)] W2 fun e w' => ∃ ao' cap', e = .returned (.slice ao' x.n cap') ∧ Hid (Own8 w' W2.heap.size ao' x.n cap' x.bs ∧ Below W2.heap.size W2 w')) := refBurst_to x.ao x.n x.cap x.bs x.bs p m W2 HFx.out.1.rd HE.out (by have := HFx.out.2; omega) HN.out.2.2.1 HN.out.2.2.2.1.1 HN.out.2.2.2.1.2
    have HST : Hid (∀ W3 ao' cap', Own8 W3 W2.heap.size ao' x.n cap' x.bs ∧ Below W2.heap.size W2 W3 → (convert 33 9 (.slice ao' x.n cap')).run Try.prog W3 = .ok (.string (strOfNums (ci x.bs))) W3 ∧ (convert 33 9 (.slice x.ao x.n x.cap)).run Try.prog W3 = .ok (.string (strOfNums (ci x.bs))) W3) := fun W3 ao' cap' h => ⟨h.1.rd.str, (HFx.out.1.rd.below h.2).str⟩
    clear hsp hsp'
    go_wp2_with (go_at_call 31; refine HC.out.mono ?_; rintro e W3 ⟨a7, c7, rfl, HB3⟩; obtain ⟨hs1, hs2⟩ := HST.out W3 a7 c7 HB3.out; obtain ⟨⟨k3, k6, k9⟩, HZ⟩ := HQ.out W3 HB3.out.2; obtain ⟨b0, b1, b2, b3, b4, b5, b6, b7⟩ := k3.all; obtain ⟨d0, d1, d2, d3, d4, d5, d6, d7⟩ := k6.all; have f6 := k6.fz; obtain ⟨g0, g1⟩ := itCells k9; clear k3 k6 k9 HQ HST)
    unfold st8 at HZ
    generalize (((((((W3.setCell ⟨q6, 0, none⟩ (.slice (R 0).ao (R 0).n (R 0).cap)).setCell ⟨q6, 1, none⟩ (.slice (R 1).ao (R 1).n (R 1).cap)).setCell ⟨q6, 2, none⟩ (.slice (R 2).ao (R 2).n (R 2).cap)).setCell ⟨q6, 3, none⟩ (.slice (R 3).ao (R 3).n (R 3).cap)).setCell ⟨q6, 4, none⟩ (.slice (R 4).ao (R 4).n (R 4).cap)).setCell ⟨q6, 5, none⟩ (.slice (R 5).ao (R 5).n (R 5).cap)).setCell ⟨q6, 6, none⟩ (.slice (R 6).ao (R 6).n (R 6).cap)).setCell ⟨q6, 7, none⟩ (.slice (R 7).ao (R 7).n (R 7).cap) = W4 at *
    obtain ⟨u0, u1, u2, u3, u4, u5, u6, u7⟩ := HZ.out.1.all
    refine bodyPost_ret (by simp [results, Try.results21, go_sem, u0, u1, u2, u3, u4, u5, u6, u7]; try rfl) rfl ?_
    exact ⟨rfl, HZ.out.2⟩

/-- What the document's Spoil answers where bits are turned. -/
def RSp (w w' : World) (U : Nat → Prop) (R : Nat → Rw) (F : Nat → List Fv) (l k : Nat) (xs : List Nat) (e : Ending) : Prop := ∃ r' x', e = .returned (.tuple #[rnV (upd R l r'), .bool true]) ∧ x'.it = (xs, true) ∧ Rn w' (Grow w U) (upd R l r') (upd F l ((F l).set k x')) ∧ Below w.heap.size w w'

set_option maxHeartbeats 3200000 in
theorem rspoil_turn {w : World} {U : Nat → Prop} {R : Nat → Rw} {F : Nat → List Fv} (H : Rn w U R F) (l : Nat) (hl : l < 8) (k : Nat) (hk : k < (F l).length) (y : It) (hy : ((F l).map Fv.it)[k]? = some y) (hsz : ∀ x ∈ F l, x.n ≤ 140737488351232) (p : Int) (m : Nat) (hm : m < 65536) (hp : -9223372036854775808 ≤ p) (hp2 : p ≤ 9223372036854775807) (h2 : y.2 = false) (xs : List Nat) (hxs : brI y p m = xs) (hne : ¬ xs = y.1) : Calls Try.prog 21 #[rnV R, .int .i64 (l : Int), .int .i64 (k : Int), .int .i64 p, .int .u16 (m : Int)] w fun e w' => RSp w w' U R F l k xs e := by
  have HN : Hid (((F l).map Fv.it)[k]? = some y ∧ (∀ x ∈ F l, x.n ≤ 140737488351232) ∧ m < 65536 ∧ (-9223372036854775808 ≤ p ∧ p ≤ 9223372036854775807) ∧ y.2 = false ∧ brI y p m = xs ∧ ¬ xs = y.1) := ⟨hy, hsz, hm, ⟨hp, hp2⟩, h2, hxs, hne⟩
  clear hy hsz hm hp hp2 h2 hxs hne
  obtain ⟨hb, hq3, hq6⟩ := two_al w (rnO R) (rnO r0)
  have HW : Hid (Below w.heap.size w ((w.alloc (rnO R)).alloc (rnO r0)) ∧ Bx ((w.alloc (rnO R)).alloc (rnO r0)) w.heap.size R ∧ Bx ((w.alloc (rnO R)).alloc (rnO r0)) (w.heap.size + 1) r0) := ⟨hb, Bx.of hq3, Bx.of hq6⟩
  clear hb hq3 hq6
  have HH : Hid (Rn w U R F ∧ k < (F l).length) := ⟨H, hk⟩
  clear H hk
  go_enter Try.func21, Try.ntmps21
  go_upto_region 1 with fail
  show Code.wp _ _ _ _ ((w.alloc (rnO R)).alloc (rnO r0))
  obtain ⟨q3, hq3⟩ : ∃ q, w.heap.size = q := ⟨_, rfl⟩
  obtain ⟨q6, hq6⟩ : ∃ q, w.heap.size + 1 = q := ⟨_, rfl⟩
  rw [hq6, hq3]
  have HW2 : Hid (Below w.heap.size w ((w.alloc (rnO R)).alloc (rnO r0)) ∧ Bx ((w.alloc (rnO R)).alloc (rnO r0)) q3 R ∧ Bx ((w.alloc (rnO R)).alloc (rnO r0)) q6 r0 ∧ w.heap.size = q3 ∧ w.heap.size + 1 = q6) := by rw [← hq3, ← hq6]; exact ⟨HW.out.1, HW.out.2.1, HW.out.2.2, rfl, rfl⟩
  clear HW hq3 hq6
  generalize (w.alloc (rnO R)).alloc (rnO r0) = W at *
  obtain ⟨b0, b1, b2, b3, b4, b5, b6, b7⟩ := HW2.out.2.1.all
  have HA : Hid (Calls Try.prog 28 #[rnV R, .int .i64 (l : Int), .int .i64 (k : Int)] W fun e w' => ∃ x, (F l)[k]? = some x ∧ e = .returned (.tuple #[.agg #[.slice x.ao x.n x.cap, .bool x.sp], .bool true]) ∧ Hid (Below W.heap.size W w')) := at_yes (HH.out.1.below HW2.out.1) l hl k HH.out.2
  go_upto_region 2 with (first
    | (go_at_call 28; refine HA.out.mono ?_; rintro e W1 ⟨x, hx, rfl, HB1⟩)
    | fail)
  show Code.wp _ _ _ _ (W1.alloc (itO x))
  obtain ⟨q9, hq9⟩ : ∃ q, W1.heap.size = q := ⟨_, rfl⟩
  have HX : Hid ((F l)[k]? = some x) := hx
  have HB2 : Hid (Below W.heap.size W (W1.alloc (itO x)) ∧ (W1.alloc (itO x)).heap[q9]? = some (itO x) ∧ W.heap.size ≤ q9) := ⟨below_step HB1.out ((Below.refl _ _).alloc (Nat.le_refl _) _), hq9 ▸ heap_alloc_new W1 (itO x), hq9 ▸ HB1.out.size⟩
  rw [hq9]
  clear b0 b1 b2 b3 b4 b5 b6 b7 HA hx hq9
  generalize W1.alloc (itO x) = W2 at *
  have HRn : Hid (Rn W2 U R F) := (HH.out.1.below HW2.out.1).below HB2.out.1
  obtain ⟨e0, e1⟩ := itCells HB2.out.2.1
  have hxm : x ∈ F l := List.mem_of_getElem? HX.out
  have hY : x.it = y := by
    have h1 := HN.out.1
    rw [List.getElem?_map, HX.out] at h1
    exact Option.some.inj h1
  have HFx : Hid (Fb W2 U x ∧ x.n ≤ 140737488351232) := ⟨HRn.out.by' l hl x hxm, HN.out.2.1 x hxm⟩
  have hsp : x.sp = false := by have h := HN.out.2.2.2.2.1; rw [← hY] at h; exact h
  have HE : Hid (brN x.bs p m (L16 m) = xs ∧ ¬ xs = x.bs) := by
    have h := HN.out.2.2.2.2.2
    rw [← hY] at h
    exact h
  rw [hsp] at e1
  clear hxm hY hsp
  have HC : Hid (Calls Try.prog 31 #[.slice x.ao x.n x.cap, .int .i64 p, .int .u16 (m : Int)] W2 fun e w' => ∃ ao' cap', e = .returned (.slice ao' x.n cap') ∧ Hid (Own8 w' W2.heap.size ao' x.n cap' xs ∧ Below W2.heap.size W2 w')) := refBurst_to x.ao x.n x.cap x.bs xs p m W2 HFx.out.1.rd HE.out.1 (by have := HFx.out.2; omega) HN.out.2.2.1 HN.out.2.2.2.1.1 HN.out.2.2.2.1.2
  obtain ⟨n, hn⟩ : ∃ n, (F l).length = n := ⟨_, rfl⟩
  obtain ⟨a0, ha0⟩ : ∃ a, (R l).ao = a := ⟨_, rfl⟩
  obtain ⟨c0, hc0⟩ : ∃ c, (R l).cap = c := ⟨_, rfl⟩
  have hnR : (R l).n = n := by rw [← hn]; exact (HRn.out.len l hl).symm
  have HK : Hid (k < n ∧ n ≤ 200 ∧ (F l).length = n) := ⟨hn ▸ HH.out.2, hn ▸ HRn.out.le l hl, hn⟩
  have HST : Hid (∀ W3 ao' cap', Own8 W3 W2.heap.size ao' x.n cap' xs ∧ Below W2.heap.size W2 W3 → ((convert 33 9 (.slice ao' x.n cap')).run Try.prog W3 = .ok (.string (strOfNums (ci xs))) W3 ∧ (convert 33 9 (.slice x.ao x.n x.cap)).run Try.prog W3 = .ok (.string (strOfNums (ci x.bs))) W3 ∧ ((strOfNums (ci xs)).toList == (strOfNums (ci x.bs)).toList) = false ∧ ¬ (strOfNums (ci xs)).toList = (strOfNums (ci x.bs)).toList ∧ W3.heap[q9]? = some (itO x) ∧ W3.cell? ⟨q3, l, none⟩ = some (.slice a0 n c0) ∧ (W3.alloc (.cells #[] 39)).cell? ⟨q3, l, none⟩ = some (.slice a0 n c0)) ∧ Hid (RdR fvC (W3.alloc (.cells #[] 39)) a0 c0 (F l))) := by
    intro W3 ao' cap' h
    have hse := str_ne h.1.byte HFx.out.1.rd.byte HE.out.2
    have hr := (HRn.out.row l hl).rd.below h.2
    rw [ha0, hc0] at hr
    have hc := ((HW2.out.2.1.below HB2.out.1).below h.2).c l hl
    rw [show sl (R l) = .slice (R l).ao (R l).n (R l).cap from rfl, ha0, hc0, hnR] at hc
    have hal : Below W3.heap.size W3 (W3.alloc (.cells #[] 39)) := (Below.refl _ _).alloc (Nat.le_refl _) _
    exact ⟨⟨h.1.rd.str, (HFx.out.1.rd.below h.2).str, hse, by simpa using hse, (h.2.block q9 (Array.getElem?_eq_some_iff.1 HB2.out.2.1).1).trans HB2.out.2.1, hc, (hal.cell (p := ⟨q3, l, none⟩) ((HW2.out.2.1.below HB2.out.1).below h.2).lt).trans hc⟩, hr.below hal⟩
  clear hn ha0 hc0 hnR
  have hlz : (l : Int) < 8 := by omega
  go_upto_region 8 with (first
    | (go_at_call 31; refine HC.out.mono ?_; rintro e W3 ⟨a7, c7, rfl, HB3⟩; obtain ⟨⟨hs1, hs2, hs3, hs4, h9, hq1, hq2⟩, HRD⟩ := HST.out W3 a7 c7 HB3.out; obtain ⟨g0, g1⟩ := itCells h9; clear h9 HST)
    | (at_builtin; refine wpList_append_N fvE _ n (n := 0) (m := n) (by omega) rfl (.tmp 42) (.tmp 45) 29 rfl 39 _ 32 Try.underlying29 info39 rfl (L := []) (M := F l) rfl rfl (OwR.fresh 39 W3) HRD.out rfl HK.out.2.2 (by have := HK.out; omega) (by unfold maxLen; have := HK.out; omega) ?_; intro a8 c8 W8 ho8 hg8 hl8; simp only [List.nil_append] at ho8; have HB8 : Hid (Below W3.heap.size W3 W8 ∧ OwR fvC 2 39 W8 a8 c8 (F l) ∧ ∀ a, a8 = some a → W3.heap.size ≤ a.block) := ⟨((Below.refl _ _).alloc (Nat.le_refl _) (.cells #[] 39)).trans (grown_bel hg8 (by simp) (fun a ha => by cases ha; exact Nat.le_refl _)), ho8, fun a ha => by rcases hl8 with e | e <;> (rw [e] at ha; cases ha; simp)⟩; clear ho8 hg8 hl8)
    | fail)
  clear hs1 hs2 hs3 hs4 hq1 hq2 g0 g1 HRD e0 e1
  have hkl : k < (F l).length := by have := HK.out; omega
  obtain ⟨rb, off8, hA8, hrl8, hcc8⟩ := HB8.out.2.1.rd.at fvE hkl
  have hA0 : a8 = some ⟨rb, 0, none⟩ := by
    rcases HB8.out.2.1 with ⟨h, _⟩ | ⟨g', cur, h, _⟩
    · rw [h] at hA8; cases hA8
    · rw [h] at hA8; cases hA8; exact h
  rw [hA0] at hA8
  cases hA8
  obtain ⟨z0, z1⟩ := fvIn _ _ _ _ hcc8
  simp only [Nat.zero_add] at z0 z1
  subst hA0
  have hfr : ∀ j, W8.frozen? ⟨rb, j, none⟩ = false := by
    intro j
    obtain ⟨_, cur, h2⟩ := HB8.out.2.1.lt _ rfl
    exact frozen_of_row _ _ _ _ _ h2
  have hkz : (k : Int) < (n : Int) := by have := HK.out; omega
  have HF9 : Hid (∀ W9, W9 = (W8.setCell ⟨rb, k * 2, none⟩ (.slice a7 x.n c7)).setCell ⟨rb, k * 2 + 1, none⟩ (.bool true) → (∃ v, W9.cell? ⟨q3, l, none⟩ = some v) ∧ W9.frozen? ⟨q3, l, none⟩ = false ∧ Bx (W9.setCell ⟨q3, l, none⟩ (.slice (some ⟨rb, 0, none⟩) n c8)) q3 (upd R l ⟨some ⟨rb, 0, none⟩, n, c8⟩) ∧ Bx (W9.setCell ⟨q3, l, none⟩ (.slice (some ⟨rb, 0, none⟩) n c8)) q6 r0 ∧ Hid (Bx (st8 (W9.setCell ⟨q3, l, none⟩ (.slice (some ⟨rb, 0, none⟩) n c8)) q6 (upd R l ⟨some ⟨rb, 0, none⟩, n, c8⟩)) q6 (upd R l ⟨some ⟨rb, 0, none⟩, n, c8⟩) ∧ RSp w (st8 (W9.setCell ⟨q3, l, none⟩ (.slice (some ⟨rb, 0, none⟩) n c8)) q6 (upd R l ⟨some ⟨rb, 0, none⟩, n, c8⟩)) U R F l k xs (.returned (.tuple #[rnV (upd R l ⟨some ⟨rb, 0, none⟩, n, c8⟩), .bool true])))) := by
    rintro W9 rfl
    have hxe : (F l)[k] = x := (List.getElem?_eq_some_iff.1 HX.out).2
    have hO1 := HB8.out.2.1.put fvE k hkl 0 (by decide) (.slice a7 x.n c7) ⟨a7, x.n, c7, xs, false⟩ (by
      rw [hxe]
      have hsp : x.sp = false := by
        have h1 := HN.out.1
        rw [List.getElem?_map, HX.out] at h1
        have h3 := HN.out.2.2.2.2.1
        rw [← Option.some.inj h1] at h3
        exact h3
      simp [fvC, hsp])
    have hO2 := hO1.put fvE k (by rw [List.length_set]; exact hkl) 1 (by decide) (.bool true) ⟨a7, x.n, c7, xs, true⟩ (by rw [List.getElem_set_self]; rfl)
    rw [List.set_set] at hO2
    simp only [Nat.add_zero] at hO2
    have hrb := HB8.out.2.2 _ rfl
    simp only at hrb
    have hs2 := HB2.out.1.size
    have hs3 := HB3.out.2.size
    have hsw := HW2.out.1.size
    have hbz : ∀ j, j ≠ rb → ((W8.setCell ⟨rb, k * 2, none⟩ (.slice a7 x.n c7)).setCell ⟨rb, k * 2 + 1, none⟩ (.bool true)).heap[j]? = W8.heap[j]? := by
      intro j hj
      rw [Below.heap_setCell _ _ _ _ (by simpa using hj), Below.heap_setCell _ _ _ _ (by simpa using hj)]
    have hb38 : Below W2.heap.size W2 W8 := HB3.out.2.trans (HB8.out.1.mono hs3)
    have hb39 : Below W2.heap.size W2 ((W8.setCell ⟨rb, k * 2, none⟩ (.slice a7 x.n c7)).setCell ⟨rb, k * 2 + 1, none⟩ (.bool true)) := (hb38.setCell (by simp only; omega) _).setCell (by simp only; omega) _
    have k3 := (HW2.out.2.1.below HB2.out.1).below hb39
    have k6 := (HW2.out.2.2.1.below HB2.out.1).below hb39
    have hbw : Below w.heap.size w ((W8.setCell ⟨rb, k * 2, none⟩ (.slice a7 x.n c7)).setCell ⟨rb, k * 2 + 1, none⟩ (.bool true)) := (HW2.out.1.trans (HB2.out.1.mono hsw)).trans (hb39.mono (Nat.le_trans hsw hs2))
    have hk5 : ∀ (V : Nat → Prop) (y : Fv), Fb W8 V y → Fb ((W8.setCell ⟨rb, k * 2, none⟩ (.slice a7 x.n c7)).setCell ⟨rb, k * 2 + 1, none⟩ (.bool true)) V y := by
      intro V y hy
      refine hy.keep (by simp) fun j cs _ hq5 => hbz j ?_
      rintro rfl
      obtain ⟨_, cur, h2⟩ := HB8.out.2.1.lt _ rfl
      simp only at h2
      rw [hq5] at h2
      cases h2
    have hfb : ∀ y ∈ (F l).set k ⟨a7, x.n, c7, xs, true⟩, Fb ((W8.setCell ⟨rb, k * 2, none⟩ (.slice a7 x.n c7)).setCell ⟨rb, k * 2 + 1, none⟩ (.bool true)) (Grow w U) y := by
      intro y hy
      rcases List.mem_or_eq_of_mem_set hy with hy | rfl
      · exact hk5 _ _ (((HRn.out.by' l hl y hy).mono (U := Grow w U) fun _ _ h => .inl h).below hb38)
      · exact hk5 _ _ ((Fb.own HB3.out.1 true (Grow w U) (fun _ h => .inr (by omega)) (by have := HFx.out.2; omega)).below HB8.out.1)
    obtain ⟨p1, p2, p3, p4, p5⟩ := fin_put k3 k6 (by have := HW2.out; omega) hl ⟨some ⟨rb, 0, none⟩, n, c8⟩ hO2 hfb
    have hb8 := st8_below (upd R l ⟨some ⟨rb, 0, none⟩, n, c8⟩) p2 (hbw.setCell (by have := HW2.out; simp only; omega) _) (by have := HW2.out; omega)
    exact ⟨⟨_, k3.c l hl⟩, k3.fz l, p1, p2, p3, ⟨some ⟨rb, 0, none⟩, n, c8⟩, ⟨a7, x.n, c7, xs, true⟩, rfl, rfl, HH.out.1.upd hb8 p4 (by rw [List.length_set]; exact HK.out.2.2) (by rw [List.length_set]; have := HK.out; omega) (fun _ h => .inl h) p5, hb8⟩
  clear hcc8 hrl8
  generalize (F l)[k] = xv at z0 z1
  clear hkl
  go_upto_region 9 with fail
  obtain ⟨W9, hW9⟩ : ∃ W, (W8.setCell ⟨rb, k * 2, none⟩ (.slice a7 x.n c7)).setCell ⟨rb, k * 2 + 1, none⟩ (.bool true) = W := ⟨_, rfl⟩
  obtain ⟨⟨v9, hv9⟩, hf9, k3, k6, HZ9⟩ := HF9.out W9 hW9.symm
  rw [hW9]
  clear hW9 HF9 z0 z1 hfr
  obtain ⟨y0, y1, y2, y3, y4, y5, y6, y7⟩ := k3.all
  obtain ⟨d0, d1, d2, d3, d4, d5, d6, d7⟩ := k6.all
  have f6 := k6.fz
  clear k3 k6
  have HZ := HZ9
  clear HZ9
  obtain ⟨R', hR'⟩ : ∃ R', upd R l ⟨some ⟨rb, 0, none⟩, n, c8⟩ = R' := ⟨_, rfl⟩
  rw [hR'] at HZ y0 y1 y2 y3 y4 y5 y6 y7
  go_upto_region 10 with fail
  generalize W9.setCell ⟨q3, l, none⟩ (.slice (some ⟨rb, 0, none⟩) n c8) = W10 at *
  clear hv9 hf9
  go_wp2
  unfold st8 at HZ
  generalize (((((((W10.setCell ⟨q6, 0, none⟩ (.slice (R' 0).ao (R' 0).n (R' 0).cap)).setCell ⟨q6, 1, none⟩ (.slice (R' 1).ao (R' 1).n (R' 1).cap)).setCell ⟨q6, 2, none⟩ (.slice (R' 2).ao (R' 2).n (R' 2).cap)).setCell ⟨q6, 3, none⟩ (.slice (R' 3).ao (R' 3).n (R' 3).cap)).setCell ⟨q6, 4, none⟩ (.slice (R' 4).ao (R' 4).n (R' 4).cap)).setCell ⟨q6, 5, none⟩ (.slice (R' 5).ao (R' 5).n (R' 5).cap)).setCell ⟨q6, 6, none⟩ (.slice (R' 6).ao (R' 6).n (R' 6).cap)).setCell ⟨q6, 7, none⟩ (.slice (R' 7).ao (R' 7).n (R' 7).cap) = W4 at *
  obtain ⟨u0, u1, u2, u3, u4, u5, u6, u7⟩ := HZ.out.1.all
  refine bodyPost_ret (by simp [results, Try.results21, go_sem, u0, u1, u2, u3, u4, u5, u6, u7]; try rfl) rfl ?_
  exact HZ.out.2

end Go.Proofs.Ytfllkhimlambhaa
