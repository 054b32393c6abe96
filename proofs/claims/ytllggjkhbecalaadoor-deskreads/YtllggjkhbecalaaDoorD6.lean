/- Edges of package desk, walked. -/
import Derived.Test.YtllggjkhbecalaaDoorD5
namespace Go.Proofs.YtllggjkhbecalaaDoor
open Go.RowKit Go.Maps
set_option linter.unusedVariables false
set_option maxRecDepth 8000

def edC (e : Int × Int) : List Value := [.int .i64 e.1, .int .i64 e.2]
theorem edE : Enc edC 2 := ⟨fun _ => rfl, fun x u hu => by simp only [edC, List.mem_cons, List.not_mem_nil, or_false] at hu; rcases hu with rfl | rfl <;> rfl, by decide⟩
theorem RdR.rdE {w : World} {ao : Option Addr} {cap : Nat} {E : List (Int × Int)} (h : RdR edC w ao cap E) : Wai.RdE w ao cap E := by
  refine ⟨h.le, h.mx, h.nil, fun hx => ?_⟩
  obtain ⟨b, off, e, hl, hc⟩ := h.cells edE hx
  exact ⟨b, off, e, hl, fun t ht => ⟨hc t ht 0 _ rfl, hc t ht 1 _ rfl⟩⟩

/-- A row of edges, new since w0; the blocks of X are as they were at Wb. -/
structure De (X : Nat → Prop) (w0 Wb W : World) (a : Option Addr) (c : Nat) (E : List (Int × Int)) : Prop where
  bel : Below w0.heap.size w0 W
  keep : ∀ k, X k → W.heap[k]? = Wb.heap[k]?
  sz : Wb.heap.size ≤ W.heap.size
  own : OwR edC 2 64 W a c E
  new : ∀ y, a = some y → w0.heap.size ≤ y.block
  nx : ∀ y, a = some y → ¬ X y.block
  xl : ∀ k, X k → k < Wb.heap.size
section
variable {X X2 : Nat → Prop} {w0 Wb W W1 W2 W3 : World} {a a2 : Option Addr} {c c2 : Nat} {E E2 : List (Int × Int)}
theorem De.start (w0 W : World) (hb : Below w0.heap.size w0 W) (hX : ∀ k, X k → k < W.heap.size) : De X w0 W W none 0 [] :=
  ⟨hb, fun _ _ => rfl, Nat.le_refl _, OwR.nil _ _, (fun y h => by cases h), (fun y h => by cases h), hX⟩
theorem De.more (h : De X w0 Wb W a c E) (hb : Below W.heap.size W W2) : De X w0 Wb W2 a c E :=
  ⟨below_step h.bel hb, fun k hk => (hb.block k (Nat.lt_of_lt_of_le (h.xl k hk) h.sz)).trans (h.keep k hk), Nat.le_trans h.sz hb.size, h.own.below hb, h.new, h.nx, h.xl⟩
theorem De.app (h : De X w0 Wb W a c E) (hb : Below W.heap.size W W2) (hg : W2.grownBy W3 (a.map (·.block))) (ho : OwR edC 2 64 W3 a2 c2 E2) (hl : a2 = a ∨ a2 = some ⟨W2.heap.size, 0, none⟩) : De X w0 Wb W3 a2 c2 E2 := by
  have h1 := h.more hb
  have hs := h1.bel.size
  have hne : ∀ k, (X k ∨ k < w0.heap.size) → some k ≠ a.map (·.block) := by
    intro k hk e
    cases ha : a with
    | none => rw [ha] at e; cases e
    | some y =>
      rw [ha] at e
      cases e
      rcases hk with hk | hk
      · exact h.nx y ha hk
      · have h2 := h.new y ha
        have h3 : y.block < w0.heap.size := hk
        omega
  refine ⟨h1.bel.trans ⟨hg.os, hg.tape, hg.output, hg.size, fun k hk => hg.block k (by omega) (fun e => hne k (.inr hk) e)⟩, fun k hk => (hg.block k (Nat.lt_of_lt_of_le (h.xl k hk) h1.sz) (fun e => hne k (.inl hk) e)).trans (h1.keep k hk), Nat.le_trans h1.sz hg.size, ho, ?_, ?_, h.xl⟩
  · intro y hy
    rcases hl with rfl | rfl
    · exact h.new y hy
    · cases hy
      exact hs
  · intro y hy hx
    rcases hl with rfl | rfl
    · exact h.nx y hy hx
    · cases hy
      have h2 : W2.heap.size < Wb.heap.size := h.xl _ hx
      have := h1.sz
      omega
/-- More is kept from now on. -/
theorem De.rebase (h : De X w0 Wb W a c E) (hX : ∀ k, X2 k → k < W.heap.size ∧ ∀ y, a = some y → y.block ≠ k) : De X2 w0 W W a c E :=
  ⟨h.bel, fun _ _ => rfl, Nat.le_refl _, h.own, h.new, fun y hy hx => (hX _ hx).2 y hy rfl, fun k hk => (hX k hk).1⟩
/-- Back to what was kept before. -/
theorem De.back {a0 : Option Addr} {c0 : Nat} {E0 : List (Int × Int)} (h0 : De X w0 Wb W1 a0 c0 E0) (h : De X2 w0 W1 W a c E) (hs : ∀ k, X k → X2 k) : De X w0 Wb W a c E :=
  ⟨h.bel, fun k hk => (h.keep k (hs k hk)).trans (h0.keep k hk), Nat.le_trans h0.sz h.sz, h.own, h.new, fun y hy hx => h.nx y hy (hs _ hx), h0.xl⟩
end

theorem hol_mem (T : Nat → Nat) (c p o : Nat) (wr : Bool) : ∀ (k : Nat) (z : Int), z ∈ Tab.hol T c p o wr k → 0 ≤ z ∧ z < k
  | 0, z, h => by simp [Tab.hol] at h
  | k + 1, z, h => by
    unfold Tab.hol at h
    split at h
    · rcases List.mem_append.1 h with h | h
      · have := hol_mem T c p o wr k z h
        omega
      · simp at h
        omega
    · have := hol_mem T c p o wr k z h
      omega
theorem ho_mem {S : St} {x : Wt} {z : Int} (h : z ∈ hoS S x) : 0 ≤ z ∧ z < 4 := by
  unfold hoS Tab.hoI at h
  split at h
  · have := hol_mem _ _ _ _ _ 4 z h
    omega
  · cases h
theorem ky_ok {x : Wt} (hx : Rt x) {z : Int} (h : 0 ≤ z ∧ z < 4) : (kyOf z x).ok := by
  obtain ⟨⟨h1, h2⟩, h3, h4, h5, h6⟩ := hx
  refine ⟨?_, ?_, ?_⟩ <;> (unfold inR; simp only; omega)

theorem hEd_step (S : St) (x : Wt) (hs : List Int) {k : Nat} (hk : k < hs.length) : hEd S x (hs.drop k) = (if wasB S.K (kyOf hs[k] x) then [(x.c, hs[k])] else []) ++ hEd S x (hs.drop (k + 1)) := by
  rw [List.drop_eq_getElem_cons hk]
  generalize hs[k] = z
  generalize hs.drop (k + 1) = R
  unfold hEd
  cases h : wasB S.K (kyOf z x) <;> simp [h]
theorem aEd_step (x : Wt) (l : List Int) {k : Nat} (hk : k < l.length) : aEd x (l.drop k) = [(x.c, l[k])] ++ aEd x (l.drop (k + 1)) := by
  rw [List.drop_eq_getElem_cons hk]
  rfl
theorem edgL_step (S : St) (M : List Wt) {k : Nat} (hk : k < M.length) : edgL S (M.drop k) = hEd S M[k] (hoS S M[k]) ++ (aEd M[k] (ahead S.L M[k]) ++ edgL S (M.drop (k + 1))) := by
  rw [List.drop_eq_getElem_cons hk]
  rfl
theorem ah_le (L : List Wt) (x : Wt) : (ahead L x).length ≤ L.length := by
  unfold ahead ahL
  rw [List.length_map]
  refine Nat.le_trans (List.length_filter_le _ _) ?_
  split
  · rw [List.length_take]; omega
  · exact Nat.le_refl _

set_option maxHeartbeats 12800000 in
theorem edges_any {B : Nat} {V : Nat → Prop} {w : World} {d g q : Nat} {S : St} {n : Nat} (H : Dk B V w d g q S n) : Calls Tryd.prog 11 #[dp d] w fun e w' => ∃ a c, e = .returned (.slice a (edg S).length c) ∧ RdR edC w' a c (edg S) ∧ Below w.heap.size w w' := by
  have h1 := H.c1
  obtain ⟨m, hm⟩ : ∃ m, S.L.length = m := ⟨_, rfl⟩
  have hm4 : m ≤ 4 := hm ▸ H.len
  have HA : Hid (Calls Tryd.prog 23 #[qp q] w fun e w' => ∃ a c, e = .returned (.slice a m c) ∧ Hid (Below w.heap.size w w' ∧ RdR wtC w' a c S.L ∧ ∀ y, a = some y → y.block < w'.heap.size)) := by
    refine (allK H).mono ?_
    rintro e w' ⟨a, c, rfl, h2, h3, h4⟩
    exact ⟨a, c, by rw [hm], h4, h2.rd, fun y hy => (h2.lt y hy).1⟩
  have HD : Hid (Dk B V w d g q S n) := H
  have HB : Hid (S.L.length = m ∧ Nice S.L) := ⟨hm, H.nice⟩
  clear H hm
  go_enter Tryd.func11, Tryd.ntmps11
  go_wp2_with (first
    | (go_at_call 23; refine HA.out.mono ?_; rintro e W ⟨aw, cw, rfl, HW⟩)
    | fail)
  obtain ⟨X, hX⟩ : ∃ X : Nat → Prop, X = fun k => ∃ y, aw = some y ∧ k = y.block := ⟨_, rfl⟩
  have HXX : Hid ((∀ y, aw = some y → X y.block) ∧ ∀ k, X k → k < W.heap.size) := by
    subst hX
    exact ⟨fun y h => ⟨y, h, rfl⟩, by rintro k ⟨y, h, rfl⟩; exact HW.out.2.2 y h⟩
  clear hX h1 HA
  go_loopw [3, 18] (fun v i wr => ∃ (k : Nat) (a : Option Addr) (c l : Nat) (E : List (Int × Int)), k ≤ m ∧ i = .int .i64 k ∧ v = .slice a l c ∧ Hid (E.length = l ∧ l ≤ 8 * k ∧ De X w W wr a c E ∧ E ++ edgL S (S.L.drop k) = edg S)) (fun _ i _ => m - (intOf i).toNat)
  case atStart => exact ⟨0, none, 0, 0, [], Nat.zero_le _, rfl, rfl, ⟨rfl, Nat.le_refl _, De.start w W HW.out.1 HXX.out.2, rfl⟩⟩
  case round =>
    obtain ⟨k, a, c, l, E, hk, rfl, rfl, HI⟩ := hrel
    rename World => wr
    by_cases hlt : k < m
    · have hkl : k < S.L.length := by have := HB.out.1; omega
      have hrd : RdR wtC wr aw cw S.L := HW.out.2.1.keep HI.out.2.2.1.sz fun y hy _ => HI.out.2.2.1.keep y.block (HXX.out.1 y hy)
      obtain ⟨bk, off, rfl, -, hcc⟩ := hrd.at wtE hkl
      obtain ⟨z0, z1, z2, z3⟩ := wtIn _ _ _ _ hcc
      have HS : Hid (E ++ (hEd S S.L[k] (hoS S S.L[k]) ++ (aEd S.L[k] (ahead S.L S.L[k]) ++ edgL S (S.L.drop (k + 1)))) = edg S) := by have := HI.out.2.2.2; rw [edgL_step S S.L hkl] at this; exact this
      have HRt : Hid (Rt S.L[k]) := HB.out.2.rt _ (List.getElem_mem hkl)
      clear hcc hrd
      generalize S.L[k] = y at *
      have e0' : decide ((k : Int) < m) = true := by simp; omega
      have hbA : Below wr.heap.size wr (wr.alloc (wtO y)) := (Below.refl _ _).alloc (Nat.le_refl _) _
      obtain ⟨hl, hhl⟩ : ∃ hl, (hoS S y).length = hl := ⟨_, rfl⟩
      have HHo : Hid (Calls Tryd.prog 24 #[dp d, wtV y] (wr.alloc (wtO y)) fun e w' => ∃ ah ch, e = .returned (.slice ah hl ch) ∧ Hid (RdI w' .i64 ah ch (hoS S y) ∧ (∀ z, ah = some z → wr.heap.size < z.block ∧ z.block < w'.heap.size) ∧ Below wr.heap.size wr w' ∧ w'.heap[wr.heap.size]? = some (wtO y) ∧ wr.heap.size < w'.heap.size)) := by
        refine (holdersFor_any (HD.out.below (below_step HI.out.2.2.1.bel hbA)) y).mono ?_
        rintro e w' ⟨ah, ch, rfl, h2, h3⟩
        have hs3 := h3.size
        have hs4 : (wr.alloc (wtO y)).heap.size = wr.heap.size + 1 := by simp
        refine ⟨ah, ch, by rw [← hhl], h2.rd, fun z hz => ?_, below_step hbA h3, (h3.block _ (by omega)).trans (heap_alloc_new wr _), by omega⟩
        have := h2.blk z hz
        omega
      have HHl : Hid ((hoS S y).length = hl) := hhl
      have hhl4 : hl ≤ 4 := hhl ▸ ho_le S y
      clear hhl hbA
      go_wp2_with (first
        | (go_at_call 24; refine HHo.out.mono ?_; rintro e W5 ⟨ah, ch, rfl, HW5⟩)
        | fail)
      obtain ⟨b, hb⟩ : ∃ b, wr.heap.size = b := ⟨_, rfl⟩
      rw [hb] at HW5 ⊢
      have HBb : Hid (wr.heap.size = b) := hb
      clear hb z0 z1 z2 z3 HHo
      obtain ⟨X2, hX2⟩ : ∃ X2 : Nat → Prop, X2 = fun j => X j ∨ j = b ∨ ∃ z, ah = some z ∧ j = z.block := ⟨_, rfl⟩
      have HX2 : Hid ((∀ j, X j → X2 j) ∧ X2 b ∧ ∀ z, ah = some z → X2 z.block) := by subst hX2; exact ⟨fun j h => .inl h, .inr (.inl rfl), fun z hz => .inr (.inr ⟨z, hz, rfl⟩)⟩
      have HE5 : Hid (De X w W W5 a c E) := HI.out.2.2.1.more (HBb.out.symm ▸ HW5.out.2.2.1)
      have HF5 : Hid (De X2 w W5 W5 a c E) := by
        refine HE5.out.rebase fun j hj => ?_
        have hal : ∀ y, a = some y → y.block < b := fun y hy => HBb.out ▸ (HI.out.2.2.1.own.lt y hy).1
        subst hX2
        rcases hj with h | h | ⟨z, hz, h⟩
        · exact ⟨Nat.lt_of_lt_of_le (HXX.out.2 j h) HE5.out.sz, fun y hy e => HI.out.2.2.1.nx y hy (e ▸ h)⟩
        · subst h
          exact ⟨HW5.out.2.2.2.2, fun y hy e => by have := hal y hy; omega⟩
        · subst h
          have h2 := HW5.out.2.1 z hz
          exact ⟨h2.2, fun y hy e => by have := hal y hy; omega⟩
      have HL0 : Hid (E.length = l ∧ l ≤ 8 * k) := ⟨HI.out.1, HI.out.2.1⟩
      clear hX2 HI
      go_loopw [3, 26] (fun v i wi => ∃ (j : Nat) (a : Option Addr) (c l : Nat) (E : List (Int × Int)), j ≤ hl ∧ i = .int .i64 j ∧ v = .slice a l c ∧ Hid (E.length = l ∧ l ≤ 8 * k + j ∧ De X2 w W5 wi a c E ∧ E ++ (hEd S y ((hoS S y).drop j) ++ (aEd y (ahead S.L y) ++ edgL S (S.L.drop (k + 1)))) = edg S)) (fun _ i _ => hl - (intOf i).toNat)
      case atStart => exact ⟨0, a, c, l, E, Nat.zero_le _, rfl, rfl, ⟨HL0.out.1, HL0.out.2, HF5.out, HS.out⟩⟩
      case round =>
        clear HF5 HL0 HS
        obtain ⟨j, a1, c1, l1, E1, hj, rfl, rfl, HI⟩ := hrel
        rename World => wi
        by_cases hlt1 : j < hl
        · have hjl : j < (hoS S y).length := by have := HHl.out; omega
          have hrd : RdI wi .i64 ah ch (hoS S y) := RdS.keep HW5.out.1 HI.out.2.2.1.sz fun z hz => HI.out.2.2.1.keep z.block (HX2.out.2.2 z hz)
          obtain ⟨bk1, off1, rfl, -, hcc⟩ := hrd.at hjl
          have z0 := hcc j hjl
          have HS : Hid (E1 ++ (((if wasB S.K (kyOf (hoS S y)[j] y) then [(y.c, (hoS S y)[j])] else []) ++ hEd S y ((hoS S y).drop (j + 1))) ++ (aEd y (ahead S.L y) ++ edgL S (S.L.drop (k + 1)))) = edg S) := by have := HI.out.2.2.2; rw [hEd_step S y _ hjl] at this; exact this
          have HO : Hid ((kyOf (hoS S y)[j] y).ok) := ky_ok HRt.out (ho_mem (List.getElem_mem hjl))
          clear hcc hrd
          generalize (hoS S y)[j] = h at *
          have e1' : decide ((j : Int) < hl) = true := by simp; omega
          have HX : Hid (∀ U : World, Below wi.heap.size wi U → Bx d g q b y U) := fun U hU => (HD.out.below (below_step HI.out.2.2.1.bel hU)).bx ((hU.block b (Nat.lt_of_lt_of_le HW5.out.2.2.2.2 HI.out.2.2.1.sz)).trans ((HI.out.2.2.1.keep b HX2.out.2.1).trans HW5.out.2.2.2.1))
          obtain ⟨u1, hu1⟩ : ∃ u, busB S.K (kyOf h y) = u := ⟨_, rfl⟩
          obtain ⟨u2, hu2⟩ : ∃ u, wasB S.K (kyOf h y) = u := ⟨_, rfl⟩
          rw [hu2] at HS
          have HC : Hid (∀ U : World, Below wi.heap.size wi U → Calls Tryd.prog 25 #[qp q, .int .i64 h, .agg #[.int .i64 y.c, .int .i64 y.p, .int .i64 y.o, .bool y.wr]] U fun e w' => e = .returned (.tuple #[.bool u1, .bool u2]) ∧ Below wi.heap.size wi w') := fun U hU => by
            refine (calledK (HD.out.below (below_step HI.out.2.2.1.bel hU)) h y HO.out).mono ?_
            rw [hu1, hu2]
            rintro e w' ⟨rfl, h2⟩
            exact ⟨rfl, below_step hU h2⟩
          have HL : Hid (E1.length = l1 ∧ l1 ≤ 8 * k + j) := ⟨HI.out.1, HI.out.2.1⟩
          clear hu1 hu2
          cases u2
          · have HS2 : Hid (E1 ++ (hEd S y ((hoS S y).drop (j + 1)) ++ (aEd y (ahead S.L y) ++ edgL S (S.L.drop (k + 1)))) = edg S) := HS.out
            clear HS
            go_upto_region 8 with fail
            refine wp_region_held (S := fun U => Below wi.heap.size wi U) (by kernel_rfl) ?_
            have hS : Below wi.heap.size wi wi.drew := bel0 wi
            refine held_val (i := 0) ?_ 31 rfl rfl (by kernel_rfl) (by kernel_rfl) (by kernel_rfl) (by rfl) (fun _ _ _ h => h) hS ?_ ?_
            rotate_left
            · (intro w hSw; go_simp; first | done | with_reducible rfl)
            simp only [Act.put, List.setIfInBounds_toArray, List.set_cons_zero, List.set_cons_succ]
            refine held_val (i := 1) ?_ 32 rfl rfl (by kernel_rfl) (by kernel_rfl) (by kernel_rfl) (by rfl) (fun _ _ _ h => h) hS ?_ ?_
            rotate_left
            · (intro w hSw; go_simp; first | done | with_reducible rfl)
            simp only [Act.put, List.setIfInBounds_toArray, List.set_cons_zero, List.set_cons_succ]
            refine held_val (i := 2) ?_ 33 rfl rfl (by kernel_rfl) (by kernel_rfl) (by kernel_rfl) (by rfl) (fun _ _ _ h => h) hS ?_ ?_
            rotate_left
            · (intro w hSw; go_simp; first | done | with_reducible rfl)
            simp only [Act.put, List.setIfInBounds_toArray, List.set_cons_zero, List.set_cons_succ]
            refine held_val (i := 3) ?_ 34 rfl rfl (by kernel_rfl) (by kernel_rfl) (by kernel_rfl) (by rfl) (fun _ _ _ h => h) hS ?_ ?_
            rotate_left
            · (intro w hSw; obtain ⟨k0, k1, k2, k3, k4, k5⟩ := HX.out w hSw; go_simp; first | done | with_reducible rfl)
            simp only [Act.put, List.setIfInBounds_toArray, List.set_cons_zero, List.set_cons_succ]
            refine held_val (i := 4) ?_ 35 rfl rfl (by kernel_rfl) (by kernel_rfl) (by kernel_rfl) (by rfl) (fun _ _ _ h => h) hS ?_ ?_
            rotate_left
            · (intro w hSw; go_simp; first | done | with_reducible rfl)
            simp only [Act.put, List.setIfInBounds_toArray, List.set_cons_zero, List.set_cons_succ]
            refine held_val (i := 5) ?_ 36 rfl rfl (by kernel_rfl) (by kernel_rfl) (by kernel_rfl) (by rfl) (fun _ _ _ h => h) hS ?_ ?_
            rotate_left
            · (intro w hSw; obtain ⟨k0, k1, k2, k3, k4, k5⟩ := HX.out w hSw; go_simp; first | done | with_reducible rfl)
            simp only [Act.put, List.setIfInBounds_toArray, List.set_cons_zero, List.set_cons_succ]
            refine held_call (i := 6) 37 25 #[qp q, .int .i64 h, .agg #[.int .i64 y.c, .int .i64 y.p, .int .i64 y.o, .bool y.wr]] rfl rfl (by kernel_rfl) (by rfl) (by simp [go_sem]) (HC.out _ hS) ?_
            rintro e w6 ⟨rfl, hS6⟩
            refine ⟨_, rfl, hS6, ?_⟩
            have hS6 := hS6
            simp only [Act.put, List.setIfInBounds_toArray, List.set_cons_zero, List.set_cons_succ]
            refine held_val (i := 7) ?_ 30 rfl rfl (by kernel_rfl) (by kernel_rfl) (by kernel_rfl) (by rfl) (fun _ _ _ h => h) hS6 ?_ ?_
            rotate_left
            · (intro w hSw; go_simp; first | done | with_reducible rfl)
            simp only [Act.put, List.setIfInBounds_toArray, List.set_cons_zero, List.set_cons_succ]
            refine held_val (i := 8) ?_ 38 rfl rfl (by kernel_rfl) (by kernel_rfl) (by kernel_rfl) (by rfl) (fun _ _ _ h => h) hS6 ?_ ?_
            rotate_left
            · (intro w hSw; go_simp; first | done | with_reducible rfl)
            simp only [Act.put, List.setIfInBounds_toArray, List.set_cons_zero, List.set_cons_succ]
            refine held_val (i := 9) ?_ 39 rfl rfl (by kernel_rfl) (by kernel_rfl) (by kernel_rfl) (by rfl) (fun _ _ _ h => h) hS6 ?_ ?_
            rotate_left
            · (intro w hSw; go_simp; first | done | with_reducible rfl)
            simp only [Act.put, List.setIfInBounds_toArray, List.set_cons_zero, List.set_cons_succ]
            refine held_val (i := 10) ?_ 8 rfl rfl (by kernel_rfl) (by kernel_rfl) (by kernel_rfl) (by rfl) (fun _ _ _ h => h) hS6 ?_ ?_
            rotate_left
            · (intro w hSw; go_simp; first | done | with_reducible rfl)
            simp only [Act.put, List.setIfInBounds_toArray, List.set_cons_zero, List.set_cons_succ]
            refine held_val (i := 11) ?_ 9 rfl rfl (by kernel_rfl) (by kernel_rfl) (by kernel_rfl) (by rfl) (fun _ _ _ h => h) hS6 ?_ ?_
            rotate_left
            · (intro w hSw; go_simp; first | done | with_reducible rfl)
            simp only [Act.put, List.setIfInBounds_toArray, List.set_cons_zero, List.set_cons_succ]
            refine wpAnyH_done (by kernel_rfl) ?_ _
            have HE : Hid (De X2 w W5 w6 a1 c1 E1) := HI.out.2.2.1.more hS6
            clear hS hS6 HC HX HI
            go_wp2
            go_roundw
            case rel => exact ⟨j + 1, a1, c1, l1, E1, by omega, by go_num, rfl, ⟨HL.out.1, by have := HL.out.2; omega, HE.out, HS2.out⟩⟩
            case measure => simp [intOf]; omega
          · have HS2 : Hid ((E1 ++ [(y.c, h)]) ++ (hEd S y ((hoS S y).drop (j + 1)) ++ (aEd y (ahead S.L y) ++ edgL S (S.L.drop (k + 1)))) = edg S) := by
              have hh : (E1 ++ [(y.c, h)]) ++ (hEd S y ((hoS S y).drop (j + 1)) ++ (aEd y (ahead S.L y) ++ edgL S (S.L.drop (k + 1)))) = edg S := by (have := HS.out; simpa using this)
              exact hh
            clear HS
            go_upto_region 8 with fail
            refine wp_region_held (S := fun U => Below wi.heap.size wi U) (by kernel_rfl) ?_
            have hS : Below wi.heap.size wi wi.drew := bel0 wi
            refine held_val (i := 0) ?_ 31 rfl rfl (by kernel_rfl) (by kernel_rfl) (by kernel_rfl) (by rfl) (fun _ _ _ h => h) hS ?_ ?_
            rotate_left
            · (intro w hSw; go_simp; first | done | with_reducible rfl)
            simp only [Act.put, List.setIfInBounds_toArray, List.set_cons_zero, List.set_cons_succ]
            refine held_val (i := 1) ?_ 32 rfl rfl (by kernel_rfl) (by kernel_rfl) (by kernel_rfl) (by rfl) (fun _ _ _ h => h) hS ?_ ?_
            rotate_left
            · (intro w hSw; go_simp; first | done | with_reducible rfl)
            simp only [Act.put, List.setIfInBounds_toArray, List.set_cons_zero, List.set_cons_succ]
            refine held_val (i := 2) ?_ 33 rfl rfl (by kernel_rfl) (by kernel_rfl) (by kernel_rfl) (by rfl) (fun _ _ _ h => h) hS ?_ ?_
            rotate_left
            · (intro w hSw; go_simp; first | done | with_reducible rfl)
            simp only [Act.put, List.setIfInBounds_toArray, List.set_cons_zero, List.set_cons_succ]
            refine held_val (i := 3) ?_ 34 rfl rfl (by kernel_rfl) (by kernel_rfl) (by kernel_rfl) (by rfl) (fun _ _ _ h => h) hS ?_ ?_
            rotate_left
            · (intro w hSw; obtain ⟨k0, k1, k2, k3, k4, k5⟩ := HX.out w hSw; go_simp; first | done | with_reducible rfl)
            simp only [Act.put, List.setIfInBounds_toArray, List.set_cons_zero, List.set_cons_succ]
            refine held_val (i := 4) ?_ 35 rfl rfl (by kernel_rfl) (by kernel_rfl) (by kernel_rfl) (by rfl) (fun _ _ _ h => h) hS ?_ ?_
            rotate_left
            · (intro w hSw; go_simp; first | done | with_reducible rfl)
            simp only [Act.put, List.setIfInBounds_toArray, List.set_cons_zero, List.set_cons_succ]
            refine held_val (i := 5) ?_ 36 rfl rfl (by kernel_rfl) (by kernel_rfl) (by kernel_rfl) (by rfl) (fun _ _ _ h => h) hS ?_ ?_
            rotate_left
            · (intro w hSw; obtain ⟨k0, k1, k2, k3, k4, k5⟩ := HX.out w hSw; go_simp; first | done | with_reducible rfl)
            simp only [Act.put, List.setIfInBounds_toArray, List.set_cons_zero, List.set_cons_succ]
            refine held_call (i := 6) 37 25 #[qp q, .int .i64 h, .agg #[.int .i64 y.c, .int .i64 y.p, .int .i64 y.o, .bool y.wr]] rfl rfl (by kernel_rfl) (by rfl) (by simp [go_sem]) (HC.out _ hS) ?_
            rintro e w6 ⟨rfl, hS6⟩
            refine ⟨_, rfl, hS6, ?_⟩
            have hS6 := hS6
            simp only [Act.put, List.setIfInBounds_toArray, List.set_cons_zero, List.set_cons_succ]
            refine held_val (i := 7) ?_ 30 rfl rfl (by kernel_rfl) (by kernel_rfl) (by kernel_rfl) (by rfl) (fun _ _ _ h => h) hS6 ?_ ?_
            rotate_left
            · (intro w hSw; go_simp; first | done | with_reducible rfl)
            simp only [Act.put, List.setIfInBounds_toArray, List.set_cons_zero, List.set_cons_succ]
            refine held_val (i := 8) ?_ 38 rfl rfl (by kernel_rfl) (by kernel_rfl) (by kernel_rfl) (by rfl) (fun _ _ _ h => h) hS6 ?_ ?_
            rotate_left
            · (intro w hSw; go_simp; first | done | with_reducible rfl)
            simp only [Act.put, List.setIfInBounds_toArray, List.set_cons_zero, List.set_cons_succ]
            refine held_val (i := 9) ?_ 39 rfl rfl (by kernel_rfl) (by kernel_rfl) (by kernel_rfl) (by rfl) (fun _ _ _ h => h) hS6 ?_ ?_
            rotate_left
            · (intro w hSw; go_simp; first | done | with_reducible rfl)
            simp only [Act.put, List.setIfInBounds_toArray, List.set_cons_zero, List.set_cons_succ]
            refine held_val (i := 10) ?_ 8 rfl rfl (by kernel_rfl) (by kernel_rfl) (by kernel_rfl) (by rfl) (fun _ _ _ h => h) hS6 ?_ ?_
            rotate_left
            · (intro w hSw; go_simp; first | done | with_reducible rfl)
            simp only [Act.put, List.setIfInBounds_toArray, List.set_cons_zero, List.set_cons_succ]
            refine held_val (i := 11) ?_ 9 rfl rfl (by kernel_rfl) (by kernel_rfl) (by kernel_rfl) (by rfl) (fun _ _ _ h => h) hS6 ?_ ?_
            rotate_left
            · (intro w hSw; go_simp; first | done | with_reducible rfl)
            simp only [Act.put, List.setIfInBounds_toArray, List.set_cons_zero, List.set_cons_succ]
            refine wpAnyH_done (by kernel_rfl) ?_ _
            have HE : Hid (De X2 w W5 w6 a1 c1 E1) := HI.out.2.2.1.more hS6
            obtain ⟨k0, k1, k2, k3, k4, k5⟩ := HX.out w6 hS6
            have hl40 : l1 ≤ 40 := by have := HL.out.2; omega
            clear hS hS6 HC HX HI
            go_wp2_with (first
              | (at_builtin; refine wpList_append_R edE _ rfl _ _ 40 rfl 64 _ 16 Tryd.underlying40 Wai.info29 rfl (L := E1) (M := [(y.c, h)]) (n := l1) (m := 1) rfl rfl ((HE.out.more ((Below.refl _ _).alloc (Nat.le_refl _) _)).own) (RdR.built edE w6 64 #[.int .i64 y.c, .int .i64 h] [(y.c, h)] rfl 1 rfl (by unfold maxLen; omega)) HL.out.1 rfl (by omega) (by unfold maxLen; omega) ?_; intro a2 c2 w8 ho8 hg8 hl8)
              | fail)
            have HE8 : Hid (De X2 w W5 w8 a2 c2 (E1 ++ [(y.c, h)])) := HE.out.app ((Below.refl _ _).alloc (Nat.le_refl _) _) hg8 ho8 hl8
            clear k0 k1 k2 k3 k4 k5 ho8 hg8 hl8 HE
            go_roundw
            case rel => exact ⟨j + 1, a2, c2, l1 + 1, E1 ++ [(y.c, h)], by omega, by go_num, rfl, ⟨by rw [List.length_append, HL.out.1]; rfl, by have := HL.out.2; omega, HE8.out, HS2.out⟩⟩
            case measure => simp [intOf]; omega
        · obtain rfl : j = hl := by omega
          have e1' : decide ((j : Int) < j) = false := by simp
          have HS : Hid (E1 ++ (aEd y (ahead S.L y) ++ edgL S (S.L.drop (k + 1))) = edg S) := by
            have := HI.out.2.2.2
            rw [List.drop_eq_nil_of_le (by have := HHl.out; omega)] at this
            exact this
          have HL1 : Hid (E1.length = l1 ∧ l1 ≤ 8 * k + 4) := ⟨HI.out.1, by have := HI.out.2.1; omega⟩
          have HB6 : Hid (De X w W wi a1 c1 E1) := HE5.out.back HI.out.2.2.1 HX2.out.1
          have HX : Hid (∀ U : World, Below wi.heap.size wi U → Bx d g q b y U) := fun U hU => (HD.out.below (below_step HI.out.2.2.1.bel hU)).bx ((hU.block b (Nat.lt_of_lt_of_le HW5.out.2.2.2.2 HI.out.2.2.1.sz)).trans ((HI.out.2.2.1.keep b HX2.out.2.1).trans HW5.out.2.2.2.1))
          obtain ⟨al, hal⟩ : ∃ al, (ahead S.L y).length = al := ⟨_, rfl⟩
          have hal4 : al ≤ 4 := by have := ah_le S.L y; have := HB.out.1; omega
          have HAl : Hid ((ahead S.L y).length = al) := hal
          have HC : Hid (∀ U : World, Below wi.heap.size wi U → Calls Tryd.prog 26 #[qp q, .agg #[.int .i64 y.c, .int .i64 y.p, .int .i64 y.o, .bool y.wr]] U fun e w' => ∃ aa ca, e = .returned (.slice aa al ca) ∧ Below wi.heap.size wi w' ∧ Hid (RdI w' .i64 aa ca (ahead S.L y) ∧ ∀ z, aa = some z → wi.heap.size ≤ z.block ∧ z.block < w'.heap.size)) := fun U hU => by
            refine (aheadK (HD.out.below (below_step HI.out.2.2.1.bel hU)) y).mono ?_
            rintro e w' ⟨aa, ca, rfl, h2, h3⟩
            refine ⟨aa, ca, by rw [← hal], below_step hU h3, h2.rd, fun z hz => ?_⟩
            have := h2.blk z hz
            have := hU.size
            omega
          have HI2 : Hid (De X2 w W5 wi a1 c1 E1) := HI.out.2.2.1
          clear hal HI
          go_upto_region 12 with fail
          refine wp_region_held (S := fun U => Below wi.heap.size wi U) (by kernel_rfl) ?_
          have hS : Below wi.heap.size wi wi.drew := bel0 wi
          refine held_val (i := 0) ?_ 49 rfl rfl (by kernel_rfl) (by kernel_rfl) (by kernel_rfl) (by rfl) (fun _ _ _ h => h) hS ?_ ?_
          rotate_left
          · (intro w hSw; go_simp; first | done | with_reducible rfl)
          simp only [Act.put, List.setIfInBounds_toArray, List.set_cons_zero, List.set_cons_succ]
          refine held_val (i := 1) ?_ 50 rfl rfl (by kernel_rfl) (by kernel_rfl) (by kernel_rfl) (by rfl) (fun _ _ _ h => h) hS ?_ ?_
          rotate_left
          · (intro w hSw; go_simp; first | done | with_reducible rfl)
          simp only [Act.put, List.setIfInBounds_toArray, List.set_cons_zero, List.set_cons_succ]
          refine held_val (i := 2) ?_ 51 rfl rfl (by kernel_rfl) (by kernel_rfl) (by kernel_rfl) (by rfl) (fun _ _ _ h => h) hS ?_ ?_
          rotate_left
          · (intro w hSw; go_simp; first | done | with_reducible rfl)
          simp only [Act.put, List.setIfInBounds_toArray, List.set_cons_zero, List.set_cons_succ]
          refine held_val (i := 3) ?_ 52 rfl rfl (by kernel_rfl) (by kernel_rfl) (by kernel_rfl) (by rfl) (fun _ _ _ h => h) hS ?_ ?_
          rotate_left
          · (intro w hSw; obtain ⟨k0, k1, k2, k3, k4, k5⟩ := HX.out w hSw; go_simp; first | done | with_reducible rfl)
          simp only [Act.put, List.setIfInBounds_toArray, List.set_cons_zero, List.set_cons_succ]
          refine held_val (i := 4) ?_ 53 rfl rfl (by kernel_rfl) (by kernel_rfl) (by kernel_rfl) (by rfl) (fun _ _ _ h => h) hS ?_ ?_
          rotate_left
          · (intro w hSw; obtain ⟨k0, k1, k2, k3, k4, k5⟩ := HX.out w hSw; go_simp; first | done | with_reducible rfl)
          simp only [Act.put, List.setIfInBounds_toArray, List.set_cons_zero, List.set_cons_succ]
          refine held_val (i := 7) ?_ 56 rfl rfl (by kernel_rfl) (by kernel_rfl) (by kernel_rfl) (by rfl) (fun _ _ _ h => h) hS ?_ ?_
          rotate_left
          · (intro w hSw; go_simp; first | done | with_reducible rfl)
          simp only [Act.put, List.setIfInBounds_toArray, List.set_cons_zero, List.set_cons_succ]
          refine held_call (i := 5) 54 26 #[qp q, .agg #[.int .i64 y.c, .int .i64 y.p, .int .i64 y.o, .bool y.wr]] rfl rfl (by kernel_rfl) (by rfl) (by simp [go_sem]) (HC.out _ hS) ?_
          rintro e w5 ⟨aa, ca, rfl, hS5, HR5⟩
          refine ⟨_, rfl, hS5, ?_⟩
          have hS5 := hS5
          simp only [Act.put, List.setIfInBounds_toArray, List.set_cons_zero, List.set_cons_succ]
          refine held_val (i := 6) ?_ 55 rfl rfl (by kernel_rfl) (by kernel_rfl) (by kernel_rfl) (by rfl) (fun _ _ _ h => h) hS5 ?_ ?_
          rotate_left
          · (intro w hSw; go_simp; first | done | with_reducible rfl)
          simp only [Act.put, List.setIfInBounds_toArray, List.set_cons_zero, List.set_cons_succ]
          refine wpAnyH_done (by kernel_rfl) ?_ _
          obtain ⟨X3, hX3⟩ : ∃ X3 : Nat → Prop, X3 = fun j => X j ∨ j = b ∨ ∃ z, aa = some z ∧ j = z.block := ⟨_, rfl⟩
          have HX3 : Hid ((∀ j, X j → X3 j) ∧ X3 b ∧ ∀ z, aa = some z → X3 z.block) := by subst hX3; exact ⟨fun j h => .inl h, .inr (.inl rfl), fun z hz => .inr (.inr ⟨z, hz, rfl⟩)⟩
          have HE6 : Hid (De X w W w5 a1 c1 E1 ∧ w5.heap[b]? = some (wtO y) ∧ b < w5.heap.size) := ⟨HB6.out.more hS5, ((hS5.block b (Nat.lt_of_lt_of_le HW5.out.2.2.2.2 HI2.out.sz)).trans ((HI2.out.keep b HX2.out.2.1).trans HW5.out.2.2.2.1)), by have := HW5.out.2.2.2.2; have := HI2.out.sz; have := hS5.size; omega⟩
          have HF6 : Hid (De X3 w w5 w5 a1 c1 E1) := by
            refine HE6.out.1.rebase fun j hj => ?_
            have hal : ∀ y, a1 = some y → y.block < wi.heap.size := fun y hy => (HB6.out.own.lt y hy).1
            subst hX3
            rcases hj with h | h | ⟨z, hz, h⟩
            · exact ⟨Nat.lt_of_lt_of_le (HXX.out.2 j h) HE6.out.1.sz, fun y hy e => HB6.out.nx y hy (e ▸ h)⟩
            · subst h
              exact ⟨HE6.out.2.2, fun y hy e => HI2.out.nx y hy (e ▸ HX2.out.2.1)⟩
            · subst h
              have h2 := HR5.out.2 z hz
              exact ⟨h2.2, fun y hy e => by have := hal y hy; omega⟩
          clear hX3 hS hS5 HC HX HI2
          go_wp2
          go_loopw [3, 56] (fun v i wi => ∃ (j : Nat) (a : Option Addr) (c l : Nat) (E : List (Int × Int)), j ≤ al ∧ i = .int .i64 j ∧ v = .slice a l c ∧ Hid (E.length = l ∧ l ≤ 8 * k + 4 + j ∧ De X3 w w5 wi a c E ∧ E ++ (aEd y ((ahead S.L y).drop j) ++ edgL S (S.L.drop (k + 1))) = edg S)) (fun _ i _ => al - (intOf i).toNat)
          case atStart => exact ⟨0, a1, c1, l1, E1, Nat.zero_le _, rfl, rfl, ⟨HL1.out.1, HL1.out.2, HF6.out, HS.out⟩⟩
          case round =>
            clear HF6 HL1 HS HB6
            obtain ⟨t, a2, c2, l2, E2, ht, rfl, rfl, HI⟩ := hrel
            rename World => wj
            by_cases hlt2 : t < al
            · have htl : t < (ahead S.L y).length := by have := HAl.out; omega
              have hrd : RdI wj .i64 aa ca (ahead S.L y) := RdS.keep HR5.out.1 HI.out.2.2.1.sz fun z hz => HI.out.2.2.1.keep z.block (HX3.out.2.2 z hz)
              obtain ⟨bk2, off2, rfl, -, hcc⟩ := hrd.at htl
              have z0 := hcc t htl
              have HS2 : Hid ((E2 ++ [(y.c, (ahead S.L y)[t])]) ++ (aEd y ((ahead S.L y).drop (t + 1)) ++ edgL S (S.L.drop (k + 1))) = edg S) := by
                have hh : (E2 ++ [(y.c, (ahead S.L y)[t])]) ++ (aEd y ((ahead S.L y).drop (t + 1)) ++ edgL S (S.L.drop (k + 1))) = edg S := by
                  have := HI.out.2.2.2
                  rw [aEd_step y _ htl] at this
                  simpa using this
                exact hh
              clear hcc hrd
              generalize (ahead S.L y)[t] = h at *
              have e2' : decide ((t : Int) < al) = true := by simp; omega
              obtain ⟨k0, k1, k2, k3, k4, k5⟩ : Bx d g q b y wj := (HD.out.below HI.out.2.2.1.bel).bx ((HI.out.2.2.1.keep b HX3.out.2.1).trans HE6.out.2.1)
              have HL : Hid (E2.length = l2 ∧ l2 ≤ 8 * k + 4 + t) := ⟨HI.out.1, HI.out.2.1⟩
              have hl40 : l2 ≤ 40 := by have := HL.out.2; omega
              have HE : Hid (De X3 w w5 wj a2 c2 E2) := HI.out.2.2.1
              clear HI
              go_wp2_with (first
                | (at_builtin; refine wpList_append_R edE _ rfl _ _ 40 rfl 64 _ 16 Tryd.underlying40 Wai.info29 rfl (L := E2) (M := [(y.c, h)]) (n := l2) (m := 1) rfl rfl ((HE.out.more ((Below.refl _ _).alloc (Nat.le_refl _) _)).own) (RdR.built edE wj 64 #[.int .i64 y.c, .int .i64 h] [(y.c, h)] rfl 1 rfl (by unfold maxLen; omega)) HL.out.1 rfl (by omega) (by unfold maxLen; omega) ?_; intro a3 c3 w8 ho8 hg8 hl8)
                | fail)
              have HE8 : Hid (De X3 w w5 w8 a3 c3 (E2 ++ [(y.c, h)])) := HE.out.app ((Below.refl _ _).alloc (Nat.le_refl _) _) hg8 ho8 hl8
              clear k0 k1 k2 k3 k4 k5 ho8 hg8 hl8 HE
              go_roundw
              case rel => exact ⟨t + 1, a3, c3, l2 + 1, E2 ++ [(y.c, h)], by omega, by go_num, rfl, ⟨by rw [List.length_append, HL.out.1]; rfl, by have := HL.out.2; omega, HE8.out, HS2.out⟩⟩
              case measure => simp [intOf]; omega
            · obtain rfl : t = al := by omega
              have e2' : decide ((t : Int) < t) = false := by simp
              have HS : Hid (E2 ++ edgL S (S.L.drop (k + 1)) = edg S) := by
                have := HI.out.2.2.2
                rw [List.drop_eq_nil_of_le (by have := HAl.out; omega)] at this
                exact this
              have HE : Hid (De X w W wj a2 c2 E2 ∧ E2.length = l2 ∧ l2 ≤ 8 * (k + 1)) := ⟨HE6.out.1.back HI.out.2.2.1 HX3.out.1, HI.out.1, by have := HI.out.2.1; omega⟩
              clear HI
              go_wp2
              go_roundw
              case rel => exact ⟨k + 1, a2, c2, l2, E2, by omega, by go_num, rfl, ⟨HE.out.2.1, HE.out.2.2, HE.out.1, HS.out⟩⟩
              case measure => simp [intOf]; omega
    · obtain rfl : k = m := by omega
      have e0' : decide ((k : Int) < k) = false := by simp
      have HF : Hid (E = edg S) := by
        have hh : E = edg S := by
          have := HI.out.2.2.2
          rw [List.drop_eq_nil_of_le (by have := HB.out.1; omega)] at this
          simpa [edgL] using this
        exact hh
      have HE : Hid (RdR edC wr a c E ∧ E.length = l ∧ Below w.heap.size w wr) := ⟨HI.out.2.2.1.own.rd, HI.out.1, HI.out.2.2.1.bel⟩
      clear HI
      go_wp2
      go_ret
      refine ⟨a, c, ?_, ?_, HE.out.2.2⟩
      · rw [← HF.out, HE.out.2.1]; rfl
      · rw [← HF.out]; exact HE.out.1

end Go.Proofs.YtllggjkhbecalaaDoor
