/- Edges of package desk, walked. serve and settle of package desk, walked. -/
import Derived.Test.YtpofihiojhbfgaaGreatDoorD5
namespace Go.Proofs.YtpofihiojhbfgaaGreatDoor.Dsk
open Go.RowKit Go.Maps
set_option linter.unusedVariables false
set_option maxRecDepth 8000

def edC (e : Int × Int) : List Value := [.int .i64 e.1, .int .i64 e.2]
theorem edE : Enc edC 2 := ⟨fun _ => rfl, fun x u hu => by simp only [edC, List.mem_cons, List.not_mem_nil, or_false] at hu; rcases hu with rfl | rfl <;> rfl, by decide⟩
theorem _root_.Go.Proofs.YtpofihiojhbfgaaGreatDoor.RdR.rdE {w : World} {ao : Option Addr} {cap : Nat} {E : List (Int × Int)} (h : RdR edC w ao cap E) : Wai.RdE w ao cap E := by
  refine ⟨h.le, h.mx, h.nil, fun hx => ?_⟩
  obtain ⟨b, off, e, hl, hc⟩ := h.cells edE hx
  exact ⟨b, off, e, hl, fun t ht => ⟨hc t ht 0 _ rfl, hc t ht 1 _ rfl⟩⟩

structure De (X : Nat → Prop) (w0 Wb W : World) (a : Option Addr) (c : Nat) (E : List (Int × Int)) : Prop where
  bel : Below w0.heap.size w0 W
  keep : ∀ k, X k → W.heap[k]? = Wb.heap[k]?
  sz : Wb.heap.size ≤ W.heap.size
  own : OwR edC 2 236 W a c E
  new : ∀ y, a = some y → w0.heap.size ≤ y.block
  nx : ∀ y, a = some y → ¬ X y.block
  xl : ∀ k, X k → k < Wb.heap.size
section
variable {X X2 : Nat → Prop} {w0 Wb W W1 W2 W3 : World} {a a2 : Option Addr} {c c2 : Nat} {E E2 : List (Int × Int)}
theorem De.start (w0 W : World) (hb : Below w0.heap.size w0 W) (hX : ∀ k, X k → k < W.heap.size) : De X w0 W W none 0 [] :=
  ⟨hb, fun _ _ => rfl, Nat.le_refl _, OwR.nil _ _, (fun y h => by cases h), (fun y h => by cases h), hX⟩
theorem De.more (h : De X w0 Wb W a c E) (hb : Below W.heap.size W W2) : De X w0 Wb W2 a c E :=
  ⟨below_step h.bel hb, fun k hk => (hb.block k (Nat.lt_of_lt_of_le (h.xl k hk) h.sz)).trans (h.keep k hk), Nat.le_trans h.sz hb.size, h.own.below hb, h.new, h.nx, h.xl⟩
theorem De.app (h : De X w0 Wb W a c E) (hb : Below W.heap.size W W2) (hg : W2.grownBy W3 (a.map (·.block))) (ho : OwR edC 2 236 W3 a2 c2 E2) (hl : a2 = a ∨ a2 = some ⟨W2.heap.size, 0, none⟩) : De X w0 Wb W3 a2 c2 E2 := by
  have h1 := h.more hb
  have hs := h1.bel.size
  have hne : ∀ k, (X k ∨ k < w0.heap.size) → some k ≠ a.map (·.block) := by
    intro k hk e
    cases ha : a with
    | none => rw [ha] at e; cases e
    | some y =>
      rw [ha] at e
      cases e
      rcases hk with hk | hk
      · exact h.nx y ha hk
      · have h2 := h.new y ha
        have h3 : y.block < w0.heap.size := hk
        omega
  refine ⟨h1.bel.trans ⟨hg.os, hg.tape, hg.output, hg.size, fun k hk => hg.block k (by omega) (fun e => hne k (.inr hk) e)⟩, fun k hk => (hg.block k (Nat.lt_of_lt_of_le (h.xl k hk) h1.sz) (fun e => hne k (.inl hk) e)).trans (h1.keep k hk), Nat.le_trans h1.sz hg.size, ho, ?_, ?_, h.xl⟩
  · intro y hy
    rcases hl with rfl | rfl
    · exact h.new y hy
    · cases hy
      exact hs
  · intro y hy hx
    rcases hl with rfl | rfl
    · exact h.nx y hy hx
    · cases hy
      have h2 : W2.heap.size < Wb.heap.size := h.xl _ hx
      have := h1.sz
      omega
theorem De.rebase (h : De X w0 Wb W a c E) (hX : ∀ k, X2 k → k < W.heap.size ∧ ∀ y, a = some y → y.block ≠ k) : De X2 w0 W W a c E :=
  ⟨h.bel, fun _ _ => rfl, Nat.le_refl _, h.own, h.new, fun y hy hx => (hX _ hx).2 y hy rfl, fun k hk => (hX k hk).1⟩
theorem De.back {a0 : Option Addr} {c0 : Nat} {E0 : List (Int × Int)} (h0 : De X w0 Wb W1 a0 c0 E0) (h : De X2 w0 W1 W a c E) (hs : ∀ k, X k → X2 k) : De X w0 Wb W a c E :=
  ⟨h.bel, fun k hk => (h.keep k (hs k hk)).trans (h0.keep k hk), Nat.le_trans h0.sz h.sz, h.own, h.new, fun y hy hx => h.nx y hy (hs _ hx), h0.xl⟩
end

theorem hol_mem (T : Nat → Nat) (c p o : Nat) (wr : Bool) : ∀ (k : Nat) (z : Int), z ∈ Tab.hol T c p o wr k → 0 ≤ z ∧ z < k
  | 0, z, h => by simp [Tab.hol] at h
  | k + 1, z, h => by
    unfold Tab.hol at h
    split at h
    · rcases List.mem_append.1 h with h | h
      · have := hol_mem T c p o wr k z h
        omega
      · simp at h
        omega
    · have := hol_mem T c p o wr k z h
      omega
theorem ho_mem {S : St} {x : Wt} {z : Int} (h : z ∈ hoS S x) : 0 ≤ z ∧ z < 4 := by
  unfold hoS Tab.hoI at h
  split at h
  · have := hol_mem _ _ _ _ _ 4 z h
    omega
  · cases h
theorem ky_ok {x : Wt} (hx : Rt x) {z : Int} (h : 0 ≤ z ∧ z < 4) : (kyOf z x).ok := by
  obtain ⟨⟨h1, h2⟩, h3, h4, h5, h6⟩ := hx
  refine ⟨?_, ?_, ?_⟩ <;> (unfold inR; simp only; omega)

theorem hEd_step (S : St) (x : Wt) (hs : List Int) {k : Nat} (hk : k < hs.length) : hEd S x (hs.drop k) = (if wasB S.K (kyOf hs[k] x) then [(x.c, hs[k])] else []) ++ hEd S x (hs.drop (k + 1)) := by
  rw [List.drop_eq_getElem_cons hk]
  generalize hs[k] = z
  generalize hs.drop (k + 1) = R
  unfold hEd
  cases h : wasB S.K (kyOf z x) <;> simp [h]
theorem aEd_step (x : Wt) (l : List Int) {k : Nat} (hk : k < l.length) : aEd x (l.drop k) = [(x.c, l[k])] ++ aEd x (l.drop (k + 1)) := by
  rw [List.drop_eq_getElem_cons hk]
  rfl
theorem edgL_step (S : St) (M : List Wt) {k : Nat} (hk : k < M.length) : edgL S (M.drop k) = hEd S M[k] (hoS S M[k]) ++ (aEd M[k] (ahead S.L M[k]) ++ edgL S (M.drop (k + 1))) := by
  rw [List.drop_eq_getElem_cons hk]
  rfl
theorem ah_le (L : List Wt) (x : Wt) : (ahead L x).length ≤ L.length := by
  unfold ahead ahL
  rw [List.length_map]
  refine Nat.le_trans (List.length_filter_le _ _) ?_
  split
  · rw [List.length_take]; omega
  · exact Nat.le_refl _

set_option maxHeartbeats 12800000 in
theorem edges_any {B : Nat} {V : Nat → Prop} {w : World} {d g q : Nat} {S : St} {n : Nat} (H : Dk B V w d g q S n) : Calls Tryz.prog 112 #[dp d] w fun e w' => ∃ a c, e = .returned (.slice a (edg S).length c) ∧ RdR edC w' a c (edg S) ∧ Below w.heap.size w w' := by
  have h1 := H.c1
  obtain ⟨m, hm⟩ : ∃ m, S.L.length = m := ⟨_, rfl⟩
  have hm4 : m ≤ 4 := hm ▸ H.len
  have HA : Hid (Calls Tryz.prog 144 #[qp q] w fun e w' => ∃ a c, e = .returned (.slice a m c) ∧ Hid (Below w.heap.size w w' ∧ RdR wtC w' a c S.L ∧ ∀ y, a = some y → y.block < w'.heap.size)) := by
    refine (allK H).mono ?_
    rintro e w' ⟨a, c, rfl, h2, h3, h4⟩
    exact ⟨a, c, by rw [hm], h4, h2.rd, fun y hy => (h2.lt y hy).1⟩
  have HD : Hid (Dk B V w d g q S n) := H
  have HB : Hid (S.L.length = m ∧ Nice S.L) := ⟨hm, H.nice⟩
  clear H hm
  go_enter Tryz.func112, Tryz.ntmps112
  go_wp2_with (first
    | (go_at_call 144; refine HA.out.mono ?_; rintro e W ⟨aw, cw, rfl, HW⟩)
    | fail)
  obtain ⟨X, hX⟩ : ∃ X : Nat → Prop, X = fun k => ∃ y, aw = some y ∧ k = y.block := ⟨_, rfl⟩
  have HXX : Hid ((∀ y, aw = some y → X y.block) ∧ ∀ k, X k → k < W.heap.size) := by
    subst hX
    exact ⟨fun y h => ⟨y, h, rfl⟩, by rintro k ⟨y, h, rfl⟩; exact HW.out.2.2 y h⟩
  clear hX h1 HA
  go_loopw [3, 18] (fun v i wr => ∃ (k : Nat) (a : Option Addr) (c l : Nat) (E : List (Int × Int)), k ≤ m ∧ i = .int .i64 k ∧ v = .slice a l c ∧ Hid (E.length = l ∧ l ≤ 8 * k ∧ De X w W wr a c E ∧ E ++ edgL S (S.L.drop k) = edg S)) (fun _ i _ => m - (intOf i).toNat)
  case atStart => exact ⟨0, none, 0, 0, [], Nat.zero_le _, rfl, rfl, ⟨rfl, Nat.le_refl _, De.start w W HW.out.1 HXX.out.2, rfl⟩⟩
  case round =>
    obtain ⟨k, a, c, l, E, hk, rfl, rfl, HI⟩ := hrel
    rename World => wr
    by_cases hlt : k < m
    · have hkl : k < S.L.length := by have := HB.out.1; omega
      have hrd : RdR wtC wr aw cw S.L := HW.out.2.1.keep HI.out.2.2.1.sz fun y hy _ => HI.out.2.2.1.keep y.block (HXX.out.1 y hy)
      obtain ⟨bk, off, rfl, -, hcc⟩ := hrd.at wtE hkl
      obtain ⟨z0, z1, z2, z3⟩ := wtIn _ _ _ _ hcc
      have HS : Hid (E ++ (hEd S S.L[k] (hoS S S.L[k]) ++ (aEd S.L[k] (ahead S.L S.L[k]) ++ edgL S (S.L.drop (k + 1)))) = edg S) := by have := HI.out.2.2.2; rw [edgL_step S S.L hkl] at this; exact this
      have HRt : Hid (Rt S.L[k]) := HB.out.2.rt _ (List.getElem_mem hkl)
      clear hcc hrd
      generalize S.L[k] = y at *
      have e0' : decide ((k : Int) < m) = true := by simp; omega
      have hbA : Below wr.heap.size wr (wr.alloc (wtO y)) := (Below.refl _ _).alloc (Nat.le_refl _) _
      obtain ⟨hl, hhl⟩ : ∃ hl, (hoS S y).length = hl := ⟨_, rfl⟩
      have HHo : Hid (Calls Tryz.prog 145 #[dp d, wtV y] (wr.alloc (wtO y)) fun e w' => ∃ ah ch, e = .returned (.slice ah hl ch) ∧ Hid (RdI w' .i64 ah ch (hoS S y) ∧ (∀ z, ah = some z → wr.heap.size < z.block ∧ z.block < w'.heap.size) ∧ Below wr.heap.size wr w' ∧ w'.heap[wr.heap.size]? = some (wtO y) ∧ wr.heap.size < w'.heap.size)) := by
        refine (holdersFor_any (HD.out.below (below_step HI.out.2.2.1.bel hbA)) y).mono ?_
        rintro e w' ⟨ah, ch, rfl, h2, h3⟩
        have hs3 := h3.size
        have hs4 : (wr.alloc (wtO y)).heap.size = wr.heap.size + 1 := by simp
        refine ⟨ah, ch, by rw [← hhl], h2.rd, fun z hz => ?_, below_step hbA h3, (h3.block _ (by omega)).trans (heap_alloc_new wr _), by omega⟩
        have := h2.blk z hz
        omega
      have HHl : Hid ((hoS S y).length = hl) := hhl
      have hhl4 : hl ≤ 4 := hhl ▸ ho_le S y
      clear hhl hbA
      go_wp2_with (first
        | (go_at_call 145; refine HHo.out.mono ?_; rintro e W5 ⟨ah, ch, rfl, HW5⟩)
        | fail)
      obtain ⟨b, hb⟩ : ∃ b, wr.heap.size = b := ⟨_, rfl⟩
      rw [hb] at HW5 ⊢
      have HBb : Hid (wr.heap.size = b) := hb
      clear hb z0 z1 z2 z3 HHo
      obtain ⟨X2, hX2⟩ : ∃ X2 : Nat → Prop, X2 = fun j => X j ∨ j = b ∨ ∃ z, ah = some z ∧ j = z.block := ⟨_, rfl⟩
      have HX2 : Hid ((∀ j, X j → X2 j) ∧ X2 b ∧ ∀ z, ah = some z → X2 z.block) := by subst hX2; exact ⟨fun j h => .inl h, .inr (.inl rfl), fun z hz => .inr (.inr ⟨z, hz, rfl⟩)⟩
      have HE5 : Hid (De X w W W5 a c E) := HI.out.2.2.1.more (HBb.out.symm ▸ HW5.out.2.2.1)
      have HF5 : Hid (De X2 w W5 W5 a c E) := by
        refine HE5.out.rebase fun j hj => ?_
        have hal : ∀ y, a = some y → y.block < b := fun y hy => HBb.out ▸ (HI.out.2.2.1.own.lt y hy).1
        subst hX2
        rcases hj with h | h | ⟨z, hz, h⟩
        · exact ⟨Nat.lt_of_lt_of_le (HXX.out.2 j h) HE5.out.sz, fun y hy e => HI.out.2.2.1.nx y hy (e ▸ h)⟩
        · subst h
          exact ⟨HW5.out.2.2.2.2, fun y hy e => by have := hal y hy; omega⟩
        · subst h
          have h2 := HW5.out.2.1 z hz
          exact ⟨h2.2, fun y hy e => by have := hal y hy; omega⟩
      have HL0 : Hid (E.length = l ∧ l ≤ 8 * k) := ⟨HI.out.1, HI.out.2.1⟩
      clear hX2 HI
      go_loopw [3, 26] (fun v i wi => ∃ (j : Nat) (a : Option Addr) (c l : Nat) (E : List (Int × Int)), j ≤ hl ∧ i = .int .i64 j ∧ v = .slice a l c ∧ Hid (E.length = l ∧ l ≤ 8 * k + j ∧ De X2 w W5 wi a c E ∧ E ++ (hEd S y ((hoS S y).drop j) ++ (aEd y (ahead S.L y) ++ edgL S (S.L.drop (k + 1)))) = edg S)) (fun _ i _ => hl - (intOf i).toNat)
      case atStart => exact ⟨0, a, c, l, E, Nat.zero_le _, rfl, rfl, ⟨HL0.out.1, HL0.out.2, HF5.out, HS.out⟩⟩
      case round =>
        clear HF5 HL0 HS
        obtain ⟨j, a1, c1, l1, E1, hj, rfl, rfl, HI⟩ := hrel
        rename World => wi
        by_cases hlt1 : j < hl
        · have hjl : j < (hoS S y).length := by have := HHl.out; omega
          have hrd : RdI wi .i64 ah ch (hoS S y) := RdS.keep HW5.out.1 HI.out.2.2.1.sz fun z hz => HI.out.2.2.1.keep z.block (HX2.out.2.2 z hz)
          obtain ⟨bk1, off1, rfl, -, hcc⟩ := hrd.at hjl
          have z0 := hcc j hjl
          have HS : Hid (E1 ++ (((if wasB S.K (kyOf (hoS S y)[j] y) then [(y.c, (hoS S y)[j])] else []) ++ hEd S y ((hoS S y).drop (j + 1))) ++ (aEd y (ahead S.L y) ++ edgL S (S.L.drop (k + 1)))) = edg S) := by have := HI.out.2.2.2; rw [hEd_step S y _ hjl] at this; exact this
          have HO : Hid ((kyOf (hoS S y)[j] y).ok) := ky_ok HRt.out (ho_mem (List.getElem_mem hjl))
          clear hcc hrd
          generalize (hoS S y)[j] = h at *
          have e1' : decide ((j : Int) < hl) = true := by simp; omega
          have HX : Hid (∀ U : World, Below wi.heap.size wi U → Bx d g q b y U) := fun U hU => (HD.out.below (below_step HI.out.2.2.1.bel hU)).bx ((hU.block b (Nat.lt_of_lt_of_le HW5.out.2.2.2.2 HI.out.2.2.1.sz)).trans ((HI.out.2.2.1.keep b HX2.out.2.1).trans HW5.out.2.2.2.1))
          obtain ⟨u1, hu1⟩ : ∃ u, busB S.K (kyOf h y) = u := ⟨_, rfl⟩
          obtain ⟨u2, hu2⟩ : ∃ u, wasB S.K (kyOf h y) = u := ⟨_, rfl⟩
          rw [hu2] at HS
          have HC : Hid (∀ U : World, Below wi.heap.size wi U → Calls Tryz.prog 146 #[qp q, .int .i64 h, .agg #[.int .i64 y.c, .int .i64 y.p, .int .i64 y.o, .bool y.wr]] U fun e w' => e = .returned (.tuple #[.bool u1, .bool u2]) ∧ Below wi.heap.size wi w') := fun U hU => by
            refine (calledK (HD.out.below (below_step HI.out.2.2.1.bel hU)) h y HO.out).mono ?_
            rw [hu1, hu2]
            rintro e w' ⟨rfl, h2⟩
            exact ⟨rfl, below_step hU h2⟩
          have HL : Hid (E1.length = l1 ∧ l1 ≤ 8 * k + j) := ⟨HI.out.1, HI.out.2.1⟩
          clear hu1 hu2
          cases u2
          · have HS2 : Hid (E1 ++ (hEd S y ((hoS S y).drop (j + 1)) ++ (aEd y (ahead S.L y) ++ edgL S (S.L.drop (k + 1)))) = edg S) := HS.out
            clear HS
            go_upto_region 8 with fail
            refine wp_region_held (S := fun U => Below wi.heap.size wi U) (by kernel_rfl) ?_
            have hS : Below wi.heap.size wi wi.drew := bel0 wi
            refine held_val (i := 0) ?_ 31 rfl rfl (by kernel_rfl) (by kernel_rfl) (by kernel_rfl) (by rfl) (fun _ _ _ h => h) hS ?_ ?_
            rotate_left
            · (intro w hSw; go_simp; first | done | with_reducible rfl)
            simp only [Act.put, List.setIfInBounds_toArray, List.set_cons_zero, List.set_cons_succ]
            refine held_val (i := 1) ?_ 32 rfl rfl (by kernel_rfl) (by kernel_rfl) (by kernel_rfl) (by rfl) (fun _ _ _ h => h) hS ?_ ?_
            rotate_left
            · (intro w hSw; go_simp; first | done | with_reducible rfl)
            simp only [Act.put, List.setIfInBounds_toArray, List.set_cons_zero, List.set_cons_succ]
            refine held_val (i := 2) ?_ 33 rfl rfl (by kernel_rfl) (by kernel_rfl) (by kernel_rfl) (by rfl) (fun _ _ _ h => h) hS ?_ ?_
            rotate_left
            · (intro w hSw; go_simp; first | done | with_reducible rfl)
            simp only [Act.put, List.setIfInBounds_toArray, List.set_cons_zero, List.set_cons_succ]
            refine held_val (i := 3) ?_ 34 rfl rfl (by kernel_rfl) (by kernel_rfl) (by kernel_rfl) (by rfl) (fun _ _ _ h => h) hS ?_ ?_
            rotate_left
            · (intro w hSw; obtain ⟨k0, k1, k2, k3, k4, k5⟩ := HX.out w hSw; go_simp; first | done | with_reducible rfl)
            simp only [Act.put, List.setIfInBounds_toArray, List.set_cons_zero, List.set_cons_succ]
            refine held_val (i := 4) ?_ 35 rfl rfl (by kernel_rfl) (by kernel_rfl) (by kernel_rfl) (by rfl) (fun _ _ _ h => h) hS ?_ ?_
            rotate_left
            · (intro w hSw; go_simp; first | done | with_reducible rfl)
            simp only [Act.put, List.setIfInBounds_toArray, List.set_cons_zero, List.set_cons_succ]
            refine held_val (i := 5) ?_ 36 rfl rfl (by kernel_rfl) (by kernel_rfl) (by kernel_rfl) (by rfl) (fun _ _ _ h => h) hS ?_ ?_
            rotate_left
            · (intro w hSw; obtain ⟨k0, k1, k2, k3, k4, k5⟩ := HX.out w hSw; go_simp; first | done | with_reducible rfl)
            simp only [Act.put, List.setIfInBounds_toArray, List.set_cons_zero, List.set_cons_succ]
            refine held_call (i := 6) 37 146 #[qp q, .int .i64 h, .agg #[.int .i64 y.c, .int .i64 y.p, .int .i64 y.o, .bool y.wr]] rfl rfl (by kernel_rfl) (by rfl) (by simp [go_sem]) (HC.out _ hS) ?_
            rintro e w6 ⟨rfl, hS6⟩
            refine ⟨_, rfl, hS6, ?_⟩
            have hS6 := hS6
            simp only [Act.put, List.setIfInBounds_toArray, List.set_cons_zero, List.set_cons_succ]
            refine held_val (i := 7) ?_ 30 rfl rfl (by kernel_rfl) (by kernel_rfl) (by kernel_rfl) (by rfl) (fun _ _ _ h => h) hS6 ?_ ?_
            rotate_left
            · (intro w hSw; go_simp; first | done | with_reducible rfl)
            simp only [Act.put, List.setIfInBounds_toArray, List.set_cons_zero, List.set_cons_succ]
            refine held_val (i := 8) ?_ 38 rfl rfl (by kernel_rfl) (by kernel_rfl) (by kernel_rfl) (by rfl) (fun _ _ _ h => h) hS6 ?_ ?_
            rotate_left
            · (intro w hSw; go_simp; first | done | with_reducible rfl)
            simp only [Act.put, List.setIfInBounds_toArray, List.set_cons_zero, List.set_cons_succ]
            refine held_val (i := 9) ?_ 39 rfl rfl (by kernel_rfl) (by kernel_rfl) (by kernel_rfl) (by rfl) (fun _ _ _ h => h) hS6 ?_ ?_
            rotate_left
            · (intro w hSw; go_simp; first | done | with_reducible rfl)
            simp only [Act.put, List.setIfInBounds_toArray, List.set_cons_zero, List.set_cons_succ]
            refine held_val (i := 10) ?_ 8 rfl rfl (by kernel_rfl) (by kernel_rfl) (by kernel_rfl) (by rfl) (fun _ _ _ h => h) hS6 ?_ ?_
            rotate_left
            · (intro w hSw; go_simp; first | done | with_reducible rfl)
            simp only [Act.put, List.setIfInBounds_toArray, List.set_cons_zero, List.set_cons_succ]
            refine held_val (i := 11) ?_ 9 rfl rfl (by kernel_rfl) (by kernel_rfl) (by kernel_rfl) (by rfl) (fun _ _ _ h => h) hS6 ?_ ?_
            rotate_left
            · (intro w hSw; go_simp; first | done | with_reducible rfl)
            simp only [Act.put, List.setIfInBounds_toArray, List.set_cons_zero, List.set_cons_succ]
            refine wpAnyH_done (by kernel_rfl) ?_ _
            have HE : Hid (De X2 w W5 w6 a1 c1 E1) := HI.out.2.2.1.more hS6
            clear hS hS6 HC HX HI
            go_wp2
            go_roundw
            case rel => exact ⟨j + 1, a1, c1, l1, E1, by omega, by go_num, rfl, ⟨HL.out.1, by have := HL.out.2; omega, HE.out, HS2.out⟩⟩
            case measure => simp [intOf]; omega
          · have HS2 : Hid ((E1 ++ [(y.c, h)]) ++ (hEd S y ((hoS S y).drop (j + 1)) ++ (aEd y (ahead S.L y) ++ edgL S (S.L.drop (k + 1)))) = edg S) := by
              have hh : (E1 ++ [(y.c, h)]) ++ (hEd S y ((hoS S y).drop (j + 1)) ++ (aEd y (ahead S.L y) ++ edgL S (S.L.drop (k + 1)))) = edg S := by (have := HS.out; simpa using this)
              exact hh
            clear HS
            go_upto_region 8 with fail
            refine wp_region_held (S := fun U => Below wi.heap.size wi U) (by kernel_rfl) ?_
            have hS : Below wi.heap.size wi wi.drew := bel0 wi
            refine held_val (i := 0) ?_ 31 rfl rfl (by kernel_rfl) (by kernel_rfl) (by kernel_rfl) (by rfl) (fun _ _ _ h => h) hS ?_ ?_
            rotate_left
            · (intro w hSw; go_simp; first | done | with_reducible rfl)
            simp only [Act.put, List.setIfInBounds_toArray, List.set_cons_zero, List.set_cons_succ]
            refine held_val (i := 1) ?_ 32 rfl rfl (by kernel_rfl) (by kernel_rfl) (by kernel_rfl) (by rfl) (fun _ _ _ h => h) hS ?_ ?_
            rotate_left
            · (intro w hSw; go_simp; first | done | with_reducible rfl)
            simp only [Act.put, List.setIfInBounds_toArray, List.set_cons_zero, List.set_cons_succ]
            refine held_val (i := 2) ?_ 33 rfl rfl (by kernel_rfl) (by kernel_rfl) (by kernel_rfl) (by rfl) (fun _ _ _ h => h) hS ?_ ?_
            rotate_left
            · (intro w hSw; go_simp; first | done | with_reducible rfl)
            simp only [Act.put, List.setIfInBounds_toArray, List.set_cons_zero, List.set_cons_succ]
            refine held_val (i := 3) ?_ 34 rfl rfl (by kernel_rfl) (by kernel_rfl) (by kernel_rfl) (by rfl) (fun _ _ _ h => h) hS ?_ ?_
            rotate_left
            · (intro w hSw; obtain ⟨k0, k1, k2, k3, k4, k5⟩ := HX.out w hSw; go_simp; first | done | with_reducible rfl)
            simp only [Act.put, List.setIfInBounds_toArray, List.set_cons_zero, List.set_cons_succ]
            refine held_val (i := 4) ?_ 35 rfl rfl (by kernel_rfl) (by kernel_rfl) (by kernel_rfl) (by rfl) (fun _ _ _ h => h) hS ?_ ?_
            rotate_left
            · (intro w hSw; go_simp; first | done | with_reducible rfl)
            simp only [Act.put, List.setIfInBounds_toArray, List.set_cons_zero, List.set_cons_succ]
            refine held_val (i := 5) ?_ 36 rfl rfl (by kernel_rfl) (by kernel_rfl) (by kernel_rfl) (by rfl) (fun _ _ _ h => h) hS ?_ ?_
            rotate_left
            · (intro w hSw; obtain ⟨k0, k1, k2, k3, k4, k5⟩ := HX.out w hSw; go_simp; first | done | with_reducible rfl)
            simp only [Act.put, List.setIfInBounds_toArray, List.set_cons_zero, List.set_cons_succ]
            refine held_call (i := 6) 37 146 #[qp q, .int .i64 h, .agg #[.int .i64 y.c, .int .i64 y.p, .int .i64 y.o, .bool y.wr]] rfl rfl (by kernel_rfl) (by rfl) (by simp [go_sem]) (HC.out _ hS) ?_
            rintro e w6 ⟨rfl, hS6⟩
            refine ⟨_, rfl, hS6, ?_⟩
            have hS6 := hS6
            simp only [Act.put, List.setIfInBounds_toArray, List.set_cons_zero, List.set_cons_succ]
            refine held_val (i := 7) ?_ 30 rfl rfl (by kernel_rfl) (by kernel_rfl) (by kernel_rfl) (by rfl) (fun _ _ _ h => h) hS6 ?_ ?_
            rotate_left
            · (intro w hSw; go_simp; first | done | with_reducible rfl)
            simp only [Act.put, List.setIfInBounds_toArray, List.set_cons_zero, List.set_cons_succ]
            refine held_val (i := 8) ?_ 38 rfl rfl (by kernel_rfl) (by kernel_rfl) (by kernel_rfl) (by rfl) (fun _ _ _ h => h) hS6 ?_ ?_
            rotate_left
            · (intro w hSw; go_simp; first | done | with_reducible rfl)
            simp only [Act.put, List.setIfInBounds_toArray, List.set_cons_zero, List.set_cons_succ]
            refine held_val (i := 9) ?_ 39 rfl rfl (by kernel_rfl) (by kernel_rfl) (by kernel_rfl) (by rfl) (fun _ _ _ h => h) hS6 ?_ ?_
            rotate_left
            · (intro w hSw; go_simp; first | done | with_reducible rfl)
            simp only [Act.put, List.setIfInBounds_toArray, List.set_cons_zero, List.set_cons_succ]
            refine held_val (i := 10) ?_ 8 rfl rfl (by kernel_rfl) (by kernel_rfl) (by kernel_rfl) (by rfl) (fun _ _ _ h => h) hS6 ?_ ?_
            rotate_left
            · (intro w hSw; go_simp; first | done | with_reducible rfl)
            simp only [Act.put, List.setIfInBounds_toArray, List.set_cons_zero, List.set_cons_succ]
            refine held_val (i := 11) ?_ 9 rfl rfl (by kernel_rfl) (by kernel_rfl) (by kernel_rfl) (by rfl) (fun _ _ _ h => h) hS6 ?_ ?_
            rotate_left
            · (intro w hSw; go_simp; first | done | with_reducible rfl)
            simp only [Act.put, List.setIfInBounds_toArray, List.set_cons_zero, List.set_cons_succ]
            refine wpAnyH_done (by kernel_rfl) ?_ _
            have HE : Hid (De X2 w W5 w6 a1 c1 E1) := HI.out.2.2.1.more hS6
            obtain ⟨k0, k1, k2, k3, k4, k5⟩ := HX.out w6 hS6
            have hl40 : l1 ≤ 40 := by have := HL.out.2; omega
            clear hS hS6 HC HX HI
            go_wp2_with (first
              | (at_builtin; refine wpList_append_R edE _ rfl _ _ 192 rfl 236 _ 16 Tryz.underlying192 Wai.info29 rfl (L := E1) (M := [(y.c, h)]) (n := l1) (m := 1) rfl rfl ((HE.out.more ((Below.refl _ _).alloc (Nat.le_refl _) _)).own) (RdR.built edE w6 236 #[.int .i64 y.c, .int .i64 h] [(y.c, h)] rfl 1 rfl (by unfold maxLen; omega)) HL.out.1 rfl (by omega) (by unfold maxLen; omega) ?_; intro a2 c2 w8 ho8 hg8 hl8)
              | fail)
            have HE8 : Hid (De X2 w W5 w8 a2 c2 (E1 ++ [(y.c, h)])) := HE.out.app ((Below.refl _ _).alloc (Nat.le_refl _) _) hg8 ho8 hl8
            clear k0 k1 k2 k3 k4 k5 ho8 hg8 hl8 HE
            go_roundw
            case rel => exact ⟨j + 1, a2, c2, l1 + 1, E1 ++ [(y.c, h)], by omega, by go_num, rfl, ⟨by rw [List.length_append, HL.out.1]; rfl, by have := HL.out.2; omega, HE8.out, HS2.out⟩⟩
            case measure => simp [intOf]; omega
        · obtain rfl : j = hl := by omega
          have e1' : decide ((j : Int) < j) = false := by simp
          have HS : Hid (E1 ++ (aEd y (ahead S.L y) ++ edgL S (S.L.drop (k + 1))) = edg S) := by
            have := HI.out.2.2.2
            rw [List.drop_eq_nil_of_le (by have := HHl.out; omega)] at this
            exact this
          have HL1 : Hid (E1.length = l1 ∧ l1 ≤ 8 * k + 4) := ⟨HI.out.1, by have := HI.out.2.1; omega⟩
          have HB6 : Hid (De X w W wi a1 c1 E1) := HE5.out.back HI.out.2.2.1 HX2.out.1
          have HX : Hid (∀ U : World, Below wi.heap.size wi U → Bx d g q b y U) := fun U hU => (HD.out.below (below_step HI.out.2.2.1.bel hU)).bx ((hU.block b (Nat.lt_of_lt_of_le HW5.out.2.2.2.2 HI.out.2.2.1.sz)).trans ((HI.out.2.2.1.keep b HX2.out.2.1).trans HW5.out.2.2.2.1))
          obtain ⟨al, hal⟩ : ∃ al, (ahead S.L y).length = al := ⟨_, rfl⟩
          have hal4 : al ≤ 4 := by have := ah_le S.L y; have := HB.out.1; omega
          have HAl : Hid ((ahead S.L y).length = al) := hal
          have HC : Hid (∀ U : World, Below wi.heap.size wi U → Calls Tryz.prog 147 #[qp q, .agg #[.int .i64 y.c, .int .i64 y.p, .int .i64 y.o, .bool y.wr]] U fun e w' => ∃ aa ca, e = .returned (.slice aa al ca) ∧ Below wi.heap.size wi w' ∧ Hid (RdI w' .i64 aa ca (ahead S.L y) ∧ ∀ z, aa = some z → wi.heap.size ≤ z.block ∧ z.block < w'.heap.size)) := fun U hU => by
            refine (aheadK (HD.out.below (below_step HI.out.2.2.1.bel hU)) y).mono ?_
            rintro e w' ⟨aa, ca, rfl, h2, h3⟩
            refine ⟨aa, ca, by rw [← hal], below_step hU h3, h2.rd, fun z hz => ?_⟩
            have := h2.blk z hz
            have := hU.size
            omega
          have HI2 : Hid (De X2 w W5 wi a1 c1 E1) := HI.out.2.2.1
          clear hal HI
          go_upto_region 12 with fail
          refine wp_region_held (S := fun U => Below wi.heap.size wi U) (by kernel_rfl) ?_
          have hS : Below wi.heap.size wi wi.drew := bel0 wi
          refine held_val (i := 0) ?_ 49 rfl rfl (by kernel_rfl) (by kernel_rfl) (by kernel_rfl) (by rfl) (fun _ _ _ h => h) hS ?_ ?_
          rotate_left
          · (intro w hSw; go_simp; first | done | with_reducible rfl)
          simp only [Act.put, List.setIfInBounds_toArray, List.set_cons_zero, List.set_cons_succ]
          refine held_val (i := 1) ?_ 50 rfl rfl (by kernel_rfl) (by kernel_rfl) (by kernel_rfl) (by rfl) (fun _ _ _ h => h) hS ?_ ?_
          rotate_left
          · (intro w hSw; go_simp; first | done | with_reducible rfl)
          simp only [Act.put, List.setIfInBounds_toArray, List.set_cons_zero, List.set_cons_succ]
          refine held_val (i := 2) ?_ 51 rfl rfl (by kernel_rfl) (by kernel_rfl) (by kernel_rfl) (by rfl) (fun _ _ _ h => h) hS ?_ ?_
          rotate_left
          · (intro w hSw; go_simp; first | done | with_reducible rfl)
          simp only [Act.put, List.setIfInBounds_toArray, List.set_cons_zero, List.set_cons_succ]
          refine held_val (i := 3) ?_ 52 rfl rfl (by kernel_rfl) (by kernel_rfl) (by kernel_rfl) (by rfl) (fun _ _ _ h => h) hS ?_ ?_
          rotate_left
          · (intro w hSw; obtain ⟨k0, k1, k2, k3, k4, k5⟩ := HX.out w hSw; go_simp; first | done | with_reducible rfl)
          simp only [Act.put, List.setIfInBounds_toArray, List.set_cons_zero, List.set_cons_succ]
          refine held_val (i := 4) ?_ 53 rfl rfl (by kernel_rfl) (by kernel_rfl) (by kernel_rfl) (by rfl) (fun _ _ _ h => h) hS ?_ ?_
          rotate_left
          · (intro w hSw; obtain ⟨k0, k1, k2, k3, k4, k5⟩ := HX.out w hSw; go_simp; first | done | with_reducible rfl)
          simp only [Act.put, List.setIfInBounds_toArray, List.set_cons_zero, List.set_cons_succ]
          refine held_val (i := 7) ?_ 56 rfl rfl (by kernel_rfl) (by kernel_rfl) (by kernel_rfl) (by rfl) (fun _ _ _ h => h) hS ?_ ?_
          rotate_left
          · (intro w hSw; go_simp; first | done | with_reducible rfl)
          simp only [Act.put, List.setIfInBounds_toArray, List.set_cons_zero, List.set_cons_succ]
          refine held_call (i := 5) 54 147 #[qp q, .agg #[.int .i64 y.c, .int .i64 y.p, .int .i64 y.o, .bool y.wr]] rfl rfl (by kernel_rfl) (by rfl) (by simp [go_sem]) (HC.out _ hS) ?_
          rintro e w5 ⟨aa, ca, rfl, hS5, HR5⟩
          refine ⟨_, rfl, hS5, ?_⟩
          have hS5 := hS5
          simp only [Act.put, List.setIfInBounds_toArray, List.set_cons_zero, List.set_cons_succ]
          refine held_val (i := 6) ?_ 55 rfl rfl (by kernel_rfl) (by kernel_rfl) (by kernel_rfl) (by rfl) (fun _ _ _ h => h) hS5 ?_ ?_
          rotate_left
          · (intro w hSw; go_simp; first | done | with_reducible rfl)
          simp only [Act.put, List.setIfInBounds_toArray, List.set_cons_zero, List.set_cons_succ]
          refine wpAnyH_done (by kernel_rfl) ?_ _
          obtain ⟨X3, hX3⟩ : ∃ X3 : Nat → Prop, X3 = fun j => X j ∨ j = b ∨ ∃ z, aa = some z ∧ j = z.block := ⟨_, rfl⟩
          have HX3 : Hid ((∀ j, X j → X3 j) ∧ X3 b ∧ ∀ z, aa = some z → X3 z.block) := by subst hX3; exact ⟨fun j h => .inl h, .inr (.inl rfl), fun z hz => .inr (.inr ⟨z, hz, rfl⟩)⟩
          have HE6 : Hid (De X w W w5 a1 c1 E1 ∧ w5.heap[b]? = some (wtO y) ∧ b < w5.heap.size) := ⟨HB6.out.more hS5, ((hS5.block b (Nat.lt_of_lt_of_le HW5.out.2.2.2.2 HI2.out.sz)).trans ((HI2.out.keep b HX2.out.2.1).trans HW5.out.2.2.2.1)), by have := HW5.out.2.2.2.2; have := HI2.out.sz; have := hS5.size; omega⟩
          have HF6 : Hid (De X3 w w5 w5 a1 c1 E1) := by
            refine HE6.out.1.rebase fun j hj => ?_
            have hal : ∀ y, a1 = some y → y.block < wi.heap.size := fun y hy => (HB6.out.own.lt y hy).1
            subst hX3
            rcases hj with h | h | ⟨z, hz, h⟩
            · exact ⟨Nat.lt_of_lt_of_le (HXX.out.2 j h) HE6.out.1.sz, fun y hy e => HB6.out.nx y hy (e ▸ h)⟩
            · subst h
              exact ⟨HE6.out.2.2, fun y hy e => HI2.out.nx y hy (e ▸ HX2.out.2.1)⟩
            · subst h
              have h2 := HR5.out.2 z hz
              exact ⟨h2.2, fun y hy e => by have := hal y hy; omega⟩
          clear hX3 hS hS5 HC HX HI2
          go_wp2
          go_loopw [3, 56] (fun v i wi => ∃ (j : Nat) (a : Option Addr) (c l : Nat) (E : List (Int × Int)), j ≤ al ∧ i = .int .i64 j ∧ v = .slice a l c ∧ Hid (E.length = l ∧ l ≤ 8 * k + 4 + j ∧ De X3 w w5 wi a c E ∧ E ++ (aEd y ((ahead S.L y).drop j) ++ edgL S (S.L.drop (k + 1))) = edg S)) (fun _ i _ => al - (intOf i).toNat)
          case atStart => exact ⟨0, a1, c1, l1, E1, Nat.zero_le _, rfl, rfl, ⟨HL1.out.1, HL1.out.2, HF6.out, HS.out⟩⟩
          case round =>
            clear HF6 HL1 HS HB6
            obtain ⟨t, a2, c2, l2, E2, ht, rfl, rfl, HI⟩ := hrel
            rename World => wj
            by_cases hlt2 : t < al
            · have htl : t < (ahead S.L y).length := by have := HAl.out; omega
              have hrd : RdI wj .i64 aa ca (ahead S.L y) := RdS.keep HR5.out.1 HI.out.2.2.1.sz fun z hz => HI.out.2.2.1.keep z.block (HX3.out.2.2 z hz)
              obtain ⟨bk2, off2, rfl, -, hcc⟩ := hrd.at htl
              have z0 := hcc t htl
              have HS2 : Hid ((E2 ++ [(y.c, (ahead S.L y)[t])]) ++ (aEd y ((ahead S.L y).drop (t + 1)) ++ edgL S (S.L.drop (k + 1))) = edg S) := by
                have hh : (E2 ++ [(y.c, (ahead S.L y)[t])]) ++ (aEd y ((ahead S.L y).drop (t + 1)) ++ edgL S (S.L.drop (k + 1))) = edg S := by
                  have := HI.out.2.2.2
                  rw [aEd_step y _ htl] at this
                  simpa using this
                exact hh
              clear hcc hrd
              generalize (ahead S.L y)[t] = h at *
              have e2' : decide ((t : Int) < al) = true := by simp; omega
              obtain ⟨k0, k1, k2, k3, k4, k5⟩ : Bx d g q b y wj := (HD.out.below HI.out.2.2.1.bel).bx ((HI.out.2.2.1.keep b HX3.out.2.1).trans HE6.out.2.1)
              have HL : Hid (E2.length = l2 ∧ l2 ≤ 8 * k + 4 + t) := ⟨HI.out.1, HI.out.2.1⟩
              have hl40 : l2 ≤ 40 := by have := HL.out.2; omega
              have HE : Hid (De X3 w w5 wj a2 c2 E2) := HI.out.2.2.1
              clear HI
              go_wp2_with (first
                | (at_builtin; refine wpList_append_R edE _ rfl _ _ 192 rfl 236 _ 16 Tryz.underlying192 Wai.info29 rfl (L := E2) (M := [(y.c, h)]) (n := l2) (m := 1) rfl rfl ((HE.out.more ((Below.refl _ _).alloc (Nat.le_refl _) _)).own) (RdR.built edE wj 236 #[.int .i64 y.c, .int .i64 h] [(y.c, h)] rfl 1 rfl (by unfold maxLen; omega)) HL.out.1 rfl (by omega) (by unfold maxLen; omega) ?_; intro a3 c3 w8 ho8 hg8 hl8)
                | fail)
              have HE8 : Hid (De X3 w w5 w8 a3 c3 (E2 ++ [(y.c, h)])) := HE.out.app ((Below.refl _ _).alloc (Nat.le_refl _) _) hg8 ho8 hl8
              clear k0 k1 k2 k3 k4 k5 ho8 hg8 hl8 HE
              go_roundw
              case rel => exact ⟨t + 1, a3, c3, l2 + 1, E2 ++ [(y.c, h)], by omega, by go_num, rfl, ⟨by rw [List.length_append, HL.out.1]; rfl, by have := HL.out.2; omega, HE8.out, HS2.out⟩⟩
              case measure => simp [intOf]; omega
            · obtain rfl : t = al := by omega
              have e2' : decide ((t : Int) < t) = false := by simp
              have HS : Hid (E2 ++ edgL S (S.L.drop (k + 1)) = edg S) := by
                have := HI.out.2.2.2
                rw [List.drop_eq_nil_of_le (by have := HAl.out; omega)] at this
                exact this
              have HE : Hid (De X w W wj a2 c2 E2 ∧ E2.length = l2 ∧ l2 ≤ 8 * (k + 1)) := ⟨HE6.out.1.back HI.out.2.2.1 HX3.out.1, HI.out.1, by have := HI.out.2.1; omega⟩
              clear HI
              go_wp2
              go_roundw
              case rel => exact ⟨k + 1, a2, c2, l2, E2, by omega, by go_num, rfl, ⟨HE.out.2.1, HE.out.2.2, HE.out.1, HS.out⟩⟩
              case measure => simp [intOf]; omega
    · obtain rfl : k = m := by omega
      have e0' : decide ((k : Int) < k) = false := by simp
      have HF : Hid (E = edg S) := by
        have hh : E = edg S := by
          have := HI.out.2.2.2
          rw [List.drop_eq_nil_of_le (by have := HB.out.1; omega)] at this
          simpa [edgL] using this
        exact hh
      have HE : Hid (RdR edC wr a c E ∧ E.length = l ∧ Below w.heap.size w wr) := ⟨HI.out.2.2.1.own.rd, HI.out.1, HI.out.2.2.1.bel⟩
      clear HI
      go_wp2
      go_ret
      refine ⟨a, c, ?_, ?_, HE.out.2.2⟩
      · rw [← HF.out, HE.out.2.1]; rfl
      · rw [← HF.out]; exact HE.out.1

end Go.Proofs.YtpofihiojhbfgaaGreatDoor.Dsk

namespace Go.Proofs.YtpofihiojhbfgaaGreatDoor.Dsk
open Go.RowKit Go.Maps
set_option linter.unusedVariables false
set_option maxRecDepth 8000

theorem pass_mem (S : St) : ∀ (M : List Wt) (s s' : List Ck × List Sa) (x : Wt), pass S M s = (s', some x) → x ∈ M
  | [], s, s', x, h => by simp [pass] at h
  | y :: M, s, s', x, h => by
    unfold pass at h
    split at h
    · exact List.mem_cons_of_mem _ (pass_mem S M _ _ x h)
    · split at h
      · simp only [Prod.mk.injEq, Option.some.injEq] at h
        rw [h.2]
        exact List.mem_cons_self ..
      · exact List.mem_cons_of_mem _ (pass_mem S M _ _ x h)
theorem rm_len {L : List Wt} {c : Int} (h : hasB L c = true) : (rmL L c).length + 1 = L.length := by
  unfold hasB at h
  simp only [decide_eq_true_eq] at h
  unfold rmL
  rw [List.length_eraseIdx_of_lt h]
  omega
theorem pas_yes {S : St} (h : (pas S).2.2 = true) : (pas S).1.L.length + 1 = S.L.length := by
  unfold pas at h ⊢
  cases e : pass S S.L (S.K, []) with
  | mk s o =>
    rw [e] at h
    cases o with
    | none => cases h
    | some x =>
      have hm := pass_mem S _ _ _ _ e
      exact rm_len (hasB_true.2 ⟨x, hm, rfl⟩)
theorem pas_no {S : St} (h : (pas S).2.2 = false) : (pas S).1.L = S.L := by
  unfold pas at h ⊢
  cases e : pass S S.L (S.K, []) with
  | mk s o =>
    rw [e] at h
    cases o with
    | none => rfl
    | some x => cases h
theorem serv_yes {S : St} (h : (pas S).2.2 = true) : serv (S.L.length + 1) S = ((serv ((pas S).1.L.length + 1) (pas S).1).1, (pas S).2.1 ++ (serv ((pas S).1.L.length + 1) (pas S).1).2) := by
  rw [pas_yes h]
  conv => lhs; unfold serv
  rw [if_pos h]
theorem serv_no {S : St} (h : (pas S).2.2 = false) (n : Nat) : serv (n + 1) S = ((pas S).1, (pas S).2.1) := by
  unfold serv
  rw [if_neg (by rw [h]; simp)]

theorem edgL_from (S : St) : ∀ (M : List Wt) (e : Int × Int), e ∈ edgL S M → ∃ y ∈ M, e.1 = y.c
  | [], e, h => by simp [edgL] at h
  | y :: M, e, h => by
    unfold edgL at h
    rcases List.mem_append.1 h with h | h
    · unfold hEd at h
      obtain ⟨z, _, rfl⟩ := List.mem_map.1 h
      exact ⟨y, List.mem_cons_self .., rfl⟩
    · rcases List.mem_append.1 h with h | h
      · unfold aEd at h
        obtain ⟨z, _, rfl⟩ := List.mem_map.1 h
        exact ⟨y, List.mem_cons_self .., rfl⟩
      · obtain ⟨z, hz, e2⟩ := edgL_from S M e h
        exact ⟨z, List.mem_cons_of_mem _ hz, e2⟩
theorem vc_has {S : St} (h : Wai.vcB (edg S) = true) : hasB S.L (Wai.vcI (edg S)) = true := by
  have key : ∀ m : Nat, Wai.rB (edg S) m m = true → hasB S.L (m : Int) = true := by
    intro m hm
    obtain ⟨j, hj⟩ := Wai.r_first hm
    obtain ⟨_, _, hmem⟩ := (Wai.ad_iff _ _ _).1 hj
    obtain ⟨y, hy, e⟩ := edgL_from S S.L _ hmem
    exact hasB_true.2 ⟨y, hy, e.symm⟩
  unfold Wai.vcB at h
  unfold Wai.vcI
  cases h3 : Wai.rB (edg S) 3 3
  · cases h2 : Wai.rB (edg S) 2 2
    · cases h1 : Wai.rB (edg S) 1 1
      · cases h0 : Wai.rB (edg S) 0 0
        · rw [h3, h2, h1, h0] at h; cases h
        · exact key 0 h0
      · exact key 1 h1
    · exact key 2 h2
  · exact key 3 h3

theorem serv_le : ∀ (n : Nat) (S : St), (serv n S).1.L.length ≤ S.L.length
  | 0, S => Nat.le_refl _
  | n + 1, S => by
    cases h : (pas S).2.2
    · rw [serv_no h]
      show (pas S).1.L.length ≤ _
      rw [pas_no h]
      exact Nat.le_refl _
    · unfold serv
      rw [if_pos h]
      have h1 := serv_le n (pas S).1
      have h2 := pas_yes h
      show (serv n (pas S).1).1.L.length ≤ _
      omega
theorem brk_fuel : ∀ (m : Nat) (S : St) (n : Nat), S.L.length ≤ m → S.L.length + 1 ≤ n → brk n S = brk (S.L.length + 1) S
  | m, S, 0, hm, hn => absurd hn (by omega)
  | m, S, n + 1, hm, hn => by
    cases h : Wai.vcB (edg S)
    · unfold brk
      rw [if_neg (by rw [h]; simp), if_neg (by rw [h]; simp)]
    · have h1 := rm_len (vc_has h)
      have h2 : (outS S (Wai.vcI (edg S))).L.length + 1 = S.L.length := h1
      have h3 := serv_le ((outS S (Wai.vcI (edg S))).L.length + 1) (outS S (Wai.vcI (edg S)))
      match m with
      | 0 => omega
      | m + 1 =>
        have e1 := brk_fuel m (serv ((outS S (Wai.vcI (edg S))).L.length + 1) (outS S (Wai.vcI (edg S)))).1 n (by omega) (by omega)
        have e2 := brk_fuel m (serv ((outS S (Wai.vcI (edg S))).L.length + 1) (outS S (Wai.vcI (edg S)))).1 S.L.length (by omega) (by omega)
        conv => lhs; unfold brk
        conv => rhs; unfold brk
        rw [if_pos h, if_pos h, e1, e2]

def lenQ (q : Nat) (w : World) : Nat := match w.cell? ⟨q, 0, none⟩ with | some (.slice _ n _) => n | _ => 0
theorem Dk.lenQ {B : Nat} {V : Nat → Prop} {W : World} {d g q : Nat} {S : St} {n : Nat} (h : Dk B V W d g q S n) : lenQ q W = S.L.length := by
  obtain ⟨C, ⟨ao, cap, b, hq⟩, _⟩ := h.qw
  unfold Dsk.lenQ
  rw [hq.c0]

def msQ (q : Nat) (b : Value) (w : World) : Nat := match b with | .bool true => lenQ q w + 1 | _ => 0

set_option maxHeartbeats 6400000 in
theorem serve_any {B : Nat} {V : Nat → Prop} {w : World} {d g q : Nat} {S : St} {n : Nat} (H : Dk B V w d g q S n) (hV : ∀ k, V k → k < w.heap.size) (hn : n ≤ 700000) : Calls Tryz.prog 110 #[dp d] w fun e w' => ∃ a c, e = .returned (.slice a (serv (S.L.length + 1) S).2.length c) ∧ Dr B V w w' d g q (serv (S.L.length + 1) S).1 (n + 100) a c (serv (S.L.length + 1) S).2 ∧ (serv (S.L.length + 1) S).2.length ≤ 85 ∧ (serv (S.L.length + 1) S).1.L.length ≤ S.L.length := by
  have HD : Hid (Dk B V w d g q S n ∧ ∀ k, V k → k < w.heap.size) := ⟨H, hV⟩
  have hm4 : S.L.length ≤ 4 := H.len
  have HM : Hid (S.L.length ≤ 4) := hm4
  clear H hV
  go_enter Tryz.func110, Tryz.ntmps110
  go_wp2
  go_loopw [3, 4] (fun v b wr => ∃ (u : Bool) (a : Option Addr) (c l n' : Nat) (A : List Sa) (S' : St), b = .bool u ∧ v = .slice a l c ∧ Hid (A.length = l ∧ S'.L.length ≤ S.L.length ∧ l + 17 * (if u then S'.L.length + 1 else 0) ≤ 17 * (S.L.length + 1) ∧ n' + 20 * (if u then S'.L.length + 1 else 0) ≤ n + 20 * (S.L.length + 1) ∧ Dr B V w wr d g q S' n' a c A ∧ (u = true → serv (S.L.length + 1) S = ((serv (S'.L.length + 1) S').1, A ++ (serv (S'.L.length + 1) S').2)) ∧ (u = false → serv (S.L.length + 1) S = (S', A)))) (fun _ b wr => msQ q b wr)
  case atStart => exact ⟨true, none, 0, 0, n, [], S, rfl, rfl, ⟨rfl, Nat.le_refl _, by simp, by simp, HD.out.1.dr HD.out.2 (Below.refl _ _), fun _ => rfl, fun h => by cases h⟩⟩
  case round =>
    obtain ⟨u, a, c, l, n', A, S', rfl, rfl, HI⟩ := hrel
    rename World => wr
    cases u
    · have HF : Hid (serv (S.L.length + 1) S = (S', A)) := HI.out.2.2.2.2.2.2 rfl
      have HE : Hid (Dr B V w wr d g q S' (n + 100) a c A ∧ A.length = l ∧ l ≤ 85 ∧ S'.L.length ≤ S.L.length) := by
        have h1 := HI.out.2.2.1
        have h2 := HI.out.2.2.2.1
        have h4 := HM.out
        simp only [Bool.false_eq_true, if_false] at h1 h2
        exact ⟨HI.out.2.2.2.2.1.le (by omega), HI.out.1, by omega, HI.out.2.1⟩
      clear HI
      go_wp2
      go_ret
      refine ⟨a, c, ?_, ?_, ?_, ?_⟩
      · rw [HF.out, HE.out.2.1]; rfl
      · rw [HF.out]; exact HE.out.1
      · rw [HF.out, HE.out.2.1]; exact HE.out.2.2.1
      · rw [HF.out]; exact HE.out.2.2.2
    · have HL : Hid (A.length = l ∧ l ≤ 85 ∧ l + 17 * (S'.L.length + 1) ≤ 17 * (S.L.length + 1) ∧ n' + 20 * (S'.L.length + 1) ≤ n + 20 * (S.L.length + 1) ∧ S'.L.length ≤ S.L.length) := by
        have h1 := HI.out.2.2.1
        have h2 := HI.out.2.2.2.1
        have h4 := HM.out
        simp only [if_true] at h1 h2
        exact ⟨HI.out.1, by omega, h1, h2, HI.out.2.1⟩
      have hl85 : l ≤ 85 := HL.out.2.1
      have HC : Hid (Calls Tryz.prog 140 #[dp d] wr fun e w' => ∃ a3 c3 l3 u3, e = .returned (.tuple #[.slice a3 l3 c3, .bool u3]) ∧ Hid (Dr B V w w' d g q (pas S').1 (n' + 20) a c A ∧ RdR saC w' a3 c3 (pas S').2.1 ∧ (pas S').2.1.length = l3 ∧ (pas S').2.2 = u3) ∧ l3 ≤ 17) := by
        have hd := HI.out.2.2.2.2.1
        refine (serveOne_any hd.dk (hd.lt HD.out.2) (by have := HL.out; have := HM.out; omega)).mono ?_
        rintro e w' ⟨a3, c3, rfl, h3, h4⟩
        exact ⟨a3, c3, _, _, rfl, ⟨hd.step h3.dx, h3.own.rd, rfl, rfl⟩, h4⟩
      have HQ : Hid (lenQ q wr = S'.L.length) := HI.out.2.2.2.2.1.dk.lenQ
      have HS : Hid (serv (S.L.length + 1) S = ((serv (S'.L.length + 1) S').1, A ++ (serv (S'.L.length + 1) S').2)) := HI.out.2.2.2.2.2.1 rfl
      clear HI
      go_wp2_with (first
        | (go_at_call 140; refine HC.out.mono ?_; rintro e w5 ⟨a3, c3, l3, u3, rfl, HD5, hl3⟩)
        | (at_builtin; refine wpList_append_R saE _ rfl _ _ 102 rfl 151 _ 152 Tryz.underlying102 info34 rfl (L := A) (M := (pas S').2.1) (n := l) (m := l3) rfl rfl HD5.out.1.own HD5.out.2.1 HL.out.1 HD5.out.2.2.1 (by omega) (by unfold maxLen; omega) ?_; intro a2 c2 w8 ho8 hg8 hl8)
        | fail)
      have HD8 : Hid (Dr B V w w8 d g q (pas S').1 (n' + 20) a2 c2 (A ++ (pas S').2.1)) := HD5.out.1.app HD.out.2 (Below.refl _ _) hg8 ho8 hl8
      have HL8 : Hid ((A ++ (pas S').2.1).length = l + l3) := by show _ = _; rw [List.length_append, HL.out.1, HD5.out.2.2.1]
      clear ho8 hg8 hl8 HC
      go_roundw
      case rel =>
        refine ⟨u3, a2, c2, l + l3, n' + 20, _, (pas S').1, rfl, rfl, ⟨HL8.out, ?_, ?_, ?_, HD8.out, ?_, ?_⟩⟩
        · cases u3
          · rw [pas_no HD5.out.2.2.2]; exact HL.out.2.2.2.2
          · have := pas_yes HD5.out.2.2.2; have := HL.out; omega
        · cases u3
          · have := HL.out; simp only [Bool.false_eq_true, if_false]; omega
          · have := pas_yes HD5.out.2.2.2; have := HL.out; simp only [if_true]; omega
        · cases u3
          · have := HL.out; simp only [Bool.false_eq_true, if_false]; omega
          · have := pas_yes HD5.out.2.2.2; have := HL.out; simp only [if_true]; omega
        · rintro rfl
          rw [HS.out, serv_yes HD5.out.2.2.2]
          simp only [List.append_assoc]
        · rintro rfl
          rw [HS.out, serv_no HD5.out.2.2.2]
      case measure =>
        cases u3
        · show 0 < lenQ q wr + 1
          omega
        · have h1 := HD8.out.dk.lenQ
          have h2 := pas_yes HD5.out.2.2.2
          have h3 := HQ.out
          show lenQ q w8 + 1 < lenQ q wr + 1
          omega

set_option maxHeartbeats 12800000 in
theorem settle_any {B : Nat} {V : Nat → Prop} {w : World} {d g q : Nat} {S : St} {n : Nat} (H : Dk B V w d g q S n) (hV : ∀ k, V k → k < w.heap.size) (hn : n ≤ 600000) (hT : Wai.Tz w) (hB2 : 2 < B) : Calls Tryz.prog 72 #[dp d] w fun e w' => ∃ a c, e = .returned (.slice a (setl S).2.length c) ∧ Dr B V w w' d g q (setl S).1 (n + 600) a c (setl S).2 := by
  have HD : Hid (Dk B V w d g q S n ∧ (∀ k, V k → k < w.heap.size) ∧ Wai.Tz w ∧ 2 < B) := ⟨H, hV, hT, hB2⟩
  have hm4 : S.L.length ≤ 4 := H.len
  have HSv : Hid (Calls Tryz.prog 110 #[dp d] w fun e w' => ∃ a c l, e = .returned (.slice a l c) ∧ Hid (Dr B V w w' d g q (serv (S.L.length + 1) S).1 (n + 100) a c (serv (S.L.length + 1) S).2 ∧ (serv (S.L.length + 1) S).2.length = l ∧ l ≤ 85 ∧ (serv (S.L.length + 1) S).1.L.length ≤ S.L.length)) := by
    refine (serve_any H hV (by omega)).mono ?_
    rintro e w' ⟨a, c, rfl, h1, h2, h3⟩
    exact ⟨a, c, _, rfl, ⟨h1, rfl, h2, h3⟩⟩
  have HM : Hid (S.L.length ≤ 4) := hm4
  clear H hV hT
  go_enter Tryz.func72, Tryz.ntmps72
  go_wp2_with (first
    | (go_at_call 110; refine HSv.out.mono ?_; rintro e W0 ⟨a0, c0, l0, rfl, HW0⟩)
    | fail)
  clear HSv
  go_loopw [3] (fun v wr => ∃ (a : Option Addr) (c l n' : Nat) (A : List Sa) (S' : St), v = .slice a l c ∧ Hid (A.length = l ∧ S'.L.length ≤ 4 ∧ l + 90 * S'.L.length ≤ 450 ∧ n' + 100 * S'.L.length ≤ n + 500 ∧ Dr B V w wr d g q S' n' a c A ∧ setl S = ((brk (S'.L.length + 1) S').1, A ++ (brk (S'.L.length + 1) S').2))) (fun _ wr => lenQ q wr)
  case atStart => exact ⟨a0, c0, l0, n + 100, _, _, rfl, ⟨HW0.out.2.1, by have := HW0.out.2.2.2; have := HM.out; omega, by have := HW0.out.2.2; have := HM.out; omega, by have := HW0.out.2.2; have := HM.out; omega, HW0.out.1, rfl⟩⟩
  case round =>
    clear HW0
    obtain ⟨a, c, l, n', A, S', rfl, HI⟩ := hrel
    rename World => wr
    obtain ⟨v, hv⟩ : ∃ v, Wai.vcI (edg S') = v := ⟨_, rfl⟩
    obtain ⟨vb, hvb⟩ : ∃ vb, Wai.vcB (edg S') = vb := ⟨_, rfl⟩
    obtain ⟨el, hel⟩ : ∃ el, (edg S').length = el := ⟨_, rfl⟩
    have HC : Hid (Calls Tryz.prog 112 #[dp d] wr fun e w' => ∃ ae ce, e = .returned (.slice ae el ce) ∧ Hid (Calls Tryz.prog 111 #[.slice ae el ce] w' fun e w2 => e = .returned (.tuple #[.int .i64 v, .bool vb]) ∧ Hid (Below wr.heap.size wr w2))) := by
      refine (edges_any HI.out.2.2.2.2.1.dk).mono ?_
      rintro e w' ⟨ae, ce, rfl, h1, h2⟩
      refine ⟨ae, ce, by rw [hel], ?_⟩
      have htz : Wai.Tz w' := (HD.out.2.2.1.below HD.out.2.2.2 HI.out.2.2.2.2.1.bel).on h2
      refine (Wai.victim_any w' ae el ce (edg S') h1.rdE hel htz).mono ?_
      rw [hv, hvb]
      rintro e w2 ⟨rfl, h3⟩
      exact ⟨rfl, below_step h2 h3⟩
    have HV : Hid (Wai.vcI (edg S') = v ∧ Wai.vcB (edg S') = vb) := ⟨hv, hvb⟩
    clear hv hvb hel
    cases vb
    · have HF : Hid (setl S = (S', A)) := by
        have h := HI.out.2.2.2.2.2
        have hb : brk (S'.L.length + 1) S' = (S', []) := by
          unfold brk
          rw [if_neg (by rw [HV.out.2]; simp)]
        rw [hb, List.append_nil] at h
        exact h
      have HL : Hid (A.length = l) := HI.out.1
      have HE : Hid (∀ w6, Below wr.heap.size wr w6 → Dr B V w w6 d g q S' (n + 600) a c A) := fun w6 h => (HI.out.2.2.2.2.1.more HD.out.2.1 h).le (by have := HI.out.2.2.2.1; omega)
      clear HI
      go_wp2_with (first
        | (go_at_call 112; refine HC.out.mono ?_; rintro e w5 ⟨ae, ce, rfl, HC2⟩)
        | (go_at_call 111; refine HC2.out.mono ?_; rintro e w6 ⟨rfl, HB6⟩)
        | fail)
      go_ret
      refine ⟨a, c, ?_, ?_⟩
      · rw [HF.out, HL.out]; rfl
      · rw [HF.out]; exact HE.out w6 HB6.out
    · have HHas : Hid (hasB S'.L v = true) := by have := vc_has HV.out.2; rw [HV.out.1] at this; exact this
      have HS : Hid (setl S = ((brk (outS S' v).L.length.succ (serv ((outS S' v).L.length + 1) (outS S' v)).1).1, A ++ (faiA v :: ((serv ((outS S' v).L.length + 1) (outS S' v)).2 ++ (brk (outS S' v).L.length.succ (serv ((outS S' v).L.length + 1) (outS S' v)).1).2)))) := by
        have h := HI.out.2.2.2.2.2
        have hb : brk (S'.L.length + 1) S' = ((brk S'.L.length (serv ((outS S' v).L.length + 1) (outS S' v)).1).1, faiA v :: ((serv ((outS S' v).L.length + 1) (outS S' v)).2 ++ (brk S'.L.length (serv ((outS S' v).L.length + 1) (outS S' v)).1).2)) := by
          conv => lhs; unfold brk
          rw [if_pos HV.out.2, HV.out.1]
        have hlen : (outS S' v).L.length.succ = S'.L.length := rm_len HHas.out
        rw [hlen]
        rw [hb] at h
        exact h
      have HL : Hid (A.length = l ∧ l + 90 * S'.L.length ≤ 450 ∧ n' + 100 * S'.L.length ≤ n + 500 ∧ S'.L.length ≤ 4 ∧ 1 ≤ S'.L.length) := ⟨HI.out.1, HI.out.2.2.1, HI.out.2.2.2.1, HI.out.2.1, by have := rm_len HHas.out; omega⟩
      have hl450 : l ≤ 450 := by have := HL.out.2.1; omega
      have HD5 : Hid (∀ w6, Below wr.heap.size wr w6 → Dr B V w w6 d g q S' n' a c A ∧ w6.cell? ⟨d, 1, none⟩ = some (qp q)) := fun w6 h => ⟨HI.out.2.2.2.2.1.more HD.out.2.1 h, (HI.out.2.2.2.2.1.more HD.out.2.1 h).dk.c1⟩
      have HQ : Hid (lenQ q wr = S'.L.length) := HI.out.2.2.2.2.1.dk.lenQ
      clear HI
      go_upto_region 5 with (first
        | (go_at_call 112; refine HC.out.mono ?_; rintro e w5 ⟨ae, ce, rfl, HC2⟩)
        | (go_at_call 111; refine HC2.out.mono ?_; rintro e w6 ⟨rfl, HB6⟩)
        | fail)
      have HD6 : Hid (Dr B V w w6 d g q S' n' a c A) := (HD5.out w6 HB6.out).1
      have hc1 := (HD5.out w6 HB6.out).2
      have HR : Hid (Calls Tryz.prog 109 #[qp q, .int .i64 v] w6 fun e w' => (∃ u, e = .returned (.bool u)) ∧ Hid (Dr B V w w' d g q (outS S' v) n' a c A)) := by
        refine (removeK HD6.out.dk (HD6.out.lt HD.out.2.1) v).mono ?_
        rintro e w' ⟨rfl, h⟩
        exact ⟨⟨_, rfl⟩, HD6.out.step h⟩
      clear HC HC2 HB6 HD5 HD6
      go_upto_region 7 with (first
        | (go_at_call 109; refine HR.out.mono ?_; rintro e w7 ⟨⟨u7, rfl⟩, HD7⟩)
        | (at_builtin; refine wpList_append_R saE _ rfl _ _ 102 rfl 151 _ 152 Tryz.underlying102 info34 rfl (L := A) (M := [faiA v]) (n := l) (m := 1) rfl rfl ((HD7.out.more HD.out.2.1 ((Below.refl _ _).alloc (Nat.le_refl _) _)).own) (RdR.built saE w7 151 #[.int .i64 v, .int .i64 8, .int .i64 0, .int .i64 0, .int .i64 0, .int .i64 151, .int .i64 0, .bool false, .slice none 0 0, .complex .f64 0 0, .complex .f64 0 0, .complex .f64 0 0, .complex .f64 0 0] [faiA v] rfl 1 rfl (by unfold maxLen; omega)) HL.out.1 rfl (by omega) (by unfold maxLen; omega) ?_; intro a2 c2 w8 ho8 hg8 hl8)
        | fail)
      have HD8 : Hid (Dr B V w w8 d g q (outS S' v) n' a2 c2 (A ++ [faiA v])) := HD7.out.app HD.out.2.1 ((Below.refl _ _).alloc (Nat.le_refl _) _) hg8 ho8 hl8
      have HL8 : Hid ((A ++ [faiA v]).length = l + 1) := by show _ = _; rw [List.length_append, HL.out.1]; rfl
      have HSv : Hid (Calls Tryz.prog 110 #[dp d] w8 fun e w' => ∃ a3 c3 l3, e = .returned (.slice a3 l3 c3) ∧ Hid (Dr B V w w' d g q (serv ((outS S' v).L.length + 1) (outS S' v)).1 (n' + 100) a2 c2 (A ++ [faiA v]) ∧ RdR saC w' a3 c3 (serv ((outS S' v).L.length + 1) (outS S' v)).2 ∧ (serv ((outS S' v).L.length + 1) (outS S' v)).2.length = l3 ∧ (serv ((outS S' v).L.length + 1) (outS S' v)).1.L.length ≤ (outS S' v).L.length) ∧ l3 ≤ 85) := by
        refine (serve_any HD8.out.dk (HD8.out.lt HD.out.2.1) (by have := HL.out; omega)).mono ?_
        rintro e w' ⟨a3, c3, rfl, h1, h2, h3⟩
        exact ⟨a3, c3, _, rfl, ⟨HD8.out.step h1.dx, h1.own.rd, rfl, h3⟩, h2⟩
      clear hc1 HR HD7 ho8 hg8 hl8
      go_wp2_with (first
        | (go_at_call 110; refine HSv.out.mono ?_; rintro e w9 ⟨a3, c3, l3, rfl, HD9, hl3⟩)
        | (at_builtin; refine wpList_append_R saE _ rfl _ _ 102 rfl 151 _ 152 Tryz.underlying102 info34 rfl (L := A ++ [faiA v]) (M := (serv ((outS S' v).L.length + 1) (outS S' v)).2) (n := l + 1) (m := l3) rfl rfl HD9.out.1.own HD9.out.2.1 HL8.out HD9.out.2.2.1 (by omega) (by unfold maxLen; omega) ?_; intro a4 c4 wA hoA hgA hlA)
        | fail)
      have HDA : Hid (Dr B V w wA d g q (serv ((outS S' v).L.length + 1) (outS S' v)).1 (n' + 100) a4 c4 ((A ++ [faiA v]) ++ (serv ((outS S' v).L.length + 1) (outS S' v)).2)) := HD9.out.1.app HD.out.2.1 (Below.refl _ _) hgA hoA hlA
      have HLA : Hid (((A ++ [faiA v]) ++ (serv ((outS S' v).L.length + 1) (outS S' v)).2).length = l + 1 + l3) := by show _ = _; rw [List.length_append, HL8.out, HD9.out.2.2.1]
      clear hoA hgA hlA HSv
      have HLe : Hid ((serv ((outS S' v).L.length + 1) (outS S' v)).1.L.length + 1 ≤ S'.L.length) := by
        have h1 := HD9.out.2.2.2
        have h2 : (outS S' v).L.length + 1 = S'.L.length := rm_len HHas.out
        show _ ≤ _
        omega
      go_roundw
      case rel =>
        refine ⟨a4, c4, l + 1 + l3, n' + 100, _, _, rfl, ⟨HLA.out, ?_, ?_, ?_, HDA.out, ?_⟩⟩
        · have := HLe.out; have := HL.out; omega
        · have := HLe.out; have := HL.out; omega
        · have := HLe.out; have := HL.out; omega
        · rw [HS.out]
          have hlen : (outS S' v).L.length.succ = S'.L.length := rm_len HHas.out
          have hfu := brk_fuel _ (serv ((outS S' v).L.length + 1) (outS S' v)).1 (outS S' v).L.length.succ (Nat.le_refl _) (by have := HLe.out; omega)
          rw [hfu]
          simp only [List.append_assoc, List.cons_append, List.nil_append]
      case measure =>
        have h1 := HDA.out.dk.lenQ
        have h2 := HLe.out
        have h3 := HQ.out
        show lenQ q wA < lenQ q wr
        omega

end Go.Proofs.YtpofihiojhbfgaaGreatDoor.Dsk
