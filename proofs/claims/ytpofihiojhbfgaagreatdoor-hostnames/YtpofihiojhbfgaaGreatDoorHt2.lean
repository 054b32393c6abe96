/- ask of package host, walked: a page that is not in a frame; it is granted at once. -/
import Derived.Test.YtpofihiojhbfgaaGreatDoorE3
namespace Go.Proofs.YtpofihiojhbfgaaGreatDoor
open Go.RowKit
set_option linter.unusedVariables false
set_option maxRecDepth 8000

section
variable {P : Program} {ops : Array Oper} {Q : Exit → Act → World → Prop} {md : Region.Mode} {S : World → Prop}
theorem held_pair {i j : Nat} {fuel : Nat} {l : Array Bool} {a : Act} {w : World} (hr : Region.ready md ops l = [i, j])
    (h1 : wpOp P ops Q i (fun a' w' => S w' ∧ wpAnyH P md ops Q S fuel (l.setIfInBounds i true) a' w') a w) (h2 : wpOp P ops Q j (fun a' w' => S w' ∧ wpAnyH P md ops Q S fuel (l.setIfInBounds j true) a' w') a w) : wpAnyH P md ops Q S (fuel + 1) l a w := by
  refine wpAnyH_all hr (by simp) fun k hk => ?_
  have hk' : k = i ∨ k = j := by simpa using hk
  rcases hk' with rfl | rfl
  · exact h1
  · exact h2
theorem op_call {K : Act → World → Prop} {i : Nat} {oi : Oper} (d : Nat) (f : FuncId) (args : Array Value) {a : Act} {w : World} (hi : ops[i]? = some oi) (hd : oi.dst = some d)
    (hw : Region.wanted oi (yielded ops a.tmps) = true) (hrun : (execOp a.eval oi).run P w = .ok (.enter f args) w) {Post : Ending → World → Prop} (hc : Calls P f args w Post)
    (h : ∀ e w', Post e w' → ∃ v, e = .returned v ∧ K (a.put (some d) v) w') : wpOp P ops Q i K a w := by
  unfold Go.wpOp
  simp only [hi, hw, if_true, Oper.wp, hrun, Oper.upon_enter]
  refine .inl (hc.mono fun e w' hp => ?_)
  obtain ⟨v, rfl, h3⟩ := h e w' hp
  exact hd ▸ h3
theorem op_run {K : Act → World → Prop} {i : Nat} {oi : Oper} (d : Nat) (v : Value) {a : Act} {w : World} (w1 : World) (hi : ops[i]? = some oi) (hd : oi.dst = some d)
    (hw : Region.wanted oi (yielded ops a.tmps) = true) (hrun : (execOp a.eval oi).run P w = .ok (.value v) w1) (h : K (a.put (some d) v) w1) : wpOp P ops Q i K a w := by
  unfold Go.wpOp
  simp only [hi, hw, if_true, Oper.wp, hrun, Oper.upon_value]
  exact .inl (hd ▸ h)
end

abbrev pgN : Obj := .cells #[.int .i64 0, .complex .f64 0 0, .complex .f64 0 0, .complex .f64 0 0, .complex .f64 0 0] 53
theorem setRow_off (w : World) (b : Nat) (cs : Array Value) : OffS (fun k => k = b) w (w.setRow b cs) := ⟨rfl, rfl, rfl, by simp [World.setRow], fun k _ hk => setRow_other _ _ _ _ hk⟩
structure Ms (U : World) (h gs d bk : Nat) (M : Mg) (po : Option Addr) (pn pc : Nat) : Prop where
  h2 : U.cell? ⟨h, 2, none⟩ = some (tp gs)
  h3 : U.cell? ⟨h, 3, none⟩ = some (Dsk.dp d)
  m : Msg.MgAt U bk M po pn pc
theorem MgAt.block {w w' : World} {b : Nat} {M : Mg} {po : Option Addr} {pn pc : Nat} (h : Msg.MgAt w b M po pn pc) (hb : w'.heap[b]? = w.heap[b]?) : Msg.MgAt w' b M po pn pc := by
  have c := fun j => World.cell?_of_block (w := w) (w' := w') (a := ⟨b, j, none⟩) hb
  exact ⟨(c _).trans h.c0, (c _).trans h.c1, (c _).trans h.c2, (c _).trans h.c3, (c _).trans h.c4, (c _).trans h.c5, (c _).trans h.c6, (c _).trans h.c7, (c _).trans h.c8, (c _).trans h.c9, (c _).trans h.cA, (c _).trans h.cB, fun j => (World.frozen?_of_block (w := w) hb).trans (h.fz j), World.block_lt_of_cell? w' _ ((c 0).trans h.c0)⟩

set_option maxHeartbeats 6400000 in
theorem ask_grant {w : World} {B : Nat} {V X S Z : Nat → Prop} {h gs d g q : Nat} {s1 ca : Option Addr} {cc : Nat} {G : HoG} (H : Hk w B V X S Z h gs d g q s1 ca cc G) {Tl : List Fr} (hF : G.F = Fr.e :: Tl) (p : Nat) (hp : p < G.L.length) (hbp : G.L[p].b = []) (hT : ∀ y ∈ Tl, y.has (p : Int) = false) {s : Sg} (hs : G.se = some s) (hb : s.out.length ≤ 1000) (hn : G.n ≤ 500000) (mk mo ow : Int) (po : Option Addr) (pn pc : Nat) (S' : Dsk.St)
    (he : Dsk.setl (Dsk.hanS G.T 1 mk (p : Int) mo 0 0 false) = (S', [⟨1, 5, (p : Int), 0, 15, ow, false⟩])) (hip : Dsk.inR (p : Int)) (hio : Dsk.inR mo) (hi1 : Dsk.inR 1) (hM : Msg.rightB (grM (p : Int) ow zO zO zO zO) = true) (hW : Msg.Wd (grM (p : Int) ow zO zO zO zO)) :
    Calls Tryz.prog 87 #[tp h, .int .i64 1, .agg #[.int .i64 mk, .int .i64 (p : Int), .int .i64 mo, .int .i64 0, .int .i64 0, .int .i64 0, .bool false, .slice po pn pc, .complex .f64 0 0, .complex .f64 0 0, .complex .f64 0 0, .complex .f64 0 0]] w fun e w' => e = .returned (.tuple #[]) ∧ ∃ V' X' S2 Z', (∀ k, X k → X' k) ∧ Hk w' B V' X' S2 Z' h gs d g q s1 ca cc { G with T := S', n := G.n + 700, F := (Fr.of (p : Int) 0 zO zO zO zO).use :: Tl, se := some { s with fr := true, out := s.out ++ [byB (grM (p : Int) ow zO zO zO zO)] } } ∧ Hx B X w w' := by
  have hst := fun (ad : Addr) (re im : Nat) (W : World) => run_store Tryz.prog W ad (.complex .f64 re im) .plain rfl
  have HA := hidOf (show Hk w B V X S Z h gs d g q s1 ca cc G ∧ G.F = Fr.e :: Tl ∧ (∃ hp : p < G.L.length, G.L[p].b = []) ∧ (∀ y ∈ Tl, y.has (p : Int) = false) ∧ G.se = some s ∧ s.out.length ≤ 1000 ∧ G.n ≤ 500000 ∧ Dsk.setl (Dsk.hanS G.T 1 mk (p : Int) mo 0 0 false) = (S', [⟨1, 5, (p : Int), 0, 15, ow, false⟩]) ∧ (Dsk.inR (p : Int) ∧ Dsk.inR mo ∧ Dsk.inR 1) ∧ Msg.rightB (grM (p : Int) ow zO zO zO zO) = true ∧ Msg.Wd (grM (p : Int) ow zO zO zO zO) from ⟨H, hF, ⟨hp, hbp⟩, hT, hs, hb, hn, he, ⟨hip, hio, hi1⟩, hM, hW⟩)
  clear H hF hbp hT hs hb hn he hip hio hi1 hM hW hp
  go_enter Tryz.func87, Tryz.ntmps87
  go_upto_region 1 with fail
  obtain ⟨bk, hbk⟩ : ∃ r, w.heap.size = r := ⟨_, rfl⟩
  obtain ⟨W, hW⟩ : ∃ W, w.alloc (Msg.msO ⟨mk, (p : Int), mo, 0, 0, 0, false, [], (0, 0), (0, 0), (0, 0), (0, 0)⟩ po pn pc) = W := ⟨_, rfl⟩
  have hbA : Below w.heap.size w W := hW ▸ (Below.refl _ _).alloc (Nat.le_refl _) _
  have hkn : Msg.MgAt W bk ⟨mk, (p : Int), mo, 0, 0, 0, false, [], (0, 0), (0, 0), (0, 0), (0, 0)⟩ po pn pc := hW ▸ hbk ▸ Msg.MgAt.new w _ po pn pc
  have hbl : bk < W.heap.size := by rw [← hW, ← hbk]; simp
  have HB := hidOf (show Below w.heap.size w W ∧ Msg.MgAt W bk ⟨mk, (p : Int), mo, 0, 0, 0, false, [], (0, 0), (0, 0), (0, 0), (0, 0)⟩ po pn pc ∧ w.heap.size = bk ∧ bk < W.heap.size from ⟨hbA, hkn, hbk, hbl⟩)
  show Code.wp _ _ _ _ (w.alloc (Msg.msO ⟨mk, (p : Int), mo, 0, 0, 0, false, [], (0, 0), (0, 0), (0, 0), (0, 0)⟩ po pn pc))
  rw [hW, hbk]
  clear hW hbk hbA hkn hbl
  have HC : Hid (∀ U : World, (∀ k, k = h ∨ k = bk → U.heap[k]? = W.heap[k]?) → Ms U h gs d bk ⟨mk, (p : Int), mo, 0, 0, 0, false, [], (0, 0), (0, 0), (0, 0), (0, 0)⟩ po pn pc) := by
    intro U hU
    have h1 := ho_cells ((hU h (.inl rfl)).trans ((HB.out.1.block h HA.out.1.lt).trans HA.out.1.blk))
    exact ⟨h1.c2, h1.c3, MgAt.block HB.out.2.1 (hU bk (.inr rfl))⟩
  -- the store's Page, at any world behind W
  have HT : Hid (∀ U : World, Below W.heap.size W U → Calls Tryz.prog 17 #[tp gs, .int .i64 (p : Int)] U fun e w' => e = .returned (.tuple #[.agg #[.int .i64 0, .complex .f64 0 0, .complex .f64 0 0, .complex .f64 0 0, .complex .f64 0 0], .int .i64 0]) ∧ (∀ k, k = h ∨ k = bk → w'.heap[k]? = W.heap[k]?) ∧ Hid (∃ V2 S2, Hk w' B V2 (Nv w U X) S2 Z h gs d g q s1 ca cc { G with F := Fr.of (p : Int) 0 zO zO zO zO :: Tl } ∧ Hx B (Nv w U X) U w')) := by
    intro U hU
    obtain ⟨H, hF, ⟨hp, hbp⟩, hT, -⟩ := HA.out
    obtain ⟨b1, b2, b3, b4⟩ := HB.out
    have bU := below_step b1 hU
    have H2 := H.below bU
    have hsw := H2.sw
    rw [hF] at hsw
    refine (pageS_new hsw p hp hbp hT).mono ?_
    rintro e w' ⟨rfl, hn⟩
    have hx2 := H2.storeX hn
    obtain ⟨V2, S2, h2⟩ := H2.store hn
    refine ⟨rfl, ?_, V2, S2, h2, hx2⟩
    rintro k (rfl | rfl)
    · have e1 := h2.blk
      have e2 := (b1.block k H.lt).trans H.blk
      exact e1.trans e2.symm
    · exact (hx2.keep k (.inr ⟨by omega, by have := hU.size; omega⟩)).trans (hU.block k b4)
  go_upto_region 1 with fail
  refine wp_region_held (S := fun U => ∀ k, k = h ∨ k = bk → U.heap[k]? = W.heap[k]?) (by kernel_rfl) ?_
  have hS : ∀ k, k = h ∨ k = bk → W.drew.heap[k]? = W.heap[k]? := fun _ _ => rfl
  have HZ := hidOf (show h < W.heap.size ∧ bk < W.heap.size from ⟨Nat.lt_of_lt_of_le HA.out.1.lt HB.out.1.size, HB.out.2.2.2⟩)
  refine held_val (i := 0) ?_ 9 rfl rfl (by kernel_rfl) (by kernel_rfl) (by kernel_rfl) (by rfl) (fun _ _ _ h => h) hS ?_ ?_
  rotate_left
  · (intro w hSw; go_simp; first | done | with_reducible rfl)
  simp only [Act.put, List.setIfInBounds_toArray, List.set_cons_zero, List.set_cons_succ]
  refine held_val (i := 1) ?_ 10 rfl rfl (by kernel_rfl) (by kernel_rfl) (by kernel_rfl) (by rfl) (fun _ _ _ h => h) hS ?_ ?_
  rotate_left
  · (intro w hSw; go_simp; first | done | with_reducible rfl)
  simp only [Act.put, List.setIfInBounds_toArray, List.set_cons_zero, List.set_cons_succ]
  refine held_val (i := 2) ?_ 11 rfl rfl (by kernel_rfl) (by kernel_rfl) (by kernel_rfl) (by rfl) (fun _ _ _ h => h) hS ?_ ?_
  rotate_left
  · (intro w hSw; go_simp; first | done | with_reducible rfl)
  simp only [Act.put, List.setIfInBounds_toArray, List.set_cons_zero, List.set_cons_succ]
  refine held_val (i := 3) ?_ 12 rfl rfl (by kernel_rfl) (by kernel_rfl) (by kernel_rfl) (by rfl) (fun _ _ _ h => h) hS ?_ ?_
  rotate_left
  · (intro w hSw; obtain ⟨k2, k3, ⟨m0, m1, m2, m3, m4, m5, m6, m7, m8, m9, mA, mB⟩⟩ := HC.out w hSw; go_simp; first | done | with_reducible rfl)
  simp only [Act.put, List.setIfInBounds_toArray, List.set_cons_zero, List.set_cons_succ]
  refine held_val (i := 4) ?_ 13 rfl rfl (by kernel_rfl) (by kernel_rfl) (by kernel_rfl) (by rfl) (fun _ _ _ h => h) hS ?_ ?_
  rotate_left
  · (intro w hSw; go_simp; first | done | with_reducible rfl)
  simp only [Act.put, List.setIfInBounds_toArray, List.set_cons_zero, List.set_cons_succ]
  refine held_val (i := 5) ?_ 14 rfl rfl (by kernel_rfl) (by kernel_rfl) (by kernel_rfl) (by rfl) (fun _ _ _ h => h) hS ?_ ?_
  rotate_left
  · (intro w hSw; obtain ⟨k2, k3, ⟨m0, m1, m2, m3, m4, m5, m6, m7, m8, m9, mA, mB⟩⟩ := HC.out w hSw; go_simp; first | done | with_reducible rfl)
  simp only [Act.put, List.setIfInBounds_toArray, List.set_cons_zero, List.set_cons_succ]
  refine held_pair (i := 6) (j := 10) (by kernel_rfl) ?_ ?_
  · refine op_call 15 17 #[tp gs, .int .i64 (p : Int)] rfl rfl (by rfl) (by simp [go_sem]) (HT.out W.drew (bel0 W)) ?_
    rintro e w5 ⟨rfl, hSx, H5⟩
    refine ⟨_, rfl, hSx, ?_⟩
    simp only [Act.put, List.setIfInBounds_toArray, List.set_cons_zero, List.set_cons_succ]
    refine held_val (i := 7) ?_ 8 rfl rfl (by kernel_rfl) (by kernel_rfl) (by kernel_rfl) (by rfl) (fun _ _ _ h => h) hSx ?_ ?_
    rotate_left
    · (intro w hSw; go_simp; first | done | with_reducible rfl)
    simp only [Act.put, List.setIfInBounds_toArray, List.set_cons_zero, List.set_cons_succ]
    refine held_val (i := 8) ?_ 16 rfl rfl (by kernel_rfl) (by kernel_rfl) (by kernel_rfl) (by rfl) (fun _ _ _ h => h) hSx ?_ ?_
    rotate_left
    · (intro w hSw; go_simp; first | done | with_reducible rfl)
    simp only [Act.put, List.setIfInBounds_toArray, List.set_cons_zero, List.set_cons_succ]
    refine held_val (i := 9) ?_ 17 rfl rfl (by kernel_rfl) (by kernel_rfl) (by kernel_rfl) (by rfl) (fun _ _ _ h => h) hSx ?_ ?_
    rotate_left
    · (intro w hSw; go_simp; first | done | with_reducible rfl)
    simp only [Act.put, List.setIfInBounds_toArray, List.set_cons_zero, List.set_cons_succ]
    have HZ5 : Hid (h < w5.heap.size ∧ bk < w5.heap.size) := by
      obtain ⟨V2, S2, k1, k2⟩ := H5.out
      have h1 := k2.bel.size
      have h2 : W.drew.heap.size = W.heap.size := rfl
      exact ⟨by have := HZ.out.1; omega, by have := HZ.out.2; omega⟩
    have hSy : ∀ k, k = h ∨ k = bk → (w5.alloc pgN).heap[k]? = W.heap[k]? := by
      rintro k (rfl | rfl)
      · exact (heap_alloc_old w5 _ HZ5.out.1).trans (hSx _ (.inl rfl))
      · exact (heap_alloc_old w5 _ HZ5.out.2).trans (hSx _ (.inr rfl))
    refine held_run (i := 10) 6 (.pointer (some ⟨w5.heap.size, 0, none⟩)) (w5.alloc pgN) rfl rfl (by kernel_rfl) (by rfl) (by go_simp; first | done | with_reducible rfl) hSy ?_
    simp only [Act.put, List.setIfInBounds_toArray, List.set_cons_zero, List.set_cons_succ]
    have HD : Hid (∃ V2 X2 S2, (∀ k, X k → X2 k) ∧ X2 bk ∧ Hk ((w5.alloc pgN).setRow w5.heap.size #[.int .i64 0, .complex .f64 0 0, .complex .f64 0 0, .complex .f64 0 0, .complex .f64 0 0]) B V2 X2 S2 Z h gs d g q s1 ca cc { G with F := Fr.of (p : Int) 0 zO zO zO zO :: Tl } ∧ Hx B X w ((w5.alloc pgN).setRow w5.heap.size #[.int .i64 0, .complex .f64 0 0, .complex .f64 0 0, .complex .f64 0 0, .complex .f64 0 0])) := by
      obtain ⟨V2, S2, k1, k2⟩ := H5.out
      obtain ⟨b1, b2, b3, b4⟩ := HB.out
      have H := HA.out.1
      have hz1 := b1.size
      have hz2 : W.heap.size ≤ w5.heap.size := k2.bel.size
      have hbA : Below w5.heap.size w5 (w5.alloc pgN) := (Below.refl _ _).alloc (Nat.le_refl _) _
      have k3 := k1.below hbA
      have ho := setRow_off (w5.alloc pgN) w5.heap.size #[.int .i64 0, .complex .f64 0 0, .complex .f64 0 0, .complex .f64 0 0, .complex .f64 0 0]
      have hA : ∀ k, k = w5.heap.size → Nv w5 (w5.alloc pgN) (Nv w W.drew X) k ∧ B ≤ k := fun k e => ⟨.inr ⟨by omega, by rw [e]; simp⟩, by have := H.hB; omega⟩
      refine ⟨_, _, S2, fun k hk => .inl (.inl (.inl hk)), .inl (.inl (.inr ⟨by omega, b4⟩)), k3.alien ho hA, ?_⟩
      have e1 : Hx B X w W.drew := Hx.of_below H.hB H.xlt (below_step b1 (bel0 W))
      have e2 : Hx B X w w5 := e1.trans k2 fun k hk => .inl hk
      have e3 : Hx B X w5 (w5.alloc pgN) := Hx.of_below (by have := H.hB; omega) (fun k hk => by have := H.xlt k hk; omega) hbA
      have e4 : Hx B X (w5.alloc pgN) ((w5.alloc pgN).setRow w5.heap.size #[.int .i64 0, .complex .f64 0 0, .complex .f64 0 0, .complex .f64 0 0, .complex .f64 0 0]) := ⟨ho.below (fun k e => (hA k e).2) (by have := H.hB; simp; omega), fun k hk => ho.block k (by have := H.xlt k hk; simp; omega) (by have := H.xlt k hk; omega)⟩
      exact (e2.trans e3 fun _ h => h).trans e4 fun _ h => h
    have hSz : ∀ k, k = h ∨ k = bk → ((w5.alloc pgN).setRow w5.heap.size #[.int .i64 0, .complex .f64 0 0, .complex .f64 0 0, .complex .f64 0 0, .complex .f64 0 0]).heap[k]? = W.heap[k]? := by
      rintro k (rfl | rfl)
      · exact (setRow_other _ _ _ _ (by have := HZ5.out.1; omega)).trans (hSy _ (.inl rfl))
      · exact (setRow_other _ _ _ _ (by have := HZ5.out.2; omega)).trans (hSy _ (.inr rfl))
    refine held_last (i := 11) ((w5.alloc pgN).setRow w5.heap.size #[.int .i64 0, .complex .f64 0 0, .complex .f64 0 0, .complex .f64 0 0, .complex .f64 0 0]) rfl (by kernel_rfl) (by rfl) (Go.wp_store_row 53 _ _ rfl w5.heap.size #[.int .i64 0, .complex .f64 0 0, .complex .f64 0 0, .complex .f64 0 0, .complex .f64 0 0] rfl rfl 53 #[.int .i64 0, .complex .f64 0 0, .complex .f64 0 0, .complex .f64 0 0, .complex .f64 0 0] (heap_alloc_new w5 _) (by kernel_rfl) rfl (by kernel_rfl) ⟨rfl, rfl⟩) hSz ?_
    refine held_val (i := 12) ?_ 7 rfl rfl (by kernel_rfl) (by kernel_rfl) (by kernel_rfl) (by rfl) (fun _ _ _ h => h) hSz ?_ ?_
    rotate_left
    · (intro w hSw; go_simp; first | done | with_reducible rfl)
    simp only [Act.put, List.setIfInBounds_toArray, List.set_cons_zero, List.set_cons_succ]
    refine wpAnyH_done (by kernel_rfl) ?_ _
    clear hSx hSy H5
    generalize (w5.alloc pgN).setRow w5.heap.size #[.int .i64 0, .complex .f64 0 0, .complex .f64 0 0, .complex .f64 0 0, .complex .f64 0 0] = U9 at *
    go_upto_region 4 with fail
    have HHd : Hid (Calls Tryz.prog 88 #[Dsk.dp d, .int .i64 1, .agg #[.int .i64 mk, .int .i64 (p : Int), .int .i64 mo, .int .i64 0, .int .i64 0, .int .i64 0, .bool false, .slice po pn pc, .complex .f64 0 0, .complex .f64 0 0, .complex .f64 0 0, .complex .f64 0 0]] U9.drew fun e w' => ∃ a c, e = .returned (.slice a 1 c) ∧ (∀ k, k = h ∨ k = bk → w'.heap[k]? = W.heap[k]?) ∧ Hid (Calls Tryz.prog 40 #[tp h, .slice a 1 c] w' fun e w2 => e = .returned (.tuple #[]) ∧ (∀ k, k = h ∨ k = bk → w2.heap[k]? = W.heap[k]?) ∧ Hid (∃ V' X' S2 Z', (∀ k, X k → X' k) ∧ Hk w2 B V' X' S2 Z' h gs d g q s1 ca cc { G with T := S', n := G.n + 700, F := (Fr.of (p : Int) 0 zO zO zO zO).use :: Tl, se := some { s with fr := true, out := s.out ++ [byB (grM (p : Int) ow zO zO zO zO)] } } ∧ Hx B X w w2))) := by
      obtain ⟨H, hF, hp, hT, hs, hb, hn, he, ⟨hip, hio, hi1⟩, hM, hW⟩ := HA.out
      obtain ⟨V2, X2, S2, x1, x2, K, x3⟩ := HD.out
      have K2 := K.below (bel0 U9)
      refine (Dsk.handle_any K2.dk K2.vlt hn K2.tz K2.b2 1 mk (p : Int) mo 0 0 0 false po pn pc 0 0 0 0 0 0 0 0 hi1 hip hio).mono ?_
      rw [show Dsk.setl (Dsk.hanS ({ G with F := Fr.of (p : Int) 0 zO zO zO zO :: Tl } : HoG).T 1 mk (p : Int) mo 0 0 false) = (S', [⟨1, 5, (p : Int), 0, 15, ow, false⟩]) from he]
      rintro e w' ⟨a, c, rfl, hr⟩
      have K3 := K2.desk hr
      have hx3 := K2.deskX hr
      have hXb : Nv U9 U9.drew X2 bk := .inl x2
      have hk3 : ∀ k, k = h ∨ k = bk → w'.heap[k]? = W.heap[k]? := by
        rintro k (rfl | rfl)
        · exact (hr.keep _ K2.vh).trans (hSz _ (.inl rfl))
        · exact (hx3.keep _ hXb).trans (hSz _ (.inr rfl))
      refine ⟨a, c, rfl, hk3, ?_⟩
      refine (sayActs_grant K3 (x := Fr.of (p : Int) 0 zO zO zO zO) (T := Tl) rfl (p : Int) (by simp [Fr.has]) hs hb ow a c hr.own (fun y hy => .inr ⟨y, hy, rfl⟩) hM hW).mono ?_
      rintro e w2 ⟨rfl, V', X', S3, Z', y1, y2, y3⟩
      refine ⟨rfl, ?_, V', X', S3, Z', fun k hk => y1 k (.inl (.inl (x1 k hk))), y2, ?_⟩
      · rintro k (rfl | rfl)
        · exact (y2.blk.trans K3.blk.symm).trans (hk3 _ (.inl rfl))
        · exact (y3.keep _ (.inl hXb)).trans (hk3 _ (.inr rfl))
      · have e1 : Hx B X w U9.drew := x3.trans (Hx.of_below K.hB K.xlt (bel0 U9)) x1
        exact (e1.trans hx3 fun k hk => .inl (x1 k hk)).trans y3 fun k hk => .inl (.inl (x1 k hk))
    refine wp_region_held (S := fun U => ∀ k, k = h ∨ k = bk → U.heap[k]? = W.heap[k]?) (by kernel_rfl) ?_
    have hS9 : ∀ k, k = h ∨ k = bk → U9.drew.heap[k]? = W.heap[k]? := hSz
    refine held_val (i := 0) ?_ 24 rfl rfl (by kernel_rfl) (by kernel_rfl) (by kernel_rfl) (by rfl) (fun _ _ _ h => h) hS9 ?_ ?_
    rotate_left
    · (intro w hSw; go_simp; first | done | with_reducible rfl)
    simp only [Act.put, List.setIfInBounds_toArray, List.set_cons_zero, List.set_cons_succ]
    refine held_val (i := 1) ?_ 25 rfl rfl (by kernel_rfl) (by kernel_rfl) (by kernel_rfl) (by rfl) (fun _ _ _ h => h) hS9 ?_ ?_
    rotate_left
    · (intro w hSw; go_simp; first | done | with_reducible rfl)
    simp only [Act.put, List.setIfInBounds_toArray, List.set_cons_zero, List.set_cons_succ]
    refine held_val (i := 2) ?_ 26 rfl rfl (by kernel_rfl) (by kernel_rfl) (by kernel_rfl) (by rfl) (fun _ _ _ h => h) hS9 ?_ ?_
    rotate_left
    · (intro w hSw; go_simp; first | done | with_reducible rfl)
    simp only [Act.put, List.setIfInBounds_toArray, List.set_cons_zero, List.set_cons_succ]
    refine held_val (i := 3) ?_ 27 rfl rfl (by kernel_rfl) (by kernel_rfl) (by kernel_rfl) (by rfl) (fun _ _ _ h => h) hS9 ?_ ?_
    rotate_left
    · (intro w hSw; go_simp; first | done | with_reducible rfl)
    simp only [Act.put, List.setIfInBounds_toArray, List.set_cons_zero, List.set_cons_succ]
    refine held_val (i := 4) ?_ 28 rfl rfl (by kernel_rfl) (by kernel_rfl) (by kernel_rfl) (by rfl) (fun _ _ _ h => h) hS9 ?_ ?_
    rotate_left
    · (intro w hSw; obtain ⟨k2, k3, ⟨m0, m1, m2, m3, m4, m5, m6, m7, m8, m9, mA, mB⟩⟩ := HC.out w hSw; go_simp; first | done | with_reducible rfl)
    simp only [Act.put, List.setIfInBounds_toArray, List.set_cons_zero, List.set_cons_succ]
    refine held_val (i := 5) ?_ 29 rfl rfl (by kernel_rfl) (by kernel_rfl) (by kernel_rfl) (by rfl) (fun _ _ _ h => h) hS9 ?_ ?_
    rotate_left
    · (intro w hSw; go_simp; first | done | with_reducible rfl)
    simp only [Act.put, List.setIfInBounds_toArray, List.set_cons_zero, List.set_cons_succ]
    refine held_val (i := 6) ?_ 30 rfl rfl (by kernel_rfl) (by kernel_rfl) (by kernel_rfl) (by rfl) (fun _ _ _ h => h) hS9 ?_ ?_
    rotate_left
    · (intro w hSw; obtain ⟨k2, k3, ⟨m0, m1, m2, m3, m4, m5, m6, m7, m8, m9, mA, mB⟩⟩ := HC.out w hSw; go_simp; first | done | with_reducible rfl)
    simp only [Act.put, List.setIfInBounds_toArray, List.set_cons_zero, List.set_cons_succ]
    refine held_call (i := 7) 31 88 #[Dsk.dp d, .int .i64 1, .agg #[.int .i64 mk, .int .i64 (p : Int), .int .i64 mo, .int .i64 0, .int .i64 0, .int .i64 0, .bool false, .slice po pn pc, .complex .f64 0 0, .complex .f64 0 0, .complex .f64 0 0, .complex .f64 0 0]] rfl rfl (by kernel_rfl) (by rfl) (by simp [go_sem]) HHd.out ?_
    rintro e w7 ⟨a, c, rfl, hSa, HS8⟩
    refine ⟨_, rfl, hSa, ?_⟩
    have hS7 := hSa
    simp only [Act.put, List.setIfInBounds_toArray, List.set_cons_zero, List.set_cons_succ]
    refine held_call (i := 8) 32 40 #[tp h, .slice a 1 c] rfl rfl (by kernel_rfl) (by rfl) (by simp [go_sem]) HS8.out ?_
    rintro e w8 ⟨rfl, hSb, HE⟩
    refine ⟨_, rfl, hSb, ?_⟩
    have hS8 := hSb
    simp only [Act.put, List.setIfInBounds_toArray, List.set_cons_zero, List.set_cons_succ]
    refine wpAnyH_done (by kernel_rfl) ?_ _
    go_wp2
    go_end0
    exact ⟨rfl, HE.out⟩
  · refine op_run 6 (.pointer (some ⟨W.heap.size, 0, none⟩)) (W.drew.alloc pgN) rfl rfl (by rfl) (by go_simp; first | done | with_reducible rfl) ?_
    have hSy : ∀ k, k = h ∨ k = bk → (W.drew.alloc pgN).heap[k]? = W.heap[k]? := by
      rintro k (rfl | rfl)
      · exact heap_alloc_old W.drew _ HZ.out.1
      · exact heap_alloc_old W.drew _ HZ.out.2
    refine ⟨hSy, ?_⟩
    simp only [Act.put, List.setIfInBounds_toArray, List.set_cons_zero, List.set_cons_succ]
    refine held_call (i := 6) 15 17 #[tp gs, .int .i64 (p : Int)] rfl rfl (by kernel_rfl) (by rfl) (by simp [go_sem]) (HT.out (W.drew.alloc pgN) (below_step (bel0 W) ((Below.refl _ _).alloc (Nat.le_refl _) _))) ?_
    rintro e w5 ⟨rfl, hSx, H5⟩
    refine ⟨_, rfl, hSx, ?_⟩
    simp only [Act.put, List.setIfInBounds_toArray, List.set_cons_zero, List.set_cons_succ]
    refine held_val (i := 7) ?_ 8 rfl rfl (by kernel_rfl) (by kernel_rfl) (by kernel_rfl) (by rfl) (fun _ _ _ h => h) hSx ?_ ?_
    rotate_left
    · (intro w hSw; go_simp; first | done | with_reducible rfl)
    simp only [Act.put, List.setIfInBounds_toArray, List.set_cons_zero, List.set_cons_succ]
    refine held_val (i := 8) ?_ 16 rfl rfl (by kernel_rfl) (by kernel_rfl) (by kernel_rfl) (by rfl) (fun _ _ _ h => h) hSx ?_ ?_
    rotate_left
    · (intro w hSw; go_simp; first | done | with_reducible rfl)
    simp only [Act.put, List.setIfInBounds_toArray, List.set_cons_zero, List.set_cons_succ]
    refine held_val (i := 9) ?_ 17 rfl rfl (by kernel_rfl) (by kernel_rfl) (by kernel_rfl) (by rfl) (fun _ _ _ h => h) hSx ?_ ?_
    rotate_left
    · (intro w hSw; go_simp; first | done | with_reducible rfl)
    simp only [Act.put, List.setIfInBounds_toArray, List.set_cons_zero, List.set_cons_succ]
    have HP : Hid (w5.heap[W.heap.size]? = some pgN) := by
      obtain ⟨V2, S2, k1, k2⟩ := H5.out
      refine (k2.keep W.heap.size (.inr ⟨HB.out.1.size, ?_⟩)).trans (heap_alloc_new W.drew pgN)
      show W.heap.size < (W.drew.alloc pgN).heap.size
      simp
    have HD : Hid (∃ V2 X2 S2, (∀ k, X k → X2 k) ∧ X2 bk ∧ Hk (w5.setRow W.heap.size #[.int .i64 0, .complex .f64 0 0, .complex .f64 0 0, .complex .f64 0 0, .complex .f64 0 0]) B V2 X2 S2 Z h gs d g q s1 ca cc { G with F := Fr.of (p : Int) 0 zO zO zO zO :: Tl } ∧ Hx B X w (w5.setRow W.heap.size #[.int .i64 0, .complex .f64 0 0, .complex .f64 0 0, .complex .f64 0 0, .complex .f64 0 0])) := by
      obtain ⟨V2, S2, k1, k2⟩ := H5.out
      obtain ⟨b1, b2, b3, b4⟩ := HB.out
      have H := HA.out.1
      have hz1 := b1.size
      have hz0 : (W.drew.alloc pgN).heap.size = W.heap.size + 1 := by simp
      have hz2 := k2.bel.size
      have ho := setRow_off w5 W.heap.size #[.int .i64 0, .complex .f64 0 0, .complex .f64 0 0, .complex .f64 0 0, .complex .f64 0 0]
      have hA : ∀ k, k = W.heap.size → Nv w (W.drew.alloc pgN) X k ∧ B ≤ k := fun k e => ⟨.inr ⟨by omega, by omega⟩, by have := H.hB; omega⟩
      refine ⟨_, _, S2, fun k hk => .inl (.inl hk), .inl (.inr ⟨by omega, by omega⟩), k1.alien ho hA, ?_⟩
      have bU : Below w.heap.size w (W.drew.alloc pgN) := below_step (below_step b1 (bel0 W)) ((Below.refl _ _).alloc (Nat.le_refl _) _)
      have e1 : Hx B X w (W.drew.alloc pgN) := Hx.of_below H.hB H.xlt bU
      have e2 : Hx B X w w5 := e1.trans k2 fun k hk => .inl hk
      have e4 : Hx B X w5 (w5.setRow W.heap.size #[.int .i64 0, .complex .f64 0 0, .complex .f64 0 0, .complex .f64 0 0, .complex .f64 0 0]) := ⟨ho.below (fun k e => (hA k e).2) (by have := H.hB; omega), fun k hk => ho.block k (by have := H.xlt k hk; omega) (by have := H.xlt k hk; omega)⟩
      exact e2.trans e4 fun _ h => h
    have hSz : ∀ k, k = h ∨ k = bk → (w5.setRow W.heap.size #[.int .i64 0, .complex .f64 0 0, .complex .f64 0 0, .complex .f64 0 0, .complex .f64 0 0]).heap[k]? = W.heap[k]? := by
      rintro k (rfl | rfl)
      · exact (setRow_other _ _ _ _ (by have := HZ.out.1; omega)).trans (hSx _ (.inl rfl))
      · exact (setRow_other _ _ _ _ (by have := HZ.out.2; omega)).trans (hSx _ (.inr rfl))
    refine held_last (i := 11) (w5.setRow W.heap.size #[.int .i64 0, .complex .f64 0 0, .complex .f64 0 0, .complex .f64 0 0, .complex .f64 0 0]) rfl (by kernel_rfl) (by rfl) (Go.wp_store_row 53 _ _ rfl W.heap.size #[.int .i64 0, .complex .f64 0 0, .complex .f64 0 0, .complex .f64 0 0, .complex .f64 0 0] rfl rfl 53 #[.int .i64 0, .complex .f64 0 0, .complex .f64 0 0, .complex .f64 0 0, .complex .f64 0 0] HP.out (by kernel_rfl) rfl (by kernel_rfl) ⟨rfl, rfl⟩) hSz ?_
    refine held_val (i := 12) ?_ 7 rfl rfl (by kernel_rfl) (by kernel_rfl) (by kernel_rfl) (by rfl) (fun _ _ _ h => h) hSz ?_ ?_
    rotate_left
    · (intro w hSw; go_simp; first | done | with_reducible rfl)
    simp only [Act.put, List.setIfInBounds_toArray, List.set_cons_zero, List.set_cons_succ]
    refine wpAnyH_done (by kernel_rfl) ?_ _
    clear hSx hSy H5 HP
    generalize w5.setRow W.heap.size #[.int .i64 0, .complex .f64 0 0, .complex .f64 0 0, .complex .f64 0 0, .complex .f64 0 0] = U9 at *
    go_upto_region 4 with fail
    have HHd : Hid (Calls Tryz.prog 88 #[Dsk.dp d, .int .i64 1, .agg #[.int .i64 mk, .int .i64 (p : Int), .int .i64 mo, .int .i64 0, .int .i64 0, .int .i64 0, .bool false, .slice po pn pc, .complex .f64 0 0, .complex .f64 0 0, .complex .f64 0 0, .complex .f64 0 0]] U9.drew fun e w' => ∃ a c, e = .returned (.slice a 1 c) ∧ (∀ k, k = h ∨ k = bk → w'.heap[k]? = W.heap[k]?) ∧ Hid (Calls Tryz.prog 40 #[tp h, .slice a 1 c] w' fun e w2 => e = .returned (.tuple #[]) ∧ (∀ k, k = h ∨ k = bk → w2.heap[k]? = W.heap[k]?) ∧ Hid (∃ V' X' S2 Z', (∀ k, X k → X' k) ∧ Hk w2 B V' X' S2 Z' h gs d g q s1 ca cc { G with T := S', n := G.n + 700, F := (Fr.of (p : Int) 0 zO zO zO zO).use :: Tl, se := some { s with fr := true, out := s.out ++ [byB (grM (p : Int) ow zO zO zO zO)] } } ∧ Hx B X w w2))) := by
      obtain ⟨H, hF, hp, hT, hs, hb, hn, he, ⟨hip, hio, hi1⟩, hM, hW⟩ := HA.out
      obtain ⟨V2, X2, S2, x1, x2, K, x3⟩ := HD.out
      have K2 := K.below (bel0 U9)
      refine (Dsk.handle_any K2.dk K2.vlt hn K2.tz K2.b2 1 mk (p : Int) mo 0 0 0 false po pn pc 0 0 0 0 0 0 0 0 hi1 hip hio).mono ?_
      rw [show Dsk.setl (Dsk.hanS ({ G with F := Fr.of (p : Int) 0 zO zO zO zO :: Tl } : HoG).T 1 mk (p : Int) mo 0 0 false) = (S', [⟨1, 5, (p : Int), 0, 15, ow, false⟩]) from he]
      rintro e w' ⟨a, c, rfl, hr⟩
      have K3 := K2.desk hr
      have hx3 := K2.deskX hr
      have hXb : Nv U9 U9.drew X2 bk := .inl x2
      have hk3 : ∀ k, k = h ∨ k = bk → w'.heap[k]? = W.heap[k]? := by
        rintro k (rfl | rfl)
        · exact (hr.keep _ K2.vh).trans (hSz _ (.inl rfl))
        · exact (hx3.keep _ hXb).trans (hSz _ (.inr rfl))
      refine ⟨a, c, rfl, hk3, ?_⟩
      refine (sayActs_grant K3 (x := Fr.of (p : Int) 0 zO zO zO zO) (T := Tl) rfl (p : Int) (by simp [Fr.has]) hs hb ow a c hr.own (fun y hy => .inr ⟨y, hy, rfl⟩) hM hW).mono ?_
      rintro e w2 ⟨rfl, V', X', S3, Z', y1, y2, y3⟩
      refine ⟨rfl, ?_, V', X', S3, Z', fun k hk => y1 k (.inl (.inl (x1 k hk))), y2, ?_⟩
      · rintro k (rfl | rfl)
        · exact (y2.blk.trans K3.blk.symm).trans (hk3 _ (.inl rfl))
        · exact (y3.keep _ (.inl hXb)).trans (hk3 _ (.inr rfl))
      · have e1 : Hx B X w U9.drew := x3.trans (Hx.of_below K.hB K.xlt (bel0 U9)) x1
        exact (e1.trans hx3 fun k hk => .inl (x1 k hk)).trans y3 fun k hk => .inl (.inl (x1 k hk))
    refine wp_region_held (S := fun U => ∀ k, k = h ∨ k = bk → U.heap[k]? = W.heap[k]?) (by kernel_rfl) ?_
    have hS9 : ∀ k, k = h ∨ k = bk → U9.drew.heap[k]? = W.heap[k]? := hSz
    refine held_val (i := 0) ?_ 24 rfl rfl (by kernel_rfl) (by kernel_rfl) (by kernel_rfl) (by rfl) (fun _ _ _ h => h) hS9 ?_ ?_
    rotate_left
    · (intro w hSw; go_simp; first | done | with_reducible rfl)
    simp only [Act.put, List.setIfInBounds_toArray, List.set_cons_zero, List.set_cons_succ]
    refine held_val (i := 1) ?_ 25 rfl rfl (by kernel_rfl) (by kernel_rfl) (by kernel_rfl) (by rfl) (fun _ _ _ h => h) hS9 ?_ ?_
    rotate_left
    · (intro w hSw; go_simp; first | done | with_reducible rfl)
    simp only [Act.put, List.setIfInBounds_toArray, List.set_cons_zero, List.set_cons_succ]
    refine held_val (i := 2) ?_ 26 rfl rfl (by kernel_rfl) (by kernel_rfl) (by kernel_rfl) (by rfl) (fun _ _ _ h => h) hS9 ?_ ?_
    rotate_left
    · (intro w hSw; go_simp; first | done | with_reducible rfl)
    simp only [Act.put, List.setIfInBounds_toArray, List.set_cons_zero, List.set_cons_succ]
    refine held_val (i := 3) ?_ 27 rfl rfl (by kernel_rfl) (by kernel_rfl) (by kernel_rfl) (by rfl) (fun _ _ _ h => h) hS9 ?_ ?_
    rotate_left
    · (intro w hSw; go_simp; first | done | with_reducible rfl)
    simp only [Act.put, List.setIfInBounds_toArray, List.set_cons_zero, List.set_cons_succ]
    refine held_val (i := 4) ?_ 28 rfl rfl (by kernel_rfl) (by kernel_rfl) (by kernel_rfl) (by rfl) (fun _ _ _ h => h) hS9 ?_ ?_
    rotate_left
    · (intro w hSw; obtain ⟨k2, k3, ⟨m0, m1, m2, m3, m4, m5, m6, m7, m8, m9, mA, mB⟩⟩ := HC.out w hSw; go_simp; first | done | with_reducible rfl)
    simp only [Act.put, List.setIfInBounds_toArray, List.set_cons_zero, List.set_cons_succ]
    refine held_val (i := 5) ?_ 29 rfl rfl (by kernel_rfl) (by kernel_rfl) (by kernel_rfl) (by rfl) (fun _ _ _ h => h) hS9 ?_ ?_
    rotate_left
    · (intro w hSw; go_simp; first | done | with_reducible rfl)
    simp only [Act.put, List.setIfInBounds_toArray, List.set_cons_zero, List.set_cons_succ]
    refine held_val (i := 6) ?_ 30 rfl rfl (by kernel_rfl) (by kernel_rfl) (by kernel_rfl) (by rfl) (fun _ _ _ h => h) hS9 ?_ ?_
    rotate_left
    · (intro w hSw; obtain ⟨k2, k3, ⟨m0, m1, m2, m3, m4, m5, m6, m7, m8, m9, mA, mB⟩⟩ := HC.out w hSw; go_simp; first | done | with_reducible rfl)
    simp only [Act.put, List.setIfInBounds_toArray, List.set_cons_zero, List.set_cons_succ]
    refine held_call (i := 7) 31 88 #[Dsk.dp d, .int .i64 1, .agg #[.int .i64 mk, .int .i64 (p : Int), .int .i64 mo, .int .i64 0, .int .i64 0, .int .i64 0, .bool false, .slice po pn pc, .complex .f64 0 0, .complex .f64 0 0, .complex .f64 0 0, .complex .f64 0 0]] rfl rfl (by kernel_rfl) (by rfl) (by simp [go_sem]) HHd.out ?_
    rintro e w7 ⟨a, c, rfl, hSa, HS8⟩
    refine ⟨_, rfl, hSa, ?_⟩
    have hS7 := hSa
    simp only [Act.put, List.setIfInBounds_toArray, List.set_cons_zero, List.set_cons_succ]
    refine held_call (i := 8) 32 40 #[tp h, .slice a 1 c] rfl rfl (by kernel_rfl) (by rfl) (by simp [go_sem]) HS8.out ?_
    rintro e w8 ⟨rfl, hSb, HE⟩
    refine ⟨_, rfl, hSb, ?_⟩
    have hS8 := hSb
    simp only [Act.put, List.setIfInBounds_toArray, List.set_cons_zero, List.set_cons_succ]
    refine wpAnyH_done (by kernel_rfl) ?_ _
    go_wp2
    go_end0
    exact ⟨rfl, HE.out⟩

end Go.Proofs.YtpofihiojhbfgaaGreatDoor
