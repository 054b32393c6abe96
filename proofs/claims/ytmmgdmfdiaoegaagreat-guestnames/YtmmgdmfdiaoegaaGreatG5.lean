/- Do of package guest, walked: with a session and an empty outbox. -/
import Derived.Test.YtmmgdmfdiaoegaaGreatG4
namespace Go.Proofs.YtmmgdmfdiaoegaaGreat
open Go.RowKit
set_option linter.unusedVariables false
set_option maxRecDepth 8000

section
variable {P : Program} {ops : Array Oper} {Q : Exit → Act → World → Prop} {md : Region.Mode} {S : World → Prop}
/-- Two may come up. -/
theorem held_pair {i j : Nat} {fuel : Nat} {l : Array Bool} {a : Act} {w : World} (hr : Region.ready md ops l = [i, j])
    (h1 : wpOp P ops Q i (fun a' w' => S w' ∧ wpAnyH P md ops Q S fuel (l.setIfInBounds i true) a' w') a w) (h2 : wpOp P ops Q j (fun a' w' => S w' ∧ wpAnyH P md ops Q S fuel (l.setIfInBounds j true) a' w') a w) : wpAnyH P md ops Q S (fuel + 1) l a w := by
  refine wpAnyH_all hr (by simp) fun k hk => ?_
  have hk' : k = i ∨ k = j := by simpa using hk
  rcases hk' with rfl | rfl
  · exact h1
  · exact h2
theorem op_call {K : Act → World → Prop} {i : Nat} {oi : Oper} (d : Nat) (f : FuncId) (args : Array Value) {a : Act} {w : World} (hi : ops[i]? = some oi) (hd : oi.dst = some d)
    (hw : Region.wanted oi (yielded ops a.tmps) = true) (hrun : (execOp a.eval oi).run P w = .ok (.enter f args) w) {Post : Ending → World → Prop} (hc : Calls P f args w Post)
    (h : ∀ e w', Post e w' → ∃ v, e = .returned v ∧ K (a.put (some d) v) w') : wpOp P ops Q i K a w := by
  unfold Go.wpOp
  simp only [hi, hw, if_true, Oper.wp, hrun, Oper.upon_enter]
  refine .inl (hc.mono fun e w' hp => ?_)
  obtain ⟨v, rfl, h3⟩ := h e w' hp
  exact hd ▸ h3
theorem op_run {K : Act → World → Prop} {i : Nat} {oi : Oper} (d : Nat) (v : Value) {a : Act} {w : World} (w1 : World) (hi : ops[i]? = some oi) (hd : oi.dst = some d)
    (hw : Region.wanted oi (yielded ops a.tmps) = true) (hrun : (execOp a.eval oi).run P w = .ok (.value v) w1) (h : K (a.put (some d) v) w1) : wpOp P ops Q i K a w := by
  unfold Go.wpOp
  simp only [hi, hw, if_true, Oper.wp, hrun, Oper.upon_value]
  exact .inl (hd ▸ h)
end

/-- The agent has answered, and its answer lies in a block of the caller's own. -/
structure Dn (w V : World) (A : Nat → Prop) (a : Nat) (s2 : As) (R : Nat → Prop) (n1 m : Nat) (er : Int) (v : Nat × Nat) (b : Bool) : Prop where
  ag : ∃ A', (∀ k, A' k → (A k ∨ w.heap.size ≤ k) ∧ ¬ R k ∧ k ≠ n1 ∧ k ≠ m) ∧ Aw V A' a s2
  off : OffS A w V
  bm : V.heap[m]? = some (anO er v b)
  b1 : V.heap[n1]? = some anZ
  ne : n1 ≠ m ∧ w.heap.size ≤ n1 ∧ w.heap.size ≤ m

theorem dn_late {w W w5 : World} {A : Nat → Prop} {a : Nat} {s s2 : As} {R : Nat → Prop} {g4 : Nat} {er : Int} {v : Nat × Nat} {b : Bool} (hb : Below w.heap.size w W) (hA : Aw w A a s) (h1 : w.heap.size ≤ g4) (h2 : g4 < W.heap.size) (hL : W.heap[g4]? = some anZ) (hn : Ng W.drew w5 A a s2 R) :
    Dn w ((w5.alloc anZ).setRow w5.heap.size #[.int .i64 er, .complex .f64 v.1 v.2, .bool b]) A a s2 R g4 w5.heap.size er v b ∧ OffS (fun k => k = w5.heap.size) (w5.alloc anZ) ((w5.alloc anZ).setRow w5.heap.size #[.int .i64 er, .complex .f64 v.1 v.2, .bool b]) ∧ Below w5.heap.size w5 (w5.alloc anZ) := by
  have hal : Below w5.heap.size w5 (w5.alloc anZ) := (Below.refl _ _).alloc (Nat.le_refl _) _
  have hw1 : OffS (fun k => k = w5.heap.size) (w5.alloc anZ) ((w5.alloc anZ).setRow w5.heap.size #[.int .i64 er, .complex .f64 v.1 v.2, .bool b]) := ⟨rfl, rfl, rfl, by simp, fun k _ hk => setRow_other _ _ k _ hk⟩
  obtain ⟨A', a1, a2⟩ := hn.ag
  have hs : W.heap.size ≤ w5.heap.size := hn.size
  have hbs := hb.size
  have hoff : OffS A w w5 := (OffS.of_below (below_step hb (bel0 W))).trans (hn.off.mono fun k hk => .inl hk)
  have hg4 : w5.heap[g4]? = some anZ := (hn.off.block g4 h2 fun e => by have := hA.lt _ e; omega).trans hL
  refine ⟨⟨⟨A', fun k hk => ⟨(a1 k hk).1.imp id fun h' => ?_, (a1 k hk).2, fun e => ?_, fun e => ?_⟩, ?_⟩, ?_, ?_, ?_, by omega, h1, by omega⟩, hw1, hal⟩
  · have h'' : W.heap.size ≤ k := h'
    omega
  · subst e
    rcases (a1 k hk).1 with h' | h'
    · have := hA.lt _ h'
      omega
    · have h'' : W.heap.size ≤ k := h'
      omega
  · have := a2.lt k hk
    omega
  · exact (a2.below hal).keep hw1.size fun k hk => hw1.block k ((a2.below hal).lt k hk) fun e => by have e' : k = w5.heap.size := e; have := a2.lt k hk; omega
  · exact (hoff.trans (OffS.of_below hal)).trans (hw1.mono fun k hk => .inr (by have e : k = w5.heap.size := hk; omega))
  · exact setRow_heap _ _ _ _ 37 _ (heap_alloc_new w5 _)
  · exact (setRow_other _ _ _ _ (by omega)).trans ((heap_alloc_old w5 _ (by omega)).trans hg4)

theorem dn_soon {w W w5 : World} {A : Nat → Prop} {a : Nat} {s s2 : As} {R : Nat → Prop} {g4 : Nat} {er : Int} {v : Nat × Nat} {b : Bool} (hb : Below w.heap.size w W) (hA : Aw w A a s) (h1 : w.heap.size ≤ g4) (h2 : g4 < W.heap.size) (hL : W.heap[g4]? = some anZ) (hn : Ng (W.drew.alloc anZ) w5 A a s2 R) :
    Dn w (w5.setRow W.heap.size #[.int .i64 er, .complex .f64 v.1 v.2, .bool b]) A a s2 R g4 W.heap.size er v b ∧ OffS (fun k => k = W.heap.size) w5 (w5.setRow W.heap.size #[.int .i64 er, .complex .f64 v.1 v.2, .bool b]) ∧ w5.heap[W.heap.size]? = some anZ := by
  have hw1 : OffS (fun k => k = W.heap.size) w5 (w5.setRow W.heap.size #[.int .i64 er, .complex .f64 v.1 v.2, .bool b]) := ⟨rfl, rfl, rfl, by simp, fun k _ hk => setRow_other _ _ k _ hk⟩
  obtain ⟨A', a1, a2⟩ := hn.ag
  have hz : (W.drew.alloc anZ).heap.size = W.heap.size + 1 := by simp
  have hs := hn.size
  rw [hz] at hs
  have hbs := hb.size
  have hbb : Below w.heap.size w (W.drew.alloc anZ) := below_step hb (below_step (bel0 W) ((Below.refl _ _).alloc (Nat.le_refl _) _))
  have hnA : ∀ k, A k → k < W.heap.size := fun k hk => by have := hA.lt k hk; omega
  have hnew : w5.heap[W.heap.size]? = some anZ := (hn.off.block W.heap.size (by omega) fun e => by have := hnA _ e; omega).trans (heap_alloc_new W.drew _)
  have hoff : OffS A w w5 := (OffS.of_below hbb).trans (hn.off.mono fun k hk => .inl hk)
  have hg4 : w5.heap[g4]? = some anZ := (hn.off.block g4 (by omega) fun e => by have := hA.lt _ e; omega).trans ((heap_alloc_old W.drew _ h2).trans hL)
  refine ⟨⟨⟨A', fun k hk => ⟨(a1 k hk).1.imp id fun h' => by omega, (a1 k hk).2, fun e => ?_, fun e => ?_⟩, ?_⟩, ?_, ?_, ?_, by omega, h1, by omega⟩, hw1, hnew⟩
  · subst e
    rcases (a1 k hk).1 with h' | h'
    · have := hA.lt _ h'
      omega
    · omega
  · rcases (a1 k hk).1 with h' | h'
    · have := hnA _ h'
      omega
    · omega
  · refine a2.keep hw1.size fun k hk => hw1.block k (a2.lt k hk) fun e => ?_
    have e' : k = W.heap.size := e
    rcases (a1 k hk).1 with h' | h'
    · have := hnA _ h'
      omega
    · omega
  · exact hoff.trans (hw1.mono fun k hk => .inr (by have e : k = W.heap.size := hk; omega))
  · exact setRow_heap _ _ _ _ 37 _ hnew
  · exact (setRow_other _ _ _ _ (by omega)).trans hg4

theorem Hg.of {w w' : World} {G A D A' D' : Nat → Prop} {g : Nat} {cl ep bo : Int} {a l : Nat} {xo xo' : Option Addr} {xc xc' : Nat} {s s2 : As} {L L2 : List (List Nat)} {sn h sn2 h2 : Nat} (H : Gk w A D g cl ep bo a l xo xc s L sn h) (hG : G g ∧ (∀ k, A k → G k) ∧ (∀ k, D k → G k) ∧ (∀ x, xo = some x → G x.block) ∧ ∀ k, G k → k < w.heap.size)
    (K : Gk w' A' D' g cl ep bo a l xo' xc' s2 L2 sn2 h2) (hA : ∀ k, A' k → A k ∨ w.heap.size ≤ k) (hD : ∀ k, D' k → D k ∨ w.heap.size ≤ k) (hx : ∀ x, xo' = some x → Ro xo x.block ∨ w.heap.size ≤ x.block) (ho : OffS G w w') : Hg w w' G g cl ep bo s2 L2 sn2 h2 := by
  refine ⟨⟨fun k => k = g ∨ A' k ∨ D' k ∨ Ro xo' k, fun k hk => ?_, A', D', a, l, xo', xc', K, .inl rfl, fun k hk => .inr (.inl hk), fun k hk => .inr (.inr (.inl hk)), fun x hx => .inr (.inr (.inr ⟨x, hx, rfl⟩)), fun k hk => ?_⟩, ho⟩
  · rcases hk with rfl | hk | hk | ⟨x, hx', rfl⟩
    · exact .inl hG.1
    · exact (hA k hk).imp (hG.2.1 k) id
    · exact (hD k hk).imp (hG.2.2.1 k) id
    · rcases hx x hx' with ⟨y, hy, e⟩ | h'
      · exact .inl (e ▸ hG.2.2.2.1 y hy)
      · exact .inr h'
  · rcases hk with rfl | hk | hk | ⟨x, hx', rfl⟩
    · exact (Array.getElem?_eq_some_iff.1 K.blk).1
    · exact K.ag.lt k hk
    · exact K.lk.lt k hk
    · exact (K.ox.inn x hx').2

/-- Behind an answer of the agent: the guest as it was but for its agent. -/
theorem Gk.agent {w V V' : World} {A D : Nat → Prop} {g : Nat} {cl ep bo : Int} {a l : Nat} {xo : Option Addr} {xc : Nat} {s s2 : As} {L : List (List Nat)} {sn h : Nat} {R : Nat → Prop} {n1 m : Nat} {er : Int} {v : Nat × Nat} {b : Bool} (H : Gk w A D g cl ep bo a l xo xc s L sn h) (hd : Dn w V A a s2 R n1 m er v b) (hO : OffS (fun k => k = n1) V V') :
    ∃ A', (∀ k, A' k → (A k ∨ w.heap.size ≤ k) ∧ ¬ R k ∧ k ≠ n1 ∧ k ≠ m) ∧ Gk V' A' D g cl ep bo a l xo xc s2 L sn h ∧ OffS A w V' := by
  obtain ⟨A', a1, a2⟩ := hd.ag
  have hs := hd.off.size
  have hoff : OffS A w V' := hd.off.trans (hO.mono fun k hk => .inr (by have e : k = n1 := hk; have := hd.ne.2.1; omega))
  have hg := (Array.getElem?_eq_some_iff.1 H.blk).1
  have hnA : ∀ k, k < w.heap.size → ¬ A k → ¬ A' k := fun k hk hn e => by
    rcases (a1 k e).1 with h' | h'
    · exact hn h'
    · omega
  have hDA : ∀ k, D k → ¬ A k := fun k hk e => H.ad k e hk
  refine ⟨A', a1, ⟨(hoff.block g hg H.ga).trans H.blk, a2.keep hO.size fun k hk => hO.block k (a2.lt k hk) (a1 k hk).2.2.1, H.lk.keep hoff.size fun k hk => hoff.block k (H.lk.lt k hk) (hDA k hk), H.ox.keep fun x hx => hoff.block _ (H.ox.inn x hx).2 (H.gx x hx).2.1, hnA g hg H.ga, H.gd, fun x hx => ⟨(H.gx x hx).1, hnA _ (H.ox.inn x hx).2 (H.gx x hx).2.1, (H.gx x hx).2.2⟩, fun k hk e => hnA k (H.lk.lt k e) (hDA k e) hk⟩, hoff⟩

theorem hg_none {w V V' : World} {G A D : Nat → Prop} {g : Nat} {cl ep bo : Int} {a l : Nat} {xo : Option Addr} {xc : Nat} {s s2 : As} {L : List (List Nat)} {sn h : Nat} {R : Nat → Prop} {n1 m : Nat} {er : Int} {v : Nat × Nat} {b : Bool} (H : Gk w A D g cl ep bo a l xo xc s L sn h) (hG : G g ∧ (∀ k, A k → G k) ∧ (∀ k, D k → G k) ∧ (∀ x, xo = some x → G x.block) ∧ ∀ k, G k → k < w.heap.size) (hn : w.heap.size ≤ n1) (hd : Dn w V A a s2 R n1 m er v b) (hO : OffS (fun k => k = n1) V V') : Hg w V' G g cl ep bo s2 L sn h := by
  obtain ⟨A', h1, h2, h3⟩ := H.agent hd hO
  exact .of H hG h2 (fun k hk => (h1 k hk).1) (fun k hk => .inl hk) (fun x hx => .inl ⟨x, hx, rfl⟩) (h3.mono hG.2.1)

set_option maxHeartbeats 3200000 in
theorem gdo_none {w : World} {G : Nat → Prop} {g : Nat} {cl ep bo : Int} {s : As} {L : List (List Nat)} {sn h : Nat} (H : Gw w G g cl ep bo s L sn h) (x : Og) (er : Int) (v : Nat × Nat) (b : Bool) (s2 : As) (H15 : (∀ A a W, Aw W A a s → Calls Tryz.prog 15 #[cp a, opV x] W fun e w' => e = .returned (.tuple #[.slice none 0 0, anV er v b]) ∧ Ng W w' A a s2 Rn)) : Calls Tryz.prog 11 #[cp g, opV x] w fun e w' => e = .returned (.tuple #[.slice none 0 0, anV er v b]) ∧ Hg w w' G g cl ep bo s2 L sn h := by
  have hst := fun (ad : Addr) (re im : Nat) (W : World) => run_store Tryz.prog W ad (.complex .f64 re im) .plain rfl
  obtain ⟨A, D, a, l, xo, xc, H, hG⟩ := H
  obtain ⟨xk, xp, xy, xv⟩ := x
  have HW : Hid _ := al2n w (opO ⟨xk, xp, xy, xv⟩) anZ
  have HA : Hid (Gk w A D g cl ep bo a l xo xc s L sn h ∧ (G g ∧ (∀ k, A k → G k) ∧ (∀ k, D k → G k) ∧ (∀ x, xo = some x → G x.block) ∧ ∀ k, G k → k < w.heap.size) ∧ (∀ A a W, Aw W A a s → Calls Tryz.prog 15 #[cp a, opV ⟨xk, xp, xy, xv⟩] W fun e w' => e = .returned (.tuple #[.slice none 0 0, anV er v b]) ∧ Ng W w' A a s2 Rn)) := ⟨H, hG, H15⟩
  clear H hG H15
  go_enter Tryz.func11, Tryz.ntmps11
  go_upto_region 1 with fail
  show Code.wp _ _ _ _ ((w.alloc (opO ⟨xk, xp, xy, xv⟩)).alloc anZ)
  generalize (w.alloc (opO ⟨xk, xp, xy, xv⟩)).alloc anZ = W at *
  obtain ⟨g3, hg3⟩ : ∃ g, w.heap.size = g := ⟨_, rfl⟩
  obtain ⟨g4, hg4⟩ : ∃ g, w.heap.size + 1 = g := ⟨_, rfl⟩
  have HG : Hid (w.heap.size = g3 ∧ w.heap.size + 1 = g4 ∧ Below w.heap.size w W ∧ g4 < W.heap.size ∧ g < w.heap.size) := ⟨hg3, hg4, HW.out.2.2, (Array.getElem?_eq_some_iff.1 (hg4 ▸ HW.out.2.1)).1, (Array.getElem?_eq_some_iff.1 HA.out.1.blk).1⟩
  have HL : Hid (W.heap[g3]? = some (opO ⟨xk, xp, xy, xv⟩) ∧ W.heap[g4]? = some anZ) := ⟨hg3 ▸ HW.out.1, hg4 ▸ HW.out.2.1⟩
  rw [hg4, hg3]
  clear hg3 hg4 HW
  have HGW : Hid (Gk W A D g cl ep bo a l xo xc s L sn h) := HA.out.1.below HG.out.2.2.1
  obtain ⟨c0, c1, c2, c3, c4, c5⟩ := gu_cells HGW.out.blk
  go_upto_region 5 with fail
  clear c0 c1 c2 c3 c4 c5
  have HZ : Hid (∀ k, k = g ∨ k = g3 ∨ k = g4 → k < W.heap.size ∧ ¬ A k) := by
    have t := HG.out
    have tz := t.2.2.1.size
    rintro k (rfl | rfl | rfl)
    · exact ⟨by omega, HA.out.1.ga⟩
    · exact ⟨by omega, fun e => by have := HA.out.1.ag.lt _ e; omega⟩
    · exact ⟨by omega, fun e => by have := HA.out.1.ag.lt _ e; omega⟩
  have HC : Hid (∀ V : World, (∀ k, k = g ∨ k = g3 ∨ k = g4 → V.heap[k]? = W.heap[k]?) → V.cell? ⟨g, 2, none⟩ = some (cp a) ∧ V.cell? ⟨g3, 0, none⟩ = some (.int .i64 xk) ∧ V.cell? ⟨g3, 1, none⟩ = some (.int .i64 xp) ∧ V.cell? ⟨g3, 2, none⟩ = some (.int .i64 xy) ∧ V.cell? ⟨g3, 3, none⟩ = some (.complex .f64 xv.1 xv.2)) := by
    intro V hV
    obtain ⟨c0, c1, c2, c3, c4, c5⟩ := gu_cells ((hV g (.inl rfl)).trans HGW.out.blk)
    exact ⟨c2, op_cells ((hV g3 (.inr (.inl rfl))).trans HL.out.1)⟩
  have HT : Hid (∀ V, Below W.heap.size W V → Calls Tryz.prog 15 #[cp a, opV ⟨xk, xp, xy, xv⟩] V fun e w' => e = .returned (.tuple #[.slice none 0 0, anV er v b]) ∧ (∀ k, k = g ∨ k = g3 ∨ k = g4 → w'.heap[k]? = W.heap[k]?) ∧ Hid (∀ k, k = g ∨ k = g3 ∨ k = g4 → k < w'.heap.size) ∧ Hid (Ng V w' A a s2 Rn)) := by
    intro V hV
    refine (HA.out.2.2 A a V (HGW.out.ag.below hV)).mono ?_
    rintro e w' ⟨rfl, hn⟩
    have t : ∀ k, k = g ∨ k = g3 ∨ k = g4 → w'.heap[k]? = W.heap[k]? := fun k hk => (hn.off.block k (Nat.lt_of_lt_of_le (HZ.out k hk).1 hV.size) (HZ.out k hk).2).trans (hV.block k (HZ.out k hk).1)
    exact ⟨rfl, t, fun k hk => Nat.lt_of_lt_of_le (Nat.lt_of_lt_of_le (HZ.out k hk).1 hV.size) hn.size, hn⟩
  refine wp_region_held (S := fun V => ∀ k, k = g ∨ k = g3 ∨ k = g4 → V.heap[k]? = W.heap[k]?) (by kernel_rfl) ?_
  have hS : ∀ k, k = g ∨ k = g3 ∨ k = g4 → W.drew.heap[k]? = W.heap[k]? := fun _ _ => rfl
  refine held_val (i := 0) ?_ 22 rfl rfl (by kernel_rfl) (by kernel_rfl) (by kernel_rfl) (by rfl) (fun _ _ _ h => h) hS ?_ ?_
  rotate_left
  · (intro w hSw; go_simp; first | done | with_reducible rfl)
  simp only [Act.put, List.setIfInBounds_toArray, List.set_cons_zero, List.set_cons_succ]
  refine held_val (i := 1) ?_ 23 rfl rfl (by kernel_rfl) (by kernel_rfl) (by kernel_rfl) (by rfl) (fun _ _ _ h => h) hS ?_ ?_
  rotate_left
  · (intro w hSw; go_simp; first | done | with_reducible rfl)
  simp only [Act.put, List.setIfInBounds_toArray, List.set_cons_zero, List.set_cons_succ]
  refine held_val (i := 2) ?_ 24 rfl rfl (by kernel_rfl) (by kernel_rfl) (by kernel_rfl) (by rfl) (fun _ _ _ h => h) hS ?_ ?_
  rotate_left
  · (intro w hSw; go_simp; first | done | with_reducible rfl)
  simp only [Act.put, List.setIfInBounds_toArray, List.set_cons_zero, List.set_cons_succ]
  refine held_val (i := 3) ?_ 25 rfl rfl (by kernel_rfl) (by kernel_rfl) (by kernel_rfl) (by rfl) (fun _ _ _ h => h) hS ?_ ?_
  rotate_left
  · (intro w hSw; obtain ⟨k2, y0, y1, y2, y3⟩ := HC.out w hSw; go_simp; first | done | with_reducible rfl)
  simp only [Act.put, List.setIfInBounds_toArray, List.set_cons_zero, List.set_cons_succ]
  refine held_val (i := 4) ?_ 26 rfl rfl (by kernel_rfl) (by kernel_rfl) (by kernel_rfl) (by rfl) (fun _ _ _ h => h) hS ?_ ?_
  rotate_left
  · (intro w hSw; obtain ⟨k2, y0, y1, y2, y3⟩ := HC.out w hSw; go_simp; first | done | with_reducible rfl)
  simp only [Act.put, List.setIfInBounds_toArray, List.set_cons_zero, List.set_cons_succ]
  refine held_pair (i := 5) (j := 9) (by kernel_rfl) ?_ ?_
  · refine op_call 27 15 #[cp a, opV ⟨xk, xp, xy, xv⟩] rfl rfl (by rfl) (by simp [go_sem]) (HT.out W.drew (bel0 W)) ?_
    rintro e w5 ⟨rfl, hSx, HZ5, HN⟩
    refine ⟨_, rfl, hSx, ?_⟩
    simp only [Act.put, List.setIfInBounds_toArray, List.set_cons_zero, List.set_cons_succ]
    refine held_val (i := 6) ?_ 21 rfl rfl (by kernel_rfl) (by kernel_rfl) (by kernel_rfl) (by rfl) (fun _ _ _ h => h) hSx ?_ ?_
    rotate_left
    · (intro w hSw; go_simp; first | done | with_reducible rfl)
    simp only [Act.put, List.setIfInBounds_toArray, List.set_cons_zero, List.set_cons_succ]
    refine held_val (i := 7) ?_ 28 rfl rfl (by kernel_rfl) (by kernel_rfl) (by kernel_rfl) (by rfl) (fun _ _ _ h => h) hSx ?_ ?_
    rotate_left
    · (intro w hSw; go_simp; first | done | with_reducible rfl)
    simp only [Act.put, List.setIfInBounds_toArray, List.set_cons_zero, List.set_cons_succ]
    refine held_val (i := 8) ?_ 29 rfl rfl (by kernel_rfl) (by kernel_rfl) (by kernel_rfl) (by rfl) (fun _ _ _ h => h) hSx ?_ ?_
    rotate_left
    · (intro w hSw; go_simp; first | done | with_reducible rfl)
    simp only [Act.put, List.setIfInBounds_toArray, List.set_cons_zero, List.set_cons_succ]
    have hSy : ∀ k, k = g ∨ k = g3 ∨ k = g4 → (w5.alloc anZ).heap[k]? = W.heap[k]? := fun k hk => (heap_alloc_old w5 _ (HZ5.out k hk)).trans (hSx k hk)
    refine held_run (i := 9) 7 (.pointer (some ⟨w5.heap.size, 0, none⟩)) (w5.alloc anZ) rfl rfl (by kernel_rfl) (by rfl) (by go_simp; first | done | with_reducible rfl) hSy ?_
    simp only [Act.put, List.setIfInBounds_toArray, List.set_cons_zero, List.set_cons_succ]
    refine held_val (i := 10) ?_ 6 rfl rfl (by kernel_rfl) (by kernel_rfl) (by kernel_rfl) (by rfl) (fun _ _ _ h => h) hSy ?_ ?_
    rotate_left
    · (intro w hSw; go_simp; first | done | with_reducible rfl)
    simp only [Act.put, List.setIfInBounds_toArray, List.set_cons_zero, List.set_cons_succ]
    have HD : Hid (Dn w ((w5.alloc anZ).setRow w5.heap.size #[.int .i64 er, .complex .f64 v.1 v.2, .bool b]) A a s2 (Rn) g4 w5.heap.size er v b ∧ OffS (fun k => k = w5.heap.size) (w5.alloc anZ) ((w5.alloc anZ).setRow w5.heap.size #[.int .i64 er, .complex .f64 v.1 v.2, .bool b]) ∧ Below w5.heap.size w5 (w5.alloc anZ)) := dn_late HG.out.2.2.1 HA.out.1.ag (by have := HG.out; omega) HG.out.2.2.2.1 (HL.out.2) HN.out
    have hSz : ∀ k, k = g ∨ k = g3 ∨ k = g4 → ((w5.alloc anZ).setRow w5.heap.size #[.int .i64 er, .complex .f64 v.1 v.2, .bool b]).heap[k]? = W.heap[k]? := fun k hk => (setRow_other _ _ _ _ (by have := HZ5.out k hk; omega)).trans (hSy k hk)
    refine held_last (i := 11) ((w5.alloc anZ).setRow w5.heap.size #[.int .i64 er, .complex .f64 v.1 v.2, .bool b]) rfl (by kernel_rfl) (by rfl) (Go.wp_store_row 37 _ _ rfl w5.heap.size #[.int .i64 er, .complex .f64 v.1 v.2, .bool b] rfl rfl 37 #[.int .i64 0, .complex .f64 0 0, .bool false] (heap_alloc_new w5 _) (by kernel_rfl) rfl (by kernel_rfl) ⟨rfl, rfl⟩) hSz ?_
    refine wpAnyH_done (by kernel_rfl) ?_ _
    have HGz : Hid (w.heap.size ≤ g4) := by have := HG.out; show _ ≤ _; omega
    clear hSx hSy
    obtain ⟨m, hm⟩ : ∃ m, w5.heap.size = m := ⟨_, rfl⟩
    rw [hm] at HD hSz ⊢
    generalize (w5.alloc anZ).setRow m #[.int .i64 er, .complex .f64 v.1 v.2, .bool b] = V at *
    clear HT HC HL HZ HZ5 HN
    obtain ⟨z0, z1, z2⟩ := an_cells HD.out.1.bm
    obtain ⟨y0, y1, y2⟩ := an_cells HD.out.1.b1
    have zf := an_fz HD.out.1.b1
    go_wp2
    go_region
    go_wp2
    refine bodyPost_ret (by simp [results, Tryz.results11, go_sem, y0, y1, y2]; try rfl) rfl ?_
    refine ⟨rfl, ?_⟩
    refine hg_none HA.out.1 HA.out.2.1 (V := V) HGz.out HD.out.1 ?_
    refine OffS.trans ?_ (OffS.of_below (bel0 _))
    repeat (first | (with_reducible exact OffS.refl _ _) | (with_reducible refine OffS.setCell (A := fun j => j = g4) ?_ rfl _))
  · refine op_run 7 (.pointer (some ⟨W.heap.size, 0, none⟩)) (W.drew.alloc anZ) rfl rfl (by rfl) (by go_simp; first | done | with_reducible rfl) ?_
    have hSy : ∀ k, k = g ∨ k = g3 ∨ k = g4 → (W.drew.alloc anZ).heap[k]? = W.heap[k]? := fun k hk => heap_alloc_old W.drew _ (HZ.out k hk).1
    refine ⟨hSy, ?_⟩
    simp only [Act.put, List.setIfInBounds_toArray, List.set_cons_zero, List.set_cons_succ]
    refine held_call (i := 5) 27 15 #[cp a, opV ⟨xk, xp, xy, xv⟩] rfl rfl (by kernel_rfl) (by rfl) (by simp [go_sem]) (HT.out (W.drew.alloc anZ) (below_step (bel0 W) ((Below.refl _ _).alloc (Nat.le_refl _) _))) ?_
    rintro e w5 ⟨rfl, hSx, HZ5, HN⟩
    refine ⟨_, rfl, hSx, ?_⟩
    simp only [Act.put, List.setIfInBounds_toArray, List.set_cons_zero, List.set_cons_succ]
    refine held_val (i := 6) ?_ 21 rfl rfl (by kernel_rfl) (by kernel_rfl) (by kernel_rfl) (by rfl) (fun _ _ _ h => h) hSx ?_ ?_
    rotate_left
    · (intro w hSw; go_simp; first | done | with_reducible rfl)
    simp only [Act.put, List.setIfInBounds_toArray, List.set_cons_zero, List.set_cons_succ]
    refine held_val (i := 7) ?_ 28 rfl rfl (by kernel_rfl) (by kernel_rfl) (by kernel_rfl) (by rfl) (fun _ _ _ h => h) hSx ?_ ?_
    rotate_left
    · (intro w hSw; go_simp; first | done | with_reducible rfl)
    simp only [Act.put, List.setIfInBounds_toArray, List.set_cons_zero, List.set_cons_succ]
    refine held_val (i := 8) ?_ 29 rfl rfl (by kernel_rfl) (by kernel_rfl) (by kernel_rfl) (by rfl) (fun _ _ _ h => h) hSx ?_ ?_
    rotate_left
    · (intro w hSw; go_simp; first | done | with_reducible rfl)
    simp only [Act.put, List.setIfInBounds_toArray, List.set_cons_zero, List.set_cons_succ]
    refine held_val (i := 10) ?_ 6 rfl rfl (by kernel_rfl) (by kernel_rfl) (by kernel_rfl) (by rfl) (fun _ _ _ h => h) hSx ?_ ?_
    rotate_left
    · (intro w hSw; go_simp; first | done | with_reducible rfl)
    simp only [Act.put, List.setIfInBounds_toArray, List.set_cons_zero, List.set_cons_succ]
    have HD : Hid (Dn w (w5.setRow W.heap.size #[.int .i64 er, .complex .f64 v.1 v.2, .bool b]) A a s2 (Rn) g4 W.heap.size er v b ∧ OffS (fun k => k = W.heap.size) w5 (w5.setRow W.heap.size #[.int .i64 er, .complex .f64 v.1 v.2, .bool b]) ∧ w5.heap[W.heap.size]? = some anZ) := dn_soon HG.out.2.2.1 HA.out.1.ag (by have := HG.out; omega) HG.out.2.2.2.1 (HL.out.2) HN.out
    have hSz : ∀ k, k = g ∨ k = g3 ∨ k = g4 → (w5.setRow W.heap.size #[.int .i64 er, .complex .f64 v.1 v.2, .bool b]).heap[k]? = W.heap[k]? := fun k hk => (setRow_other _ _ _ _ (by have := HZ.out k hk; omega)).trans (hSx k hk)
    refine held_last (i := 11) (w5.setRow W.heap.size #[.int .i64 er, .complex .f64 v.1 v.2, .bool b]) rfl (by kernel_rfl) (by rfl) (Go.wp_store_row 37 _ _ rfl W.heap.size #[.int .i64 er, .complex .f64 v.1 v.2, .bool b] rfl rfl 37 #[.int .i64 0, .complex .f64 0 0, .bool false] HD.out.2.2 (by kernel_rfl) rfl (by kernel_rfl) ⟨rfl, rfl⟩) hSz ?_
    refine wpAnyH_done (by kernel_rfl) ?_ _
    have HGz : Hid (w.heap.size ≤ g4) := by have := HG.out; show _ ≤ _; omega
    clear hSx hSy
    obtain ⟨m, hm⟩ : ∃ m, W.heap.size = m := ⟨_, rfl⟩
    rw [hm] at HD hSz ⊢
    generalize w5.setRow m #[.int .i64 er, .complex .f64 v.1 v.2, .bool b] = V at *
    clear HT HC HL HZ HZ5 HN
    obtain ⟨z0, z1, z2⟩ := an_cells HD.out.1.bm
    obtain ⟨y0, y1, y2⟩ := an_cells HD.out.1.b1
    have zf := an_fz HD.out.1.b1
    go_wp2
    go_region
    go_wp2
    refine bodyPost_ret (by simp [results, Tryz.results11, go_sem, y0, y1, y2]; try rfl) rfl ?_
    refine ⟨rfl, ?_⟩
    refine hg_none HA.out.1 HA.out.2.1 (V := V) HGz.out HD.out.1 ?_
    refine OffS.trans ?_ (OffS.of_below (bel0 _))
    repeat (first | (with_reducible exact OffS.refl _ _) | (with_reducible refine OffS.setCell (A := fun j => j = g4) ?_ rfl _))

end Go.Proofs.YtmmgdmfdiaoegaaGreat
