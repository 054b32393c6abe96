/- hear and Got of package guest, walked: a packet that tells no body; the packet that brings a session. -/
import Derived.Test.YtmmgdmfdiaoegaaGreatG3
namespace Go.Proofs.YtmmgdmfdiaoegaaGreat
open Go.RowKit
set_option linter.unusedVariables false
set_option maxRecDepth 8000

theorem pk_cells {w : World} {b : Nat} {P : Lnk.PkG} {u : Value} (h : w.heap[b]? = some (Lnk.pkO P u)) : w.cell? ⟨b, 0, none⟩ = some (.int .i64 P.cl) ∧ w.cell? ⟨b, 1, none⟩ = some (.int .i64 P.ep) ∧ w.cell? ⟨b, 2, none⟩ = some (.int .i64 P.bo) ∧ w.cell? ⟨b, 3, none⟩ = some (.int .i64 P.sq) ∧ w.cell? ⟨b, 4, none⟩ = some (.int .i64 P.ak) ∧ w.cell? ⟨b, 5, none⟩ = some (.bool P.sv) ∧ w.cell? ⟨b, 6, none⟩ = some u := by
  refine ⟨?_, ?_, ?_, ?_, ?_, ?_, ?_⟩
  all_goals rw [cell_of_row _ _ _ _ _ _ h]; rfl

theorem wp_store_cell {P : Program} {op : Oper} {a : Act} {w : World} {K : Act → World → Prop} {Q : Exit → Act → World → Prop} (ty : TypeId) (x y : Operand) (ho : op.op = .store ty x y)
    (b j : Nat) (v : Value) (hx : a.eval x = .pointer (some ⟨b, j, none⟩)) (hy : a.eval y = v) (hc : ∃ u, w.cell? ⟨b, j, none⟩ = some u) (hf : w.frozen? ⟨b, j, none⟩ = false)
    (h1 : v.oneCell' = true) (hv : v.cells = #[v]) (hi : (P.info? ty).map (·.size) = some 1) (h : K (a.put op.dst undef) (w.setCell ⟨b, j, none⟩ v)) : op.wp P a w K Q := by
  obtain ⟨u, hc⟩ := hc
  cases hq : P.info? ty with
  | none => simp [hq] at hi
  | some i =>
    have hs : i.size = 1 := by simpa [hq] using hi
    have hr : (storeVar ty ⟨b, j, none⟩ v).run P w = .ok () (w.setCell ⟨b, j, none⟩ v) := by
      simp [storeVar, sizeOf, typeInfo, hq, hv, hs, storeCells, run_store P w _ v .plain h1, hc, hf, Addr.add]
    unfold Oper.wp execOp
    simp only [ho, hx, hy, Instr.storeAt, Instr.sureAddr, Sem.run_bind, Sem.run_pure, Result.andThen_ok, hr]
    exact h

section
variable {w w' : World} {A D : Nat → Prop} {g : Nat} {cl ep bo : Int} {a l : Nat} {xo : Option Addr} {xc : Nat} {s : As} {L : List (List Nat)} {sn h : Nat}
theorem Gk.below (H : Gk w A D g cl ep bo a l xo xc s L sn h) (hb : Below w.heap.size w w') : Gk w' A D g cl ep bo a l xo xc s L sn h :=
  H.keep hb.size (hb.block g (Array.getElem?_eq_some_iff.1 H.blk).1) (fun k hk => hb.block k (H.ag.lt k hk)) (fun k hk => hb.block k (H.lk.lt k hk)) (fun x hx => hb.block _ (H.ox.inn x hx).2)
/-- A step of the link. -/
theorem Gk.link (H : Gk w A D g cl ep bo a l xo xc s L sn h) {L2 : List (List Nat)} {s2 h2 : Nat} (hn : Nl w w' D l ⟨cl, ep, bo, false⟩ L2 s2 h2) : ∃ D', (∀ k, D' k → D k ∨ w.heap.size ≤ k) ∧ Gk w' A D' g cl ep bo a l xo xc s L2 s2 h2 := by
  obtain ⟨D', h1, h3⟩ := hn.lk
  have hg := (Array.getElem?_eq_some_iff.1 H.blk).1
  have hno : ∀ k, k < w.heap.size → ¬ D k → ¬ D' k := fun k hk hD e => by
    rcases h1 k e with h' | h'
    · exact hD h'
    · omega
  refine ⟨D', h1, (hn.off.block g hg H.gd).trans H.blk, H.ag.keep hn.size fun k hk => hn.off.block k (H.ag.lt k hk) (H.ad k hk), h3, H.ox.keep fun x hx => hn.off.block _ (H.ox.inn x hx).2 (H.gx x hx).2.2, H.ga, hno g hg H.gd, fun x hx => ⟨(H.gx x hx).1, (H.gx x hx).2.1, hno _ (H.ox.inn x hx).2 (H.gx x hx).2.2⟩, fun k hk => hno k (H.ag.lt k hk) (H.ad k hk)⟩
/-- A block of the caller's own is written. -/
theorem Gk.far (H : Gk w A D g cl ep bo a l xo xc s L sn h) {n1 : Nat} (hn : n1 ≠ g ∧ ¬ A n1 ∧ ¬ D n1 ∧ ¬ Ro xo n1) (ho : OffS (fun k => k = n1) w w') : Gk w' A D g cl ep bo a l xo xc s L sn h :=
  H.keep ho.size (ho.block g (Array.getElem?_eq_some_iff.1 H.blk).1 fun e => hn.1 (Eq.symm e)) (fun k hk => ho.block k (H.ag.lt k hk) fun e => hn.2.1 ((show k = n1 from e) ▸ hk)) (fun k hk => ho.block k (H.lk.lt k hk) fun e => hn.2.2.1 ((show k = n1 from e) ▸ hk)) (fun x hx => ho.block _ (H.ox.inn x hx).2 fun e => hn.2.2.2 ⟨x, hx, e⟩)

set_option maxHeartbeats 3200000 in
theorem hear_no (H : Gk w A D g cl ep bo a l xo xc s L sn h) (P : Lnk.PkG) (u : Value) (U : Nat → Prop) (hy : Lnk.By w U u P.bs) (hm : P.bs.length ≤ 140737488355328) (hh : h < 16777215) (hb : Lnk.gotB ⟨cl, ep, bo, false⟩ sn h P = false) :
    Calls Tryz.prog 22 #[cp g, Lnk.pkV P u] w fun e w' => e = .returned (.tuple #[.slice none 0 0, anV 0 z2 false, .bool false]) ∧ ∃ D', (∀ k, D' k → D k ∨ w.heap.size ≤ k) ∧ Gk w' A D' g cl ep bo a l xo xc s (L.drop (Lnk.gotC ⟨cl, ep, bo, false⟩ L.length sn P)) sn h ∧ OffS D w w' := by
  have hst := fun (ad : Addr) (re im : Nat) (W : World) => run_store Tryz.prog W ad (.complex .f64 re im) .plain rfl
  have HW : Hid _ := al2n w (Lnk.pkO P u) anZ
  have HA : Hid (Gk w A D g cl ep bo a l xo xc s L sn h ∧ Lnk.By w U u P.bs ∧ P.bs.length ≤ 140737488355328 ∧ h < 16777215 ∧ Lnk.gotB ⟨cl, ep, bo, false⟩ sn h P = false) := ⟨H, hy, hm, hh, hb⟩
  clear H hy hm hh hb
  go_enter Tryz.func22, Tryz.ntmps22
  go_upto_region 1 with fail
  show Code.wp _ _ _ _ ((w.alloc (Lnk.pkO P u)).alloc anZ)
  generalize (w.alloc (Lnk.pkO P u)).alloc anZ = W at *
  obtain ⟨g3, hg3⟩ : ∃ g, w.heap.size = g := ⟨_, rfl⟩
  obtain ⟨g4, hg4⟩ : ∃ g, w.heap.size + 1 = g := ⟨_, rfl⟩
  have HG : Hid (w.heap.size = g3 ∧ w.heap.size + 1 = g4 ∧ Below w.heap.size w W ∧ g4 < W.heap.size) := ⟨hg3, hg4, HW.out.2.2, (Array.getElem?_eq_some_iff.1 (hg4 ▸ HW.out.2.1)).1⟩
  have HL : Hid (W.heap[g3]? = some (Lnk.pkO P u) ∧ W.heap[g4]? = some anZ) := ⟨hg3 ▸ HW.out.1, hg4 ▸ HW.out.2.1⟩
  rw [hg4, hg3]
  clear hg3 hg4 HW
  have HGW : Hid (Gk W A D g cl ep bo a l xo xc s L sn h) := HA.out.1.below HG.out.2.2.1
  have HC : Hid (∀ V : World, (∀ k, k = g ∨ k = g3 ∨ k = g4 → V.heap[k]? = W.heap[k]?) → V.cell? ⟨g, 3, none⟩ = some (cp l) ∧ V.cell? ⟨g3, 0, none⟩ = some (.int .i64 P.cl) ∧ V.cell? ⟨g3, 1, none⟩ = some (.int .i64 P.ep) ∧ V.cell? ⟨g3, 2, none⟩ = some (.int .i64 P.bo) ∧ V.cell? ⟨g3, 3, none⟩ = some (.int .i64 P.sq) ∧ V.cell? ⟨g3, 4, none⟩ = some (.int .i64 P.ak) ∧ V.cell? ⟨g3, 5, none⟩ = some (.bool P.sv) ∧ V.cell? ⟨g3, 6, none⟩ = some u) := by
    intro V hV
    obtain ⟨c0, c1, c2, c3, c4, c5⟩ := gu_cells ((hV g (.inl rfl)).trans HGW.out.blk)
    exact ⟨c3, pk_cells ((hV g3 (.inr (.inl rfl))).trans HL.out.1)⟩
  have HT : Hid (Calls Tryz.prog 34 #[cp l, Lnk.pkV P u] W.drew fun e w' => ∃ v, e = .returned (.tuple #[v, .bool false]) ∧ (∀ k, k = g ∨ k = g3 ∨ k = g4 → w'.heap[k]? = W.heap[k]?) ∧ Hid (Nl W w' D l ⟨cl, ep, bo, false⟩ (L.drop (Lnk.gotC ⟨cl, ep, bo, false⟩ L.length sn P)) sn h)) := by
    have hyW : Lnk.By W.drew U u P.bs := (HA.out.2.1.below HG.out.2.2.1).below (bel0 W)
    refine (gotW (HGW.out.lk.below (bel0 W)) P u U hyW HA.out.2.2.1 HA.out.2.2.2.1).mono ?_
    rintro e w' ⟨v, rfl, -, h2⟩
    have hH : Lnk.gotH ⟨cl, ep, bo, false⟩ sn h P = h := by unfold Lnk.gotH; rw [HA.out.2.2.2.2]; rfl
    rw [hH] at h2
    have h3 := h2.older (bel0 W)
    have hz : ∀ k, k = g ∨ k = g3 ∨ k = g4 → k < W.heap.size ∧ ¬ D k := by
      have t1 := HG.out
      rintro k (rfl | rfl | rfl)
      · exact ⟨(Array.getElem?_eq_some_iff.1 HGW.out.blk).1, HGW.out.gd⟩
      · exact ⟨by omega, fun e => by have := HA.out.1.lk.lt _ e; omega⟩
      · exact ⟨by omega, fun e => by have := HA.out.1.lk.lt _ e; omega⟩
    exact ⟨v, by rw [HA.out.2.2.2.2], fun k hk => h3.off.block k (hz k hk).1 (hz k hk).2, h3⟩
  refine wp_region_held (S := fun V => ∀ k, k = g ∨ k = g3 ∨ k = g4 → V.heap[k]? = W.heap[k]?) (by kernel_rfl) ?_
  have hS : ∀ k, k = g ∨ k = g3 ∨ k = g4 → W.drew.heap[k]? = W.heap[k]? := fun _ _ => rfl
  refine held_val (i := 0) ?_ 14 rfl rfl (by kernel_rfl) (by kernel_rfl) (by kernel_rfl) (by rfl) (fun _ _ _ h => h) hS ?_ ?_
  rotate_left
  · (intro w hSw; go_simp; first | done | with_reducible rfl)
  simp only [Act.put, List.setIfInBounds_toArray, List.set_cons_zero, List.set_cons_succ]
  refine held_val (i := 1) ?_ 15 rfl rfl (by kernel_rfl) (by kernel_rfl) (by kernel_rfl) (by rfl) (fun _ _ _ h => h) hS ?_ ?_
  rotate_left
  · (intro w hSw; go_simp; first | done | with_reducible rfl)
  simp only [Act.put, List.setIfInBounds_toArray, List.set_cons_zero, List.set_cons_succ]
  refine held_val (i := 2) ?_ 16 rfl rfl (by kernel_rfl) (by kernel_rfl) (by kernel_rfl) (by rfl) (fun _ _ _ h => h) hS ?_ ?_
  rotate_left
  · (intro w hSw; go_simp; first | done | with_reducible rfl)
  simp only [Act.put, List.setIfInBounds_toArray, List.set_cons_zero, List.set_cons_succ]
  refine held_val (i := 3) ?_ 17 rfl rfl (by kernel_rfl) (by kernel_rfl) (by kernel_rfl) (by rfl) (fun _ _ _ h => h) hS ?_ ?_
  rotate_left
  · (intro w hSw; obtain ⟨k3, q0, q1, q2, q3, q4, q5, q6⟩ := HC.out w hSw; go_simp; first | done | with_reducible rfl)
  simp only [Act.put, List.setIfInBounds_toArray, List.set_cons_zero, List.set_cons_succ]
  refine held_val (i := 4) ?_ 18 rfl rfl (by kernel_rfl) (by kernel_rfl) (by kernel_rfl) (by rfl) (fun _ _ _ h => h) hS ?_ ?_
  rotate_left
  · (intro w hSw; obtain ⟨k3, q0, q1, q2, q3, q4, q5, q6⟩ := HC.out w hSw; go_simp; first | done | with_reducible rfl)
  simp only [Act.put, List.setIfInBounds_toArray, List.set_cons_zero, List.set_cons_succ]
  refine held_call (i := 5) 19 34 #[cp l, Lnk.pkV P u] rfl rfl (by kernel_rfl) (by rfl) (by simp [go_sem]) HT.out ?_
  rintro e w5 ⟨v5, rfl, hSx, HP5⟩
  refine ⟨_, rfl, hSx, ?_⟩
  have hS5 := hSx
  simp only [Act.put, List.setIfInBounds_toArray, List.set_cons_zero, List.set_cons_succ]
  refine held_val (i := 6) ?_ 13 rfl rfl (by kernel_rfl) (by kernel_rfl) (by kernel_rfl) (by rfl) (fun _ _ _ h => h) hS5 ?_ ?_
  rotate_left
  · (intro w hSw; go_simp; first | done | with_reducible rfl)
  simp only [Act.put, List.setIfInBounds_toArray, List.set_cons_zero, List.set_cons_succ]
  refine held_val (i := 7) ?_ 20 rfl rfl (by kernel_rfl) (by kernel_rfl) (by kernel_rfl) (by rfl) (fun _ _ _ h => h) hS5 ?_ ?_
  rotate_left
  · (intro w hSw; go_simp; first | done | with_reducible rfl)
  simp only [Act.put, List.setIfInBounds_toArray, List.set_cons_zero, List.set_cons_succ]
  refine held_val (i := 8) ?_ 21 rfl rfl (by kernel_rfl) (by kernel_rfl) (by kernel_rfl) (by rfl) (fun _ _ _ h => h) hS5 ?_ ?_
  rotate_left
  · (intro w hSw; go_simp; first | done | with_reducible rfl)
  simp only [Act.put, List.setIfInBounds_toArray, List.set_cons_zero, List.set_cons_succ]
  refine held_val (i := 9) ?_ 7 rfl rfl (by kernel_rfl) (by kernel_rfl) (by kernel_rfl) (by rfl) (fun _ _ _ h => h) hS5 ?_ ?_
  rotate_left
  · (intro w hSw; go_simp; first | done | with_reducible rfl)
  simp only [Act.put, List.setIfInBounds_toArray, List.set_cons_zero, List.set_cons_succ]
  refine held_val (i := 10) ?_ 8 rfl rfl (by kernel_rfl) (by kernel_rfl) (by kernel_rfl) (by rfl) (fun _ _ _ h => h) hS5 ?_ ?_
  rotate_left
  · (intro w hSw; go_simp; first | done | with_reducible rfl)
  simp only [Act.put, List.setIfInBounds_toArray, List.set_cons_zero, List.set_cons_succ]
  refine wpAnyH_done (by kernel_rfl) ?_ _
  clear HT HC
  have HL5 : Hid (w5.heap[g4]? = some anZ) := (hSx g4 (.inr (.inr rfl))).trans HL.out.2
  have HPR : Hid (Calls Tryz.prog 35 #[cp g] w5 fun e w' => e = .returned (.slice none 0 0) ∧ w' = w5) := pumpRest_no ((hSx g (.inl rfl)).trans HGW.out.blk)
  clear hS hSx
  obtain ⟨z0, z1, z2⟩ := an_cells HL5.out
  have zf := an_fz HL5.out
  go_wp2_with (first
    | (go_at_call 35; refine HPR.out.mono ?_; rintro e w6 ⟨rfl, hw⟩; subst w6)
    | fail)
  refine bodyPost_ret (by simp [results, Tryz.results22, go_sem, z0, z1, z2]; try rfl) rfl ?_
  refine ⟨rfl, ?_⟩
  have key : ∀ V : World, OffS (fun k => k = g4) w5 V → ∃ D', (∀ k, D' k → D k ∨ w.heap.size ≤ k) ∧ Gk V A D' g cl ep bo a l xo xc s (L.drop (Lnk.gotC ⟨cl, ep, bo, false⟩ L.length sn P)) sn h ∧ OffS D w V := by
    intro V hV
    obtain ⟨D', h1, h2⟩ := HGW.out.link HP5.out
    have t := HG.out
    have hz := HA.out.1
    refine ⟨D', fun k hk => (h1 k hk).imp id fun h' => by have := t.2.2.1.size; omega, h2.far ⟨?_, fun e => ?_, fun e => ?_, ?_⟩ hV, ?_⟩
    · have := (Array.getElem?_eq_some_iff.1 hz.blk).1
      omega
    · have := hz.ag.lt _ e
      omega
    · rcases h1 _ e with h' | h'
      · have := hz.lk.lt _ h'
        omega
      · omega
    · rintro ⟨x, hx, e⟩
      have := (hz.ox.inn x hx).2
      omega
    · refine ((OffS.of_below t.2.2.1).trans (HP5.out.off.mono fun k hk => .inl hk)).trans (hV.mono fun k hk => .inr ?_)
      have : k = g4 := hk
      omega
  refine key _ ?_
  repeat (first | (with_reducible exact OffS.refl _ _) | (with_reducible refine OffS.setCell (A := fun k => k = g4) ?_ rfl _))
end

set_option maxHeartbeats 3200000 in
theorem got_new {w : World} {G : Nat → Prop} {g : Nat} {cl ep : Int} {s : As} (H : Gn w G g cl ep s) (pb sq ak : Int) (bs : List Nat) (u : Value) (U : Nat → Prop) (hy : Lnk.By w U u bs) (hm : bs.length ≤ 140737488355328) (h1 : 1 ≤ pb) (h2 : pb ≤ 16777215) (hb : Lnk.gotB ⟨cl, ep, pb, false⟩ 0 0 ⟨cl, ep, pb, sq, ak, true, bs⟩ = false) :
    Calls Tryz.prog 13 #[cp g, Lnk.pkV ⟨cl, ep, pb, sq, ak, true, bs⟩ u] w fun e w' => e = .returned (.tuple #[.slice none 0 0, anV 0 z2 false, .bool false]) ∧ Hg w w' G g cl ep pb s [] 0 0 := by
  have hst := fun (ad : Addr) (re im : Nat) (W : World) => run_store Tryz.prog W ad (.complex .f64 re im) .plain rfl
  have HW : Hid _ := al2n w (Lnk.pkO ⟨cl, ep, pb, sq, ak, true, bs⟩ u) anZ
  obtain ⟨A, a, hblk, hag, hga, hGg, hAG, hGl⟩ := H
  have HA : Hid (w.heap[g]? = some (guO cl ep a none 0 none 0 0) ∧ Aw w A a s ∧ ¬ A g ∧ G g ∧ (∀ k, A k → G k) ∧ (∀ k, G k → k < w.heap.size) ∧ Lnk.By w U u bs ∧ bs.length ≤ 140737488355328 ∧ Lnk.gotB ⟨cl, ep, pb, false⟩ 0 0 ⟨cl, ep, pb, sq, ak, true, bs⟩ = false) := ⟨hblk, hag, hga, hGg, hAG, hGl, hy, hm, hb⟩
  have HB : Hid (1 ≤ pb ∧ pb ≤ 16777215) := ⟨h1, h2⟩
  have hz : (pb == 0) = false := by simp; omega
  have hlt : decide (pb < pb) = false := by simp
  clear hblk hag hga hGg hAG hGl hy hm hb h1 h2
  go_enter Tryz.func13, Tryz.ntmps13
  go_upto_region 1 with fail
  show Code.wp _ _ _ _ ((w.alloc (Lnk.pkO ⟨cl, ep, pb, sq, ak, true, bs⟩ u)).alloc anZ)
  generalize (w.alloc (Lnk.pkO ⟨cl, ep, pb, sq, ak, true, bs⟩ u)).alloc anZ = W at *
  obtain ⟨g3, hg3⟩ : ∃ g, w.heap.size = g := ⟨_, rfl⟩
  obtain ⟨g4, hg4⟩ : ∃ g, w.heap.size + 1 = g := ⟨_, rfl⟩
  have HG : Hid (w.heap.size = g3 ∧ w.heap.size + 1 = g4 ∧ Below w.heap.size w W ∧ g4 < W.heap.size ∧ g < w.heap.size) := ⟨hg3, hg4, HW.out.2.2, (Array.getElem?_eq_some_iff.1 (hg4 ▸ HW.out.2.1)).1, (Array.getElem?_eq_some_iff.1 HA.out.1).1⟩
  have HL : Hid (W.heap[g3]? = some (Lnk.pkO ⟨cl, ep, pb, sq, ak, true, bs⟩ u) ∧ W.heap[g4]? = some anZ ∧ W.heap[g]? = some (guO cl ep a none 0 none 0 0)) := ⟨hg3 ▸ HW.out.1, hg4 ▸ HW.out.2.1, (HW.out.2.2.block g HG.out.2.2.2.2).trans HA.out.1⟩
  rw [hg4, hg3]
  clear hg3 hg4 HW
  have HM : Hid (Calls Tryz.prog 19 #[cp g, Lnk.pkV ⟨cl, ep, pb, sq, ak, true, bs⟩ u] W fun e w' => e = .returned (.bool true) ∧ Hid (Below W.heap.size W w')) := by
    refine (meant HL.out.2.2 pb sq ak bs u (by have := HB.out; omega) HB.out.2).mono ?_
    rintro e w' ⟨rfl, h⟩
    exact ⟨rfl, h⟩
  obtain ⟨q0, q1, q2, q3, q4, q5, q6⟩ := pk_cells HL.out.1
  simp only at q0 q1 q2 q3 q4 q5 q6
  go_upto_region 3 with (first
    | (go_at_call 19; refine HM.out.mono ?_; rintro e W1 ⟨rfl, HB1⟩)
    | fail)
  clear q0 q1 q2 q3 q4 q5 q6 HM
  have HD : Hid (Below w.heap.size w W1 ∧ g4 < W1.heap.size) := ⟨below_step HG.out.2.2.1 HB1.out, by have := HG.out; have := HB1.out.size; omega⟩
  have HL1 : Hid (W1.heap[g3]? = some (Lnk.pkO ⟨cl, ep, pb, sq, ak, true, bs⟩ u) ∧ W1.heap[g4]? = some anZ ∧ W1.heap[g]? = some (guO cl ep a none 0 none 0 0)) := by
    have t := HG.out
    exact ⟨(HB1.out.block g3 (by omega)).trans HL.out.1, (HB1.out.block g4 (by omega)).trans HL.out.2.1, (HB1.out.block g (by omega)).trans HL.out.2.2⟩
  clear HL HB1
  have HC : Hid (∀ V : World, V.heap = W1.heap → V.cell? ⟨g, 3, none⟩ = some (.pointer none) ∧ V.cell? ⟨g, 4, none⟩ = some (.int .i64 0) ∧ V.cell? ⟨g3, 2, none⟩ = some (.int .i64 pb)) := by
    intro V hV
    obtain ⟨c0, c1, c2, c3, c4, c5⟩ := gu_cells (w := V) (by rw [hV]; exact HL1.out.2.2)
    obtain ⟨q0, q1, q2, -⟩ := pk_cells (w := V) (by rw [hV]; exact HL1.out.1)
    exact ⟨c3, c4, q2⟩
  refine wp_region_held (S := fun V => V.heap = W1.heap) (by kernel_rfl) ?_
  have hS : W1.drew.heap = W1.heap := rfl
  refine held_val (i := 0) ?_ 12 rfl rfl (by kernel_rfl) (by kernel_rfl) (by kernel_rfl) (by rfl) (fun _ _ _ h => h) hS ?_ ?_
  rotate_left
  · (intro w hSw; go_simp; first | done | with_reducible rfl)
  simp only [Act.put, List.setIfInBounds_toArray, List.set_cons_zero, List.set_cons_succ]
  refine held_val (i := 1) ?_ 13 rfl rfl (by kernel_rfl) (by kernel_rfl) (by kernel_rfl) (by rfl) (fun _ _ _ h => h) hS ?_ ?_
  rotate_left
  · (intro w hSw; obtain ⟨k3, k4, q2⟩ := HC.out w hSw; go_simp; first | done | with_reducible rfl)
  simp only [Act.put, List.setIfInBounds_toArray, List.set_cons_zero, List.set_cons_succ]
  refine held_val (i := 2) (.bool false) 14 rfl rfl (by kernel_rfl) (by kernel_rfl) (by kernel_rfl) (by rfl) (fun _ _ _ h => h) hS ?_ ?_
  · (intro w hSw; go_simp; first | done | with_reducible rfl)
  simp only [Act.put, List.setIfInBounds_toArray, List.set_cons_zero, List.set_cons_succ]
  refine held_val (i := 3) ?_ 15 rfl rfl (by kernel_rfl) (by kernel_rfl) (by kernel_rfl) (by rfl) (fun _ _ _ h => h) hS ?_ ?_
  rotate_left
  · (intro w hSw; go_simp; first | done | with_reducible rfl)
  simp only [Act.put, List.setIfInBounds_toArray, List.set_cons_zero, List.set_cons_succ]
  refine held_val (i := 4) ?_ 16 rfl rfl (by kernel_rfl) (by kernel_rfl) (by kernel_rfl) (by rfl) (fun _ _ _ h => h) hS ?_ ?_
  rotate_left
  · (intro w hSw; go_simp; first | done | with_reducible rfl)
  simp only [Act.put, List.setIfInBounds_toArray, List.set_cons_zero, List.set_cons_succ]
  refine held_val (i := 5) ?_ 17 rfl rfl (by kernel_rfl) (by kernel_rfl) (by kernel_rfl) (by rfl) (fun _ _ _ h => h) hS ?_ ?_
  rotate_left
  · (intro w hSw; go_simp; first | done | with_reducible rfl)
  simp only [Act.put, List.setIfInBounds_toArray, List.set_cons_zero, List.set_cons_succ]
  refine held_val (i := 6) ?_ 18 rfl rfl (by kernel_rfl) (by kernel_rfl) (by kernel_rfl) (by rfl) (fun _ _ _ h => h) hS ?_ ?_
  rotate_left
  · (intro w hSw; go_simp; first | done | with_reducible rfl)
  simp only [Act.put, List.setIfInBounds_toArray, List.set_cons_zero, List.set_cons_succ]
  refine held_val (i := 7) ?_ 19 rfl rfl (by kernel_rfl) (by kernel_rfl) (by kernel_rfl) (by rfl) (fun _ _ _ h => h) hS ?_ ?_
  rotate_left
  · (intro w hSw; obtain ⟨k3, k4, q2⟩ := HC.out w hSw; go_simp; first | done | with_reducible rfl)
  simp only [Act.put, List.setIfInBounds_toArray, List.set_cons_zero, List.set_cons_succ]
  refine held_val (i := 8) ?_ 20 rfl rfl (by kernel_rfl) (by kernel_rfl) (by kernel_rfl) (by rfl) (fun _ _ _ h => h) hS ?_ ?_
  rotate_left
  · (intro w hSw; go_simp; first | done | with_reducible rfl)
  simp only [Act.put, List.setIfInBounds_toArray, List.set_cons_zero, List.set_cons_succ]
  refine held_val (i := 9) ?_ 21 rfl rfl (by kernel_rfl) (by kernel_rfl) (by kernel_rfl) (by rfl) (fun _ _ _ h => h) hS ?_ ?_
  rotate_left
  · (intro w hSw; go_simp; first | done | with_reducible rfl)
  simp only [Act.put, List.setIfInBounds_toArray, List.set_cons_zero, List.set_cons_succ]
  refine held_skip (i := 10) 22 rfl rfl (by kernel_rfl) (by kernel_rfl) (by kernel_rfl) (by rfl) (fun _ _ _ h => h) hS ?_
  simp only [Act.put, List.setIfInBounds_toArray, List.set_cons_zero, List.set_cons_succ]
  refine held_skip (i := 11) 23 rfl rfl (by kernel_rfl) (by kernel_rfl) (by kernel_rfl) (by rfl) (fun _ _ _ h => h) hS ?_
  simp only [Act.put, List.setIfInBounds_toArray, List.set_cons_zero, List.set_cons_succ]
  refine held_skip (i := 12) 24 rfl rfl (by kernel_rfl) (by kernel_rfl) (by kernel_rfl) (by rfl) (fun _ _ _ h => h) hS ?_
  simp only [Act.put, List.setIfInBounds_toArray, List.set_cons_zero, List.set_cons_succ]
  refine held_skip (i := 13) 25 rfl rfl (by kernel_rfl) (by kernel_rfl) (by kernel_rfl) (by rfl) (fun _ _ _ h => h) hS ?_
  simp only [Act.put, List.setIfInBounds_toArray, List.set_cons_zero, List.set_cons_succ]
  refine held_skip (i := 14) 26 rfl rfl (by kernel_rfl) (by kernel_rfl) (by kernel_rfl) (by rfl) (fun _ _ _ h => h) hS ?_
  simp only [Act.put, List.setIfInBounds_toArray, List.set_cons_zero, List.set_cons_succ]
  refine held_skip (i := 15) 27 rfl rfl (by kernel_rfl) (by kernel_rfl) (by kernel_rfl) (by rfl) (fun _ _ _ h => h) hS ?_
  simp only [Act.put, List.setIfInBounds_toArray, List.set_cons_zero, List.set_cons_succ]
  refine held_skip (i := 16) 28 rfl rfl (by kernel_rfl) (by kernel_rfl) (by kernel_rfl) (by rfl) (fun _ _ _ h => h) hS ?_
  simp only [Act.put, List.setIfInBounds_toArray, List.set_cons_zero, List.set_cons_succ]
  refine held_val (i := 17) ?_ 29 rfl rfl (by kernel_rfl) (by kernel_rfl) (by kernel_rfl) (by rfl) (fun _ _ _ h => h) hS ?_ ?_
  rotate_left
  · (intro w hSw; go_simp; first | done | with_reducible rfl)
  simp only [Act.put, List.setIfInBounds_toArray, List.set_cons_zero, List.set_cons_succ]
  refine held_val (i := 18) ?_ 30 rfl rfl (by kernel_rfl) (by kernel_rfl) (by kernel_rfl) (by rfl) (fun _ _ _ h => h) hS ?_ ?_
  rotate_left
  · (intro w hSw; go_simp; first | done | with_reducible rfl)
  simp only [Act.put, List.setIfInBounds_toArray, List.set_cons_zero, List.set_cons_succ]
  refine wpAnyH_done (by kernel_rfl) ?_ _
  obtain ⟨W2, hW2⟩ : ∃ V, W1.drew = V := ⟨_, rfl⟩
  have H2h : Hid (Below w.heap.size w W2 ∧ g4 < W2.heap.size ∧ W2.heap[g3]? = some (Lnk.pkO ⟨cl, ep, pb, sq, ak, true, bs⟩ u) ∧ W2.heap[g4]? = some anZ ∧ W2.heap[g]? = some (guO cl ep a none 0 none 0 0)) := by
    rw [Hid, ← hW2]
    exact ⟨below_step HD.out.1 (bel0 W1), HD.out.2, HL1.out⟩
  obtain ⟨c0, c1, c2, c3, c4, c5⟩ := gu_cells H2h.out.2.2.2.2
  show Exit.then _ _ Exit.normal _ W1.drew
  rw [hW2]
  clear hS hW2 HC HL1 HD
  go_upto_region 6 with fail
  clear c0 c1 c2 c3 c4 c5
  obtain ⟨l, hl⟩ : ∃ l, W2.heap.size = l := ⟨_, rfl⟩
  have HT : Hid (Calls Tryz.prog 21 #[.int .i64 cl, .int .i64 ep, .int .i64 pb, .bool false] W2.drew fun e w' => e = .returned (cp l) ∧ (w'.cell? ⟨g, 0, none⟩ = some (.int .i64 cl) ∧ w'.cell? ⟨g, 1, none⟩ = some (.int .i64 ep) ∧ w'.cell? ⟨g3, 2, none⟩ = some (.int .i64 pb)) ∧ Hid (w'.heap[g]? = some (guO cl ep a none 0 none 0 0) ∧ Lw w' (fun k => k = l) l ⟨cl, ep, pb, false⟩ [] 0 0 ∧ Below W2.heap.size W2 w')) := by
    refine (lnewW cl ep pb false W2.drew).mono ?_
    rintro e w' ⟨rfl, t1, t2⟩
    have hd : W2.drew.heap.size = l := hl
    rw [hd] at t1
    have t3 : Below W2.heap.size W2 w' := below_step (bel0 W2) t2
    have t := H2h.out
    have hg' := (t3.block g (by have := HG.out; omega)).trans t.2.2.2.2
    obtain ⟨c0, c1, c2, c3, c4, c5⟩ := gu_cells hg'
    obtain ⟨q0, q1, q2, -⟩ := pk_cells ((t3.block g3 (by have := HG.out; omega)).trans t.2.2.1)
    exact ⟨by rw [hd], ⟨c0, c1, q2⟩, hg', t1, t3⟩
  have S3 : Hid (∀ V : World, (V.cell? ⟨g, 0, none⟩ = some (.int .i64 cl) ∧ V.cell? ⟨g, 1, none⟩ = some (.int .i64 ep) ∧ V.cell? ⟨g3, 2, none⟩ = some (.int .i64 pb)) → ∀ j, 1 < j → ∀ x, (V.setCell ⟨g, j, none⟩ x).cell? ⟨g, 0, none⟩ = some (.int .i64 cl) ∧ (V.setCell ⟨g, j, none⟩ x).cell? ⟨g, 1, none⟩ = some (.int .i64 ep) ∧ (V.setCell ⟨g, j, none⟩ x).cell? ⟨g3, 2, none⟩ = some (.int .i64 pb)) := by
    intro V hV j hj x
    refine ⟨(put_other _ _ _ _ _ (by omega)).trans hV.1, (put_other _ _ _ _ _ (by omega)).trans hV.2.1, ?_⟩
    refine (World.cell?_of_block (w := V) (w' := V.setCell ⟨g, j, none⟩ x) (a := ⟨g3, 2, none⟩) (Below.heap_setCell _ _ _ _ ?_)).trans hV.2.2
    have := HG.out
    show g3 ≠ g
    omega
  refine wp_region_held (S := fun V => V.cell? ⟨g, 0, none⟩ = some (.int .i64 cl) ∧ V.cell? ⟨g, 1, none⟩ = some (.int .i64 ep) ∧ V.cell? ⟨g3, 2, none⟩ = some (.int .i64 pb)) (by kernel_rfl) ?_
  have hS : W2.drew.cell? ⟨g, 0, none⟩ = some (.int .i64 cl) ∧ W2.drew.cell? ⟨g, 1, none⟩ = some (.int .i64 ep) ∧ W2.drew.cell? ⟨g3, 2, none⟩ = some (.int .i64 pb) := by
    obtain ⟨c0, c1, c2, c3, c4, c5⟩ := gu_cells H2h.out.2.2.2.2
    obtain ⟨q0, q1, q2, -⟩ := pk_cells H2h.out.2.2.1
    exact ⟨c0, c1, q2⟩
  refine held_val (i := 0) ?_ 41 rfl rfl (by kernel_rfl) (by kernel_rfl) (by kernel_rfl) (by rfl) (fun _ _ _ h => h) hS ?_ ?_
  rotate_left
  · (intro w hSw; go_simp; first | done | with_reducible rfl)
  simp only [Act.put, List.setIfInBounds_toArray, List.set_cons_zero, List.set_cons_succ]
  refine held_val (i := 1) ?_ 42 rfl rfl (by kernel_rfl) (by kernel_rfl) (by kernel_rfl) (by rfl) (fun _ _ _ h => h) hS ?_ ?_
  rotate_left
  · (intro w hSw; go_simp; first | done | with_reducible rfl)
  simp only [Act.put, List.setIfInBounds_toArray, List.set_cons_zero, List.set_cons_succ]
  refine held_val (i := 2) ?_ 43 rfl rfl (by kernel_rfl) (by kernel_rfl) (by kernel_rfl) (by rfl) (fun _ _ _ h => h) hS ?_ ?_
  rotate_left
  · (intro w hSw; go_simp; first | done | with_reducible rfl)
  simp only [Act.put, List.setIfInBounds_toArray, List.set_cons_zero, List.set_cons_succ]
  refine held_val (i := 3) ?_ 44 rfl rfl (by kernel_rfl) (by kernel_rfl) (by kernel_rfl) (by rfl) (fun _ _ _ h => h) hS ?_ ?_
  rotate_left
  · (intro w hSw; go_simp; first | done | with_reducible rfl)
  simp only [Act.put, List.setIfInBounds_toArray, List.set_cons_zero, List.set_cons_succ]
  refine held_val (i := 4) ?_ 45 rfl rfl (by kernel_rfl) (by kernel_rfl) (by kernel_rfl) (by rfl) (fun _ _ _ h => h) hS ?_ ?_
  rotate_left
  · (intro w hSw; go_simp; first | done | with_reducible rfl)
  simp only [Act.put, List.setIfInBounds_toArray, List.set_cons_zero, List.set_cons_succ]
  refine held_val (i := 5) ?_ 46 rfl rfl (by kernel_rfl) (by kernel_rfl) (by kernel_rfl) (by rfl) (fun _ _ _ h => h) hS ?_ ?_
  rotate_left
  · (intro w hSw; obtain ⟨m0, m1, m2⟩ := hSw; go_simp; first | done | with_reducible rfl)
  simp only [Act.put, List.setIfInBounds_toArray, List.set_cons_zero, List.set_cons_succ]
  refine held_val (i := 6) ?_ 47 rfl rfl (by kernel_rfl) (by kernel_rfl) (by kernel_rfl) (by rfl) (fun _ _ _ h => h) hS ?_ ?_
  rotate_left
  · (intro w hSw; go_simp; first | done | with_reducible rfl)
  simp only [Act.put, List.setIfInBounds_toArray, List.set_cons_zero, List.set_cons_succ]
  refine held_val (i := 7) ?_ 48 rfl rfl (by kernel_rfl) (by kernel_rfl) (by kernel_rfl) (by rfl) (fun _ _ _ h => h) hS ?_ ?_
  rotate_left
  · (intro w hSw; go_simp; first | done | with_reducible rfl)
  simp only [Act.put, List.setIfInBounds_toArray, List.set_cons_zero, List.set_cons_succ]
  refine held_val (i := 8) ?_ 49 rfl rfl (by kernel_rfl) (by kernel_rfl) (by kernel_rfl) (by rfl) (fun _ _ _ h => h) hS ?_ ?_
  rotate_left
  · (intro w hSw; go_simp; first | done | with_reducible rfl)
  simp only [Act.put, List.setIfInBounds_toArray, List.set_cons_zero, List.set_cons_succ]
  refine held_val (i := 9) ?_ 50 rfl rfl (by kernel_rfl) (by kernel_rfl) (by kernel_rfl) (by rfl) (fun _ _ _ h => h) hS ?_ ?_
  rotate_left
  · (intro w hSw; obtain ⟨m0, m1, m2⟩ := hSw; go_simp; first | done | with_reducible rfl)
  simp only [Act.put, List.setIfInBounds_toArray, List.set_cons_zero, List.set_cons_succ]
  refine held_val (i := 10) ?_ 51 rfl rfl (by kernel_rfl) (by kernel_rfl) (by kernel_rfl) (by rfl) (fun _ _ _ h => h) hS ?_ ?_
  rotate_left
  · (intro w hSw; go_simp; first | done | with_reducible rfl)
  simp only [Act.put, List.setIfInBounds_toArray, List.set_cons_zero, List.set_cons_succ]
  refine held_val (i := 11) ?_ 52 rfl rfl (by kernel_rfl) (by kernel_rfl) (by kernel_rfl) (by rfl) (fun _ _ _ h => h) hS ?_ ?_
  rotate_left
  · (intro w hSw; obtain ⟨m0, m1, m2⟩ := hSw; go_simp; first | done | with_reducible rfl)
  simp only [Act.put, List.setIfInBounds_toArray, List.set_cons_zero, List.set_cons_succ]
  refine held_val (i := 13) ?_ 54 rfl rfl (by kernel_rfl) (by kernel_rfl) (by kernel_rfl) (by rfl) (fun _ _ _ h => h) hS ?_ ?_
  rotate_left
  · (intro w hSw; go_simp; first | done | with_reducible rfl)
  simp only [Act.put, List.setIfInBounds_toArray, List.set_cons_zero, List.set_cons_succ]
  refine held_val (i := 14) ?_ 55 rfl rfl (by kernel_rfl) (by kernel_rfl) (by kernel_rfl) (by rfl) (fun _ _ _ h => h) hS ?_ ?_
  rotate_left
  · (intro w hSw; obtain ⟨m0, m1, m2⟩ := hSw; go_simp; first | done | with_reducible rfl)
  simp only [Act.put, List.setIfInBounds_toArray, List.set_cons_zero, List.set_cons_succ]
  refine held_call (i := 12) 53 21 #[.int .i64 cl, .int .i64 ep, .int .i64 pb, .bool false] rfl rfl (by kernel_rfl) (by rfl) (by simp [go_sem]) HT.out ?_
  rintro e w12 ⟨rfl, hSx, HP6⟩
  refine ⟨_, rfl, hSx, ?_⟩
  have hS12 := hSx
  simp only [Act.put, List.setIfInBounds_toArray, List.set_cons_zero, List.set_cons_succ]
  refine held_val (i := 15) ?_ 56 rfl rfl (by kernel_rfl) (by kernel_rfl) (by kernel_rfl) (by rfl) (fun _ _ _ h => h) hS12 ?_ ?_
  rotate_left
  · (intro w hSw; go_simp; first | done | with_reducible rfl)
  simp only [Act.put, List.setIfInBounds_toArray, List.set_cons_zero, List.set_cons_succ]
  refine held_val (i := 16) ?_ 57 rfl rfl (by kernel_rfl) (by kernel_rfl) (by kernel_rfl) (by rfl) (fun _ _ _ h => h) hS12 ?_ ?_
  rotate_left
  · (intro w hSw; go_simp; first | done | with_reducible rfl)
  simp only [Act.put, List.setIfInBounds_toArray, List.set_cons_zero, List.set_cons_succ]
  have sc : ∃ u, (w12).cell? ⟨g, 3, none⟩ = some u := by
    obtain ⟨-, -, -, t3, t4, -⟩ := gu_cells HP6.out.1
    exact ⟨_, t3⟩
  have sf : (w12).frozen? ⟨g, 3, none⟩ = false := by
    exact gu_fz HP6.out.1 3
  refine held_last (i := 17) ((w12).setCell ⟨g, 3, none⟩ (cp l)) rfl (by kernel_rfl) (by rfl) (wp_store_cell 29 _ _ rfl g 3 (cp l) rfl rfl sc sf rfl rfl (by kernel_rfl) ⟨rfl, rfl⟩) (S3.out w12 hSx 3 (by decide) (cp l)) ?_
  refine held_val (i := 18) ?_ 58 rfl rfl (by kernel_rfl) (by kernel_rfl) (by kernel_rfl) (by rfl) (fun _ _ _ h => h) (S3.out w12 hSx 3 (by decide) (cp l)) ?_ ?_
  rotate_left
  · (intro w hSw; go_simp; first | done | with_reducible rfl)
  simp only [Act.put, List.setIfInBounds_toArray, List.set_cons_zero, List.set_cons_succ]
  refine held_val (i := 19) ?_ 59 rfl rfl (by kernel_rfl) (by kernel_rfl) (by kernel_rfl) (by rfl) (fun _ _ _ h => h) (S3.out w12 hSx 3 (by decide) (cp l)) ?_ ?_
  rotate_left
  · (intro w hSw; go_simp; first | done | with_reducible rfl)
  simp only [Act.put, List.setIfInBounds_toArray, List.set_cons_zero, List.set_cons_succ]
  have tc : ∃ u, (w12.setCell ⟨g, 3, none⟩ (cp l)).cell? ⟨g, 4, none⟩ = some u := by
    obtain ⟨-, -, -, t3, t4, -⟩ := gu_cells HP6.out.1
    exact ⟨_, (put_other _ _ _ _ _ (by decide)).trans t4⟩
  have tf : (w12.setCell ⟨g, 3, none⟩ (cp l)).frozen? ⟨g, 4, none⟩ = false := by
    exact frozen_of_row _ _ _ _ _ (heap_setCell_same w12 g 3 _ 32 (cp l) HP6.out.1)
  refine held_last (i := 20) ((w12.setCell ⟨g, 3, none⟩ (cp l)).setCell ⟨g, 4, none⟩ (.int .i64 pb)) rfl (by kernel_rfl) (by rfl) (wp_store_cell 3 _ _ rfl g 4 (.int .i64 pb) rfl rfl tc tf rfl rfl (by kernel_rfl) ⟨rfl, rfl⟩) (S3.out _ (S3.out w12 hSx 3 (by decide) (cp l)) 4 (by decide) (.int .i64 pb)) ?_
  refine wpAnyH_done (by kernel_rfl) ?_ _
  have HV : Hid (((w12.setCell ⟨g, 3, none⟩ (cp l)).setCell ⟨g, 4, none⟩ (.int .i64 pb)).heap[g]? = some (guO cl ep a (some ⟨l, 0, none⟩) pb none 0 0) ∧ OffS (fun k => k = g) w12 ((w12.setCell ⟨g, 3, none⟩ (cp l)).setCell ⟨g, 4, none⟩ (.int .i64 pb))) := by
    have e1 := heap_setCell_same w12 g 3 _ 32 (cp l) HP6.out.1
    refine ⟨?_, ?_⟩
    · rw [heap_setCell_same _ g 4 _ 32 (.int .i64 pb) e1]; rfl
    · exact OffS.setCell (A := fun k => k = g) (OffS.setCell (A := fun k => k = g) (OffS.refl _ _) rfl _) rfl _
  generalize (w12.setCell ⟨g, 3, none⟩ (cp l)).setCell ⟨g, 4, none⟩ (.int .i64 pb) = W4 at *
  have HK : Hid (Gk W4 A (fun k => k = l) g cl ep pb a l none 0 s [] 0 0 ∧ W4.heap[g3]? = some (Lnk.pkO ⟨cl, ep, pb, sq, ak, true, bs⟩ u) ∧ W4.heap[g4]? = some anZ ∧ OffS (fun k => k = g) w W4 ∧ Lnk.By W4 U u bs ∧ g4 < l ∧ w.heap.size ≤ l) := by
    obtain ⟨b1, b2, b3, b4, b5, b6, b7, b8, b9⟩ := HA.out
    obtain ⟨d1, d2, d3, d4, d5⟩ := H2h.out
    obtain ⟨f1, f2, f3⟩ := HP6.out
    have t := HG.out
    have hw2 := d1.size
    have hb3 : Below w.heap.size w w12 := below_step d1 f3
    have hk4 : ∀ k, k < w12.heap.size → k ≠ g → W4.heap[k]? = w12.heap[k]? := fun k hk hn => HV.out.2.block k hk hn
    have hsz := HV.out.2.size
    have hs3 := f3.size
    refine ⟨⟨HV.out.1, (b2.below hb3).keep hsz fun k hk => hk4 k ((b2.below hb3).lt k hk) fun e => b3 (e ▸ hk), f2.keep hsz fun k hk => hk4 k (f2.lt k hk) fun e => ?_, OwnS.nil _ _ _, b3, fun e => ?_, fun x hx => (by cases hx), fun k hk e => ?_⟩, (hk4 g3 (by omega) (by omega)).trans ((f3.block g3 (by omega)).trans d3), (hk4 g4 (by omega) (by omega)).trans ((f3.block g4 (by omega)).trans d4), (OffS.of_below hb3).trans (HV.out.2.mono fun k hk => .inl hk), ?_, by omega, by omega⟩
    · have e1 : k = l := hk
      omega
    · have e1 : g = l := e
      omega
    · have := b2.lt k hk
      have e1 : k = l := e
      omega
    · refine (b7.below hb3).keepx hsz fun k cs fr hk => hk4 k (Array.getElem?_eq_some_iff.1 hk).1 fun e => ?_
      rw [e, f1] at hk
      simp at hk
  clear HP6 HV HT S3 hS hSx sc sf tc tf H2h hl
  have HC7 : Hid (∀ V : World, V.heap = W4.heap → V.cell? ⟨g, 4, none⟩ = some (.int .i64 pb) ∧ V.cell? ⟨g3, 2, none⟩ = some (.int .i64 pb)) := by
    intro V hV
    obtain ⟨c0, c1, c2, c3, c4, c5⟩ := gu_cells (w := V) (by rw [hV]; exact HK.out.1.blk)
    obtain ⟨q0, q1, q2, -⟩ := pk_cells (w := V) (by rw [hV]; exact HK.out.2.1)
    exact ⟨c4, q2⟩
  go_upto_region 7 with fail
  refine wp_region_held (S := fun V => V.heap = W4.heap) (by kernel_rfl) ?_
  have hS : W4.drew.heap = W4.heap := rfl
  refine held_val (i := 0) ?_ 60 rfl rfl (by kernel_rfl) (by kernel_rfl) (by kernel_rfl) (by rfl) (fun _ _ _ h => h) hS ?_ ?_
  rotate_left
  · (intro w hSw; go_simp; first | done | with_reducible rfl)
  simp only [Act.put, List.setIfInBounds_toArray, List.set_cons_zero, List.set_cons_succ]
  refine held_val (i := 1) ?_ 61 rfl rfl (by kernel_rfl) (by kernel_rfl) (by kernel_rfl) (by rfl) (fun _ _ _ h => h) hS ?_ ?_
  rotate_left
  · (intro w hSw; obtain ⟨k4, q2⟩ := HC7.out w hSw; go_simp; first | done | with_reducible rfl)
  simp only [Act.put, List.setIfInBounds_toArray, List.set_cons_zero, List.set_cons_succ]
  refine held_val (i := 2) ?_ 62 rfl rfl (by kernel_rfl) (by kernel_rfl) (by kernel_rfl) (by rfl) (fun _ _ _ h => h) hS ?_ ?_
  rotate_left
  · (intro w hSw; go_simp; first | done | with_reducible rfl)
  simp only [Act.put, List.setIfInBounds_toArray, List.set_cons_zero, List.set_cons_succ]
  refine held_val (i := 3) ?_ 63 rfl rfl (by kernel_rfl) (by kernel_rfl) (by kernel_rfl) (by rfl) (fun _ _ _ h => h) hS ?_ ?_
  rotate_left
  · (intro w hSw; go_simp; first | done | with_reducible rfl)
  simp only [Act.put, List.setIfInBounds_toArray, List.set_cons_zero, List.set_cons_succ]
  refine held_val (i := 4) ?_ 64 rfl rfl (by kernel_rfl) (by kernel_rfl) (by kernel_rfl) (by rfl) (fun _ _ _ h => h) hS ?_ ?_
  rotate_left
  · (intro w hSw; go_simp; first | done | with_reducible rfl)
  simp only [Act.put, List.setIfInBounds_toArray, List.set_cons_zero, List.set_cons_succ]
  refine held_val (i := 5) ?_ 65 rfl rfl (by kernel_rfl) (by kernel_rfl) (by kernel_rfl) (by rfl) (fun _ _ _ h => h) hS ?_ ?_
  rotate_left
  · (intro w hSw; obtain ⟨k4, q2⟩ := HC7.out w hSw; go_simp; first | done | with_reducible rfl)
  simp only [Act.put, List.setIfInBounds_toArray, List.set_cons_zero, List.set_cons_succ]
  refine held_val (i := 6) ?_ 66 rfl rfl (by kernel_rfl) (by kernel_rfl) (by kernel_rfl) (by rfl) (fun _ _ _ h => h) hS ?_ ?_
  rotate_left
  · (intro w hSw; go_simp; first | done | with_reducible rfl)
  simp only [Act.put, List.setIfInBounds_toArray, List.set_cons_zero, List.set_cons_succ]
  refine wpAnyH_done (by kernel_rfl) ?_ _
  obtain ⟨W5, hW5⟩ : ∃ V, W4.drew = V := ⟨_, rfl⟩
  have HK5 : Hid (Gk W5 A (fun k => k = l) g cl ep pb a l none 0 s [] 0 0 ∧ W5.heap[g3]? = some (Lnk.pkO ⟨cl, ep, pb, sq, ak, true, bs⟩ u) ∧ W5.heap[g4]? = some anZ ∧ OffS (fun k => k = g) w W5 ∧ Lnk.By W5 U u bs) := by
    obtain ⟨b1, b2, b3, b4, b5, b6, b7⟩ := HK.out
    rw [Hid, ← hW5]
    exact ⟨b1.below (bel0 W4), b2, b3, b4.trans (OffS.of_below (bel0 W4)), b5.below (bel0 W4)⟩
  show Exit.then _ _ Exit.normal _ W4.drew
  rw [hW5]
  clear hS hW5 HC7
  have HH : Hid (Calls Tryz.prog 22 #[cp g, Lnk.pkV ⟨cl, ep, pb, sq, ak, true, bs⟩ u] W5 fun e w' => e = .returned (.tuple #[.slice none 0 0, anV 0 z2 false, .bool false]) ∧ w'.heap[g4]? = some anZ ∧ Hid (∃ D', (∀ k, D' k → k = l ∨ W5.heap.size ≤ k) ∧ Gk w' A D' g cl ep pb a l none 0 s [] 0 0 ∧ OffS (fun k => k = l) W5 w')) := by
    refine (hear_no HK5.out.1 ⟨cl, ep, pb, sq, ak, true, bs⟩ u U HK5.out.2.2.2.2 HA.out.2.2.2.2.2.2.2.1 (by decide) HA.out.2.2.2.2.2.2.2.2).mono ?_
    rintro e w' ⟨rfl, D', t1, t2, t3⟩
    refine ⟨rfl, (t3.block g4 (Array.getElem?_eq_some_iff.1 HK5.out.2.2.1).1 fun e => ?_).trans HK5.out.2.2.1, D', t1, ?_, t3⟩
    · have e1 : g4 = l := e
      have := HK.out.2.2.2.2.2.1
      omega
    · simpa using t2
  obtain ⟨q0, q1, q2, q3, q4, q5, q6⟩ := pk_cells HK5.out.2.1
  simp only at q0 q1 q2 q3 q4 q5 q6
  go_wp2_with (first
    | (go_at_call 22; refine HH.out.mono ?_; rintro e W6 ⟨rfl, h4, H6⟩; obtain ⟨z0, z1, z2⟩ := an_cells h4; have zf := an_fz h4; clear h4)
    | fail)
  refine bodyPost_ret (by simp [results, Tryz.results13, go_sem, z0, z1, z2]; try rfl) rfl ?_
  refine ⟨rfl, ?_⟩
  have key : ∀ V : World, OffS (fun k => k = g4) W6 V → Hg w V G g cl ep pb s [] 0 0 := by
    intro V hV
    obtain ⟨b1, b2, b3, b4, b5, b6, b7, b8, b9⟩ := HA.out
    obtain ⟨D', t1, t2, t3⟩ := H6.out
    have t := HG.out
    have tl := HK.out.2.2.2.2.2
    have t5 := HK5.out.2.2.2.1.size
    have t6 := (Array.getElem?_eq_some_iff.1 HK5.out.2.2.1).1
    have hfar : g4 ≠ g ∧ ¬ A g4 ∧ ¬ D' g4 ∧ ¬ Ro none g4 := by
      refine ⟨by omega, fun e => ?_, fun e => ?_, ?_⟩
      · have := b2.lt _ e
        omega
      · rcases t1 _ e with h' | h' <;> omega
      · rintro ⟨x, hx, _⟩
        cases hx
    have hK := t2.far hfar hV
    refine ⟨⟨fun k => k = g ∨ A k ∨ D' k, fun k hk => ?_, A, D', a, l, none, 0, hK, .inl rfl, fun k hk => .inr (.inl hk), fun k hk => .inr (.inr hk), fun x hx => (by cases hx), fun k hk => ?_⟩, ?_⟩
    · rcases hk with rfl | hk | hk
      · exact .inl b4
      · exact .inl (b5 k hk)
      · rcases t1 k hk with h' | h' <;> exact .inr (by omega)
    · rcases hk with rfl | hk | hk
      · exact (Array.getElem?_eq_some_iff.1 hK.blk).1
      · exact hK.ag.lt k hk
      · exact hK.lk.lt k hk
    · refine (((HK5.out.2.2.2.1.mono fun k hk => (show k = g from hk) ▸ b4).trans (t3.mono fun k hk => .inr ?_))).trans (hV.mono fun k hk => .inr ?_)
      · have : k = l := hk
        omega
      · have : k = g4 := hk
        omega
  refine key _ ?_
  repeat (first | (with_reducible exact OffS.refl _ _) | (with_reducible refine OffS.setCell (A := fun k => k = g4) ?_ rfl _))

end Go.Proofs.YtmmgdmfdiaoegaaGreat
