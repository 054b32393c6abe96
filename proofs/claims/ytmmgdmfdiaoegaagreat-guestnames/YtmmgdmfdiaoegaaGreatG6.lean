/- Do of package guest, walked: with a session and an empty outbox, where the agent says something. -/
import Derived.Test.YtmmgdmfdiaoegaaGreatG5
namespace Go.Proofs.YtmmgdmfdiaoegaaGreat
open Go.RowKit
set_option linter.unusedVariables false
set_option maxRecDepth 8000

theorem Pks_keepB {w w' : World} {base : Nat} {v : Value} {Ps : List Lnk.PkG} (h : Lnk.Pks w base (fun k => base ≤ k) v Ps) (hs : w.heap.size ≤ w'.heap.size) (hk : ∀ k, base ≤ k → k < w.heap.size → w'.heap[k]? = w.heap[k]?) : Lnk.Pks w' base (fun k => base ≤ k) v Ps := by
  obtain ⟨R, h1, ⟨h2, h3⟩, h4⟩ := h
  refine ⟨R, h1, ⟨h2, ?_⟩, fun r hr => (h4 r hr).kept ⟨hs, fun k hk' hv => hk k hv hk'⟩⟩
  rcases h3 with h3 | ⟨g, cp, cur, hv, hg, hh, r⟩
  · exact .inl h3
  · exact .inr ⟨g, cp, cur, hv, hg, (hk g hg (Array.getElem?_eq_some_iff.1 hh).1).trans hh, r⟩

set_option maxHeartbeats 6400000 in
theorem gdo_say {w : World} {G : Nat → Prop} {g : Nat} {cl ep bo : Int} {s : As} {L : List (List Nat)} {sn h : Nat} (H : Gw w G g cl ep bo s L sn h) (x : Og) (er : Int) (v : Nat × Nat) (b : Bool) (s2 : As) (n : Nat) (Ms : List Mg) (hM : ∀ M ∈ Ms, Msg.rightB M = true ∧ Msg.Wd M) (hn : Ms.length = n) (hl : L.length + n ≤ 8) (hs : sn + n ≤ 16777215) (h1 : 1 ≤ n) (H15 : (∀ A a W, Aw W A a s → Calls Tryz.prog 15 #[cp a, opV x] W fun e w' => ∃ lo lc po pn pc, e = .returned (.tuple #[.slice lo n lc, anV er v b]) ∧ RdR (gmC po pn pc) w' lo lc Ms ∧ (∀ M ∈ Ms, Msg.RdP w' po pn pc M.ps) ∧ (∀ p, lo = some p ∨ po = some p → W.heap.size ≤ p.block ∧ p.block < w'.heap.size) ∧ Ng W w' A a s2 (fun k => Ro lo k ∨ Ro po k))) :
    Calls Tryz.prog 11 #[cp g, opV x] w fun e w' => ∃ vv, e = .returned (.tuple #[vv, anV er v b]) ∧ Lnk.Pks w' w.heap.size (fun k => w.heap.size ≤ k) vv (Lnk.pksOf ⟨cl, ep, bo, false⟩ (L ++ Ms.map byB) (sn + n) h) ∧ Hg w w' G g cl ep bo s2 (L ++ Ms.map byB) (sn + n) h := by
  have HQ : Hid ((∀ M ∈ Ms, Msg.rightB M = true ∧ Msg.Wd M) ∧ Ms.length = n ∧ L.length + n ≤ 8 ∧ sn + n ≤ 16777215 ∧ 1 ≤ n) := ⟨hM, hn, hl, hs, h1⟩
  have hn0 : ((n : Int) == 0) = false := by simp; omega
  clear hM hn hl hs h1
  have hst := fun (ad : Addr) (re im : Nat) (W : World) => run_store Tryz.prog W ad (.complex .f64 re im) .plain rfl
  obtain ⟨A, D, a, l, xo, xc, H, hG⟩ := H
  obtain ⟨xk, xp, xy, xv⟩ := x
  have HW : Hid _ := al2n w (opO ⟨xk, xp, xy, xv⟩) anZ
  have HA : Hid (Gk w A D g cl ep bo a l xo xc s L sn h ∧ (G g ∧ (∀ k, A k → G k) ∧ (∀ k, D k → G k) ∧ (∀ x, xo = some x → G x.block) ∧ ∀ k, G k → k < w.heap.size) ∧ (∀ A a W, Aw W A a s → Calls Tryz.prog 15 #[cp a, opV ⟨xk, xp, xy, xv⟩] W fun e w' => ∃ lo lc po pn pc, e = .returned (.tuple #[.slice lo n lc, anV er v b]) ∧ RdR (gmC po pn pc) w' lo lc Ms ∧ (∀ M ∈ Ms, Msg.RdP w' po pn pc M.ps) ∧ (∀ p, lo = some p ∨ po = some p → W.heap.size ≤ p.block ∧ p.block < w'.heap.size) ∧ Ng W w' A a s2 (fun k => Ro lo k ∨ Ro po k))) := ⟨H, hG, H15⟩
  clear H hG H15
  go_enter Tryz.func11, Tryz.ntmps11
  go_upto_region 1 with fail
  show Code.wp _ _ _ _ ((w.alloc (opO ⟨xk, xp, xy, xv⟩)).alloc anZ)
  generalize (w.alloc (opO ⟨xk, xp, xy, xv⟩)).alloc anZ = W at *
  obtain ⟨g3, hg3⟩ : ∃ g, w.heap.size = g := ⟨_, rfl⟩
  obtain ⟨g4, hg4⟩ : ∃ g, w.heap.size + 1 = g := ⟨_, rfl⟩
  have HG : Hid (w.heap.size = g3 ∧ w.heap.size + 1 = g4 ∧ Below w.heap.size w W ∧ g4 < W.heap.size ∧ g < w.heap.size) := ⟨hg3, hg4, HW.out.2.2, (Array.getElem?_eq_some_iff.1 (hg4 ▸ HW.out.2.1)).1, (Array.getElem?_eq_some_iff.1 HA.out.1.blk).1⟩
  have HL : Hid (W.heap[g3]? = some (opO ⟨xk, xp, xy, xv⟩) ∧ W.heap[g4]? = some anZ) := ⟨hg3 ▸ HW.out.1, hg4 ▸ HW.out.2.1⟩
  rw [hg4, hg3]
  clear hg3 hg4 HW
  have HGW : Hid (Gk W A D g cl ep bo a l xo xc s L sn h) := HA.out.1.below HG.out.2.2.1
  obtain ⟨c0, c1, c2, c3, c4, c5⟩ := gu_cells HGW.out.blk
  go_upto_region 5 with fail
  clear c0 c1 c2 c3 c4 c5
  have HZ : Hid (∀ k, k = g ∨ k = g3 ∨ k = g4 → k < W.heap.size ∧ ¬ A k) := by
    have t := HG.out
    have tz := t.2.2.1.size
    rintro k (rfl | rfl | rfl)
    · exact ⟨by omega, HA.out.1.ga⟩
    · exact ⟨by omega, fun e => by have := HA.out.1.ag.lt _ e; omega⟩
    · exact ⟨by omega, fun e => by have := HA.out.1.ag.lt _ e; omega⟩
  have HC : Hid (∀ V : World, (∀ k, k = g ∨ k = g3 ∨ k = g4 → V.heap[k]? = W.heap[k]?) → V.cell? ⟨g, 2, none⟩ = some (cp a) ∧ V.cell? ⟨g3, 0, none⟩ = some (.int .i64 xk) ∧ V.cell? ⟨g3, 1, none⟩ = some (.int .i64 xp) ∧ V.cell? ⟨g3, 2, none⟩ = some (.int .i64 xy) ∧ V.cell? ⟨g3, 3, none⟩ = some (.complex .f64 xv.1 xv.2)) := by
    intro V hV
    obtain ⟨c0, c1, c2, c3, c4, c5⟩ := gu_cells ((hV g (.inl rfl)).trans HGW.out.blk)
    exact ⟨c2, op_cells ((hV g3 (.inr (.inl rfl))).trans HL.out.1)⟩
  have HT : Hid (∀ V, Below W.heap.size W V → Calls Tryz.prog 15 #[cp a, opV ⟨xk, xp, xy, xv⟩] V fun e w' => ∃ lo lc, e = .returned (.tuple #[.slice lo n lc, anV er v b]) ∧ (∀ k, k = g ∨ k = g3 ∨ k = g4 → w'.heap[k]? = W.heap[k]?) ∧ Hid (∀ k, k = g ∨ k = g3 ∨ k = g4 → k < w'.heap.size) ∧ Hid (∃ po pn pc, RdR (gmC po pn pc) w' lo lc Ms ∧ (∀ M ∈ Ms, Msg.RdP w' po pn pc M.ps) ∧ (∀ p, lo = some p ∨ po = some p → V.heap.size ≤ p.block ∧ p.block < w'.heap.size) ∧ Ng V w' A a s2 (fun k => Ro lo k ∨ Ro po k))) := by
    intro V hV
    refine (HA.out.2.2 A a V (HGW.out.ag.below hV)).mono ?_
    rintro e w' ⟨lo, lc, po, pn, pc, rfl, e1, e2, e3, hn⟩
    have t : ∀ k, k = g ∨ k = g3 ∨ k = g4 → w'.heap[k]? = W.heap[k]? := fun k hk => (hn.off.block k (Nat.lt_of_lt_of_le (HZ.out k hk).1 hV.size) (HZ.out k hk).2).trans (hV.block k (HZ.out k hk).1)
    exact ⟨lo, lc, rfl, t, fun k hk => Nat.lt_of_lt_of_le (Nat.lt_of_lt_of_le (HZ.out k hk).1 hV.size) hn.size, po, pn, pc, e1, e2, e3, hn⟩
  refine wp_region_held (S := fun V => ∀ k, k = g ∨ k = g3 ∨ k = g4 → V.heap[k]? = W.heap[k]?) (by kernel_rfl) ?_
  have hS : ∀ k, k = g ∨ k = g3 ∨ k = g4 → W.drew.heap[k]? = W.heap[k]? := fun _ _ => rfl
  refine held_val (i := 0) ?_ 22 rfl rfl (by kernel_rfl) (by kernel_rfl) (by kernel_rfl) (by rfl) (fun _ _ _ h => h) hS ?_ ?_
  rotate_left
  · (intro w hSw; go_simp; first | done | with_reducible rfl)
  simp only [Act.put, List.setIfInBounds_toArray, List.set_cons_zero, List.set_cons_succ]
  refine held_val (i := 1) ?_ 23 rfl rfl (by kernel_rfl) (by kernel_rfl) (by kernel_rfl) (by rfl) (fun _ _ _ h => h) hS ?_ ?_
  rotate_left
  · (intro w hSw; go_simp; first | done | with_reducible rfl)
  simp only [Act.put, List.setIfInBounds_toArray, List.set_cons_zero, List.set_cons_succ]
  refine held_val (i := 2) ?_ 24 rfl rfl (by kernel_rfl) (by kernel_rfl) (by kernel_rfl) (by rfl) (fun _ _ _ h => h) hS ?_ ?_
  rotate_left
  · (intro w hSw; go_simp; first | done | with_reducible rfl)
  simp only [Act.put, List.setIfInBounds_toArray, List.set_cons_zero, List.set_cons_succ]
  refine held_val (i := 3) ?_ 25 rfl rfl (by kernel_rfl) (by kernel_rfl) (by kernel_rfl) (by rfl) (fun _ _ _ h => h) hS ?_ ?_
  rotate_left
  · (intro w hSw; obtain ⟨k2, y0, y1, y2, y3⟩ := HC.out w hSw; go_simp; first | done | with_reducible rfl)
  simp only [Act.put, List.setIfInBounds_toArray, List.set_cons_zero, List.set_cons_succ]
  refine held_val (i := 4) ?_ 26 rfl rfl (by kernel_rfl) (by kernel_rfl) (by kernel_rfl) (by rfl) (fun _ _ _ h => h) hS ?_ ?_
  rotate_left
  · (intro w hSw; obtain ⟨k2, y0, y1, y2, y3⟩ := HC.out w hSw; go_simp; first | done | with_reducible rfl)
  simp only [Act.put, List.setIfInBounds_toArray, List.set_cons_zero, List.set_cons_succ]
  refine held_pair (i := 5) (j := 9) (by kernel_rfl) ?_ ?_
  · refine op_call 27 15 #[cp a, opV ⟨xk, xp, xy, xv⟩] rfl rfl (by rfl) (by simp [go_sem]) (HT.out W.drew (bel0 W)) ?_
    rintro e w5 ⟨lo, lc, rfl, hSx, HZ5, HN⟩
    refine ⟨_, rfl, hSx, ?_⟩
    simp only [Act.put, List.setIfInBounds_toArray, List.set_cons_zero, List.set_cons_succ]
    refine held_val (i := 6) ?_ 21 rfl rfl (by kernel_rfl) (by kernel_rfl) (by kernel_rfl) (by rfl) (fun _ _ _ h => h) hSx ?_ ?_
    rotate_left
    · (intro w hSw; go_simp; first | done | with_reducible rfl)
    simp only [Act.put, List.setIfInBounds_toArray, List.set_cons_zero, List.set_cons_succ]
    refine held_val (i := 7) ?_ 28 rfl rfl (by kernel_rfl) (by kernel_rfl) (by kernel_rfl) (by rfl) (fun _ _ _ h => h) hSx ?_ ?_
    rotate_left
    · (intro w hSw; go_simp; first | done | with_reducible rfl)
    simp only [Act.put, List.setIfInBounds_toArray, List.set_cons_zero, List.set_cons_succ]
    refine held_val (i := 8) ?_ 29 rfl rfl (by kernel_rfl) (by kernel_rfl) (by kernel_rfl) (by rfl) (fun _ _ _ h => h) hSx ?_ ?_
    rotate_left
    · (intro w hSw; go_simp; first | done | with_reducible rfl)
    simp only [Act.put, List.setIfInBounds_toArray, List.set_cons_zero, List.set_cons_succ]
    have hSy : ∀ k, k = g ∨ k = g3 ∨ k = g4 → (w5.alloc anZ).heap[k]? = W.heap[k]? := fun k hk => (heap_alloc_old w5 _ (HZ5.out k hk)).trans (hSx k hk)
    refine held_run (i := 9) 7 (.pointer (some ⟨w5.heap.size, 0, none⟩)) (w5.alloc anZ) rfl rfl (by kernel_rfl) (by rfl) (by go_simp; first | done | with_reducible rfl) hSy ?_
    simp only [Act.put, List.setIfInBounds_toArray, List.set_cons_zero, List.set_cons_succ]
    refine held_val (i := 10) ?_ 6 rfl rfl (by kernel_rfl) (by kernel_rfl) (by kernel_rfl) (by rfl) (fun _ _ _ h => h) hSy ?_ ?_
    rotate_left
    · (intro w hSw; go_simp; first | done | with_reducible rfl)
    simp only [Act.put, List.setIfInBounds_toArray, List.set_cons_zero, List.set_cons_succ]
    obtain ⟨po, pn, pc, t1, t2, t3, t4⟩ := HN.out
    clear HN
    have HD : Hid (Dn w ((w5.alloc anZ).setRow w5.heap.size #[.int .i64 er, .complex .f64 v.1 v.2, .bool b]) A a s2 (fun k => Ro lo k ∨ Ro po k) g4 w5.heap.size er v b ∧ OffS (fun k => k = w5.heap.size) (w5.alloc anZ) ((w5.alloc anZ).setRow w5.heap.size #[.int .i64 er, .complex .f64 v.1 v.2, .bool b]) ∧ Below w5.heap.size w5 (w5.alloc anZ)) := dn_late HG.out.2.2.1 HA.out.1.ag (by have := HG.out; omega) HG.out.2.2.2.1 (HL.out.2) t4
    have hSz : ∀ k, k = g ∨ k = g3 ∨ k = g4 → ((w5.alloc anZ).setRow w5.heap.size #[.int .i64 er, .complex .f64 v.1 v.2, .bool b]).heap[k]? = W.heap[k]? := fun k hk => (setRow_other _ _ _ _ (by have := HZ5.out k hk; omega)).trans (hSy k hk)
    refine held_last (i := 11) ((w5.alloc anZ).setRow w5.heap.size #[.int .i64 er, .complex .f64 v.1 v.2, .bool b]) rfl (by kernel_rfl) (by rfl) (Go.wp_store_row 37 _ _ rfl w5.heap.size #[.int .i64 er, .complex .f64 v.1 v.2, .bool b] rfl rfl 37 #[.int .i64 0, .complex .f64 0 0, .bool false] (heap_alloc_new w5 _) (by kernel_rfl) rfl (by kernel_rfl) ⟨rfl, rfl⟩) hSz ?_
    refine wpAnyH_done (by kernel_rfl) ?_ _
    have HR : Hid (RdR (gmC po pn pc) ((w5.alloc anZ).setRow w5.heap.size #[.int .i64 er, .complex .f64 v.1 v.2, .bool b]) lo lc Ms ∧ (∀ M ∈ Ms, Msg.RdP ((w5.alloc anZ).setRow w5.heap.size #[.int .i64 er, .complex .f64 v.1 v.2, .bool b]) po pn pc M.ps) ∧ (∀ p, lo = some p ∨ po = some p → w.heap.size ≤ p.block ∧ p.block < ((w5.alloc anZ).setRow w5.heap.size #[.int .i64 er, .complex .f64 v.1 v.2, .bool b]).heap.size)) := by
      have hal := HD.out.2.2
      have hw1 := HD.out.2.1
      have hz := hal.size
      have hwz := hw1.size
      have tz := HG.out.2.2.1.size
      have hk : ∀ q : Nat, q < w5.heap.size → ((w5.alloc anZ).setRow w5.heap.size #[.int .i64 er, .complex .f64 v.1 v.2, .bool b]).heap[q]? = w5.heap[q]? := fun q hq => (hw1.block q (by omega) (by show ¬ q = w5.heap.size; omega)).trans (hal.block q hq)
      have hlt : ∀ p : Addr, lo = some p ∨ po = some p → W.heap.size ≤ p.block ∧ p.block < w5.heap.size := t3
      exact ⟨t1.keep (by omega) fun p hp hl => hk _ hl, fun M hM => (t2 M hM).keep (by omega) fun p hp hl => hk _ hl, fun p hp => ⟨by have := hlt p hp; omega, by have := hlt p hp; omega⟩⟩
    clear t1 t2 t3 t4
    clear hSx hSy
    obtain ⟨m, hm⟩ : ∃ m, w5.heap.size = m := ⟨_, rfl⟩
    rw [hm] at HD hSz HR ⊢
    generalize (w5.alloc anZ).setRow m #[.int .i64 er, .complex .f64 v.1 v.2, .bool b] = V at *
    have HR' : Hid (RdR (gmC po pn pc) V lo lc Ms ∧ (∀ M ∈ Ms, Msg.RdP V po pn pc M.ps) ∧ (∀ p, lo = some p ∨ po = some p → w.heap.size ≤ p.block ∧ p.block < V.heap.size)) := HR
    clear HR HT HC HL HZ HZ5 hSz hm
    go_upto_region 8 with fail
    obtain ⟨A', HAg⟩ := HA.out.1.agent HD.out.1 (OffS.refl _ _)
    have HX : Hid ((∀ k, A' k → (A k ∨ w.heap.size ≤ k) ∧ ¬ (Ro lo k ∨ Ro po k) ∧ k ≠ g4 ∧ k ≠ m) ∧ Gk V A' D g cl ep bo a l xo xc s2 L sn h ∧ OffS A w V) := HAg
    clear HAg
    have HC8 : Hid (∀ U : World, U.heap[m]? = V.heap[m]? → U.cell? ⟨m, 0, none⟩ = some (.int .i64 er) ∧ U.cell? ⟨m, 1, none⟩ = some (.complex .f64 v.1 v.2) ∧ U.cell? ⟨m, 2, none⟩ = some (.bool b)) := fun U hU => an_cells (hU.trans HD.out.1.bm)
    have HT8 : Hid (Calls Tryz.prog 16 #[cp g, .slice lo n lc] V.drew fun e w' => ∃ vv, e = .returned vv ∧ w'.heap[m]? = V.heap[m]? ∧ Hid (w'.heap[g4]? = some anZ ∧ Lnk.Pks w' V.heap.size (fun k => V.heap.size ≤ k) vv (Lnk.pksOf ⟨cl, ep, bo, false⟩ (L ++ Ms.map byB) (sn + n) h) ∧ V.heap.size ≤ w'.heap.size ∧ ∃ xo' xc' D', (∀ k, D' k → D k ∨ V.heap.size ≤ k) ∧ Gk w' A' D' g cl ep bo a l xo' xc' s2 (L ++ Ms.map byB) (sn + n) h ∧ (∀ x, xo' = some x → Ro xo x.block ∨ V.heap.size ≤ x.block) ∧ OffS (fun k => D k ∨ k = g ∨ Ro xo k) V w')) := by
      have hK := HX.out.2.1
      obtain ⟨r1, r2, r3⟩ := HR'.out
      have hgl := (Array.getElem?_eq_some_iff.1 HA.out.1.blk).1
      have hxl : ∀ x, xo = some x → x.block < w.heap.size := fun x hx => (HA.out.1.ox.inn x hx).2
      have hwV := HX.out.2.2.size
      have hap : ∀ p, lo = some p ∨ po = some p → p.block ≠ g ∧ ¬ Ro xo p.block := fun p hp => by
        have := r3 p hp
        refine ⟨by omega, ?_⟩
        rintro ⟨x, hx, e⟩
        have := hxl x hx
        omega
      refine (say_any (w := V.drew) (D := D) (cl := cl) (ep := ep) (a := a) (bo := bo) (xc := xc) (I := ⟨cl, ep, bo, false⟩) (L := L) (sn := sn) (h := h) (po := po) (pn := pn) (pc := pc) (Ms := Ms) hK.blk (hK.lk.below (bel0 V)) hK.gd (hK.ox.keep fun _ _ => rfl) (fun x hx => (hK.gx x hx).2.2) r1.drew (fun p hp => hap p (.inl hp)) (fun p hp => hap p (.inr hp)) (fun M hM => ⟨(HQ.out.1 M hM).1, (HQ.out.1 M hM).2, (r2 M hM).below (bel0 V)⟩) HQ.out.2.1 HQ.out.2.2.1 HQ.out.2.2.2.1).mono ?_
      rintro e w' ⟨vv, rfl, xo', xc', D', p1, p2, p3, p4, p5, p6, p7⟩
      have hO : OffS (fun k => D k ∨ k = g ∨ Ro xo k) V w' := (OffS.of_below (bel0 V)).trans (p7.mono fun k hk => .inl hk)
      have hsz := hO.size
      have hm1 : m < V.heap.size := (Array.getElem?_eq_some_iff.1 HD.out.1.bm).1
      have hg1 : g4 < V.heap.size := (Array.getElem?_eq_some_iff.1 HD.out.1.b1).1
      have hne := HD.out.1.ne
      have hfar : ∀ k, w.heap.size ≤ k → ¬ (D k ∨ k = g ∨ Ro xo k) := by
        rintro k hk (h' | rfl | ⟨x, hx, e⟩)
        · have := HA.out.1.lk.lt k h'
          omega
        · omega
        · have := hxl x hx
          omega
      have hnD : ∀ k, k < V.heap.size → ¬ D k → ¬ D' k := fun k hk hd e => by
        rcases p2 k e with h' | h'
        · exact hd h'
        · have h'' : V.heap.size ≤ k := h'
          omega
      refine ⟨vv, rfl, hO.block m hm1 (hfar m hne.2.2), (hO.block g4 hg1 (hfar g4 hne.2.1)).trans HD.out.1.b1, p1, hsz, xo', xc', D', p2, ⟨p6, hK.ag.keep hsz fun k hk => hO.block k (hK.ag.lt k hk) ?_, p3, p4, hK.ga, hnD g (by omega) hK.gd, fun x hx => ⟨own_ne (o := .cells #[] 0) p4 p6 x hx, fun e => ?_, (p5 x hx).1⟩, fun k hk => hnD k (hK.ag.lt k hk) (hK.ad k hk)⟩, fun x hx => (p5 x hx).2, hO⟩
      · rintro (h' | rfl | ⟨x, hx, rfl⟩)
        · exact hK.ad k hk h'
        · exact hK.ga hk
        · exact (hK.gx x hx).2.1 hk
      · rcases (p5 x hx).2 with ⟨y, hy, e'⟩ | h'
        · exact (hK.gx y hy).2.1 (e' ▸ e)
        · have := hK.ag.lt _ e
          have h'' : V.heap.size ≤ x.block := h'
          omega
    refine wp_region_held (S := fun U => U.heap[m]? = V.heap[m]?) (by kernel_rfl) ?_
    have hS8 : V.drew.heap[m]? = V.heap[m]? := rfl
    refine held_val (i := 0) ?_ 34 rfl rfl (by kernel_rfl) (by kernel_rfl) (by kernel_rfl) (by rfl) (fun _ _ _ h => h) hS8 ?_ ?_
    rotate_left
    · (intro w hSw; go_simp; first | done | with_reducible rfl)
    simp only [Act.put, List.setIfInBounds_toArray, List.set_cons_zero, List.set_cons_succ]
    refine held_val (i := 1) ?_ 35 rfl rfl (by kernel_rfl) (by kernel_rfl) (by kernel_rfl) (by rfl) (fun _ _ _ h => h) hS8 ?_ ?_
    rotate_left
    · (intro w hSw; go_simp; first | done | with_reducible rfl)
    simp only [Act.put, List.setIfInBounds_toArray, List.set_cons_zero, List.set_cons_succ]
    refine held_val (i := 3) ?_ 37 rfl rfl (by kernel_rfl) (by kernel_rfl) (by kernel_rfl) (by rfl) (fun _ _ _ h => h) hS8 ?_ ?_
    rotate_left
    · (intro w hSw; obtain ⟨z0, z1, z2⟩ := HC8.out w hSw; go_simp; first | done | with_reducible rfl)
    simp only [Act.put, List.setIfInBounds_toArray, List.set_cons_zero, List.set_cons_succ]
    refine held_call (i := 2) 36 16 #[cp g, .slice lo n lc] rfl rfl (by kernel_rfl) (by rfl) (by simp [go_sem]) HT8.out ?_
    rintro e w2 ⟨vv, rfl, hSx8, H8⟩
    refine ⟨_, rfl, hSx8, ?_⟩
    have hS2 := hSx8
    simp only [Act.put, List.setIfInBounds_toArray, List.set_cons_zero, List.set_cons_succ]
    refine held_val (i := 4) ?_ 4 rfl rfl (by kernel_rfl) (by kernel_rfl) (by kernel_rfl) (by rfl) (fun _ _ _ h => h) hS2 ?_ ?_
    rotate_left
    · (intro w hSw; go_simp; first | done | with_reducible rfl)
    simp only [Act.put, List.setIfInBounds_toArray, List.set_cons_zero, List.set_cons_succ]
    have hSw : (w2.setRow g4 #[.int .i64 er, .complex .f64 v.1 v.2, .bool b]).heap[m]? = V.heap[m]? := (setRow_other _ _ _ _ (HD.out.1.ne.1.symm)).trans hSx8
    refine held_last (i := 5) (w2.setRow g4 #[.int .i64 er, .complex .f64 v.1 v.2, .bool b]) rfl (by kernel_rfl) (by rfl) (Go.wp_store_row 37 _ _ rfl g4 #[.int .i64 er, .complex .f64 v.1 v.2, .bool b] rfl rfl 37 #[.int .i64 0, .complex .f64 0 0, .bool false] H8.out.1 (by kernel_rfl) rfl (by kernel_rfl) ⟨rfl, rfl⟩) hSw ?_
    refine wpAnyH_done (by kernel_rfl) ?_ _
    have HF : Hid ((w2.setRow g4 #[.int .i64 er, .complex .f64 v.1 v.2, .bool b]).heap[g4]? = some (anO er v b) ∧ OffS (fun k => k = g4) w2 (w2.setRow g4 #[.int .i64 er, .complex .f64 v.1 v.2, .bool b])) := ⟨setRow_heap _ _ _ _ 37 _ H8.out.1, rfl, rfl, rfl, by simp, fun k _ hk => setRow_other _ _ k _ hk⟩
    generalize w2.setRow g4 #[.int .i64 er, .complex .f64 v.1 v.2, .bool b] = V9 at *
    obtain ⟨z0, z1, z2⟩ := an_cells HF.out.1
    clear HT8 HC8 hS8 hSx8 hSw
    go_wp2
    refine bodyPost_ret (by simp [results, Tryz.results11, go_sem, z0, z1, z2]; try rfl) rfl ?_
    refine ⟨vv, rfl, ?_⟩
    obtain ⟨q1, q2, q3, xo', xc', D', q4, q5, q6, q7⟩ := H8.out
    have hne := HD.out.1.ne
    have hwV := HX.out.2.2.size
    have hg1 : g4 < V.heap.size := (Array.getElem?_eq_some_iff.1 HD.out.1.b1).1
    refine ⟨(Pks_keepB q2 HF.out.2.size fun k hk hl => HF.out.2.block k hl (by show ¬ k = g4; omega)).mono hwV fun k _ hk => Nat.le_trans hwV hk, .of HA.out.1 HA.out.2.1 (q5.far (n1 := g4) ⟨?_, fun e => (HX.out.1 _ e).2.2.1 rfl, fun e => ?_, ?_⟩ HF.out.2) (fun k hk => (HX.out.1 k hk).1) (fun k hk => (q4 k hk).imp id fun h' => Nat.le_trans hwV h') (fun x hx => (q6 x hx).imp id fun h' => Nat.le_trans hwV h') ?_⟩
    · have := (Array.getElem?_eq_some_iff.1 HA.out.1.blk).1
      omega
    · rcases q4 _ e with h' | h'
      · have := HA.out.1.lk.lt _ h'
        omega
      · omega
    · rintro ⟨x, hx, e⟩
      rcases q6 x hx with ⟨y, hy, e'⟩ | h'
      · have := (HA.out.1.ox.inn y hy).2
        omega
      · omega
    · obtain ⟨c1, c2, c3, c4, c5⟩ := HA.out.2.1
      refine ((HX.out.2.2.mono c2).trans (q7.mono fun k hk => .inl ?_)).trans (HF.out.2.mono fun k hk => .inr ?_)
      · rcases hk with hk | rfl | ⟨x, hx, rfl⟩
        · exact c3 k hk
        · exact c1
        · exact c4 x hx
      · have e : k = g4 := hk
        omega
  · refine op_run 7 (.pointer (some ⟨W.heap.size, 0, none⟩)) (W.drew.alloc anZ) rfl rfl (by rfl) (by go_simp; first | done | with_reducible rfl) ?_
    have hSy : ∀ k, k = g ∨ k = g3 ∨ k = g4 → (W.drew.alloc anZ).heap[k]? = W.heap[k]? := fun k hk => heap_alloc_old W.drew _ (HZ.out k hk).1
    refine ⟨hSy, ?_⟩
    simp only [Act.put, List.setIfInBounds_toArray, List.set_cons_zero, List.set_cons_succ]
    refine held_call (i := 5) 27 15 #[cp a, opV ⟨xk, xp, xy, xv⟩] rfl rfl (by kernel_rfl) (by rfl) (by simp [go_sem]) (HT.out (W.drew.alloc anZ) (below_step (bel0 W) ((Below.refl _ _).alloc (Nat.le_refl _) _))) ?_
    rintro e w5 ⟨lo, lc, rfl, hSx, HZ5, HN⟩
    refine ⟨_, rfl, hSx, ?_⟩
    simp only [Act.put, List.setIfInBounds_toArray, List.set_cons_zero, List.set_cons_succ]
    refine held_val (i := 6) ?_ 21 rfl rfl (by kernel_rfl) (by kernel_rfl) (by kernel_rfl) (by rfl) (fun _ _ _ h => h) hSx ?_ ?_
    rotate_left
    · (intro w hSw; go_simp; first | done | with_reducible rfl)
    simp only [Act.put, List.setIfInBounds_toArray, List.set_cons_zero, List.set_cons_succ]
    refine held_val (i := 7) ?_ 28 rfl rfl (by kernel_rfl) (by kernel_rfl) (by kernel_rfl) (by rfl) (fun _ _ _ h => h) hSx ?_ ?_
    rotate_left
    · (intro w hSw; go_simp; first | done | with_reducible rfl)
    simp only [Act.put, List.setIfInBounds_toArray, List.set_cons_zero, List.set_cons_succ]
    refine held_val (i := 8) ?_ 29 rfl rfl (by kernel_rfl) (by kernel_rfl) (by kernel_rfl) (by rfl) (fun _ _ _ h => h) hSx ?_ ?_
    rotate_left
    · (intro w hSw; go_simp; first | done | with_reducible rfl)
    simp only [Act.put, List.setIfInBounds_toArray, List.set_cons_zero, List.set_cons_succ]
    refine held_val (i := 10) ?_ 6 rfl rfl (by kernel_rfl) (by kernel_rfl) (by kernel_rfl) (by rfl) (fun _ _ _ h => h) hSx ?_ ?_
    rotate_left
    · (intro w hSw; go_simp; first | done | with_reducible rfl)
    simp only [Act.put, List.setIfInBounds_toArray, List.set_cons_zero, List.set_cons_succ]
    obtain ⟨po, pn, pc, t1, t2, t3, t4⟩ := HN.out
    clear HN
    have HD : Hid (Dn w (w5.setRow W.heap.size #[.int .i64 er, .complex .f64 v.1 v.2, .bool b]) A a s2 (fun k => Ro lo k ∨ Ro po k) g4 W.heap.size er v b ∧ OffS (fun k => k = W.heap.size) w5 (w5.setRow W.heap.size #[.int .i64 er, .complex .f64 v.1 v.2, .bool b]) ∧ w5.heap[W.heap.size]? = some anZ) := dn_soon HG.out.2.2.1 HA.out.1.ag (by have := HG.out; omega) HG.out.2.2.2.1 (HL.out.2) t4
    have hSz : ∀ k, k = g ∨ k = g3 ∨ k = g4 → (w5.setRow W.heap.size #[.int .i64 er, .complex .f64 v.1 v.2, .bool b]).heap[k]? = W.heap[k]? := fun k hk => (setRow_other _ _ _ _ (by have := HZ.out k hk; omega)).trans (hSx k hk)
    refine held_last (i := 11) (w5.setRow W.heap.size #[.int .i64 er, .complex .f64 v.1 v.2, .bool b]) rfl (by kernel_rfl) (by rfl) (Go.wp_store_row 37 _ _ rfl W.heap.size #[.int .i64 er, .complex .f64 v.1 v.2, .bool b] rfl rfl 37 #[.int .i64 0, .complex .f64 0 0, .bool false] HD.out.2.2 (by kernel_rfl) rfl (by kernel_rfl) ⟨rfl, rfl⟩) hSz ?_
    refine wpAnyH_done (by kernel_rfl) ?_ _
    have HR : Hid (RdR (gmC po pn pc) (w5.setRow W.heap.size #[.int .i64 er, .complex .f64 v.1 v.2, .bool b]) lo lc Ms ∧ (∀ M ∈ Ms, Msg.RdP (w5.setRow W.heap.size #[.int .i64 er, .complex .f64 v.1 v.2, .bool b]) po pn pc M.ps) ∧ (∀ p, lo = some p ∨ po = some p → w.heap.size ≤ p.block ∧ p.block < (w5.setRow W.heap.size #[.int .i64 er, .complex .f64 v.1 v.2, .bool b]).heap.size)) := by
      have hw1 := HD.out.2.1
      have hwz := hw1.size
      have tz := HG.out.2.2.1.size
      have hz : (W.drew.alloc anZ).heap.size = W.heap.size + 1 := by simp
      have hlt : ∀ p : Addr, lo = some p ∨ po = some p → W.heap.size + 1 ≤ p.block ∧ p.block < w5.heap.size := fun p hp => hz ▸ t3 p hp
      exact ⟨t1.keep (by omega) fun p hp hl => hw1.block _ hl (by show ¬ p.block = W.heap.size; have := hlt p (.inl hp); omega), fun M hM => (t2 M hM).keep (by omega) fun p hp hl => hw1.block _ hl (by show ¬ p.block = W.heap.size; have := hlt p (.inr hp); omega), fun p hp => ⟨by have := hlt p hp; omega, by have := hlt p hp; omega⟩⟩
    clear t1 t2 t3 t4
    clear hSx hSy
    obtain ⟨m, hm⟩ : ∃ m, W.heap.size = m := ⟨_, rfl⟩
    rw [hm] at HD hSz HR ⊢
    generalize w5.setRow m #[.int .i64 er, .complex .f64 v.1 v.2, .bool b] = V at *
    have HR' : Hid (RdR (gmC po pn pc) V lo lc Ms ∧ (∀ M ∈ Ms, Msg.RdP V po pn pc M.ps) ∧ (∀ p, lo = some p ∨ po = some p → w.heap.size ≤ p.block ∧ p.block < V.heap.size)) := HR
    clear HR HT HC HL HZ HZ5 hSz hm
    go_upto_region 8 with fail
    obtain ⟨A', HAg⟩ := HA.out.1.agent HD.out.1 (OffS.refl _ _)
    have HX : Hid ((∀ k, A' k → (A k ∨ w.heap.size ≤ k) ∧ ¬ (Ro lo k ∨ Ro po k) ∧ k ≠ g4 ∧ k ≠ m) ∧ Gk V A' D g cl ep bo a l xo xc s2 L sn h ∧ OffS A w V) := HAg
    clear HAg
    have HC8 : Hid (∀ U : World, U.heap[m]? = V.heap[m]? → U.cell? ⟨m, 0, none⟩ = some (.int .i64 er) ∧ U.cell? ⟨m, 1, none⟩ = some (.complex .f64 v.1 v.2) ∧ U.cell? ⟨m, 2, none⟩ = some (.bool b)) := fun U hU => an_cells (hU.trans HD.out.1.bm)
    have HT8 : Hid (Calls Tryz.prog 16 #[cp g, .slice lo n lc] V.drew fun e w' => ∃ vv, e = .returned vv ∧ w'.heap[m]? = V.heap[m]? ∧ Hid (w'.heap[g4]? = some anZ ∧ Lnk.Pks w' V.heap.size (fun k => V.heap.size ≤ k) vv (Lnk.pksOf ⟨cl, ep, bo, false⟩ (L ++ Ms.map byB) (sn + n) h) ∧ V.heap.size ≤ w'.heap.size ∧ ∃ xo' xc' D', (∀ k, D' k → D k ∨ V.heap.size ≤ k) ∧ Gk w' A' D' g cl ep bo a l xo' xc' s2 (L ++ Ms.map byB) (sn + n) h ∧ (∀ x, xo' = some x → Ro xo x.block ∨ V.heap.size ≤ x.block) ∧ OffS (fun k => D k ∨ k = g ∨ Ro xo k) V w')) := by
      have hK := HX.out.2.1
      obtain ⟨r1, r2, r3⟩ := HR'.out
      have hgl := (Array.getElem?_eq_some_iff.1 HA.out.1.blk).1
      have hxl : ∀ x, xo = some x → x.block < w.heap.size := fun x hx => (HA.out.1.ox.inn x hx).2
      have hwV := HX.out.2.2.size
      have hap : ∀ p, lo = some p ∨ po = some p → p.block ≠ g ∧ ¬ Ro xo p.block := fun p hp => by
        have := r3 p hp
        refine ⟨by omega, ?_⟩
        rintro ⟨x, hx, e⟩
        have := hxl x hx
        omega
      refine (say_any (w := V.drew) (D := D) (cl := cl) (ep := ep) (a := a) (bo := bo) (xc := xc) (I := ⟨cl, ep, bo, false⟩) (L := L) (sn := sn) (h := h) (po := po) (pn := pn) (pc := pc) (Ms := Ms) hK.blk (hK.lk.below (bel0 V)) hK.gd (hK.ox.keep fun _ _ => rfl) (fun x hx => (hK.gx x hx).2.2) r1.drew (fun p hp => hap p (.inl hp)) (fun p hp => hap p (.inr hp)) (fun M hM => ⟨(HQ.out.1 M hM).1, (HQ.out.1 M hM).2, (r2 M hM).below (bel0 V)⟩) HQ.out.2.1 HQ.out.2.2.1 HQ.out.2.2.2.1).mono ?_
      rintro e w' ⟨vv, rfl, xo', xc', D', p1, p2, p3, p4, p5, p6, p7⟩
      have hO : OffS (fun k => D k ∨ k = g ∨ Ro xo k) V w' := (OffS.of_below (bel0 V)).trans (p7.mono fun k hk => .inl hk)
      have hsz := hO.size
      have hm1 : m < V.heap.size := (Array.getElem?_eq_some_iff.1 HD.out.1.bm).1
      have hg1 : g4 < V.heap.size := (Array.getElem?_eq_some_iff.1 HD.out.1.b1).1
      have hne := HD.out.1.ne
      have hfar : ∀ k, w.heap.size ≤ k → ¬ (D k ∨ k = g ∨ Ro xo k) := by
        rintro k hk (h' | rfl | ⟨x, hx, e⟩)
        · have := HA.out.1.lk.lt k h'
          omega
        · omega
        · have := hxl x hx
          omega
      have hnD : ∀ k, k < V.heap.size → ¬ D k → ¬ D' k := fun k hk hd e => by
        rcases p2 k e with h' | h'
        · exact hd h'
        · have h'' : V.heap.size ≤ k := h'
          omega
      refine ⟨vv, rfl, hO.block m hm1 (hfar m hne.2.2), (hO.block g4 hg1 (hfar g4 hne.2.1)).trans HD.out.1.b1, p1, hsz, xo', xc', D', p2, ⟨p6, hK.ag.keep hsz fun k hk => hO.block k (hK.ag.lt k hk) ?_, p3, p4, hK.ga, hnD g (by omega) hK.gd, fun x hx => ⟨own_ne (o := .cells #[] 0) p4 p6 x hx, fun e => ?_, (p5 x hx).1⟩, fun k hk => hnD k (hK.ag.lt k hk) (hK.ad k hk)⟩, fun x hx => (p5 x hx).2, hO⟩
      · rintro (h' | rfl | ⟨x, hx, rfl⟩)
        · exact hK.ad k hk h'
        · exact hK.ga hk
        · exact (hK.gx x hx).2.1 hk
      · rcases (p5 x hx).2 with ⟨y, hy, e'⟩ | h'
        · exact (hK.gx y hy).2.1 (e' ▸ e)
        · have := hK.ag.lt _ e
          have h'' : V.heap.size ≤ x.block := h'
          omega
    refine wp_region_held (S := fun U => U.heap[m]? = V.heap[m]?) (by kernel_rfl) ?_
    have hS8 : V.drew.heap[m]? = V.heap[m]? := rfl
    refine held_val (i := 0) ?_ 34 rfl rfl (by kernel_rfl) (by kernel_rfl) (by kernel_rfl) (by rfl) (fun _ _ _ h => h) hS8 ?_ ?_
    rotate_left
    · (intro w hSw; go_simp; first | done | with_reducible rfl)
    simp only [Act.put, List.setIfInBounds_toArray, List.set_cons_zero, List.set_cons_succ]
    refine held_val (i := 1) ?_ 35 rfl rfl (by kernel_rfl) (by kernel_rfl) (by kernel_rfl) (by rfl) (fun _ _ _ h => h) hS8 ?_ ?_
    rotate_left
    · (intro w hSw; go_simp; first | done | with_reducible rfl)
    simp only [Act.put, List.setIfInBounds_toArray, List.set_cons_zero, List.set_cons_succ]
    refine held_val (i := 3) ?_ 37 rfl rfl (by kernel_rfl) (by kernel_rfl) (by kernel_rfl) (by rfl) (fun _ _ _ h => h) hS8 ?_ ?_
    rotate_left
    · (intro w hSw; obtain ⟨z0, z1, z2⟩ := HC8.out w hSw; go_simp; first | done | with_reducible rfl)
    simp only [Act.put, List.setIfInBounds_toArray, List.set_cons_zero, List.set_cons_succ]
    refine held_call (i := 2) 36 16 #[cp g, .slice lo n lc] rfl rfl (by kernel_rfl) (by rfl) (by simp [go_sem]) HT8.out ?_
    rintro e w2 ⟨vv, rfl, hSx8, H8⟩
    refine ⟨_, rfl, hSx8, ?_⟩
    have hS2 := hSx8
    simp only [Act.put, List.setIfInBounds_toArray, List.set_cons_zero, List.set_cons_succ]
    refine held_val (i := 4) ?_ 4 rfl rfl (by kernel_rfl) (by kernel_rfl) (by kernel_rfl) (by rfl) (fun _ _ _ h => h) hS2 ?_ ?_
    rotate_left
    · (intro w hSw; go_simp; first | done | with_reducible rfl)
    simp only [Act.put, List.setIfInBounds_toArray, List.set_cons_zero, List.set_cons_succ]
    have hSw : (w2.setRow g4 #[.int .i64 er, .complex .f64 v.1 v.2, .bool b]).heap[m]? = V.heap[m]? := (setRow_other _ _ _ _ (HD.out.1.ne.1.symm)).trans hSx8
    refine held_last (i := 5) (w2.setRow g4 #[.int .i64 er, .complex .f64 v.1 v.2, .bool b]) rfl (by kernel_rfl) (by rfl) (Go.wp_store_row 37 _ _ rfl g4 #[.int .i64 er, .complex .f64 v.1 v.2, .bool b] rfl rfl 37 #[.int .i64 0, .complex .f64 0 0, .bool false] H8.out.1 (by kernel_rfl) rfl (by kernel_rfl) ⟨rfl, rfl⟩) hSw ?_
    refine wpAnyH_done (by kernel_rfl) ?_ _
    have HF : Hid ((w2.setRow g4 #[.int .i64 er, .complex .f64 v.1 v.2, .bool b]).heap[g4]? = some (anO er v b) ∧ OffS (fun k => k = g4) w2 (w2.setRow g4 #[.int .i64 er, .complex .f64 v.1 v.2, .bool b])) := ⟨setRow_heap _ _ _ _ 37 _ H8.out.1, rfl, rfl, rfl, by simp, fun k _ hk => setRow_other _ _ k _ hk⟩
    generalize w2.setRow g4 #[.int .i64 er, .complex .f64 v.1 v.2, .bool b] = V9 at *
    obtain ⟨z0, z1, z2⟩ := an_cells HF.out.1
    clear HT8 HC8 hS8 hSx8 hSw
    go_wp2
    refine bodyPost_ret (by simp [results, Tryz.results11, go_sem, z0, z1, z2]; try rfl) rfl ?_
    refine ⟨vv, rfl, ?_⟩
    obtain ⟨q1, q2, q3, xo', xc', D', q4, q5, q6, q7⟩ := H8.out
    have hne := HD.out.1.ne
    have hwV := HX.out.2.2.size
    have hg1 : g4 < V.heap.size := (Array.getElem?_eq_some_iff.1 HD.out.1.b1).1
    refine ⟨(Pks_keepB q2 HF.out.2.size fun k hk hl => HF.out.2.block k hl (by show ¬ k = g4; omega)).mono hwV fun k _ hk => Nat.le_trans hwV hk, .of HA.out.1 HA.out.2.1 (q5.far (n1 := g4) ⟨?_, fun e => (HX.out.1 _ e).2.2.1 rfl, fun e => ?_, ?_⟩ HF.out.2) (fun k hk => (HX.out.1 k hk).1) (fun k hk => (q4 k hk).imp id fun h' => Nat.le_trans hwV h') (fun x hx => (q6 x hx).imp id fun h' => Nat.le_trans hwV h') ?_⟩
    · have := (Array.getElem?_eq_some_iff.1 HA.out.1.blk).1
      omega
    · rcases q4 _ e with h' | h'
      · have := HA.out.1.lk.lt _ h'
        omega
      · omega
    · rintro ⟨x, hx, e⟩
      rcases q6 x hx with ⟨y, hy, e'⟩ | h'
      · have := (HA.out.1.ox.inn y hy).2
        omega
      · omega
    · obtain ⟨c1, c2, c3, c4, c5⟩ := HA.out.2.1
      refine ((HX.out.2.2.mono c2).trans (q7.mono fun k hk => .inl ?_)).trans (HF.out.2.mono fun k hk => .inr ?_)
      · rcases hk with hk | rfl | ⟨x, hx, rfl⟩
        · exact c3 k hk
        · exact c1
        · exact c4 x hx
      · have e : k = g4 := hk
        omega

end Go.Proofs.YtmmgdmfdiaoegaaGreat
