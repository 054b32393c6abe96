/- inUse and called of package agent, and msg.Copy, walked. -/
import Derived.Test.YtmmgdmfdiaoegaaGreatA4
namespace Go.Proofs.YtmmgdmfdiaoegaaGreat
open Go.RowKit
set_option linter.unusedVariables false
set_option maxRecDepth 8000

section
variable {P : Program} {ops : Array Oper} {Q : Exit → Act → World → Prop} {md : Region.Mode} {F : World → Prop} {z : Nat}
/-- A call that may come up alone, ahead of z. -/
theorem Till.call {i : Nat} {oi : Oper} (d : Nat) (fn : FuncId) (args : Array Value) {f : Nat} {l : Array Bool} {a : Act} {w : World} (hi : ops[i]? = some oi) (hd : oi.dst = some d) (hr : Region.ready md ops l = [i])
    (hw : Region.wanted oi (yielded ops a.tmps) = true) (hrun : (execOp a.eval oi).run P w = .ok (.enter fn args) w) {Post : Ending → World → Prop} (hc : Calls P fn args w Post)
    (h : ∀ e w', Post e w' → ∃ v, e = .returned v ∧ F w' ∧ Till P md ops Q F z f (l.setIfInBounds i true) (a.put (some d) v) w') : Till P md ops Q F z (f + 1) l a w := by
  refine ⟨fun h0 => (by rw [h0] at hr; cases hr), fun j hj => ?_⟩
  rw [hr] at hj
  obtain rfl : j = i := by simpa using hj
  unfold Go.wpOp
  simp only [hi, hw, if_true, Oper.wp, hrun, Oper.upon_enter]
  refine .inl (hc.mono fun e w' hp => ?_)
  obtain ⟨v, rfl, h2, h3⟩ := h e w' hp
  exact ⟨fun _ => h2, hd ▸ h3⟩
end

/-- Is it in use? -/
def useM (s : As) (p : Nat) (wr : Bool) : Nat := if wr then (s.d p).w ||| (s.d p).r else (s.d p).w
def useB (s : As) (M : Mg) : Bool := (useM s M.p.toNat M.wr).testBit M.o.toNat

/-- What was done in a page, cell by cell. -/
theorem Ag.c6 {w : World} {A : Nat → Prop} {a c : Nat} {pq ko : Option Addr} {kc : Nat} {s : As} (h : Ag w A a c pq ko kc s) (p : Nat) (hp : p < 6) : w.cell? ⟨a, 3 + p * 6, none⟩ = some (.int .i64 ((s.d p).r : Int)) ∧ w.cell? ⟨a, 3 + p * 6 + 1, none⟩ = some (.int .i64 ((s.d p).w : Int)) ∧ w.cell? ⟨a, 3 + p * 6 + 2, none⟩ = some (.complex .f64 ((s.d p).v 0).1 ((s.d p).v 0).2) ∧ w.cell? ⟨a, 3 + p * 6 + 3, none⟩ = some (.complex .f64 ((s.d p).v 1).1 ((s.d p).v 1).2) ∧ w.cell? ⟨a, 3 + p * 6 + 4, none⟩ = some (.complex .f64 ((s.d p).v 2).1 ((s.d p).v 2).2) ∧ w.cell? ⟨a, 3 + p * 6 + 5, none⟩ = some (.complex .f64 ((s.d p).v 3).1 ((s.d p).v 3).2) :=
  ⟨h.cr p hp, h.cw p hp, h.cv p hp 0 (by decide), h.cv p hp 1 (by decide), h.cv p hp 2 (by decide), h.cv p hp 3 (by decide)⟩

abbrev deO (x : De) : Obj := .cells #[.int .i64 (x.r : Int), .int .i64 (x.w : Int), .complex .f64 (x.v 0).1 (x.v 0).2, .complex .f64 (x.v 1).1 (x.v 1).2, .complex .f64 (x.v 2).1 (x.v 2).2, .complex .f64 (x.v 3).1 (x.v 3).2] 51

theorem al2 (w : World) (o1 o2 : Obj) : ((w.alloc o1).alloc o2).drew.heap[w.heap.size]? = some o1 ∧ ((w.alloc o1).alloc o2).drew.heap[w.heap.size + 1]? = some o2 ∧ Below w.heap.size w ((w.alloc o1).alloc o2).drew := by
  have b1 : Below w.heap.size w (w.alloc o1) := (Below.refl _ _).alloc (Nat.le_refl _) _
  have b2 : Below (w.alloc o1).heap.size (w.alloc o1) ((w.alloc o1).alloc o2) := (Below.refl _ _).alloc (Nat.le_refl _) _
  have e1 : (w.alloc o1).heap.size = w.heap.size + 1 := by simp
  have n1 := heap_alloc_new w o1
  have n2 := heap_alloc_new (w.alloc o1) o2
  rw [e1] at n2
  exact ⟨(b2.block _ (by omega)).trans n1, n2, below_step (below_step b1 b2) (bel0 _)⟩

set_option maxHeartbeats 1600000 in
theorem inUse_any {w : World} {A : Nat → Prop} {a c : Nat} {pq ko : Option Addr} {kc : Nat} {s : As} (H : Ag w A a c pq ko kc s) (M : Mg) (hM : CallOk M) : Calls Tryz.prog 73 #[cp a, mgV M] w fun e w' => e = .returned (.bool (useB s M)) ∧ Below w.heap.size w w' := by
  have hst := fun (ad : Addr) (re im : Nat) (W : World) => run_store Tryz.prog W ad (.complex .f64 re im) .plain rfl
  obtain ⟨p, o, hp, ho, e1, e2⟩ := hM
  obtain ⟨mk, mp, mo, mt, mc, mn, wr, ps, v0, v1, v2, v3⟩ := M
  simp only at e1 e2
  subst e1 e2
  have HU : Hid (useB s ⟨mk, (p : Int), (o : Int), mt, mc, mn, wr, ps, v0, v1, v2, v3⟩ = (useM s p wr).testBit o) := by
    unfold Hid useB
    simp only [Int.toNat_natCast]
  have H2 := H.below (w' := w.alloc (mgO ⟨mk, (p : Int), (o : Int), mt, mc, mn, wr, ps, v0, v1, v2, v3⟩)) ((Below.refl _ _).alloc (Nat.le_refl _) _)
  obtain ⟨x0, x1, x2, x3, x4, x5⟩ := H2.c6 p hp
  have hab : a < w.heap.size := H.sz
  have hp0 : ¬ (p : Int) < 0 := by omega
  have hp6 : (p : Int) < 6 := by omega
  obtain ⟨hdr, hdw⟩ := H.dm p
  have hor := (or16c (s.d p).w hdw (s.d p).r hdr).1
  have hol := (or16c (s.d p).w hdw (s.d p).r hdr).2
  have HH : Hid (∀ (m : Nat), m < 16 → ∀ W, Calls Tryz.prog 40 #[.int .i64 (m : Int), .int .i64 (o : Int)] W fun e w' => e = .returned (.bool (m.testBit o)) ∧ w' = W) := fun m hm W => ahas_nat m o hm ho W
  have HR : Hid (useM s p true = (s.d p).w ||| (s.d p).r ∧ useM s p false = (s.d p).w ∧ (s.d p).w < 16) := ⟨rfl, rfl, hdw⟩
  clear H H2
  generalize (s.d p).w = dw at *
  generalize (s.d p).r = dr at *
  generalize (s.d p).v = dv at *
  cases wr
  · have HW : Hid _ := al2 w (mgO ⟨mk, (p : Int), (o : Int), mt, mc, mn, false, ps, v0, v1, v2, v3⟩) (.cells #[.int .i64 (dr : Int), .int .i64 (dw : Int), .complex .f64 (dv 0).1 (dv 0).2, .complex .f64 (dv 1).1 (dv 1).2, .complex .f64 (dv 2).1 (dv 2).2, .complex .f64 (dv 3).1 (dv 3).2] 51)
    go_enter Tryz.func73, Tryz.ntmps73
    go_upto_region 1 with fail
    go_region
    go_upto_region 2 with fail
    generalize ((w.alloc (mgO ⟨mk, (p : Int), (o : Int), mt, mc, mn, false, ps, v0, v1, v2, v3⟩)).alloc (.cells #[.int .i64 (dr : Int), .int .i64 (dw : Int), .complex .f64 (dv 0).1 (dv 0).2, .complex .f64 (dv 1).1 (dv 1).2, .complex .f64 (dv 2).1 (dv 2).2, .complex .f64 (dv 3).1 (dv 3).2] 51)).drew = W at *
    obtain ⟨y0, y1, y2, y3, y4, y5, y6, -⟩ := mg_cells HW.out.1
    have d0 : W.cell? ⟨w.heap.size + 1, 0, none⟩ = some (.int .i64 (dr : Int)) := by rw [cell_of_row _ _ _ _ _ _ HW.out.2.1]; rfl
    have d1 : W.cell? ⟨w.heap.size + 1, 1, none⟩ = some (.int .i64 (dw : Int)) := by rw [cell_of_row _ _ _ _ _ _ HW.out.2.1]; rfl
    simp only at y0 y1 y2 y3 y4 y5 y6
    clear x0 x1 x2 x3 x4 x5
    go_wp2_with (first
      | (go_at_call 40; refine (HH.out dw HR.out.2.2 _).mono ?_; rintro e w1 ⟨rfl, hw⟩; subst w1)
      | fail)
    go_ret
    exact ⟨ret_bool (by rw [HU.out, HR.out.2.1]), HW.out.2.2⟩
  · have HW : Hid _ := al2 w (mgO ⟨mk, (p : Int), (o : Int), mt, mc, mn, true, ps, v0, v1, v2, v3⟩) (.cells #[.int .i64 (dr : Int), .int .i64 (dw : Int), .complex .f64 (dv 0).1 (dv 0).2, .complex .f64 (dv 1).1 (dv 1).2, .complex .f64 (dv 2).1 (dv 2).2, .complex .f64 (dv 3).1 (dv 3).2] 51)
    go_enter Tryz.func73, Tryz.ntmps73
    go_upto_region 1 with fail
    go_region
    go_upto_region 2 with fail
    generalize ((w.alloc (mgO ⟨mk, (p : Int), (o : Int), mt, mc, mn, true, ps, v0, v1, v2, v3⟩)).alloc (.cells #[.int .i64 (dr : Int), .int .i64 (dw : Int), .complex .f64 (dv 0).1 (dv 0).2, .complex .f64 (dv 1).1 (dv 1).2, .complex .f64 (dv 2).1 (dv 2).2, .complex .f64 (dv 3).1 (dv 3).2] 51)).drew = W at *
    obtain ⟨y0, y1, y2, y3, y4, y5, y6, -⟩ := mg_cells HW.out.1
    have d0 : W.cell? ⟨w.heap.size + 1, 0, none⟩ = some (.int .i64 (dr : Int)) := by rw [cell_of_row _ _ _ _ _ _ HW.out.2.1]; rfl
    have d1 : W.cell? ⟨w.heap.size + 1, 1, none⟩ = some (.int .i64 (dw : Int)) := by rw [cell_of_row _ _ _ _ _ _ HW.out.2.1]; rfl
    simp only at y0 y1 y2 y3 y4 y5 y6
    clear x0 x1 x2 x3 x4 x5
    go_wp2_with (first
      | (go_at_call 40; refine (HH.out (dw ||| dr) hol _).mono ?_; rintro e w1 ⟨rfl, hw⟩; subst w1)
      | fail)
    go_ret
    exact ⟨ret_bool (by rw [HU.out, HR.out.1]; first | done | simp), HW.out.2.2⟩

set_option maxHeartbeats 800000 in
theorem copy_any (M : Mg) (w : World) : Calls Tryz.prog 76 #[mgV M] w fun e w' => e = .returned (mgV M) ∧ Below w.heap.size w w' := by
  have hst := fun (ad : Addr) (re im : Nat) (W : World) => run_store Tryz.prog W ad (.complex .f64 re im) .plain rfl
  have hap : ∀ (W : World) (ty : TypeId), (Builtin.append_ #[70, 70] ty #[.slice none 0 0, .slice none 0 0]).run Tryz.prog W = .ok (.slice none 0 0) W := fun W ty => by kernel_rfl
  go_enter Tryz.func76, Tryz.ntmps76
  go_wp2
  refine bodyPost_ret (by simp [results, Tryz.results76, go_sem]; try rfl) rfl ?_
  exact ⟨rfl, by go_grown⟩

theorem index0 (ao : Option Addr) (cap : Nat) (f : Value) (w : World) : Calls Tryz.prog 93 #[.slice ao 0 cap, f] w fun e w' => e = .returned (.int .i64 (-1)) ∧ w' = w := by
  go_enter Tryz.func93, Tryz.ntmps93
  go_wp2
  go_loop [8] (fun i => i = .int .i64 0) (fun _ => 0)
  case atStart => rfl
  case round =>
    subst hrel
    go_wp2
    go_ret
    exact ⟨rfl, rfl⟩
theorem contains0 (ao : Option Addr) (cap : Nat) (f : Value) (w : World) : Calls Tryz.prog 74 #[.slice ao 0 cap, f] w fun e w' => e = .returned (.bool false) ∧ w' = w := by
  go_enter Tryz.func74, Tryz.ntmps74
  go_wp2_with (first
    | (go_at_call 93; refine (index0 _ _ _ _).mono ?_; rintro e w1 ⟨rfl, hw⟩; subst w1)
    | fail)
  go_ret
  exact ⟨rfl, rfl⟩

theorem al2n (w : World) (o1 o2 : Obj) : ((w.alloc o1).alloc o2).heap[w.heap.size]? = some o1 ∧ ((w.alloc o1).alloc o2).heap[w.heap.size + 1]? = some o2 ∧ Below w.heap.size w ((w.alloc o1).alloc o2) :=
  ⟨(al2 w o1 o2).1, (al2 w o1 o2).2.1, ((Below.refl _ _).alloc (Nat.le_refl _) _).alloc (by simp) _⟩

set_option maxHeartbeats 1600000 in
theorem called_free {w : World} {A : Nat → Prop} {a c : Nat} {pq ko : Option Addr} {kc : Nat} {s : As} (H : Ag w A a c pq ko kc s) (M : Mg) (hM : CallOk M) (hu : useB s M = false) : Calls Tryz.prog 57 #[cp a, mgV M] w fun e w' => e = .returned (mgV (gvM s M.p.toNat M.o.toNat M.wr)) ∧ Ag w' (nwA A w w') a c pq ko kc (gvS s M.p.toNat M.o.toNat M.wr) ∧ OffS A w w' := by
  have hst := fun (ad : Addr) (re im : Nat) (W : World) => run_store Tryz.prog W ad (.complex .f64 re im) .plain rfl
  have HW : Hid _ := al2n w (mgO M) (mgO mZ)
  have HA : Hid (Ag w A a c pq ko kc s ∧ CallOk M ∧ useB s M = false) := ⟨H, hM, hu⟩
  obtain ⟨R, hR⟩ : ∃ R, gvM s M.p.toNat M.o.toNat M.wr = R := ⟨_, rfl⟩
  obtain ⟨s2, hs2⟩ : ∃ s2, gvS s M.p.toNat M.o.toNat M.wr = s2 := ⟨_, rfl⟩
  have HR : Hid (gvM s M.p.toNat M.o.toNat M.wr = R ∧ gvS s M.p.toNat M.o.toNat M.wr = s2) := ⟨hR, hs2⟩
  rw [hR, hs2]
  clear H hM hu hR hs2
  go_enter Tryz.func57, Tryz.ntmps57
  go_upto_region 1 with fail
  show Code.wp _ _ _ _ ((w.alloc (mgO M)).alloc (mgO mZ))
  generalize (w.alloc (mgO M)).alloc (mgO mZ) = W at *
  obtain ⟨g3, hg3⟩ : ∃ g, w.heap.size = g := ⟨_, rfl⟩
  obtain ⟨g4, hg4⟩ : ∃ g, w.heap.size + 1 = g := ⟨_, rfl⟩
  have HG : Hid (w.heap.size = g3 ∧ w.heap.size + 1 = g4 ∧ Below w.heap.size w W) := ⟨hg3, hg4, HW.out.2.2⟩
  have HL : Hid (W.heap[g3]? = some (mgO M) ∧ W.heap[g4]? = some (mgO mZ)) := ⟨hg3 ▸ HW.out.1, hg4 ▸ HW.out.2.1⟩
  rw [hg4, hg3]
  clear hg3 hg4 HW
  obtain ⟨y0, y1, y2, y3, y4, y5, y6, y7, y8, y9, yA, yB⟩ := mg_cells HL.out.1
  have HI : Hid (Calls Tryz.prog 73 #[cp a, mgV M] W fun e w' => e = .returned (.bool false) ∧ MgW w' g3 M ∧ Hid (Below W.heap.size W w')) := by
    refine (inUse_any (HA.out.1.below HG.out.2.2) M HA.out.2.1).mono ?_
    rintro e w' ⟨rfl, hb⟩
    exact ⟨by rw [HA.out.2.2], mg_cells ((hb.block g3 (Array.getElem?_eq_some_iff.1 HL.out.1).1).trans HL.out.1), hb⟩
  go_upto_region 2 with (first
    | (go_at_call 73; refine HI.out.mono ?_; rintro e W1 ⟨rfl, ⟨z0, z1, z2, z3, z4, z5, z6, z7, z8, z9, zA, zB⟩, HB1⟩)
    | fail)
  clear y0 y1 y2 y3 y4 y5 y6 y7 y8 y9 yA yB HI
  have HC : Hid (Calls Tryz.prog 42 #[cp a, mgV M] W1 fun e w' => e = .returned (mgV R) ∧ w'.heap[g4]? = some (mgO mZ) ∧ Hid (Ag w' (nwA A W1 w') a c pq ko kc s2 ∧ OffS A W1 w')) := by
    refine (giveWay_call (HA.out.1.below (below_step HG.out.2.2 HB1.out)) M HA.out.2.1).mono ?_
    rw [HR.out.1, HR.out.2]
    rintro e w' ⟨rfl, h1, h2⟩
    have l4 := (Array.getElem?_eq_some_iff.1 HL.out.2).1
    refine ⟨rfl, (h2.block g4 (Nat.lt_of_lt_of_le l4 HB1.out.size) fun e => ?_).trans ((HB1.out.block g4 l4).trans HL.out.2), h1, h2⟩
    have := HA.out.1.lt g4 e
    have := HG.out
    omega
  go_wp2_with (first
    | (go_at_call 42; refine HC.out.mono ?_; rintro e W2 ⟨rfl, h4, HD⟩; obtain ⟨x0, x1, x2, x3, x4, x5, x6, x7, x8, x9, xA, xB⟩ := mg_cells h4; have xf := mg_fz h4; simp only at x0 x1 x2 x3 x4 x5 x6 x8 x9 xA xB; clear h4)
    | fail)
  refine bodyPost_ret (by simp [results, Tryz.results57, go_sem, x0, x1, x2, x3, x4, x5, x6, x7, x8, x9, xA, xB]; try rfl) rfl ?_
  refine ⟨rfl, Ag.closeLoc HA.out.1.lt (below_step HG.out.2.2 HB1.out) (g := g4) ?_ HD.out.1 HD.out.2 ?_⟩
  · have := HG.out
    have l4 := (Array.getElem?_eq_some_iff.1 HL.out.2).1
    have := HB1.out.size
    omega
  · repeat (first | (with_reducible exact OffS.refl _ _) | (with_reducible refine OffS.setCell (A := fun k => k = g4) ?_ rfl _))

end Go.Proofs.YtmmgdmfdiaoegaaGreat
