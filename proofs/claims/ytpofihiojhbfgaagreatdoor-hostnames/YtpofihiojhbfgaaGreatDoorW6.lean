/- What batchOf of package wal does with a commit's bytes, walked. -/
import Derived.Test.YtpofihiojhbfgaaGreatDoorA7
namespace Go.Proofs.YtpofihiojhbfgaaGreatDoor
open Go.RowKit
set_option linter.unusedVariables false
set_option maxRecDepth 8000

abbrev btZ : Obj := .cells #[.int .i64 0, .int .i64 0, .int .i64 0, .int .i64 0, .slice none 0 0] 83

theorem PutsIn.off {w : World} {g m : Nat} {ps : List PutG} (h : PutsIn w g m ps) (p : Addr) (v : Value) (hne : g ≠ p.block) : PutsIn (w.setCell p v) g m ps :=
  h.keep (Below.heap_setCell _ _ _ _ hne) (by simp [World.setCell])

structure Mid (W : World) (g0 gb gp : Nat) (l c e t : Int) (m : Nat) (qs : List PutG) : Prop where
  z : BtAt W g0 0 0 0 0 none 0 0
  b : BtAt W gb l c e t (some ⟨gp, 0, none⟩) m m
  p : PutsIn W gp m qs
  n1 : gb ≠ gp
  n2 : g0 ≠ gp
  n3 : g0 ≠ gb
  ge : g0 ≤ gp

theorem Mid.below {W W' : World} {g0 gb gp : Nat} {l c e t : Int} {m : Nat} {qs : List PutG} (h : Mid W g0 gb gp l c e t m qs) (hb : Below W.heap.size W W') : Mid W' g0 gb gp l c e t m qs :=
  ⟨h.z.below hb, h.b.below hb, h.p.below hb, h.n1, h.n2, h.n3, h.ge⟩

theorem Mid.drew {W : World} {g0 gb gp : Nat} {l c e t : Int} {m : Nat} {qs : List PutG} (h : Mid W g0 gb gp l c e t m qs) : Mid W.drew g0 gb gp l c e t m qs :=
  ⟨h.z.keep rfl (Nat.le_refl _), h.b.keep rfl (Nat.le_refl _), h.p.keep rfl (Nat.le_refl _), h.n1, h.n2, h.n3, h.ge⟩

theorem Mid.set {W : World} {g0 gb gp : Nat} {l c e t : Int} {m : Nat} {qs : List PutG} (h : Mid W g0 gb gp l c e t m qs) (k : Nat) (hk : k < qs.length) (p : PutG) : Mid (set3 W gp k p) g0 gb gp l c e t m (qs.set k p) :=
  ⟨((h.z.other _ _ h.n2).other _ _ h.n2).other _ _ h.n2, ((h.b.other _ _ h.n1).other _ _ h.n1).other _ _ h.n1, h.p.set k hk p, h.n1, h.n2, h.n3, h.ge⟩

theorem OwnI.set3 {w : World} {base : Nat} {e : TypeId} {k : IntKind} {ao : Option Addr} {cap : Nat} {zs : List Int} (h : OwnI w base e k ao cap zs) (g j : Nat) (p : PutG) (hg : g < base) : OwnI (set3 w g j p) base e k ao cap zs := ((h.other _ _ hg).other _ _ hg).other _ _ hg

theorem below_set3 {B : Nat} {w w' : World} (h : Below B w w') (g j : Nat) (p : PutG) (hg : B ≤ g) : Below B w (set3 w' g j p) := ((h.setCell hg _).setCell hg _).setCell hg _

theorem below_drewn {B : Nat} {w w' : World} (h : Below B w.drew w') : Below B w w' := ⟨h.os, h.tape, h.output, h.size, h.block⟩

theorem mid_a (w1 : World) (g0 : Nat) (l c e t : Int) (m : Nat) (hz : BtAt w1 g0 0 0 0 0 none 0 0) : Mid ((w1.alloc (.cells (mkP m) 50)).alloc (btO l c e t (some ⟨w1.heap.size, 0, none⟩) m m)).drew g0 (w1.heap.size + 1) w1.heap.size l c e t m (List.replicate m pt0) := by
  have h1 := below_box w1 (.cells (mkP m) 50)
  have h2 := below_box (w1.alloc (.cells (mkP m) 50)) (btO l c e t (some ⟨w1.heap.size, 0, none⟩) m m)
  have hb := BtAt.new (w1.alloc (.cells (mkP m) 50)) l c e t (some ⟨w1.heap.size, 0, none⟩) m m
  rw [show (w1.alloc (.cells (mkP m) 50)).heap.size = w1.heap.size + 1 by simp] at hb
  have := hz.lt
  exact Mid.drew ⟨(hz.below h1).below h2, hb, (PutsIn.new w1 m).below h2, by omega, by omega, by omega, by omega⟩

theorem mid_b (w1 : World) (g0 : Nat) (l c e t : Int) (m : Nat) (hz : BtAt w1 g0 0 0 0 0 none 0 0) : Mid ((w1.alloc (btO l c e t (some ⟨w1.heap.size + 1, 0, none⟩) m m)).alloc (.cells (mkP m) 50)).drew g0 w1.heap.size (w1.heap.size + 1) l c e t m (List.replicate m pt0) := by
  have h1 := below_box w1 (btO l c e t (some ⟨w1.heap.size + 1, 0, none⟩) m m)
  have h2 := below_box (w1.alloc (btO l c e t (some ⟨w1.heap.size + 1, 0, none⟩) m m)) (.cells (mkP m) 50)
  have hb := BtAt.new w1 l c e t (some ⟨w1.heap.size + 1, 0, none⟩) m m
  have hp := PutsIn.new (w1.alloc (btO l c e t (some ⟨w1.heap.size + 1, 0, none⟩) m m)) m
  rw [show (w1.alloc (btO l c e t (some ⟨w1.heap.size + 1, 0, none⟩) m m)).heap.size = w1.heap.size + 1 by simp] at hp
  have := hz.lt
  exact Mid.drew ⟨(hz.below h1).below h2, hb.below h2, hp, by omega, by omega, by omega, by omega⟩

theorem below_two (w : World) (o1 o2 : Obj) : Below w.heap.size w ((w.alloc o1).alloc o2).drew := (((Below.refl _ _).alloc (Nat.le_refl _) _).alloc (by simp) _).drew

set_option maxHeartbeats 800000 in
theorem batchOf_ok (b : Bt) (ao : Option Addr) (cap n : Nat) (w : World) (hok : BtOk b) (hrd : RdI w .u8 ao cap (bodyZ b.lsn b.cl b.ep b.tx b.ps.length b.ps)) (hn : n = 15 + 22 * b.ps.length) :
    Calls Tryz.prog 130 #[.slice ao n cap] w fun x w' => ∃ ap, x = .returned (.tuple #[btV b.lsn b.cl b.ep b.tx ap b.ps.length b.ps.length, .bool true]) ∧ OwnP w' w.heap.size ap b.ps.length (b.ps.map PutG.can) ∧ Below w.heap.size w w' := by
  obtain ⟨l, c, e, t, ps⟩ := b
  obtain ⟨⟨k1, k2⟩, k3, ⟨k4, k5⟩, ⟨k6, k7⟩, kp⟩ := hok
  simp only at k1 k2 k3 k4 k5 k6 k7 kp hrd hn ⊢
  obtain ⟨m, hm⟩ : ∃ m, ps.length = m := ⟨_, rfl⟩
  rw [hm] at hrd hn ⊢
  have hm24 : m ≤ 24 := by have := kp.le; omega
  have HP : Hid (PutsOk ps) := kp
  have HN : Hid (n = 15 + 22 * m) := hn
  have HM : Hid (ps.length = m) := hm
  have HL : Hid ((putsZ ps).length = 22 * m) := by rw [Hid, putsZ_length, hm]
  have hz : BtAt (w.alloc btZ) w.heap.size 0 0 0 0 none 0 0 := BtAt.new w 0 0 0 0 none 0 0
  have hr : RdI (w.alloc btZ) .u8 ao cap (formsN [(l : Int), c, e, t, m] ++ putsZ ps) := hrd.alloc _
  clear kp hn hm hrd
  have hst := fun (ad : Addr) (re im : Nat) (W : World) => run_store Tryz.prog W ad (.complex .f64 re im) .plain rfl
  have hmk := fun W : World => make_puts m hm24 W
  have hd : decide ((m : Int) > 24) = false := by simp; omega
  go_enter Tryz.func130, Tryz.ntmps130
  go_upto_region 4 with (first
    | (go_at_call 82; refine (get_forms _ _ n 5 (22 * m) [(l : Int), c, e, t, m] (putsZ ps) _ hr rfl HL.out (by have := HN.out; omega) ?_ (putsZ_bd _) (by omega) (by have := HN.out; omega)).mono ?_; (intro z hz; simp only [List.mem_cons, List.not_mem_nil, or_false] at hz; omega); rintro x w1 ⟨a1, c1, a2, c2, rfl, ho1, ho2, hb1⟩; have hq1 := hz.below hb1; obtain ⟨b1, f1, rfl, hlt1, hc⟩ := ho1.rd.at (t := 0) (by simp); have p0 := hc 0 (by simp); have p1 := hc 1 (by simp); have p2 := hc 2 (by simp); have p3 := hc 3 (by simp); have p4 := hc 4 (by simp); simp only [List.getElem_cons_zero, List.getElem_cons_succ, Nat.add_zero] at p0 p1 p2 p3 p4; have HB1 : Hid (Below w.heap.size w w1) := below_alloc (hb1.mono (by simp)); clear hc hz ho1 hb1)
    | (fail))
  go_cut [7] (fun v wx => ∃ gb gp, v = .pointer (some ⟨gb, 0, none⟩) ∧ Mid wx w.heap.size gb gp l c e t m (List.replicate m pt0) ∧ Below w1.heap.size w1 wx)
  case first =>
    go_big_region
    all_goals (
      go_wp2_with fail
      go_meet
      first
        | exact ⟨_, _, rfl, mid_a w1 _ _ _ _ _ _ hq1, below_two _ _ _⟩
        | exact ⟨_, _, rfl, mid_b w1 _ _ _ _ _ _ hq1, below_two _ _ _⟩)
  case rest =>
    obtain ⟨gb, gp, rfl, hM, hb2⟩ := hcut
    have q4 := hM.b.c4
    have hB2 : Below w.heap.size w wc := below_step HB1.out hb2
    have hr2 : RdI wc .u8 a2 c2 (putsZ ps) := ho2.rd.below hb2
    clear hr hq1 ho2 p0 p1 p2 p3 p4 hlt1 hmk
    go_wp2
    clear q4
    go_loopw [5, 6, 44] (fun s x i wr => ∃ (k : Nat) (a : Option Addr) (cc : Nat), k ≤ m ∧ i = .int .i64 k ∧ x = .int .i64 0 ∧ s = .slice a (22 * (m - k)) cc ∧ RdI wr .u8 a cc (putsZ (ps.drop k)) ∧ Mid wr w.heap.size gb gp l c e t m (gotP ps m k) ∧ Below w.heap.size w wr) (fun _ _ i _ => m - (intOf i).toNat)
    case atStart => exact ⟨0, _, _, Nat.zero_le _, rfl, rfl, rfl, hr2, hM, hB2⟩
    case round =>
      clear hM hr2 hB2 hb2
      obtain ⟨k, a, cc, hk, rfl, rfl, rfl, hr, hM, hbel⟩ := hrel
      by_cases hlt : k < m
      · have hkl : k < ps.length := by have := HM.out; omega
        obtain ⟨hp1, hp2, hp3⟩ := HP.out.pg ps[k] (List.getElem_mem _)
        have hr' : RdI wr .u8 a cc (putZ ps[k] ++ putsZ (ps.drop (k + 1))) := by
          have e1 : ps.drop k = ps[k] :: ps.drop (k + 1) := List.drop_eq_getElem_cons hkl
          rw [e1] at hr
          exact hr
        have HS : Hid ((gotP ps m k).set k (ps[k]).can = gotP ps m (k + 1)) := gotP_set ps m k HM.out hlt
        have HZ : Hid ((putsZ (ps.drop (k + 1))).length = 22 * (m - (k + 1))) := by
          have := HM.out
          rw [Hid, putsZ_length, List.length_drop, this]
        have HG : Hid (k < (gotP ps m k).length) := by
          rw [Hid, gotP_length ps m k HM.out hk]; exact hlt
        generalize ps[k] = p at *
        have HW : Hid (p.pg ≤ 5 ∧ p.ob ≤ 3 ∧ wordB p.c) := ⟨hp1, hp2, hp3⟩
        clear hr hp1 hp2 hp3
        have q4 := hM.b.c4
        go_upto_region 8 with fail
        have hrD := hr'.drew
        have hMD := hM.drew
        go_region_with (first
          | (go_at_call 166; refine (takePut_ok p _ _ (22 * (m - k)) (22 * (m - (k + 1))) _ _ hrD HZ.out (by omega) HW.out.1 HW.out.2.1 HW.out.2.2 (putsZ_bd _) (by omega)).mono ?_; rintro x w3 ⟨a3, c3, rfl, ho3, hb3⟩; have hM3 := hMD.below hb3; have r4 := hM3.b.c4; obtain ⟨s0, s1, s2⟩ := hM3.p.cell k HG.out; have y0 := hM3.p.fz (k * 3); have y1 := hM3.p.fz (k * 3 + 1); have y2 := hM3.p.fz (k * 3 + 2)))
        all_goals (
          go_wp2
          go_roundw
          case rel => exact ⟨k + 1, a3, c3, by omega, by go_num, rfl, rfl, (ho3.set3 gp k p.can hM.p.lt).rd, by rw [← HS.out]; exact hM3.set k HG.out p.can, below_set3 (below_step hbel (below_drewn hb3)) gp k p.can hM.ge⟩
          case measure => simp [intOf]; omega)
      · have hkm : k = m := by omega
        subst hkm
        rw [gotP_all ps k HM.out] at hM
        have hok := can_ok HP.out
        have HO : Hid (PutsOk (ps.map PutG.can)) := hok
        clear hok hr
        have hMD := hM.drew
        have z0 := hM.z.c0
        have z1 := hM.z.c1
        have z2 := hM.z.c2
        have z3 := hM.z.c3
        have z4 := hM.z.c4
        have b0 := hM.b.c0
        have b1 := hM.b.c1
        have b2 := hM.b.c2
        have b3 := hM.b.c3
        have b4 := hM.b.c4
        have hsub : 22 * (k - k) = 0 := by omega
        rw [hsub]
        go_upto_region 12 with fail
        go_region_with (first
          | (go_at_call 167; refine (right_ok _ _ _ _ _ _ _ _ _ hMD.p.rd HO.out ⟨by omega, by omega⟩ ⟨by omega, by omega⟩ ⟨by omega, by omega⟩ ⟨by omega, by omega⟩).mono ?_; rintro x w3 ⟨rfl, hb3⟩; have hM3 := hMD.below hb3; have x0 := hM3.z.c0; have x1 := hM3.z.c1; have x2 := hM3.z.c2; have x3 := hM3.z.c3; have x4 := hM3.z.c4; have y0 := hM3.z.fz 0; have y1 := hM3.z.fz 1; have y2 := hM3.z.fz 2; have y3 := hM3.z.fz 3; have y4 := hM3.z.fz 4; have d0 := hM3.b.c0; have d1 := hM3.b.c1; have d2 := hM3.b.c2; have d3 := hM3.b.c3; have d4 := hM3.b.c4))
        all_goals (
          go_wp2
          refine bodyPost_ret (by simp [results, Tryz.results130, go_sem, x0, x1, x2, x3, x4]; try rfl) rfl ?_
          refine ⟨some ⟨gp, 0, none⟩, rfl, (((((hM3.p.off _ _ hM.n2.symm).off _ _ hM.n2.symm).off _ _ hM.n2.symm).off _ _ hM.n2.symm).off _ _ hM.n2.symm).own _ hM.ge, ?_⟩
          exact (((((below_step hbel (below_drewn hb3)).setCell (Nat.le_refl _) _).setCell (Nat.le_refl _) _).setCell (Nat.le_refl _) _).setCell (Nat.le_refl _) _).setCell (Nat.le_refl _) _)

end Go.Proofs.YtpofihiojhbfgaaGreatDoor
