/- What apply of package store does with a batch of one put, walked. -/
import Derived.Test.YtpofihiojhbfgaaGreatDoorB2
import Derived.Deep.DeepCutAuto
import Derived.Deep.CutBlock
namespace Go.Proofs.YtpofihiojhbfgaaGreatDoor
open Go.RowKit Go.Maps
set_option linter.unusedVariables false
set_option maxRecDepth 8000

theorem noPl {gp gf g q A : Nat} {V V1 : Nat → Prop} (hlt : gp < A ∧ gf < A ∧ g + 1 < A) (hq : A ≤ q) (hv : V1 q → V q) (hV : ∀ k, V k → k < A) : ¬ PlB gp gf g V1 q := by
  rintro (h | h | h | h | h)
  · omega
  · omega
  · omega
  · omega
  · have := hV _ (hv h); omega

abbrev Sets (gp gf g gl : Nat) (n : Int) (l : Int) (a b c d : Nat × Nat) (L : List Sec) (F : List Fr) (hd : Nat) (L' : List Sec) (F' : List Fr) (hd' : Nat) : Prop :=
  ∀ (W : World) (V : Nat → Prop), St W gp gf g gl V L F hd → (∀ k, V k → k < W.heap.size) → Calls Tryz.prog 57 #[tp gp, .int .i64 n, pgV l a b c d] W fun e w' => e = .returned (.int .i64 0) ∧ Left W w' gp gf g gl V L' F' hd'

structure Got (w wx : World) (gs gp gf g gl gx : Nat) (V V1 : Nat → Prop) (L : List Sec) (F : List Fr) (hd : Nat) (l c e t : Int) (ap : Option Addr) (cp : Nat) (p : PutG) (l0 : Int) (a0 b0 c0 d0 : Nat × Nat) : Prop where
  lo : Loc wx w.heap.size l c e t ap 1 cp p
  x : PgAt wx gx l0 a0 b0 c0 d0
  gt : w.heap.size + 2 < gx
  s : St wx gp gf g gl V1 L F hd
  bd : ∀ k, V1 k → k < wx.heap.size
  v : ∀ k, k ≤ w.heap.size + 2 → V1 k → V k
  nx : ¬ V1 gx
  off : Off3 gp gf g w wx
  ss : Ss wx gs g gl gp

section
variable {w W2 w1 : World} {gs gp gf g gl : Nat} {V V1 : Nat → Prop} {L : List Sec} {F : List Fr} {hd : Nat} {l c e t : Int} {ap : Option Addr} {cp : Nat} {p : PutG} {l0 : Int} {a0 b0 c0 d0 : Nat × Nat}

theorem Got.a (hB : Below w.heap.size w W2) (hLo : Loc W2 w.heap.size l c e t ap 1 cp p) (hs : Ss w gs g gl gp) (hlt : gp < w.heap.size ∧ gf < w.heap.size ∧ g + 1 < w.heap.size) (hne : gs ≠ gp ∧ gs ≠ gf ∧ gs ≠ g)
    (hS : St w1 gp gf g gl V1 L F hd) (hV : ∀ k, k < W2.heap.size → V1 k → V k) (hO : Off3 gp gf g W2 w1) : Got w (w1.alloc (pgO l0 a0 b0 c0 d0)) gs gp gf g gl w1.heap.size V (fun k => V1 k ∧ k < w1.heap.size) L F hd l c e t ap cp p l0 a0 b0 c0 d0 := by
  have hlo := hLo.lt
  have hsz := hO.size
  have hbx := below_box w1 (pgO l0 a0 b0 c0 d0)
  obtain ⟨h1, h2, h3⟩ := hlt
  obtain ⟨n1, n2, n3⟩ := hne
  have hs2 := hs.below hB
  exact ⟨(hLo.off hO h1 h2 (by omega)).below hbx, PgAt.new w1 l0 a0 b0 c0 d0, by omega, hS.tight.below hbx, fun k hk => by have := hk.2; simp; omega, fun k hk hx => hV k (by omega) hx.1, fun hx => by have := hx.2; omega,
    ((Off3.of_below hB).trans hO).trans (Off3.of_below hbx), (hs2.keep (hO.block gs hs2.lt n1 n2 n3) hO.size).below hbx⟩

theorem Got.b (hB : Below w.heap.size w W2) (hLo : Loc W2 w.heap.size l c e t ap 1 cp p) (hs : Ss w gs g gl gp) (hlt : gp < w.heap.size ∧ gf < w.heap.size ∧ g + 1 < w.heap.size) (hne : gs ≠ gp ∧ gs ≠ gf ∧ gs ≠ g) (hv : ∀ k, V k → k < w.heap.size)
    (hS : St w1 gp gf g gl V1 L F hd) (hV : ∀ k, k < (W2.alloc pgZ).drew.heap.size → V1 k → V k) (hO : Off3 gp gf g (W2.alloc pgZ).drew w1) : Got w (((((w1.setCell ⟨W2.heap.size, 0, none⟩ (.int .i64 l0)).setCell ⟨W2.heap.size, 1, none⟩ (.complex .f64 a0.1 a0.2)).setCell ⟨W2.heap.size, 2, none⟩ (.complex .f64 b0.1 b0.2)).setCell ⟨W2.heap.size, 3, none⟩ (.complex .f64 c0.1 c0.2)).setCell ⟨W2.heap.size, 4, none⟩ (.complex .f64 d0.1 d0.2)) gs gp gf g gl W2.heap.size V (fun k => V1 k ∧ k < w1.heap.size) L F hd l c e t ap cp p l0 a0 b0 c0 d0 := by
  have hlo := hLo.lt
  have hsz := hO.size
  have e1 : (W2.alloc pgZ).drew.heap.size = W2.heap.size + 1 := by simp
  have hbx : Below W2.heap.size W2 (W2.alloc pgZ).drew := (below_box W2 pgZ).drew
  have hO2 : Off3 gp gf g W2 w1 := (Off3.of_below hbx).trans hO
  obtain ⟨h1, h2, h3⟩ := hlt
  obtain ⟨n1, n2, n3⟩ := hne
  have hs2 := hs.below hB
  have hx := (PgAt.new W2 0 zO zO zO zO).keep (hO.block W2.heap.size (by omega) (by omega) (by omega) (by omega)) hO.size
  have hn1 : ¬ V1 W2.heap.size := fun hx => by have := hv _ (hV _ (by omega) hx); omega
  have hn : ¬ PlB gp gf g (fun k => V1 k ∧ k < w1.heap.size) W2.heap.size := by
    rintro (h | h | h | h | h)
    · omega
    · omega
    · omega
    · omega
    · exact hn1 h.1
  have hsz2 : ∀ (W : World) (j : Nat) (v : Value), (W.setCell ⟨W2.heap.size, j, none⟩ v).heap.size = W.heap.size := fun W j v => by simp [World.setCell]
  refine ⟨(hLo.off hO2 h1 h2 (by omega)).put5 _ hlo _ _ _ _ _, hx.set5, hlo, hS.tight.put5 _ hn _ _ _ _ _, fun k hk => by simp only [hsz2]; exact hk.2, fun k hk hx => hV k (by omega) hx.1, fun hx => hn1 hx.1, ((Off3.of_below hB).trans hO2).put5 _ hB.size _ _ _ _ _, ?_⟩
  have hk := hs2.keep (hO2.block gs hs2.lt n1 n2 n3) hO2.size
  refine hk.keep ?_ (by simp only [hsz2]; exact Nat.le_refl _)
  have hb : ∀ (W : World) (j : Nat) (v : Value), (W.setCell ⟨W2.heap.size, j, none⟩ v).heap[gs]? = W.heap[gs]? := fun W j v => Below.heap_setCell _ _ _ _ (by have := hs2.lt; show gs ≠ W2.heap.size; omega)
  simp only [hb]

theorem Got.below {wx wy : World} {gx : Nat} (h : Got w wx gs gp gf g gl gx V V1 L F hd l c e t ap cp p l0 a0 b0 c0 d0) (hb : Below wx.heap.size wx wy) : Got w wy gs gp gf g gl gx V V1 L F hd l c e t ap cp p l0 a0 b0 c0 d0 :=
  ⟨h.lo.below hb, h.x.below hb h.x.lt, h.gt, h.s.below hb, fun k hk => Nat.lt_of_lt_of_le (h.bd k hk) hb.size, h.v, h.nx, h.off.trans (Off3.of_below hb), h.ss.below hb⟩

theorem Got.set {wx : World} {gx : Nat} (h : Got w wx gs gp gf g gl gx V V1 L F hd l c e t ap cp p l0 a0 b0 c0 d0) (hlt : gp < w.heap.size ∧ gf < w.heap.size ∧ g + 1 < w.heap.size) (hs : gs < w.heap.size) (l1 : Int) (a1 b1 c1 d1 : Nat × Nat) :
    Got w (((((wx.setCell ⟨gx, 0, none⟩ (.int .i64 l1)).setCell ⟨gx, 1, none⟩ (.complex .f64 a1.1 a1.2)).setCell ⟨gx, 2, none⟩ (.complex .f64 b1.1 b1.2)).setCell ⟨gx, 3, none⟩ (.complex .f64 c1.1 c1.2)).setCell ⟨gx, 4, none⟩ (.complex .f64 d1.1 d1.2)) gs gp gf g gl gx V V1 L F hd l c e t ap cp p l1 a1 b1 c1 d1 := by
  have hgt := h.gt
  have hsz2 : ∀ (W : World) (j : Nat) (v : Value), (W.setCell ⟨gx, j, none⟩ v).heap.size = W.heap.size := fun W j v => by simp [World.setCell]
  have hn : ¬ PlB gp gf g V1 gx := by
    rintro (h1 | h1 | h1 | h1 | h1)
    · omega
    · omega
    · omega
    · omega
    · exact h.nx h1
  refine ⟨h.lo.put5 _ hgt _ _ _ _ _, h.x.set5, hgt, h.s.put5 _ hn _ _ _ _ _, fun k hk => by simp only [hsz2]; exact h.bd k hk, h.v, h.nx, h.off.put5 _ (by omega) _ _ _ _ _, h.ss.keep ?_ (by simp only [hsz2]; exact Nat.le_refl _)⟩
  have hb : ∀ (W : World) (j : Nat) (v : Value), (W.setCell ⟨gx, j, none⟩ v).heap[gs]? = W.heap[gs]? := fun W j v => Below.heap_setCell _ _ _ _ (by show gs ≠ gx; omega)
  simp only [hb]

theorem Got.drew {wx : World} {gx : Nat} (h : Got w wx gs gp gf g gl gx V V1 L F hd l c e t ap cp p l0 a0 b0 c0 d0) : Got w wx.drew gs gp gf g gl gx V V1 L F hd l c e t ap cp p l0 a0 b0 c0 d0 := by
  have hb : Below wx.heap.size wx wx.drew := (Below.refl _ _).drew
  exact ⟨h.lo.below hb, h.x.below hb h.x.lt, h.gt, h.s.below hb, h.bd, h.v, h.nx, h.off.trans (Off3.of_below hb), h.ss.below hb⟩
end

set_option maxRecDepth 100000 in
set_option maxHeartbeats 1600000 in
theorem apply_one (gs gp gf g gl : Nat) (V : Nat → Prop) (L1 L2 : List Sec) (F1 F2 : List Fr) (hd1 hd2 : Nat) (p : PutG) (l0 : Int) (l : Nat) (c e t : Int) (a0 b0 c0 d0 : Nat × Nat) (ap : Option Addr) (cp : Nat) (w : World) (hs : Ss w gs g gl gp)
    (hlt : gp < w.heap.size ∧ gf < w.heap.size ∧ g + 1 < w.heap.size) (hne : gs ≠ gp ∧ gs ≠ gf ∧ gs ≠ g) (hv : ∀ k, V k → k < w.heap.size) (hp : RdP w ap 1 cp [p]) (hpg : p.pg < 6) (hob : p.ob < 4) (hl : lsnB l = true) (h0 : l0 < l)
    (HG : Gets w gp gf g gl V (p.pg : Int) l0 a0 b0 c0 d0 L1 F1 hd1)
    (HS : Sets gp gf g gl (p.pg : Int) (l : Int) (putO p.ob p.c 0 a0) (putO p.ob p.c 1 b0) (putO p.ob p.c 2 c0) (putO p.ob p.c 3 d0) L1 F1 hd1 L2 F2 hd2) :
    Calls Tryz.prog 30 #[tp gs, btV l c e t ap 1 cp] w fun x w' => x = .returned (.int .i64 0) ∧ Left w w' gp gf g gl V L2 F2 hd2 := by
  obtain ⟨pg, ob, x⟩ := p
  simp only at HG HS hob hp hpg
  have H1 : Hid (Gets w gp gf g gl V (pg : Int) l0 a0 b0 c0 d0 L1 F1 hd1) := HG
  have H2 : Hid (Sets gp gf g gl (pg : Int) (l : Int) (putO ob x 0 a0) (putO ob x 1 b0) (putO ob x 2 c0) (putO ob x 3 d0) L1 F1 hd1 L2 F2 hd2) := HS
  have HP : Hid (RdP w ap 1 cp [⟨pg, ob, x⟩]) := hp
  clear HG HS hp
  have hst := fun (ad : Addr) (re im : Nat) (W : World) => run_store Tryz.prog W ad (.complex .f64 re im) .plain rfl
  have hmm := @run_makeMap Tryz.prog
  have hge : decide (l0 ≥ (l : Int)) = false := by simp; omega
  go_enter Tryz.func30, Tryz.ntmps30
  go_wp2
  go_loopw [16] (fun i wr => (i = .int .i64 0 ∧ wr = (w.alloc (btO l c e t ap 1 cp)).alloc (.map #[] 0)) ∨ (i = .int .i64 1 ∧ Left w wr gp gf g gl V L2 F2 hd2)) (fun i _ => 1 - (intOf i).toNat)
  case atStart => exact .inl ⟨rfl, rfl⟩
  case round =>
    rcases hrel with ⟨rfl, hw⟩ | ⟨rfl, hL⟩
    · subst hw
      obtain ⟨b, off, rfl, hb, q0, q1, q2⟩ := ((HP.out.below (below_box w (btO l c e t ap 1 cp))).below (below_box _ (.map #[] 0))).cell 0 (by simp)
      simp only [List.getElem_cons_zero, Nat.zero_mul, Nat.add_zero] at q0 q1 q2
      have hLo := Loc.new w l c e t (some ⟨b, off, none⟩) 1 cp ⟨pg, ob, x⟩
      have hB2 : Below w.heap.size w (((w.alloc (btO l c e t (some ⟨b, off, none⟩) 1 cp)).alloc (.map #[] 0)).alloc (wputO ⟨pg, ob, x⟩)) := ((below_box _ _).alloc (by simp) _).alloc (by simp; omega) _
      go_upto_region 5 with fail
      generalize ((w.alloc (btO l c e t (some ⟨b, off, none⟩) 1 cp)).alloc (.map #[] 0)).alloc (wputO ⟨pg, ob, x⟩) = W2 at *
      clear q0 q1 q2 hb
      have hs2 := hs.below hB2
      have r0 := hs2.c2
      have r1 := hLo.p0
      have t0 := (hs2.below (below_box W2 pgZ)).c2
      have t1 := (hLo.below (below_box W2 pgZ)).p0
      go_cut [8, 9] (fun v u wx => ∃ gx V1, v = tp gx ∧ u = .int .i64 0 ∧ Got w wx gs gp gf g gl gx V V1 L1 F1 hd1 l c e t (some ⟨b, off, none⟩) cp ⟨pg, ob, x⟩ l0 a0 b0 c0 d0)
      case first =>
        go_region_with (first
          | (go_at_call 37; refine (H1.out W2.drew hB2.drew).mono ?_; unfold pgV; rintro x' w1 ⟨rfl, V1, hS1, hV1, hO1⟩)
          | (go_at_call 37; refine (H1.out (W2.alloc pgZ).drew (hB2.alloc hB2.size pgZ).drew).mono ?_; unfold pgV; rintro x' w1 ⟨rfl, V1, hS1, hV1, hO1⟩; have hq := (PgAt.new W2 0 zO zO zO zO).keep (hO1.block W2.heap.size (by simp) (by have := hLo.lt; omega) (by have := hLo.lt; omega) (by have := hLo.lt; omega)) hO1.size; have q0 := hq.c0; have q1 := hq.c1; have q2 := hq.c2; have q3 := hq.c3; have q4 := hq.c4; have y0 := hq.f0; have y1 := hq.f1; have y2 := hq.f2; have y3 := hq.f3; have y4 := hq.f4)
          | fail)
        all_goals (
          go_wp2_with fail
          go_meet
          first
            | (have := hq; exact ⟨W2.heap.size, _, rfl, rfl, Got.b hB2 hLo hs hlt hne hv hS1 hV1 hO1⟩)
            | exact ⟨w1.heap.size, _, rfl, rfl, Got.a hB2 hLo hs hlt hne hS1 hV1 ⟨hO1.os, hO1.tape, hO1.output, hO1.size, hO1.block⟩⟩)
      case rest =>
        obtain ⟨gx, V1, rfl, rfl, G⟩ := hcut
        clear r0 r1 t0 t1 hs2 hLo hB2
        have hbx := below_box wc (.cells #[] 126)
        have hh : Maps.has (DataW.map ([] : List (Lit × DataW Unit))) (.int .i64 (pg : Int)) = false := rfl
        have e0 := G.lo.p0
        have G1 := G.below hbx
        have f0 := G1.x.c0
        have f1 := G1.x.c1
        have f2 := G1.x.c2
        have f3 := G1.x.c3
        have f4 := G1.x.c4
        have k0 := G1.lo.b.c0
        have k1 := G1.lo.p1
        have k2 := G1.lo.p2
        go_upto_region 11 with (first
          | (at_lookup; refine wpList_lookup_own_unit _ rfl _ _ 125 rfl 3 126 law3 Tryz.underlying125 (zero81 _) (w.heap.size + 1) 0 (.map []) rfl G.lo.own _ _ rfl (keyOf_int_mk Tryz.underlying3 (WalkArith.wf_i64 (by omega))) ?_)
          | (go_at_call 56; refine (set_ok l0 a0 b0 c0 d0 x ob (l : Int) _ hob hl).mono ?_; unfold pgV; rintro x' w2 ⟨rfl, hb2⟩; have G2 := G1.below hb2; have q0 := G2.x.c0; have q1 := G2.x.c1; have q2 := G2.x.c2; have q3 := G2.x.c3; have q4 := G2.x.c4; have y0 := G2.x.f0; have y1 := G2.x.f1; have y2 := G2.x.f2; have y3 := G2.x.f3; have y4 := G2.x.f4)
          | fail)
        have G3 := G2.set hlt hs.lt (l : Int) (putO ob x 0 a0) (putO ob x 1 b0) (putO ob x 2 c0) (putO ob x 3 d0)
        clear f0 f1 f2 f3 f4 k0 k1 k2 q0 q1 q2 q3 q4 y0 y1 y2 y3 y4 e0 hb2 G2 G1 G hbx
        generalize ((((w2.setCell ⟨gx, 0, none⟩ (.int .i64 (l : Int))).setCell ⟨gx, 1, none⟩ (.complex .f64 (putO ob x 0 a0).1 (putO ob x 0 a0).2)).setCell ⟨gx, 2, none⟩ (.complex .f64 (putO ob x 1 b0).1 (putO ob x 1 b0).2)).setCell ⟨gx, 3, none⟩ (.complex .f64 (putO ob x 2 c0).1 (putO ob x 2 c0).2)).setCell ⟨gx, 4, none⟩ (.complex .f64 (putO ob x 3 d0).1 (putO ob x 3 d0).2) = W5 at *
        have G4 := G3.drew
        have r0 := G3.ss.c2
        have r1 := G3.lo.p0
        have f0 := G3.x.c0
        have f1 := G3.x.c1
        have f2 := G3.x.c2
        have f3 := G3.x.c3
        have f4 := G3.x.c4
        go_region_with (first
          | (go_at_call 57; refine (H2.out W5.drew V1 G4.s G4.bd).mono ?_; rintro x' w3 ⟨rfl, V3, hS3, hV3, hO3⟩; have hL3 := G4.lo.off hO3 hlt.1 hlt.2.1 (by omega); have e1 := hL3.p0)
          | fail)
        all_goals (
          go_wp2_with (first
            | (at_mapUpdate; refine wpList_mapUpdate_own _ rfl _ _ _ 125 rfl 3 126 law3 Tryz.underlying125 _ (w.heap.size + 1) 0 _ rfl hL3.own (by unfold maxLen; omega) _ _ _ rfl rfl (keyOf_int_mk Tryz.underlying3 (WalkArith.wf_i64 (by omega))) _ [] unitElem_mk ?_; intro w4 hown4 hgrow4)
            | fail)
          go_roundw
          case rel =>
            have hl4 := G4.lo.lt
            have hvv : ∀ k, k ≤ w.heap.size + 2 → V3 k → V k := fun k hk hx => G4.v k hk (hV3 k (by omega) hx)
            refine .inr ⟨by go_num, V3, hS3.grown _ hgrow4 (noPl hlt (by omega) (hvv _ (by omega)) hv), fun k hk hx => hvv k (by omega) hx, (G4.off.trans hO3).grown _ hgrow4 (by omega)⟩
          case measure => simp [intOf])
    · go_wp2
      go_ret
      exact ⟨rfl, hL⟩

end Go.Proofs.YtpofihiojhbfgaaGreatDoor
