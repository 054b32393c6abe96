/- commit of package host, walked: of one put, to a page in the first frame, that is owned. -/
import Derived.Test.YtpofihiojhbfgaaGreatDoorHt2
namespace Go.Proofs.YtpofihiojhbfgaaGreatDoor
open Go.RowKit
set_option linter.unusedVariables false
set_option maxRecDepth 8000

set_option maxHeartbeats 6400000 in
theorem commit_ok {w : World} {B : Nat} {V X S Z : Nat → Prop} {h gs d g q : Nat} {s1 ca : Option Addr} {cc : Nat} {G : HoG} (H : Hk w B V X S Z h gs d g q s1 ca cc G) {x : Fr} {Tl : List Fr} (hF : G.F = x :: Tl) (b : Bt) (pu : PutG) (ap : Option Addr) (cp2 : Nat) (hp : RdP w ap 1 cp2 [pu]) (hR : RdR Dsk.puC w ap 1 [⟨(pu.pg : Int), (pu.ob : Int), pu.c.1, pu.c.2⟩]) (hna : ∀ y, ap = some y → X y.block) (hcl : b.cl = 1) (hb : b.ps = [pu]) (hl : b.lsn = G.last + 1) (hok : BtOk b) (hfit : G.nn + 42 ≤ G.r) (hpl : pu.pg < G.L.length) (hx : x.has (pu.pg : Int) = true) (h0 : x.l < b.lsn) (hlB : lsnB (b.lsn : Int) = true) (hU : G.U.length ≤ 1000)
    (ho : Dsk.owsB G.T.T 1 [⟨(pu.pg : Int), (pu.ob : Int), pu.c.1, pu.c.2⟩] = true) (mp mo mc mn : Int) (mw : Bool) (x0 y0 x1 y1 x2 y2 x3 y3 : Nat) :
    Calls Tryz.prog 89 #[tp h, .int .i64 1, .int .i64 (b.ep : Int), .agg #[.int .i64 2, .int .i64 mp, .int .i64 mo, .int .i64 (b.tx : Int), .int .i64 mc, .int .i64 mn, .bool mw, .slice ap 1 cp2, .complex .f64 x0 y0, .complex .f64 x1 y1, .complex .f64 x2 y2, .complex .f64 x3 y3]] w fun e w' => e = .returned (.tuple #[]) ∧ ∃ V' X' S2 ca2 cc2, (∀ k, X k → X' k) ∧ Hk w' B V' X' S2 Z h gs d g q s1 ca2 cc2 { G with F := { x.use with l := b.lsn, a := putO pu.ob pu.c 0 x.a, b := putO pu.ob pu.c 1 x.b, c := putO pu.ob pu.c 2 x.c, d := putO pu.ob pu.c 3 x.d, dr := true, us := true } :: Tl, nn := G.nn + 42, bs := G.bs ++ wbN b, last := b.lsn, U := G.U ++ [⟨1, (b.ep : Int), (b.tx : Int), (b.lsn : Int)⟩] } ∧ Hx B X w w' := by
  have hst := fun (ad : Addr) (re im : Nat) (W : World) => run_store Tryz.prog W ad (.complex .f64 re im) .plain rfl
  have HA := hidOf (show Hk w B V X S Z h gs d g q s1 ca cc G ∧ G.F = x :: Tl ∧ (RdP w ap 1 cp2 [pu] ∧ RdR Dsk.puC w ap 1 [⟨(pu.pg : Int), (pu.ob : Int), pu.c.1, pu.c.2⟩] ∧ (∀ y, ap = some y → X y.block)) ∧ (b.cl = 1 ∧ b.ps = [pu] ∧ b.lsn = G.last + 1 ∧ BtOk b ∧ G.nn + 42 ≤ G.r ∧ pu.pg < G.L.length ∧ x.has (pu.pg : Int) = true ∧ x.l < b.lsn ∧ lsnB (b.lsn : Int) = true) ∧ G.U.length ≤ 1000 ∧ Dsk.owsB G.T.T 1 [⟨(pu.pg : Int), (pu.ob : Int), pu.c.1, pu.c.2⟩] = true from ⟨H, hF, ⟨hp, hR, hna⟩, ⟨hcl, hb, hl, hok, hfit, hpl, hx, h0, hlB⟩, hU, ho⟩)
  clear H hF hp hR hna hb hl hok hfit hpl hx h0 hlB hU ho hcl
  go_enter Tryz.func89, Tryz.ntmps89
  go_upto_region 1 with fail
  obtain ⟨bk, hbk⟩ : ∃ r, w.heap.size = r := ⟨_, rfl⟩
  obtain ⟨W, hW⟩ : ∃ W, w.alloc (Msg.msO ⟨2, mp, mo, (b.tx : Int), mc, mn, mw, [], (x0, y0), (x1, y1), (x2, y2), (x3, y3)⟩ ap 1 cp2) = W := ⟨_, rfl⟩
  have hbA : Below w.heap.size w W := hW ▸ (Below.refl _ _).alloc (Nat.le_refl _) _
  have hkn : Msg.MgAt W bk ⟨2, mp, mo, (b.tx : Int), mc, mn, mw, [], (x0, y0), (x1, y1), (x2, y2), (x3, y3)⟩ ap 1 cp2 := hW ▸ hbk ▸ Msg.MgAt.new w _ ap 1 cp2
  have hbl : bk < W.heap.size := by rw [← hW, ← hbk]; simp
  have HB := hidOf (show Below w.heap.size w W ∧ Msg.MgAt W bk ⟨2, mp, mo, (b.tx : Int), mc, mn, mw, [], (x0, y0), (x1, y1), (x2, y2), (x3, y3)⟩ ap 1 cp2 ∧ w.heap.size = bk ∧ bk < W.heap.size from ⟨hbA, hkn, hbk, hbl⟩)
  show Code.wp _ _ _ _ (w.alloc (Msg.msO ⟨2, mp, mo, (b.tx : Int), mc, mn, mw, [], (x0, y0), (x1, y1), (x2, y2), (x3, y3)⟩ ap 1 cp2))
  rw [hW, hbk]
  clear hW hbk hbA hkn hbl
  have HC : Hid (∀ U : World, (∀ k, k = h ∨ k = bk → U.heap[k]? = W.heap[k]?) → Ms U h gs d bk ⟨2, mp, mo, (b.tx : Int), mc, mn, mw, [], (x0, y0), (x1, y1), (x2, y2), (x3, y3)⟩ ap 1 cp2) := by
    intro U hU
    have h1 := ho_cells ((hU h (.inl rfl)).trans ((HB.out.1.block h HA.out.1.lt).trans HA.out.1.blk))
    exact ⟨h1.c2, h1.c3, MgAt.block HB.out.2.1 (hU bk (.inr rfl))⟩
  have HZ := hidOf (show h < W.heap.size ∧ bk < W.heap.size from ⟨Nat.lt_of_lt_of_le HA.out.1.lt HB.out.1.size, HB.out.2.2.2⟩)
  have HT : Hid (Calls Tryz.prog 127 #[Dsk.dp d, .int .i64 1, .slice ap 1 cp2] W.drew fun e w' => e = .returned (.bool true) ∧ (∀ k, k = h ∨ k = bk → w'.heap[k]? = W.heap[k]?) ∧ Hid (Below W.heap.size W w')) := by
    have b1 := below_step HB.out.1 (bel0 W)
    refine (Dsk.owns_any (HA.out.1.below b1).dk 1 ap 1 cp2 _ (HA.out.2.2.1.2.1.below b1) rfl (by decide)).mono ?_
    rintro e w' ⟨rfl, hb⟩
    have hb' : Below W.heap.size W w' := below_step (bel0 W) hb
    refine ⟨?_, ?_, hb'⟩
    · have h := HA.out.2.2.2.2.2
      exact congrArg (fun u => Ending.returned (.bool u)) h
    · rintro k (rfl | rfl)
      · exact hb'.block _ HZ.out.1
      · exact hb'.block _ HZ.out.2
  refine wp_region_held (S := fun U => ∀ k, k = h ∨ k = bk → U.heap[k]? = W.heap[k]?) (by kernel_rfl) ?_
  have hS : ∀ k, k = h ∨ k = bk → W.drew.heap[k]? = W.heap[k]? := fun _ _ => rfl
  refine held_val (i := 0) ?_ 10 rfl rfl (by kernel_rfl) (by kernel_rfl) (by kernel_rfl) (by rfl) (fun _ _ _ h => h) hS ?_ ?_
  rotate_left
  · (intro w hSw; go_simp; first | done | with_reducible rfl)
  simp only [Act.put, List.setIfInBounds_toArray, List.set_cons_zero, List.set_cons_succ]
  refine held_val (i := 1) ?_ 11 rfl rfl (by kernel_rfl) (by kernel_rfl) (by kernel_rfl) (by rfl) (fun _ _ _ h => h) hS ?_ ?_
  rotate_left
  · (intro w hSw; go_simp; first | done | with_reducible rfl)
  simp only [Act.put, List.setIfInBounds_toArray, List.set_cons_zero, List.set_cons_succ]
  refine held_val (i := 2) ?_ 12 rfl rfl (by kernel_rfl) (by kernel_rfl) (by kernel_rfl) (by rfl) (fun _ _ _ h => h) hS ?_ ?_
  rotate_left
  · (intro w hSw; go_simp; first | done | with_reducible rfl)
  simp only [Act.put, List.setIfInBounds_toArray, List.set_cons_zero, List.set_cons_succ]
  refine held_val (i := 3) ?_ 13 rfl rfl (by kernel_rfl) (by kernel_rfl) (by kernel_rfl) (by rfl) (fun _ _ _ h => h) hS ?_ ?_
  rotate_left
  · (intro w hSw; obtain ⟨k2, k3, ⟨m0, m1, m2, m3, m4, m5, m6, m7, m8, m9, mA, mB, mz, ml⟩⟩ := HC.out w hSw; go_simp; first | done | with_reducible rfl)
  simp only [Act.put, List.setIfInBounds_toArray, List.set_cons_zero, List.set_cons_succ]
  refine held_val (i := 4) ?_ 14 rfl rfl (by kernel_rfl) (by kernel_rfl) (by kernel_rfl) (by rfl) (fun _ _ _ h => h) hS ?_ ?_
  rotate_left
  · (intro w hSw; go_simp; first | done | with_reducible rfl)
  simp only [Act.put, List.setIfInBounds_toArray, List.set_cons_zero, List.set_cons_succ]
  refine held_val (i := 5) ?_ 15 rfl rfl (by kernel_rfl) (by kernel_rfl) (by kernel_rfl) (by rfl) (fun _ _ _ h => h) hS ?_ ?_
  rotate_left
  · (intro w hSw; go_simp; first | done | with_reducible rfl)
  simp only [Act.put, List.setIfInBounds_toArray, List.set_cons_zero, List.set_cons_succ]
  refine held_val (i := 6) ?_ 16 rfl rfl (by kernel_rfl) (by kernel_rfl) (by kernel_rfl) (by rfl) (fun _ _ _ h => h) hS ?_ ?_
  rotate_left
  · (intro w hSw; obtain ⟨k2, k3, ⟨m0, m1, m2, m3, m4, m5, m6, m7, m8, m9, mA, mB, mz, ml⟩⟩ := HC.out w hSw; go_simp; first | done | with_reducible rfl)
  simp only [Act.put, List.setIfInBounds_toArray, List.set_cons_zero, List.set_cons_succ]
  refine held_call (i := 7) 17 127 #[Dsk.dp d, .int .i64 1, .slice ap 1 cp2] rfl rfl (by kernel_rfl) (by rfl) (by simp [go_sem]) HT.out ?_
  rintro e w7 ⟨rfl, hSx, H1⟩
  refine ⟨_, rfl, hSx, ?_⟩
  have hS7 := hSx
  simp only [Act.put, List.setIfInBounds_toArray, List.set_cons_zero, List.set_cons_succ]
  refine held_val (i := 8) ?_ 18 rfl rfl (by kernel_rfl) (by kernel_rfl) (by kernel_rfl) (by rfl) (fun _ _ _ h => h) hS7 ?_ ?_
  rotate_left
  · (intro w hSw; go_simp; first | done | with_reducible rfl)
  simp only [Act.put, List.setIfInBounds_toArray, List.set_cons_zero, List.set_cons_succ]
  refine wpAnyH_done (by kernel_rfl) ?_ _
  rename World => W1
  clear HT hS7
  have HQ : Hid (Calls Tryz.prog 128 #[tp gs, .int .i64 1, .int .i64 (b.ep : Int), .int .i64 (b.tx : Int), .slice ap 1 cp2] W1.drew fun e w' => e = .returned (.tuple #[.int .i64 (b.lsn : Int), .int .i64 0]) ∧ (∀ k, k = h ∨ k = bk → w'.heap[k]? = W.heap[k]?) ∧ Hid (∃ V2 X2 S2, (∀ k, X k → X2 k) ∧ X2 bk ∧ Hk w' B V2 X2 S2 Z h gs d g q s1 ca cc { G with F := { x.use with l := b.lsn, a := putO pu.ob pu.c 0 x.a, b := putO pu.ob pu.c 1 x.b, c := putO pu.ob pu.c 2 x.c, d := putO pu.ob pu.c 3 x.d, dr := true, us := true } :: Tl, nn := G.nn + 42, bs := G.bs ++ wbN b, last := b.lsn } ∧ Hx B X w w')) := by
    obtain ⟨H, hF, ⟨hp, hR, hna⟩, ⟨hcl, hb, hl, hok, hfit, hpl, hx, h0, hlB⟩, hU, ho⟩ := HA.out
    have b1 : Below w.heap.size w W1.drew := below_step (below_step HB.out.1 H1.out) (bel0 W1)
    have K := H.below b1
    have hsw := K.sw
    rw [hF] at hsw
    have hc := commitS_hit hsw b pu ap cp2 (hp.below b1) (fun y hy e => K.sx _ e (.inl (hna y hy))) hb hl hok hfit hpl hx h0 hlB
    rw [hcl] at hc
    refine hc.mono ?_
    rintro e w' ⟨rfl, hn⟩
    have hx2 := K.storeX hn
    obtain ⟨V2, S2, h2⟩ := K.store hn
    have hXb : Nv w W1.drew X bk := .inr ⟨by have := HB.out.2.2.1; omega, Nat.lt_of_lt_of_le HZ.out.2 H1.out.size⟩
    refine ⟨rfl, ?_, V2, _, S2, fun k hk => .inl hk, hXb, h2, (Hx.of_below H.hB H.xlt b1).trans hx2 fun k hk => .inl hk⟩
    rintro k (rfl | rfl)
    · exact h2.blk.trans ((HB.out.1.block _ H.lt).trans H.blk).symm
    · exact (hx2.keep _ hXb).trans (hSx _ (.inr rfl))
  go_upto_region 3 with fail
  refine wp_region_held (S := fun U => ∀ k, k = h ∨ k = bk → U.heap[k]? = W.heap[k]?) (by kernel_rfl) ?_
  have hS2 : ∀ k, k = h ∨ k = bk → W1.drew.heap[k]? = W.heap[k]? := hSx
  refine held_val (i := 0) ?_ 25 rfl rfl (by kernel_rfl) (by kernel_rfl) (by kernel_rfl) (by rfl) (fun _ _ _ h => h) hS2 ?_ ?_
  rotate_left
  · (intro w hSw; go_simp; first | done | with_reducible rfl)
  simp only [Act.put, List.setIfInBounds_toArray, List.set_cons_zero, List.set_cons_succ]
  refine held_val (i := 1) ?_ 26 rfl rfl (by kernel_rfl) (by kernel_rfl) (by kernel_rfl) (by rfl) (fun _ _ _ h => h) hS2 ?_ ?_
  rotate_left
  · (intro w hSw; go_simp; first | done | with_reducible rfl)
  simp only [Act.put, List.setIfInBounds_toArray, List.set_cons_zero, List.set_cons_succ]
  refine held_val (i := 2) ?_ 27 rfl rfl (by kernel_rfl) (by kernel_rfl) (by kernel_rfl) (by rfl) (fun _ _ _ h => h) hS2 ?_ ?_
  rotate_left
  · (intro w hSw; go_simp; first | done | with_reducible rfl)
  simp only [Act.put, List.setIfInBounds_toArray, List.set_cons_zero, List.set_cons_succ]
  refine held_val (i := 3) ?_ 28 rfl rfl (by kernel_rfl) (by kernel_rfl) (by kernel_rfl) (by rfl) (fun _ _ _ h => h) hS2 ?_ ?_
  rotate_left
  · (intro w hSw; obtain ⟨k2, k3, ⟨m0, m1, m2, m3, m4, m5, m6, m7, m8, m9, mA, mB, mz, ml⟩⟩ := HC.out w hSw; go_simp; first | done | with_reducible rfl)
  simp only [Act.put, List.setIfInBounds_toArray, List.set_cons_zero, List.set_cons_succ]
  refine held_val (i := 4) ?_ 29 rfl rfl (by kernel_rfl) (by kernel_rfl) (by kernel_rfl) (by rfl) (fun _ _ _ h => h) hS2 ?_ ?_
  rotate_left
  · (intro w hSw; go_simp; first | done | with_reducible rfl)
  simp only [Act.put, List.setIfInBounds_toArray, List.set_cons_zero, List.set_cons_succ]
  refine held_val (i := 5) ?_ 30 rfl rfl (by kernel_rfl) (by kernel_rfl) (by kernel_rfl) (by rfl) (fun _ _ _ h => h) hS2 ?_ ?_
  rotate_left
  · (intro w hSw; go_simp; first | done | with_reducible rfl)
  simp only [Act.put, List.setIfInBounds_toArray, List.set_cons_zero, List.set_cons_succ]
  refine held_val (i := 6) ?_ 31 rfl rfl (by kernel_rfl) (by kernel_rfl) (by kernel_rfl) (by rfl) (fun _ _ _ h => h) hS2 ?_ ?_
  rotate_left
  · (intro w hSw; go_simp; first | done | with_reducible rfl)
  simp only [Act.put, List.setIfInBounds_toArray, List.set_cons_zero, List.set_cons_succ]
  refine held_val (i := 7) ?_ 32 rfl rfl (by kernel_rfl) (by kernel_rfl) (by kernel_rfl) (by rfl) (fun _ _ _ h => h) hS2 ?_ ?_
  rotate_left
  · (intro w hSw; obtain ⟨k2, k3, ⟨m0, m1, m2, m3, m4, m5, m6, m7, m8, m9, mA, mB, mz, ml⟩⟩ := HC.out w hSw; go_simp; first | done | with_reducible rfl)
  simp only [Act.put, List.setIfInBounds_toArray, List.set_cons_zero, List.set_cons_succ]
  refine held_val (i := 8) ?_ 33 rfl rfl (by kernel_rfl) (by kernel_rfl) (by kernel_rfl) (by rfl) (fun _ _ _ h => h) hS2 ?_ ?_
  rotate_left
  · (intro w hSw; go_simp; first | done | with_reducible rfl)
  simp only [Act.put, List.setIfInBounds_toArray, List.set_cons_zero, List.set_cons_succ]
  refine held_val (i := 9) ?_ 34 rfl rfl (by kernel_rfl) (by kernel_rfl) (by kernel_rfl) (by rfl) (fun _ _ _ h => h) hS2 ?_ ?_
  rotate_left
  · (intro w hSw; obtain ⟨k2, k3, ⟨m0, m1, m2, m3, m4, m5, m6, m7, m8, m9, mA, mB, mz, ml⟩⟩ := HC.out w hSw; go_simp; first | done | with_reducible rfl)
  simp only [Act.put, List.setIfInBounds_toArray, List.set_cons_zero, List.set_cons_succ]
  refine held_call (i := 10) 35 128 #[tp gs, .int .i64 1, .int .i64 (b.ep : Int), .int .i64 (b.tx : Int), .slice ap 1 cp2] rfl rfl (by kernel_rfl) (by rfl) (by simp [go_sem]) HQ.out ?_
  rintro e w10 ⟨rfl, hSy, H2⟩
  refine ⟨_, rfl, hSy, ?_⟩
  have hS10 := hSy
  simp only [Act.put, List.setIfInBounds_toArray, List.set_cons_zero, List.set_cons_succ]
  refine held_val (i := 11) ?_ 24 rfl rfl (by kernel_rfl) (by kernel_rfl) (by kernel_rfl) (by rfl) (fun _ _ _ h => h) hS10 ?_ ?_
  rotate_left
  · (intro w hSw; go_simp; first | done | with_reducible rfl)
  simp only [Act.put, List.setIfInBounds_toArray, List.set_cons_zero, List.set_cons_succ]
  refine held_val (i := 12) ?_ 36 rfl rfl (by kernel_rfl) (by kernel_rfl) (by kernel_rfl) (by rfl) (fun _ _ _ h => h) hS10 ?_ ?_
  rotate_left
  · (intro w hSw; go_simp; first | done | with_reducible rfl)
  simp only [Act.put, List.setIfInBounds_toArray, List.set_cons_zero, List.set_cons_succ]
  refine held_val (i := 13) ?_ 37 rfl rfl (by kernel_rfl) (by kernel_rfl) (by kernel_rfl) (by rfl) (fun _ _ _ h => h) hS10 ?_ ?_
  rotate_left
  · (intro w hSw; go_simp; first | done | with_reducible rfl)
  simp only [Act.put, List.setIfInBounds_toArray, List.set_cons_zero, List.set_cons_succ]
  refine held_val (i := 14) ?_ 8 rfl rfl (by kernel_rfl) (by kernel_rfl) (by kernel_rfl) (by rfl) (fun _ _ _ h => h) hS10 ?_ ?_
  rotate_left
  · (intro w hSw; go_simp; first | done | with_reducible rfl)
  simp only [Act.put, List.setIfInBounds_toArray, List.set_cons_zero, List.set_cons_succ]
  refine held_val (i := 15) ?_ 9 rfl rfl (by kernel_rfl) (by kernel_rfl) (by kernel_rfl) (by rfl) (fun _ _ _ h => h) hS10 ?_ ?_
  rotate_left
  · (intro w hSw; go_simp; first | done | with_reducible rfl)
  simp only [Act.put, List.setIfInBounds_toArray, List.set_cons_zero, List.set_cons_succ]
  refine wpAnyH_done (by kernel_rfl) ?_ _
  rename World => W2
  clear HQ hS10 hS2 hSx hS
  go_upto_region 6 with fail
  obtain ⟨un, hun⟩ : ∃ n, G.U.length = n := ⟨_, rfl⟩
  have HN : Hid (∀ U, Below W2.heap.size W2 U → U.cell? ⟨h, 12, none⟩ = some (.slice ca un cc) ∧ U.frozen? ⟨h, 12, none⟩ = false ∧ U.cell? ⟨bk, 3, none⟩ = some (.int .i64 (b.tx : Int))) := by
    intro U hU
    obtain ⟨V2, X2, S2, x1, x2, K, x3⟩ := H2.out
    have e1 := (hU.block h K.lt).trans K.blk
    have e2 := ho_cells e1
    have e3 := MgAt.block (MgAt.block HB.out.2.1 (hSy bk (.inr rfl))) (hU.block bk (K.xlt bk x2))
    refine ⟨?_, ho_fz e1 12, e3.c3⟩
    rw [← hun]
    exact e2.cC
  have HU := hidOf (show G.U.length = un ∧ un ≤ 1000 from ⟨hun, hun ▸ HA.out.2.2.2.2.1⟩)
  clear hun
  have hun1 : un ≤ 1000 := HU.out.2
  refine wp_region_till (fun U => U.cell? ⟨h, 12, none⟩ = some (.slice ca un cc) ∧ U.frozen? ⟨h, 12, none⟩ = false ∧ U.cell? ⟨bk, 3, none⟩ = some (.int .i64 (b.tx : Int))) 15 (by kernel_rfl) ?_
  have hF := HN.out _ (bel0 W2)
  refine Till.val (i := 0) ?_ 46 rfl rfl rfl (by kernel_rfl) (by decide) (by kernel_rfl) (by kernel_rfl) (by kernel_rfl) (by kernel_rfl) (by rfl) (fun _ _ _ h => h) hF ?_ ?_
  rotate_left
  · (intro w hSw; go_simp; first | done | with_reducible rfl)
  simp only [Act.put, List.setIfInBounds_toArray, List.set_cons_zero, List.set_cons_succ]
  refine Till.val (i := 1) ?_ 47 rfl rfl rfl (by kernel_rfl) (by decide) (by kernel_rfl) (by kernel_rfl) (by kernel_rfl) (by kernel_rfl) (by rfl) (fun _ _ _ h => h) hF ?_ ?_
  rotate_left
  · (intro w hSw; go_simp; first | done | with_reducible rfl)
  simp only [Act.put, List.setIfInBounds_toArray, List.set_cons_zero, List.set_cons_succ]
  refine Till.val (i := 2) ?_ 48 rfl rfl rfl (by kernel_rfl) (by decide) (by kernel_rfl) (by kernel_rfl) (by kernel_rfl) (by kernel_rfl) (by rfl) (fun _ _ _ h => h) hF ?_ ?_
  rotate_left
  · (intro w hSw; go_simp; first | done | with_reducible rfl)
  simp only [Act.put, List.setIfInBounds_toArray, List.set_cons_zero, List.set_cons_succ]
  refine Till.val (i := 3) ?_ 49 rfl rfl rfl (by kernel_rfl) (by decide) (by kernel_rfl) (by kernel_rfl) (by kernel_rfl) (by kernel_rfl) (by rfl) (fun _ _ _ h => h) hF ?_ ?_
  rotate_left
  · (intro w hSw; go_simp; first | done | with_reducible rfl)
  simp only [Act.put, List.setIfInBounds_toArray, List.set_cons_zero, List.set_cons_succ]
  refine Till.val (i := 4) ?_ 50 rfl rfl rfl (by kernel_rfl) (by decide) (by kernel_rfl) (by kernel_rfl) (by kernel_rfl) (by kernel_rfl) (by rfl) (fun _ _ _ h => h) hF ?_ ?_
  rotate_left
  · (intro w hSw; obtain ⟨k0, k1, k3⟩ := hSw; go_simp; first | done | with_reducible rfl)
  simp only [Act.put, List.setIfInBounds_toArray, List.set_cons_zero, List.set_cons_succ]
  refine Till.val (i := 5) ?_ 51 rfl rfl rfl (by kernel_rfl) (by decide) (by kernel_rfl) (by kernel_rfl) (by kernel_rfl) (by kernel_rfl) (by rfl) (fun _ _ _ h => h) hF ?_ ?_
  rotate_left
  · (intro w hSw; go_simp; first | done | with_reducible rfl)
  simp only [Act.put, List.setIfInBounds_toArray, List.set_cons_zero, List.set_cons_succ]
  refine Till.val (i := 6) ?_ 52 rfl rfl rfl (by kernel_rfl) (by decide) (by kernel_rfl) (by kernel_rfl) (by kernel_rfl) (by kernel_rfl) (by rfl) (fun _ _ _ h => h) hF ?_ ?_
  rotate_left
  · (intro w hSw; go_simp; first | done | with_reducible rfl)
  simp only [Act.put, List.setIfInBounds_toArray, List.set_cons_zero, List.set_cons_succ]
  refine Till.val (i := 7) ?_ 53 rfl rfl rfl (by kernel_rfl) (by decide) (by kernel_rfl) (by kernel_rfl) (by kernel_rfl) (by kernel_rfl) (by rfl) (fun _ _ _ h => h) hF ?_ ?_
  rotate_left
  · (intro w hSw; go_simp; first | done | with_reducible rfl)
  simp only [Act.put, List.setIfInBounds_toArray, List.set_cons_zero, List.set_cons_succ]
  refine Till.val (i := 8) ?_ 54 rfl rfl rfl (by kernel_rfl) (by decide) (by kernel_rfl) (by kernel_rfl) (by kernel_rfl) (by kernel_rfl) (by rfl) (fun _ _ _ h => h) hF ?_ ?_
  rotate_left
  · (intro w hSw; obtain ⟨k0, k1, k3⟩ := hSw; go_simp; first | done | with_reducible rfl)
  simp only [Act.put, List.setIfInBounds_toArray, List.set_cons_zero, List.set_cons_succ]
  refine Till.val (i := 9) ?_ 55 rfl rfl rfl (by kernel_rfl) (by decide) (by kernel_rfl) (by kernel_rfl) (by kernel_rfl) (by kernel_rfl) (by rfl) (fun _ _ _ h => h) hF ?_ ?_
  rotate_left
  · (intro w hSw; go_simp; first | done | with_reducible rfl)
  simp only [Act.put, List.setIfInBounds_toArray, List.set_cons_zero, List.set_cons_succ]
  refine Till.val (i := 10) ?_ 56 rfl rfl rfl (by kernel_rfl) (by decide) (by kernel_rfl) (by kernel_rfl) (by kernel_rfl) (by kernel_rfl) (by rfl) (fun _ _ _ h => h) hF ?_ ?_
  rotate_left
  · (intro w hSw; go_simp; first | done | with_reducible rfl)
  simp only [Act.put, List.setIfInBounds_toArray, List.set_cons_zero, List.set_cons_succ]
  have hb7 : Below W2.heap.size W2 (W2.drew.alloc (.cells #[.int .i64 1, .int .i64 (b.ep : Int), .int .i64 (b.tx : Int), .int .i64 (b.lsn : Int)] 98)) := below_step (bel0 W2) ((Below.refl _ _).alloc (Nat.le_refl _) _)
  have HB7 : Hid (Below W2.heap.size W2 (W2.drew.alloc (.cells #[.int .i64 1, .int .i64 (b.ep : Int), .int .i64 (b.tx : Int), .int .i64 (b.lsn : Int)] 98))) := hb7
  have hF7 := HN.out _ hb7
  refine Till.run (i := 11) 57 (.slice (some ⟨W2.heap.size, 0, none⟩) 1 1) (W2.drew.alloc (.cells #[.int .i64 1, .int .i64 (b.ep : Int), .int .i64 (b.tx : Int), .int .i64 (b.lsn : Int)] 98)) rfl rfl (by kernel_rfl) (by rfl) (by go_simp; first | done | with_reducible rfl) hF7 ?_
  simp only [Act.put, List.setIfInBounds_toArray, List.set_cons_zero, List.set_cons_succ]
  have HO : Hid (OwR unC 4 98 (W2.drew.alloc (.cells #[.int .i64 1, .int .i64 (b.ep : Int), .int .i64 (b.tx : Int), .int .i64 (b.lsn : Int)] 98)) ca cc G.U ∧ RdR unC (W2.drew.alloc (.cells #[.int .i64 1, .int .i64 (b.ep : Int), .int .i64 (b.tx : Int), .int .i64 (b.lsn : Int)] 98)) (some ⟨W2.heap.size, 0, none⟩) 1 [(⟨1, (b.ep : Int), (b.tx : Int), (b.lsn : Int)⟩ : Untd)]) := by
    obtain ⟨V2, X2, S2, x1, x2, K, x3⟩ := H2.out
    exact ⟨K.un.below HB7.out, RdR.built unE W2.drew 98 _ [(⟨1, (b.ep : Int), (b.tx : Int), (b.lsn : Int)⟩ : Untd)] rfl 1 rfl (by decide)⟩
  clear hb7
  generalize W2.drew.alloc (.cells #[.int .i64 1, .int .i64 (b.ep : Int), .int .i64 (b.tx : Int), .int .i64 (b.lsn : Int)] 98) = W7 at *
  refine till_append_R unE (i := 12) (n := un) (m := 1) (L := G.U) (M := [(⟨1, (b.ep : Int), (b.tx : Int), (b.lsn : Int)⟩ : Untd)]) 58 (.tmp 50) (.tmp 57) 60 rfl rfl (by kernel_rfl) (by rfl) rfl 98 _ 32 Tryz.underlying60 infoUn rfl rfl rfl HO.out.1 HO.out.2 HU.out.1 rfl (by omega) (by unfold maxLen; omega) ?_
  intro k2 c2 W8 ho8 hg8 hl8
  have HX := hidOf (show OwR unC 4 98 W8 k2 c2 (G.U ++ [(⟨1, (b.ep : Int), (b.tx : Int), (b.lsn : Int)⟩ : Untd)]) ∧ W7.grownBy W8 (ca.map (·.block)) ∧ (k2 = ca ∨ k2 = some ⟨W7.heap.size, 0, none⟩) from ⟨ho8, hg8, hl8⟩)
  clear ho8 hg8 hl8
  have HK8 : Hid (∀ k, k < W7.heap.size → (∀ y, ca = some y → k ≠ y.block) → W8.heap[k]? = W7.heap[k]?) := by
    intro k hk hne
    refine HX.out.2.1.block k hk fun e => ?_
    cases hca : ca with
    | none => rw [hca] at e; cases e
    | some y =>
      rw [hca] at e
      cases e
      exact hne y hca rfl
  have HHB : Hid (W8.heap[h]? = W7.heap[h]? ∧ W8.heap[bk]? = W7.heap[bk]?) := by
    obtain ⟨V2, X2, S2, x1, x2, K, x3⟩ := H2.out
    have hz := HB7.out.size
    refine ⟨HK8.out h (by have := K.lt; omega) fun y hy e => (K.uc y hy).2.2.1 e.symm, HK8.out bk (by have := K.xlt bk x2; omega) fun y hy e => (K.uc y hy).2.2.2.2.2 (e ▸ x2)⟩
  have hF8 : W8.cell? ⟨h, 12, none⟩ = some (.slice ca un cc) ∧ W8.frozen? ⟨h, 12, none⟩ = false ∧ W8.cell? ⟨bk, 3, none⟩ = some (.int .i64 (b.tx : Int)) :=
    ⟨(World.cell?_of_block (w := W7) (w' := W8) (a := ⟨h, 12, none⟩) HHB.out.1).trans hF7.1, (World.frozen?_of_block (w := W7) (a := ⟨h, 12, none⟩) HHB.out.1).trans hF7.2.1, (World.cell?_of_block (w := W7) (w' := W8) (a := ⟨bk, 3, none⟩) HHB.out.2).trans hF7.2.2⟩
  refine ⟨hF8, ?_⟩
  simp only [Act.put, List.setIfInBounds_toArray, List.set_cons_zero, List.set_cons_succ]
  refine Till.run (i := 13) 59 (.pointer (some ⟨h, 0, none⟩)) W8 rfl rfl (by kernel_rfl) (by rfl) (by go_simp) hF8 ?_
  simp only [Act.put, List.setIfInBounds_toArray, List.set_cons_zero, List.set_cons_succ]
  refine Till.run (i := 14) 60 (.pointer (some ⟨h, 12, none⟩)) W8 rfl rfl (by kernel_rfl) (by rfl) (by go_simp) hF8 ?_
  simp only [Act.put, List.setIfInBounds_toArray, List.set_cons_zero, List.set_cons_succ]
  obtain ⟨f1, f2, -⟩ := hF8
  refine Till.last (W8.setCell ⟨h, 12, none⟩ (.slice k2 (un + 1) c2)) rfl rfl (by kernel_rfl) (by decide) (by rfl) (by go_simp) ?_
  refine Till.done (by kernel_rfl) ?_ _
  have HE : Hid (∃ V' X' S2 ca2 cc2, (∀ k, X k → X' k) ∧ Hk (W8.setCell ⟨h, 12, none⟩ (.slice k2 (un + 1) c2)) B V' X' S2 Z h gs d g q s1 ca2 cc2 { G with F := { x.use with l := b.lsn, a := putO pu.ob pu.c 0 x.a, b := putO pu.ob pu.c 1 x.b, c := putO pu.ob pu.c 2 x.c, d := putO pu.ob pu.c 3 x.d, dr := true, us := true } :: Tl, nn := G.nn + 42, bs := G.bs ++ wbN b, last := b.lsn, U := G.U ++ [⟨1, (b.ep : Int), (b.tx : Int), (b.lsn : Int)⟩] } ∧ Hx B X w (W8.setCell ⟨h, 12, none⟩ (.slice k2 (un + 1) c2))) := by
    obtain ⟨V2, X2, S2, x1, x2, K, x3⟩ := H2.out
    obtain ⟨o1, o2, o3⟩ := HX.out
    have K7 := K.below HB7.out
    have hz7 := HB7.out.size
    have hz8 := o2.size
    have hh7 : W8.heap[h]? = some (hoO G.bo G.pa gs d s1 G.e1 (.slice ca G.U.length cc)) := HHB.out.1.trans K7.blk
    have hsz : (W8.setCell ⟨h, 12, none⟩ (.slice k2 (un + 1) c2)).heap.size = W8.heap.size := by simp
    have hO : ∀ k, k < W7.heap.size → k ≠ h → (∀ y, ca = some y → k ≠ y.block) → (W8.setCell ⟨h, 12, none⟩ (.slice k2 (un + 1) c2)).heap[k]? = W7.heap[k]? := fun k hk h1 h2 => (Below.heap_setCell _ _ _ _ h1).trans (HK8.out k hk h2)
    have hOf : OffS (fun k => k = h ∨ ∃ y, ca = some y ∧ k = y.block) W7 (W8.setCell ⟨h, 12, none⟩ (.slice k2 (un + 1) c2)) := OffS.setCell ⟨o2.os, o2.tape, o2.output, o2.size, fun k hk hn => HK8.out k hk fun y hy e => hn (.inr ⟨y, hy, e⟩)⟩ (.inl rfl) _
    have hbel : Below B W7 (W8.setCell ⟨h, 12, none⟩ (.slice k2 (un + 1) c2)) := hOf.below (by
      rintro k (rfl | ⟨y, hy, rfl⟩)
      · exact K7.bh
      · exact (K7.uc y hy).2.1) K7.hB
    refine ⟨_, Nv W2 W7 X2, S2, k2, c2, fun k hk => .inl (x1 k hk), K7.turn (G2 := { G with F := { x.use with l := b.lsn, a := putO pu.ob pu.c 0 x.a, b := putO pu.ob pu.c 1 x.b, c := putO pu.ob pu.c 2 x.c, d := putO pu.ob pu.c 3 x.d, dr := true, us := true } :: Tl, nn := G.nn + 42, bs := G.bs ++ wbN b, last := b.lsn, U := G.U ++ [⟨1, (b.ep : Int), (b.tx : Int), (b.lsn : Int)⟩] }) (X2 := Nv W2 W7 X2) (Z2 := Z) hbel ?_ ?_ (K7.sw.keep (by omega) fun k hk => hO k (K7.sw.lt k hk) (fun e => K7.hs (e ▸ hk)) fun y hy e => (K7.uc y hy).2.2.2.1 (e ▸ hk)) rfl rfl (K7.ss.keep (by omega) fun k hk => hO k (K7.vlt k (K7.vz k hk)) (fun e => K7.hz (e ▸ hk)) fun y hy e => (K7.uc y hy).2.2.2.2.1 (e ▸ hk)) ?_ (fun k hk => .inl hk) (fun k hk => ⟨.inl hk, by have := K7.vlt k (K7.vz k hk); omega⟩) (fun k hk => ⟨.inl hk, by have := K7.xlt k hk; omega⟩) ?_ ?_, ?_⟩
    · intro k hk hV
      exact hO k hk (fun e => hV (e ▸ K7.vh)) fun y hy e => hV (e ▸ (K7.uc y hy).1)
    · rw [heap_setCell_same W8 h _ _ 62 _ hh7]
      simp only [List.length_append, List.length_cons, List.length_nil, HU.out.1]
      rfl
    · refine o1.keep fun y hy hl => Below.heap_setCell _ _ _ _ ?_
      show y.block ≠ h
      rcases o3 with e | e
      · exact (K7.uc y (e ▸ hy)).2.2.1
      · rw [hy] at e
        cases e
        have := K7.lt
        show W7.heap.size ≠ h
        omega
    · intro y hy
      have hl := (o1.lt y hy).1
      refine ⟨?_, by omega⟩
      rcases o3 with e | e
      · exact .inl (e ▸ hy)
      · rw [hy] at e
        cases e
        exact .inr (Nat.le_refl _)
    · intro k hk
      have a1 : S2 k → False := fun a => by have := K7.vlt k (K7.vs k a); omega
      have a2 : Z k → False := fun a => by have := K7.vlt k (K7.vz k a); omega
      have a3 : Nv W2 W7 X2 k → False := fun a => by have := K7.xlt k a; omega
      exact ⟨fun a => (a1 a).elim, fun a => (a1 a).elim, fun a => (a2 a).elim, fun y hy e => ⟨a1, a2, a3⟩⟩
    · have e1 : Hx B X w W7 := x3.trans (Hx.of_below K.hB K.xlt HB7.out) x1
      have e2 : Hx B (Nv W2 W7 X2) W7 (W8.setCell ⟨h, 12, none⟩ (.slice k2 (un + 1) c2)) := ⟨hbel, fun k hk => hO k (K7.xlt k hk) (fun e => K7.hx (e ▸ hk)) fun y hy e => (K7.uc y hy).2.2.2.2.2 (e ▸ hk)⟩
      exact e1.trans e2 fun k hk => .inl (x1 k hk)
  go_wp2
  go_end0
  obtain ⟨V', X', S2, ca2, cc2, e1, e2, e3⟩ := HE.out
  exact ⟨rfl, V', X', e1, ⟨S2, ca2, cc2, e2⟩, e3⟩

end Go.Proofs.YtpofihiojhbfgaaGreatDoor
