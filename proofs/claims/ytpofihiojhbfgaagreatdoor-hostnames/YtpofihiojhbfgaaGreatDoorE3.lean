/- begin of package host, walked: client 1 has no session. values of package host, walked: of a page in the first frame, of all its objects. say of package host, walked: a message that is right, to client 1. sayActs of package host with one Grant, and tell, walked. tell of package host, walked. -/
import Derived.Test.YtpofihiojhbfgaaGreatDoorE2
import Derived.Test.YtpofihiojhbfgaaGreatDoorE1
import Derived.Test.YtpofihiojhbfgaaGreatDoorB8
import Derived.Test.YtpofihiojhbfgaaGreatDoorC2
namespace Go.Proofs.YtpofihiojhbfgaaGreatDoor
open Go.RowKit
set_option linter.unusedVariables false
set_option maxRecDepth 8000

theorem Ses.no {w : World} {Z : Nat → Prop} {s1 : Option Addr} {bo ep : Int} {o : Option Sg} (h : Ses w Z s1 bo ep o) (ho : o = none) : s1 = none ∧ ∀ k, ¬ Z k := by
  subst ho
  exact h
theorem Ses.yes {w : World} {Z : Nat → Prop} {s1 : Option Addr} {bo ep : Int} {o : Option Sg} {s : Sg} (h : Ses w Z s1 bo ep o) (ho : o = some s) : ∃ t, s1 = some ⟨t, 0, none⟩ ∧ Se w Z t ⟨1, ep, bo, true⟩ s.L s.sn s.h s.si s.fr s.out := by
  subst ho
  exact h

set_option maxHeartbeats 3200000 in
theorem begin_any {w : World} {B : Nat} {V X S Z : Nat → Prop} {h gs d g q : Nat} {s1 ca : Option Addr} {cc : Nat} {G : HoG} (H : Hk w B V X S Z h gs d g q s1 ca cc G) (hse : G.se = none) (ep : Int) :
    Calls Tryz.prog 23 #[tp h, .int .i64 1, .int .i64 ep] w fun e w' => ∃ t, e = .returned (cp t) ∧ ∃ V' Z', Hk w' B V' X S Z' h gs d g q (some ⟨t, 0, none⟩) ca cc { G with e1 := ep, se := some ⟨[], 0, 0, 0, false, []⟩ } ∧ Hx B X w w' := by
  obtain ⟨rfl, hZ⟩ := H.ss.no hse
  have HA := hidOf (And.intro H hZ)
  obtain ⟨c0, c1, c2, c3, c4, c5, c6, c7, c8, c9, cA, cB, cC⟩ := H.cells
  have HL : Hid (Calls Tryz.prog 46 #[.int .i64 1, .int .i64 ep, .int .i64 G.bo, .bool true] w fun e w' => ∃ l, e = .returned (cp l) ∧ Hid (Lw w' (fun k => k = l) l ⟨1, ep, G.bo, true⟩ [] 0 0 ∧ Below w.heap.size w w' ∧ w.heap.size ≤ l)) := by
    refine (lnewW 1 ep G.bo true w).mono ?_
    rintro e w' ⟨rfl, h1, h2⟩
    exact ⟨_, rfl, h1, h2, Nat.le_refl _⟩
  clear c1 c2 c3 c4 c6 c7 c8 c9 cA cB cC H hZ hse
  go_enter Tryz.func23, Tryz.ntmps23
  go_upto_region 4 with (first
    | (go_at_call 46; refine HL.out.mono ?_; rintro e w1 ⟨l, rfl, H1⟩)
    | fail)
  obtain ⟨t, ht⟩ : ∃ t, w1.heap.size = t := ⟨_, rfl⟩
  obtain ⟨W2, hW2⟩ : ∃ W2, w1.alloc (seO ep l none 0 0 0 false) = W2 := ⟨_, rfl⟩
  have hbA : Below w1.heap.size w1 W2 := hW2 ▸ (Below.refl _ _).alloc (Nat.le_refl _) _
  have htn : W2.heap[t]? = some (seO ep l none 0 0 0 false) := hW2 ▸ ht ▸ heap_alloc_new w1 _
  have hB2 : Below w.heap.size w W2 := below_step H1.out.2.1 hbA
  have hh2 : W2.heap[h]? = some (hoO G.bo G.pa gs d none G.e1 (.slice ca G.U.length cc)) := (hB2.block h HA.out.1.lt).trans HA.out.1.blk
  have HB := hidOf (show w1.heap.size = t ∧ Below w1.heap.size w1 W2 ∧ W2.heap[t]? = some (seO ep l none 0 0 0 false) ∧ Below w.heap.size w W2 ∧ W2.heap[h]? = some (hoO G.bo G.pa gs d none G.e1 (.slice ca G.U.length cc)) from ⟨ht, hbA, htn, hB2, hh2⟩)
  show Code.wp _ _ _ _ (w1.alloc (seO ep l none 0 0 0 false))
  rw [hW2, ht]
  obtain ⟨x0, x1, x2, x3, x4, x5, x6, x7, x8, x9, xA, xB, xC⟩ := ho_cells hh2
  have xf := ho_fz hh2
  have xf5 := xf 5
  have xf9 := xf 9
  clear x0 x1 x2 x3 x4 x6 x7 x8 xA xB xC xf hbA htn hB2 hh2 ht hW2 c0 c5 HL
  go_region
  all_goals go_wp2
  all_goals go_ret
  all_goals (
    have key : ∀ U : World, U.heap[h]? = some (hoO G.bo G.pa gs d (some ⟨t, 0, none⟩) ep (.slice ca G.U.length cc)) → OffS (fun k => k = h) W2 U → ∃ V' Z', Hk U B V' X S Z' h gs d g q (some ⟨t, 0, none⟩) ca cc { G with e1 := ep, se := some ⟨[], 0, 0, 0, false, []⟩ } ∧ Hx B X w U := by
      intro U hU hO
      obtain ⟨b1, b2, b3, b4, b5⟩ := HB.out
      obtain ⟨H, hZ⟩ := HA.out
      obtain ⟨l1, l2, l3⟩ := H1.out
      have hz := l2.size
      have hz2 := hO.size
      have hz4 := b4.size
      have hwl := H.lt
      have htl := (Array.getElem?_eq_some_iff.1 b3).1
      have hll : l < w1.heap.size := l1.lt l rfl
      have hne : ∀ k, k < w.heap.size → k ≠ h → U.heap[k]? = w.heap[k]? := fun k hk hn => (hO.block k (by omega) hn).trans (b4.block k hk)
      have hbel : Below B w U := by
        have h1 : Below B w W2 := b4.mono H.hB
        exact h1.trans (hO.below (fun k e => by rw [e]; exact H.bh) (by have := H.hB; omega))
      have hLU : Lw U (fun k => k = l) l ⟨1, ep, G.bo, true⟩ [] 0 0 := l1.keep (by omega) fun k hk => by
        rw [hk]
        exact (hO.block l (by omega) (by omega)).trans (b2.block l hll)
      have hSe : Se U (fun k => k = t ∨ k = l) t ⟨1, ep, G.bo, true⟩ [] 0 0 0 false [] := by
        refine ⟨fun k => k = l, fun _ => False, l, none, 0, 0, [], ⟨?_, hLU, ?_, Lnk.Bys.nil _ _, rfl, ?_, fun x hx => (by cases hx), fun k hk => hk.elim⟩, .inl rfl, fun k hk => .inr hk, fun k hk => hk.elim, fun x hx => (by cases hx), ?_⟩
        · exact (hO.block t htl (by omega)).trans b3
        · exact World.ownsRow_nil _ _ _ _
        · show ¬ t = l
          omega
        · rintro k (hk | hk) <;> omega
      refine ⟨_, fun k => k = t ∨ k = l, H.turn (G2 := { G with e1 := ep, se := some ⟨[], 0, 0, 0, false, []⟩ }) (X2 := X) (S2 := S) hbel (fun k hk hV => hne k hk fun e => hV (e ▸ H.vh)) hU (H.sw.keep (by omega) fun k hk => hne k (H.sw.lt k hk) fun e => H.hs (e ▸ hk)) rfl rfl ⟨t, rfl, hSe⟩ (H.un.keep fun y hy hl => hne _ hl (H.uc y hy).2.2.1) (fun k hk => .inl hk) ?_ (fun k hk => ⟨.inl hk, by have := H.xlt k hk; omega⟩) (fun y hy => ⟨.inl hy, by have := H.vlt _ (H.uc y hy).1; omega⟩) ?_, hbel, fun k hk => hne k (H.xlt k hk) fun e => H.hx (e ▸ hk)⟩
      · rintro k (hk | hk)
        · exact ⟨.inr (by omega), by omega⟩
        · exact ⟨.inr (by omega), by omega⟩
      · intro k hk
        refine ⟨fun a => ?_, fun a => ?_, fun _ a => ?_, fun y hy e => ?_⟩
        · have := H.sw.lt k a; omega
        · have := H.sw.lt k a; omega
        · have := H.xlt k a; omega
        · have := H.vlt _ (H.uc y hy).1; omega
    refine ⟨t, rfl, key _ ?_ ?_⟩
    · show (World.setCell (World.setCell W2 _ _) _ _).heap[h]? = _
      rw [heap_setCell_same _ h _ _ 62 _ (heap_setCell_same _ h _ _ 62 _ HB.out.2.2.2.2)]
      rfl
    · exact (((OffS.refl (fun k => k = h) W2).setCell rfl _).setCell rfl _).trans (OffS.of_below (bel0 _)))

end Go.Proofs.YtpofihiojhbfgaaGreatDoor

namespace Go.Proofs.YtpofihiojhbfgaaGreatDoor
open Go.RowKit
set_option linter.unusedVariables false
set_option maxRecDepth 8000

abbrev v4O (a b c d : Nat × Nat) : Obj := .cells #[.complex .f64 a.1 a.2, .complex .f64 b.1 b.2, .complex .f64 c.1 c.2, .complex .f64 d.1 d.2] 45
theorem v4_cells {w : World} {r : Nat} {a b c d : Nat × Nat} (h : w.heap[r]? = some (v4O a b c d)) : w.cell? ⟨r, 0, none⟩ = some (.complex .f64 a.1 a.2) ∧ w.cell? ⟨r, 1, none⟩ = some (.complex .f64 b.1 b.2) ∧ w.cell? ⟨r, 2, none⟩ = some (.complex .f64 c.1 c.2) ∧ w.cell? ⟨r, 3, none⟩ = some (.complex .f64 d.1 d.2) := by
  refine ⟨?_, ?_, ?_, ?_⟩
  all_goals rw [cell_of_row _ _ _ _ _ _ h]; rfl
theorem pg_cells {w : World} {r : Nat} {l : Int} {a b c d : Nat × Nat} (h : w.heap[r]? = some (pgO l a b c d)) : w.cell? ⟨r, 0, none⟩ = some (.int .i64 l) ∧ w.cell? ⟨r, 1, none⟩ = some (.complex .f64 a.1 a.2) ∧ w.cell? ⟨r, 2, none⟩ = some (.complex .f64 b.1 b.2) ∧ w.cell? ⟨r, 3, none⟩ = some (.complex .f64 c.1 c.2) ∧ w.cell? ⟨r, 4, none⟩ = some (.complex .f64 d.1 d.2) := by
  refine ⟨?_, ?_, ?_, ?_, ?_⟩
  all_goals rw [cell_of_row _ _ _ _ _ _ h]; rfl

theorem Hk.alien {w w' : World} {B : Nat} {V X S Z A : Nat → Prop} {h gs d g q : Nat} {s1 ca : Option Addr} {cc : Nat} {G : HoG} (H : Hk w B V X S Z h gs d g q s1 ca cc G) (ho : OffS A w w') (hA : ∀ k, A k → X k ∧ B ≤ k) : Hk w' B (Nv w w' V) (Nv w w' X) S Z h gs d g q s1 ca cc G := by
  have hs := ho.size
  have hk : ∀ k, k < w.heap.size → ¬ X k → w'.heap[k]? = w.heap[k]? := fun k hk hn => ho.block k hk fun e => hn (hA k e).1
  refine H.turn (ho.below (fun k e => (hA k e).2) H.hB) (fun k hk' hV => hk k hk' fun e => hV (H.vx k e)) ((hk h H.lt H.hx).trans H.blk) (H.sw.keep hs fun k e => hk k (H.sw.lt k e) (H.sx k e)) rfl rfl (H.ss.keep hs fun k e => hk k (H.vlt k (H.vz k e)) (H.zx k e)) (H.un.keep fun y hy hl => hk _ hl (H.uc y hy).2.2.2.2.2) (fun k hk => .inl hk) (fun k hk => ⟨.inl hk, Nat.lt_of_lt_of_le (H.vlt k (H.vz k hk)) hs⟩) ?_ (fun y hy => ⟨.inl hy, Nat.lt_of_lt_of_le (H.vlt _ (H.uc y hy).1) hs⟩) ?_
  · rintro k (hk | hk)
    · exact ⟨.inl hk, Nat.lt_of_lt_of_le (H.xlt k hk) hs⟩
    · exact ⟨.inr hk.1, hk.2⟩
  · intro k hk
    refine ⟨fun a => ?_, fun a => ?_, fun a => ?_, fun y hy e => ?_⟩
    · have := H.vlt k (H.vs k a); omega
    · have := H.vlt k (H.vs k a); omega
    · have := H.vlt k (H.vz k a); omega
    · have := H.vlt _ (H.uc y hy).1; omega

set_option maxHeartbeats 6400000 in
theorem values_all {w : World} {B : Nat} {V X S Z : Nat → Prop} {h gs d g q : Nat} {s1 ca : Option Addr} {cc : Nat} {G : HoG} (H : Hk w B V X S Z h gs d g q s1 ca cc G) {x : Fr} {T : List Fr} (hF : G.F = x :: T) (p : Int) (hx : x.has p = true) :
    Calls Tryz.prog 69 #[tp h, .int .i64 p, .int .i64 15] w fun e w' => e = .returned (.agg #[.complex .f64 x.a.1 x.a.2, .complex .f64 x.b.1 x.b.2, .complex .f64 x.c.1 x.c.2, .complex .f64 x.d.1 x.d.2]) ∧ ∃ V' X' S', (∀ k, X k → X' k) ∧ Hk w' B V' X' S' Z h gs d g q s1 ca cc { G with F := x.use :: T } ∧ Hx B X w w' := by
  have hst := fun (ad : Addr) (re im : Nat) (W : World) => run_store Tryz.prog W ad (.complex .f64 re im) .plain rfl
  obtain ⟨r0, hr0⟩ : ∃ r, w.heap.size = r := ⟨_, rfl⟩
  obtain ⟨W, hW⟩ : ∃ W, w.alloc (v4O (0, 0) (0, 0) (0, 0) (0, 0)) = W := ⟨_, rfl⟩
  have hbA : Below w.heap.size w W := hW ▸ (Below.refl _ _).alloc (Nat.le_refl _) _
  have hrn : W.heap[r0]? = some (v4O (0, 0) (0, 0) (0, 0) (0, 0)) := hW ▸ hr0 ▸ heap_alloc_new w _
  have HW := hidOf (H.below hbA)
  have hX : Nv w W X r0 := .inr ⟨by omega, (Array.getElem?_eq_some_iff.1 hrn).1⟩
  have HP : Hid (Calls Tryz.prog 17 #[tp gs, .int .i64 p] W fun e w' => e = .returned (.tuple #[.agg #[.int .i64 x.l, .complex .f64 x.a.1 x.a.2, .complex .f64 x.b.1 x.b.2, .complex .f64 x.c.1 x.c.2, .complex .f64 x.d.1 x.d.2], .int .i64 0]) ∧ w'.heap[r0]? = some (v4O (0, 0) (0, 0) (0, 0) (0, 0)) ∧ Hid (∃ V2 S2, Hk w' B V2 (Nv w W X) S2 Z h gs d g q s1 ca cc { G with F := x.use :: T } ∧ Hx B (Nv w W X) W w')) := by
    have hsw := HW.out.sw
    rw [hF] at hsw
    refine (pageS_hit hsw p hx).mono ?_
    rintro e w' ⟨rfl, hn⟩
    have hx2 := HW.out.storeX hn
    obtain ⟨V2, S2, h2⟩ := HW.out.store hn
    exact ⟨rfl, (hx2.keep r0 hX).trans hrn, V2, S2, h2, hx2⟩
  obtain ⟨c0, c1, c2, c3, c4, c5, c6, c7, c8, c9, cA, cB, cC⟩ := HW.out.cells
  have HB := hidOf (show Below w.heap.size w W ∧ Hk w B V X S Z h gs d g q s1 ca cc G from ⟨hbA, H⟩)
  have hrn0 := hidOf hrn
  clear c0 c1 c3 c4 c5 c6 c7 c8 c9 cA cB cC hX hbA hrn hx hF H
  go_enter Tryz.func69, Tryz.ntmps69
  go_upto_region 2 with (first
    | (go_at_call 17; refine HP.out.mono ?_; rintro e w1 ⟨rfl, hr1, H1⟩)
    | fail)
  obtain ⟨pb, hpb⟩ : ∃ r, w1.heap.size = r := ⟨_, rfl⟩
  obtain ⟨W2, hW2⟩ : ∃ W2, w1.alloc (pgO x.l x.a x.b x.c x.d) = W2 := ⟨_, rfl⟩
  have hbB : Below w1.heap.size w1 W2 := hW2 ▸ (Below.refl _ _).alloc (Nat.le_refl _) _
  have hpn : W2.heap[pb]? = some (pgO x.l x.a x.b x.c x.d) := hW2 ▸ hpb ▸ heap_alloc_new w1 _
  have hr2 : W2.heap[r0]? = some (v4O (0, 0) (0, 0) (0, 0) (0, 0)) := (hbB.block r0 (Array.getElem?_eq_some_iff.1 hr1).1).trans hr1
  obtain ⟨p0, p1, p2, p3, p4⟩ := pg_cells hpn
  obtain ⟨q0, q1, q2, q3⟩ := v4_cells hr2
  have qf : ∀ j, W2.frozen? ⟨r0, j, none⟩ = false := fun j => frozen_of_row _ _ _ _ _ hr2
  have qf0 := qf 0
  have qf1 := qf 1
  have qf2 := qf 2
  have qf3 := qf 3
  have HC := hidOf (show Below w1.heap.size w1 W2 ∧ W2.heap[r0]? = some (v4O (0, 0) (0, 0) (0, 0) (0, 0)) ∧ w.heap.size = r0 from ⟨hbB, hr2, hr0⟩)
  show Code.wp _ _ _ _ (w1.alloc (pgO x.l x.a x.b x.c x.d))
  rw [hW2, hpb]
  clear hbB hpn hr2 qf hpb hW2 hr1 HP c2 hW hr0
  go_wp2
  go_loopw [19] (fun i wr => (i = .int .i64 0 ∨ i = .int .i64 1 ∨ i = .int .i64 2 ∨ i = .int .i64 3 ∨ i = .int .i64 4) ∧ wr = W2) (fun i _ => 4 - (intOf i).toNat)
  case atStart => exact ⟨.inl rfl, rfl⟩
  case round =>
    obtain ⟨hi, rfl⟩ := hrel
    rcases hi with rfl | rfl | rfl | rfl | rfl
    · go_wp2
      go_roundw
      case rel => exact ⟨.inr (.inl rfl), trivial⟩
      case measure => simp [intOf]
    · go_wp2
      go_roundw
      case rel => exact ⟨.inr (.inr (.inl rfl)), trivial⟩
      case measure => simp [intOf]
    · go_wp2
      go_roundw
      case rel => exact ⟨.inr (.inr (.inr (.inl rfl))), trivial⟩
      case measure => simp [intOf]
    · go_wp2
      go_roundw
      case rel => exact ⟨.inr (.inr (.inr (.inr rfl))), trivial⟩
      case measure => simp [intOf]
    · go_wp2
      have g1 : (wr.setCell ⟨r0, 0, none⟩ (.complex .f64 x.a.1 x.a.2)).heap[r0]? = some (v4O x.a (0, 0) (0, 0) (0, 0)) := by rw [heap_setCell_same wr r0 _ _ 45 _ HC.out.2.1]; rfl
      have g2 : ((wr.setCell ⟨r0, 0, none⟩ (.complex .f64 x.a.1 x.a.2)).setCell ⟨r0, 1, none⟩ (.complex .f64 x.b.1 x.b.2)).heap[r0]? = some (v4O x.a x.b (0, 0) (0, 0)) := by rw [heap_setCell_same _ r0 _ _ 45 _ g1]; rfl
      have g3 : (((wr.setCell ⟨r0, 0, none⟩ (.complex .f64 x.a.1 x.a.2)).setCell ⟨r0, 1, none⟩ (.complex .f64 x.b.1 x.b.2)).setCell ⟨r0, 2, none⟩ (.complex .f64 x.c.1 x.c.2)).heap[r0]? = some (v4O x.a x.b x.c (0, 0)) := by rw [heap_setCell_same _ r0 _ _ 45 _ g2]; rfl
      have g4 : ((((wr.setCell ⟨r0, 0, none⟩ (.complex .f64 x.a.1 x.a.2)).setCell ⟨r0, 1, none⟩ (.complex .f64 x.b.1 x.b.2)).setCell ⟨r0, 2, none⟩ (.complex .f64 x.c.1 x.c.2)).setCell ⟨r0, 3, none⟩ (.complex .f64 x.d.1 x.d.2)).heap[r0]? = some (v4O x.a x.b x.c x.d) := by rw [heap_setCell_same _ r0 _ _ 45 _ g3]; rfl
      have ho : OffS (fun k => k = r0) wr ((((wr.setCell ⟨r0, 0, none⟩ (.complex .f64 x.a.1 x.a.2)).setCell ⟨r0, 1, none⟩ (.complex .f64 x.b.1 x.b.2)).setCell ⟨r0, 2, none⟩ (.complex .f64 x.c.1 x.c.2)).setCell ⟨r0, 3, none⟩ (.complex .f64 x.d.1 x.d.2)) := ((((OffS.refl (fun k => k = r0) wr).setCell rfl _).setCell rfl _).setCell rfl _).setCell rfl _
      clear g1 g2 g3
      generalize (((wr.setCell ⟨r0, 0, none⟩ (.complex .f64 x.a.1 x.a.2)).setCell ⟨r0, 1, none⟩ (.complex .f64 x.b.1 x.b.2)).setCell ⟨r0, 2, none⟩ (.complex .f64 x.c.1 x.c.2)).setCell ⟨r0, 3, none⟩ (.complex .f64 x.d.1 x.d.2) = U at *
      obtain ⟨u0, u1, u2, u3⟩ := v4_cells g4
      refine bodyPost_ret (by simp [results, Tryz.results69, go_sem, u0, u1, u2, u3]; try rfl) rfl ?_
      obtain ⟨V2, S2, k1, k2⟩ := H1.out
      obtain ⟨b1, b2, b3⟩ := HC.out
      obtain ⟨a1, H⟩ := HB.out
      have hz1 := a1.size
      have hz2 := k2.bel.size
      have hrl := H.hB
      have hx0 : Nv w W X r0 := .inr ⟨by omega, Nat.lt_of_lt_of_le (Array.getElem?_eq_some_iff.1 hrn0.out).1 (Nat.le_refl _)⟩
      have k3 := k1.below b1
      have hA : ∀ k, k = r0 → Nv w1 wr (Nv w W X) k ∧ B ≤ k := fun k e => ⟨.inl (e ▸ hx0), by omega⟩
      refine ⟨rfl, _, _, S2, fun k hk => .inl (.inl (.inl hk)), k3.alien ho hA, ?_⟩
      have e1 : Hx B X w W := Hx.of_below H.hB H.xlt a1
      have e2 : Hx B X w w1 := e1.trans k2 fun k hk => .inl hk
      have e3 : Hx B X w1 wr := Hx.of_below (by omega) (fun k hk => by have := H.xlt k hk; omega) b1
      have e4 : Hx B X wr U := ⟨ho.below (fun k e => (hA k e).2) (by have := b1.size; omega), fun k hk => ho.block k (by have := H.xlt k hk; have := b1.size; omega) (by have := H.xlt k hk; omega)⟩
      exact (e2.trans e3 fun _ h => h).trans e4 fun _ h => h

end Go.Proofs.YtpofihiojhbfgaaGreatDoor

namespace Go.Proofs.YtpofihiojhbfgaaGreatDoor
open Go.RowKit
set_option linter.unusedVariables false
set_option maxRecDepth 8000

theorem byB_len (M : Mg) : (byB M).length = (Msg.msgZ M).length := by rw [byB, nb_length]

theorem wpList_append_atS {P : Program} (w : World) {ops : Array Oper} {rest : List Oper} {o : Oper} {a : Act} {Q : Exit → Act → World → Prop} (hgd : o.guard = none) (s x : Operand) (t : TypeId)
    (ho : o.op = .call { callee := .builtin .append, args := #[s, x], argTypes := #[t, t] })
    (base : Nat) (e : TypeId) (z : Value) (bytes : Nat) (ht : P.underlying t = some (.slice e))
    (hinfo : (P.info? e).map (fun i => (i.zero, i.size, i.bytes)) = some (some z, 1, bytes)) (hzs : z.cells.size = 1)
    {ao : Option Addr} {cap n : Nat} {xs : List Value} {ao' : Option Addr} {cap' m : Nat} {ys : List Value}
    (hs : a.eval s = .slice ao n cap) (hx : a.eval x = .slice ao' m cap') (hown : OwnS w base e ao cap xs) (hrd : RdS w ao' cap' ys) (hn : xs.length = n) (hm : ys.length = m)
    (h1 : ∀ u ∈ ys, u.oneCell' = true) (hbytes : (n + m) * bytes ≤ 140737488355328) (h63 : n + m ≤ maxLen) (hbase : base ≤ w.heap.size)
    (h : ∀ ao2 cap2 w', OwnS w' base e ao2 cap2 (xs ++ ys) → w.grownBy w' (Value.ownBlock (.slice ao n cap)) → (ao2 = ao ∨ ao2 = some ⟨w.heap.size, 0, none⟩) → wpList P ops Q rest (a.put o.dst (.slice ao2 (n + m) cap2)) w') : wpList P ops Q (o :: rest) a w := by
  subst hn hm
  refine wpList_plain hgd fun _ hK => ?_
  obtain ⟨ao2, cap2, w', hr, h2, h3, h4⟩ := run_append_at (P := P) base t o.type e z bytes ht hinfo hzs hown hrd h1 hbytes h63 hbase
  unfold Oper.wp execOp
  simp only [ho, resolve, invoke, builtin, Sem.run_bind, Sem.run_pure, Result.andThen_ok, List.map_toArray, List.map_cons, List.map_nil, hs, hx, hr]
  exact hK _ _ (h ao2 cap2 w' h2 h3 h4)

theorem own_ne {W : World} {xo : Option Addr} {xc : Nat} {vs : List Value} (h : OwnS W 0 31 xo xc vs) {g : Nat} {cs : Array Value} {fr : Nat × Nat} (hg : W.heap[g]? = some (.cells cs 66 fr)) : ∀ x, xo = some x → x.block ≠ g := by
  intro x hx e
  obtain ⟨cs', fr', h1⟩ := Lnk.Ty.own h x hx
  rw [e, hg] at h1
  simp at h1

section
variable {W W1 : World} {D Y : Nat → Prop} {t l : Nat} {xo : Option Addr} {n xc : Nat} {vs : List Value} {I : LkI} {L : List (List Nat)} {sn h : Nat} {si : Int} {fr : Bool} {bss : List (List Nat)}
theorem Sk.keep (H : Sk W D Y t l xo n xc vs I L sn h si fr bss) (hb : Below W.heap.size W W1) (hD : ∀ k, Y k → k < W.heap.size) : Sk W1 D Y t l xo n xc vs I L sn h si fr bss :=
  ⟨(hb.block t (Array.getElem?_eq_some_iff.1 H.blk).1).trans H.blk, H.lk.below hb, H.row.below hb, ⟨H.bys.len, fun i v bs e1 e2 => (H.bys.each i v bs e1 e2).below hb⟩, H.len, H.td, fun x hx => ⟨(H.xd x hx).1, (H.xd x hx).2.1, Nat.lt_of_lt_of_le (H.xd x hx).2.2 hb.size⟩, H.yd⟩
theorem Sk.app (H : Sk W D Y t l xo n xc vs I L sn h si fr bss) {N : Nat} (hN : ∀ k, D k → k < N) {v : Value} {bs : List Nat} (hv : Lnk.By W (fun k => N ≤ k) v bs) {ao : Option Addr} {cap : Nat} (ho : OwnS W1 0 31 ao cap (vs ++ [v])) (hg : W.grownBy W1 (Value.ownBlock (.slice xo n xc))) (hp : ao = xo ∨ ao = some ⟨W.heap.size, 0, none⟩) :
    W1.heap[t]? = W.heap[t]? ∧ (W1.setCell ⟨t, 2, none⟩ (.slice ao (n + 1) cap)).heap[t]? = some (seO I.ep l ao (n + 1) cap si fr) ∧ Sk ((W1.setCell ⟨t, 2, none⟩ (.slice ao (n + 1) cap)).setCell ⟨t, 4, none⟩ (.bool true)) D (fun k => Y k ∨ N ≤ k) t l ao (n + 1) cap (vs ++ [v]) I L sn h si true (bss ++ [bs]) ∧ OffS (fun k => k = t ∨ Ro xo k) W ((W1.setCell ⟨t, 2, none⟩ (.slice ao (n + 1) cap)).setCell ⟨t, 4, none⟩ (.bool true)) := by
  have htz : t < W.heap.size := (Array.getElem?_eq_some_iff.1 H.blk).1
  have hO : Off2 W.heap.size xo W W1 := .of_grown _ hg
  have e1 : W1.heap[t]? = W.heap[t]? := hO.block t htz (by omega) (own_ne H.row H.blk)
  have hrow : W.ownsRow 0 31 1 (.slice xo n xc) vs.length vs := by
    have := H.row
    unfold OwnS at this
    rw [H.len] at this ⊢
    exact this
  have e2 : (W1.setCell ⟨t, 2, none⟩ (.slice ao (n + 1) cap)).heap[t]? = some (seO I.ep l ao (n + 1) cap si fr) := by
    rw [heap_setCell_same W1 t _ _ 66 _ (e1.trans H.blk)]; rfl
  have hOff : OffS (fun k => k = t ∨ Ro xo k) W ((W1.setCell ⟨t, 2, none⟩ (.slice ao (n + 1) cap)).setCell ⟨t, 4, none⟩ (.bool true)) := by
    refine OffS.setCell (OffS.setCell ⟨hO.os, hO.tape, hO.output, hO.size, fun k hk hn => hO.block k hk (by omega) fun x hx e => hn (.inr ⟨x, hx, e⟩)⟩ (.inl rfl) _) (.inl rfl) _
  have hs2 := hOff.size
  have hby : ∀ {U : Nat → Prop} u b, Lnk.By W U u b → Lnk.By ((W1.setCell ⟨t, 2, none⟩ (.slice ao (n + 1) cap)).setCell ⟨t, 4, none⟩ (.bool true)) U u b := fun u b h => by
    have h1 : Lnk.By W1 _ u b := h.grown hrow (by decide) hg
    refine h1.keepx (by simp) fun k cs fr hk => ?_
    have hkt : k ≠ t := by
      intro e
      rw [e, e1, H.blk] at hk
      simp at hk
    rw [Below.heap_setCell _ _ _ _ hkt, Below.heap_setCell _ _ _ _ hkt]
  refine ⟨e1, e2, ⟨?_, ?_, ?_, ?_, by simp [H.len], H.td, ?_, ?_⟩, hOff⟩
  · rw [heap_setCell_same _ t _ _ 66 _ e2]; rfl
  · refine H.lk.keep hs2 fun k hk => hOff.block k (H.lk.lt k hk) ?_
    rintro (rfl | ⟨x, hx, rfl⟩)
    · exact H.td hk
    · exact (H.xd x hx).2.1 hk
  · have hne := own_ne ho (e1.trans H.blk)
    refine (ho.keep fun x hx => Below.heap_setCell _ _ _ _ (hne x hx)).keep fun x hx => Below.heap_setCell _ _ _ _ (hne x hx)
  · exact Lnk.Bys.snoc ⟨H.bys.len, fun i u b h1 h2 => (hby u b (H.bys.each i u b h1 h2)).mono fun k _ hk => .inl hk⟩ ((hby v bs hv).mono fun k _ hk => .inr hk)
  · intro x hx
    have hlt := (ho.inn x hx).2
    refine ⟨own_ne ho (e1.trans H.blk) x hx, ?_, by simpa using hlt⟩
    rcases hp with rfl | rfl
    · exact (H.xd x hx).2.1
    · cases hx
      intro e
      have := H.lk.lt _ e
      simp at this
  · rintro k (hk | hk) e
    · exact H.yd k hk e
    · have := hN k e
      omega
end

set_option maxHeartbeats 3200000 in
theorem say_se {w : World} {Z : Nat → Prop} {t h : Nat} {bo pa : Int} {gs d : Nat} {e1 : Int} {co : Value} {I : LkI} {L : List (List Nat)} {sn hh : Nat} {si : Int} {fr : Bool} {bss : List (List Nat)}
    (hH : w.heap[h]? = some (hoO bo pa gs d (some ⟨t, 0, none⟩) e1 co)) (hz : ¬ Z h) (H : Se w Z t I L sn hh si fr bss) (hb : bss.length ≤ 1000) (M : Mg) (po : Option Addr) (pn pc : Nat) (hM : Msg.rightB M = true) (hW : Msg.Wd M) (hP : RdP w po pn pc M.ps) :
    Calls Tryz.prog 66 #[tp h, .int .i64 1, Msg.msV M po pn pc] w fun e w' => e = .returned (.tuple #[]) ∧ ∃ Z', (∀ k, Z' k → Z k ∨ w.heap.size ≤ k) ∧ Se w' Z' t I L sn hh si true (bss ++ [byB M]) ∧ OffS Z w w' := by
  obtain ⟨D, Y, l, xo, n, xc, vs, h1, h2, h3, h4, h5, h6⟩ := H
  obtain ⟨W, hW0⟩ : ∃ W, w.alloc (Msg.msO M po pn pc) = W := ⟨_, rfl⟩
  have hbA : Below w.heap.size w W := hW0 ▸ (Below.refl _ _).alloc (Nat.le_refl _) _
  have hMA : Msg.MgAt W w.heap.size M po pn pc := hW0 ▸ Msg.MgAt.new w M po pn pc
  have hH2 := (hbA.block h (Array.getElem?_eq_some_iff.1 hH).1).trans hH
  have HA : Hid (Sk w D Y t l xo n xc vs I L sn hh si fr bss ∧ (Z t ∧ (∀ k, D k → Z k) ∧ (∀ k, Y k → Z k) ∧ (∀ x, xo = some x → Z x.block) ∧ ∀ k, Z k → k < w.heap.size) ∧ bss.length ≤ 1000 ∧ Below w.heap.size w W) := ⟨h1, ⟨h2, h3, h4, h5, h6⟩, hb, hbA⟩
  have hn : n ≤ 1000 := by rw [← h1.len, h1.bys.len]; exact hb
  have HB : Hid (Calls Tryz.prog 105 #[Msg.msV M po pn pc] W fun e w' => ∃ a2 q c2, e = .returned (.tuple #[.slice a2 q c2, .int .i64 0]) ∧ w'.cell? ⟨t, 2, none⟩ = some (.slice xo n xc) ∧ Hid (Below w.heap.size w w' ∧ Lnk.By w' (fun k => w.heap.size ≤ k) (.slice a2 q c2) (byB M))) := by
    refine (Msg.bytes_ok M po pn pc _ (hP.below hbA) hM hW).mono ?_
    rintro e w' ⟨a2, c2, rfl, k1, k2⟩
    have hb2 : Below w.heap.size w w' := below_step hbA k2
    obtain ⟨-, -, m2, -, -⟩ := se_cells ((hb2.block t (h6 t h2)).trans h1.blk)
    refine ⟨a2, _, c2, rfl, m2, hb2, (Lnk.By.own (base := W.heap.size) (bs := byB M) ⟨?_, ?_, nb_bytes (Msg.msgZ_bd M)⟩).mono fun k _ hk => Nat.le_trans hbA.size hk⟩
    · rw [byB, ci_nb (Msg.msgZ_bd M)]; exact k1
    · exact byB_len M
  obtain ⟨c0, c1, c2, c3, c4, c5, c6, c7, c8, c9, cA, cB, cC⟩ := ho_cells hH2
  clear c0 c1 c2 c3 c4 c6 c7 c8 c9 cA cB cC hH hH2 hz hb hM hW hP h1 h2 h3 h4 h5 h6 hbA
  obtain ⟨b, hb⟩ : ∃ b, w.heap.size = b := ⟨_, rfl⟩
  have HM : Hid (Msg.MgAt W b M po pn pc) := hb ▸ hMA
  clear hMA
  have y0 := HM.out.c0
  have y1 := HM.out.c1
  have y2 := HM.out.c2
  have y3 := HM.out.c3
  have y4 := HM.out.c4
  have y5 := HM.out.c5
  have y6 := HM.out.c6
  have y7 := HM.out.c7
  have y8 := HM.out.c8
  have y9 := HM.out.c9
  have yA := HM.out.cA
  have yB := HM.out.cB
  go_enter Tryz.func66, Tryz.ntmps66
  go_upto_region 1 with fail
  have HWb : Hid (w.alloc (Msg.msO M po pn pc) = W ∧ w.heap.size = b) := ⟨hW0, hb⟩
  clear hW0 hb
  go_upto_region 4 with (first
    | (go_at_call 105; refine HB.out.mono ?_; rintro e w3 ⟨a2, q, cq, rfl, m2, H3⟩)
    | fail)
  clear y0 y1 y2 y3 y4 y5 y6 y7 y8 y9 yA yB HB c5 HM
  have hbB : Below w3.heap.size w3 (w3.alloc (.cells #[.slice a2 q cq] 31)) := (Below.refl _ _).alloc (Nat.le_refl _) _
  have HC : Hid (Sk (w3.alloc (.cells #[.slice a2 q cq] 31)) D Y t l xo n xc vs I L sn hh si fr bss ∧ Lnk.By (w3.alloc (.cells #[.slice a2 q cq] 31)) (fun k => w.heap.size ≤ k) (.slice a2 q cq) (byB M) ∧ Below w.heap.size w (w3.alloc (.cells #[.slice a2 q cq] 31))) := by
    have hy : ∀ k, Y k → k < w.heap.size := fun k hk => HA.out.2.1.2.2.2.2 k (HA.out.2.1.2.2.1 k hk)
    exact ⟨HA.out.1.keep (below_step H3.out.1 hbB) hy, H3.out.2.below hbB, below_step H3.out.1 hbB⟩
  clear hbB
  go_upto_region 5 with (first
    | (at_builtin; refine wpList_append_atS _ rfl _ _ 64 rfl 0 31 _ 24 Tryz.underlying64 Lnk.info27 rfl (xs := vs) (ys := [.slice a2 q cq]) rfl rfl HC.out.1.row (RdS.one w3 31 _) HC.out.1.len rfl (by simp [HC.out.2.1.one]) (by omega) (by unfold maxLen; omega) (Nat.zero_le _) ?_; intro ao4 cap4 w4 ho4 hg4 hp4; have H4 : Hid _ := HC.out.1.app (fun k hk => HA.out.2.1.2.2.2.2 k (HA.out.2.1.2.1 k hk)) HC.out.2.1 ho4 hg4 hp4; obtain ⟨-, -, m6, -, -⟩ := se_cells (H4.out.1.trans HC.out.1.blk); have f6 := se_fz (H4.out.1.trans HC.out.1.blk) 2)
    | fail)
  obtain ⟨-, -, -, -, m7⟩ := se_cells H4.out.2.1
  have f7 := se_fz H4.out.2.1 4
  clear m2 m6 f6
  go_wp2
  go_end0
  obtain ⟨k1, k2, k3, k4⟩ := H4.out
  have hsz := k4.size
  refine ⟨rfl, fun k => (Z k ∨ w.heap.size ≤ k) ∧ k < ((w4.setCell ⟨t, 2, none⟩ (.slice ao4 (n + 1) cap4)).setCell ⟨t, 4, none⟩ (.bool true)).heap.size, fun k hk => hk.1, ⟨D, fun k => (Y k ∨ w.heap.size ≤ k) ∧ k < ((w4.setCell ⟨t, 2, none⟩ (.slice ao4 (n + 1) cap4)).setCell ⟨t, 4, none⟩ (.bool true)).heap.size, l, ao4, n + 1, cap4, _, ⟨k3.blk, k3.lk, k3.row, k3.bys.mono fun k hk hY => ⟨hY, hk⟩, k3.len, k3.td, k3.xd, fun k hk => k3.yd k hk.1⟩, ⟨.inl HA.out.2.1.1, ?_⟩, fun k hk => ⟨.inl (HA.out.2.1.2.1 k hk), k3.lk.lt k hk⟩, fun k hk => ⟨hk.1.imp (HA.out.2.1.2.2.1 k) id, hk.2⟩, fun x hx => ⟨?_, (k3.xd x hx).2.2⟩, fun k hk => hk.2⟩, ?_⟩
  · exact (Array.getElem?_eq_some_iff.1 k3.blk).1
  · rcases hp4 with rfl | rfl
    · exact .inl (HA.out.2.1.2.2.2.1 x hx)
    · cases hx
      exact .inr HC.out.2.2.size
  · refine (OffS.of_below HC.out.2.2).trans (k4.mono fun k hk => ?_)
    rcases hk with rfl | ⟨x, hx, rfl⟩
    · exact .inl HA.out.2.1.1
    · exact .inl (HA.out.2.1.2.2.2.1 x hx)

end Go.Proofs.YtpofihiojhbfgaaGreatDoor

namespace Go.Proofs.YtpofihiojhbfgaaGreatDoor
open Go.RowKit
set_option linter.unusedVariables false
set_option maxRecDepth 8000

theorem say_hk {w : World} {B : Nat} {V X S Z : Nat → Prop} {h gs d g q : Nat} {s1 ca : Option Addr} {cc : Nat} {G : HoG} (H : Hk w B V X S Z h gs d g q s1 ca cc G) {s : Sg} (hs : G.se = some s) (hb : s.out.length ≤ 1000) (M : Mg) (po : Option Addr) (pn pc : Nat) (hM : Msg.rightB M = true) (hW : Msg.Wd M) (hP : RdP w po pn pc M.ps) :
    Calls Tryz.prog 66 #[tp h, .int .i64 1, Msg.msV M po pn pc] w fun e w' => e = .returned (.tuple #[]) ∧ ∃ V' Z', Hk w' B V' X S Z' h gs d g q s1 ca cc { G with se := some { s with fr := true, out := s.out ++ [byB M] } } ∧ Hx B X w w' := by
  obtain ⟨t, ht, hse⟩ := H.ss.yes hs
  have hblk := H.blk
  rw [ht] at hblk
  refine (say_se hblk H.hz hse hb M po pn pc hM hW hP).mono ?_
  rintro e w' ⟨rfl, Z', k1, k2, k3⟩
  obtain ⟨V2, k4⟩ := H.sess (s2 := { s with fr := true, out := s.out ++ [byB M] }) ht k3 k2 k1 (X2 := X) fun k hk => .inl hk
  exact ⟨rfl, V2, Z', k4, H.sessX k3⟩

abbrev grO (p ow : Int) (a b c d : Nat × Nat) : Obj := .cells #[.int .i64 1, .int .i64 5, .int .i64 p, .int .i64 0, .int .i64 0, .int .i64 15, .int .i64 ow, .bool false, .slice none 0 0, .complex .f64 a.1 a.2, .complex .f64 b.1 b.2, .complex .f64 c.1 c.2, .complex .f64 d.1 d.2] 151
abbrev grM (p ow : Int) (a b c d : Nat × Nat) : Mg := ⟨5, p, 0, 0, 15, ow, false, [], a, b, c, d⟩
structure GrC (w : World) (k : Nat) (p ow : Int) (a b c d : Nat × Nat) : Prop where
  c0 : w.cell? ⟨k, 0, none⟩ = some (.int .i64 1)
  c1 : w.cell? ⟨k, 1, none⟩ = some (.int .i64 5)
  c2 : w.cell? ⟨k, 2, none⟩ = some (.int .i64 p)
  c3 : w.cell? ⟨k, 3, none⟩ = some (.int .i64 0)
  c4 : w.cell? ⟨k, 4, none⟩ = some (.int .i64 0)
  c5 : w.cell? ⟨k, 5, none⟩ = some (.int .i64 15)
  c6 : w.cell? ⟨k, 6, none⟩ = some (.int .i64 ow)
  c7 : w.cell? ⟨k, 7, none⟩ = some (.bool false)
  c8 : w.cell? ⟨k, 8, none⟩ = some (.slice none 0 0)
  c9 : w.cell? ⟨k, 9, none⟩ = some (.complex .f64 a.1 a.2)
  cA : w.cell? ⟨k, 10, none⟩ = some (.complex .f64 b.1 b.2)
  cB : w.cell? ⟨k, 11, none⟩ = some (.complex .f64 c.1 c.2)
  cC : w.cell? ⟨k, 12, none⟩ = some (.complex .f64 d.1 d.2)
theorem gr_cells {w : World} {k : Nat} {p ow : Int} {a b c d : Nat × Nat} (h : w.heap[k]? = some (grO p ow a b c d)) : GrC w k p ow a b c d := by
  refine ⟨?_, ?_, ?_, ?_, ?_, ?_, ?_, ?_, ?_, ?_, ?_, ?_, ?_⟩
  all_goals rw [cell_of_row _ _ _ _ _ _ h]; rfl

set_option maxHeartbeats 6400000 in
theorem sayActs_grant {w : World} {B : Nat} {V X S Z : Nat → Prop} {h gs d g q : Nat} {s1 ca : Option Addr} {cc : Nat} {G : HoG} (H : Hk w B V X S Z h gs d g q s1 ca cc G) {x : Fr} {T : List Fr} (hF : G.F = x :: T) (p : Int) (hx : x.has p = true) {s : Sg} (hs : G.se = some s) (hb : s.out.length ≤ 1000) (ow : Int) (a : Option Addr) (c : Nat)
    (hr : OwR Dsk.saC 13 151 w a c [⟨1, 5, p, 0, 15, ow, false⟩]) (hX : ∀ y, a = some y → X y.block) (hM : Msg.rightB (grM p ow x.a x.b x.c x.d) = true) (hW : Msg.Wd (grM p ow x.a x.b x.c x.d)) :
    Calls Tryz.prog 40 #[tp h, .slice a 1 c] w fun e w' => e = .returned (.tuple #[]) ∧ ∃ V' X' S' Z', (∀ k, X k → X' k) ∧ Hk w' B V' X' S' Z' h gs d g q s1 ca cc { G with F := x.use :: T, se := some { s with fr := true, out := s.out ++ [byB (grM p ow x.a x.b x.c x.d)] } } ∧ Hx B X w w' := by
  have hst := fun (ad : Addr) (re im : Nat) (W : World) => run_store Tryz.prog W ad (.complex .f64 re im) .plain rfl
  have HA := hidOf (show Hk w B V X S Z h gs d g q s1 ca cc G ∧ G.F = x :: T ∧ x.has p = true ∧ G.se = some s ∧ s.out.length ≤ 1000 ∧ Msg.rightB (grM p ow x.a x.b x.c x.d) = true ∧ Msg.Wd (grM p ow x.a x.b x.c x.d) from ⟨H, hF, hx, hs, hb, hM, hW⟩)
  obtain ⟨b, off, rfl, hbl, hcc⟩ := hr.rd.at Dsk.saE (t := 0) (by simp)
  have y0 := hcc 0 _ rfl
  have y1 := hcc 1 _ rfl
  have y2 := hcc 2 _ rfl
  have y3 := hcc 3 _ rfl
  have y4 := hcc 4 _ rfl
  have y5 := hcc 5 _ rfl
  have y6 := hcc 6 _ rfl
  have y7 := hcc 7 _ rfl
  have y8 := hcc 8 _ rfl
  have y9 := hcc 9 _ rfl
  have yA := hcc 10 _ rfl
  have yB := hcc 11 _ rfl
  have yC := hcc 12 _ rfl
  simp only [Nat.zero_mul, Nat.add_zero, List.getElem_cons_zero] at y0 y1 y2 y3 y4 y5 y6 y7 y8 y9 yA yB yC
  clear hcc hr H hF hx hs hb hM hW hX hbl
  go_enter Tryz.func40, Tryz.ntmps40
  go_wp2
  go_loopw [8] (fun i wr => (i = .int .i64 0 ∧ wr = w) ∨ (i = .int .i64 1 ∧ Hid (∃ V' X' S' Z', (∀ k, X k → X' k) ∧ Hk wr B V' X' S' Z' h gs d g q s1 ca cc { G with F := x.use :: T, se := some { s with fr := true, out := s.out ++ [byB (grM p ow x.a x.b x.c x.d)] } } ∧ Hx B X w wr))) (fun i _ => 1 - (intOf i).toNat)
  case atStart => exact .inl ⟨rfl, rfl⟩
  case round =>
    rcases hrel with ⟨rfl, rfl⟩ | ⟨rfl, HE⟩
    · go_upto_region 3 with fail
      obtain ⟨bk, hbk⟩ : ∃ r, wr.heap.size = r := ⟨_, rfl⟩
      obtain ⟨W1, hW1⟩ : ∃ W, wr.alloc (grO p ow (0, 0) (0, 0) (0, 0) (0, 0)) = W := ⟨_, rfl⟩
      have hbA : Below wr.heap.size wr W1 := hW1 ▸ (Below.refl _ _).alloc (Nat.le_refl _) _
      have hkn : W1.heap[bk]? = some (grO p ow (0, 0) (0, 0) (0, 0) (0, 0)) := hW1 ▸ hbk ▸ heap_alloc_new wr _
      have hXk : Nv wr W1 X bk := .inr ⟨by omega, (Array.getElem?_eq_some_iff.1 hkn).1⟩
      have H1 := HA.out.1.below hbA
      have HV : Hid (Calls Tryz.prog 69 #[tp h, .int .i64 p, .int .i64 15] W1 fun e w' => e = .returned (.agg #[.complex .f64 x.a.1 x.a.2, .complex .f64 x.b.1 x.b.2, .complex .f64 x.c.1 x.c.2, .complex .f64 x.d.1 x.d.2]) ∧ w'.heap[bk]? = some (grO p ow (0, 0) (0, 0) (0, 0) (0, 0)) ∧ Hid (∃ V' X' S', (∀ k, Nv wr W1 X k → X' k) ∧ Hk w' B V' X' S' Z h gs d g q s1 ca cc { G with F := x.use :: T } ∧ Hx B (Nv wr W1 X) W1 w')) := by
        refine (values_all H1 HA.out.2.1 p HA.out.2.2.1).mono ?_
        rintro e w' ⟨rfl, V', X', S', k1, k2, k3⟩
        exact ⟨rfl, (k3.keep bk hXk).trans hkn, V', X', S', k1, k2, k3⟩
      obtain ⟨z0, z1, z2, z3, z4, z5, z6, z7, z8, z9, zA, zB, zC⟩ := gr_cells hkn
      have HB := hidOf (show Below wr.heap.size wr W1 ∧ Nv wr W1 X bk ∧ wr.heap.size = bk from ⟨hbA, hXk, hbk⟩)
      show Code.wp _ _ _ _ (wr.alloc (grO p ow (0, 0) (0, 0) (0, 0) (0, 0)))
      rw [hW1, hbk]
      clear hbA hkn hXk H1 hW1 hbk y0 y1 y2 y3 y4 y5 y6 y7 y8 y9 yA yB yC
      go_upto_region 5 with (first
        | (go_at_call 69; (with_reducible refine HV.out.mono ?_); rintro e w2 ⟨rfl, hk2, H2⟩; have zf : ∀ j, w2.frozen? ⟨bk, j, none⟩ = false := (fun j => frozen_of_row _ _ _ _ _ hk2); have zf9 := zf 9; have zfA := zf 10; have zfB := zf 11; have zfC := zf 12; obtain ⟨v0, v1, v2, v3, v4, v5, v6, v7, v8, v9, vA, vB, vC⟩ := gr_cells hk2)
        | fail)
      have g1 : (w2.setCell ⟨bk, 9, none⟩ (.complex .f64 x.a.1 x.a.2)).heap[bk]? = some (grO p ow x.a (0, 0) (0, 0) (0, 0)) := by rw [heap_setCell_same _ bk _ _ 151 _ hk2]; rfl
      have g2 : ((w2.setCell ⟨bk, 9, none⟩ (.complex .f64 x.a.1 x.a.2)).setCell ⟨bk, 10, none⟩ (.complex .f64 x.b.1 x.b.2)).heap[bk]? = some (grO p ow x.a x.b (0, 0) (0, 0)) := by rw [heap_setCell_same _ bk _ _ 151 _ g1]; rfl
      have g3 : (((w2.setCell ⟨bk, 9, none⟩ (.complex .f64 x.a.1 x.a.2)).setCell ⟨bk, 10, none⟩ (.complex .f64 x.b.1 x.b.2)).setCell ⟨bk, 11, none⟩ (.complex .f64 x.c.1 x.c.2)).heap[bk]? = some (grO p ow x.a x.b x.c (0, 0)) := by rw [heap_setCell_same _ bk _ _ 151 _ g2]; rfl
      have g4 : ((((w2.setCell ⟨bk, 9, none⟩ (.complex .f64 x.a.1 x.a.2)).setCell ⟨bk, 10, none⟩ (.complex .f64 x.b.1 x.b.2)).setCell ⟨bk, 11, none⟩ (.complex .f64 x.c.1 x.c.2)).setCell ⟨bk, 12, none⟩ (.complex .f64 x.d.1 x.d.2)).heap[bk]? = some (grO p ow x.a x.b x.c x.d) := by rw [heap_setCell_same _ bk _ _ 151 _ g3]; rfl
      have ho : OffS (fun k => k = bk) w2 ((((w2.setCell ⟨bk, 9, none⟩ (.complex .f64 x.a.1 x.a.2)).setCell ⟨bk, 10, none⟩ (.complex .f64 x.b.1 x.b.2)).setCell ⟨bk, 11, none⟩ (.complex .f64 x.c.1 x.c.2)).setCell ⟨bk, 12, none⟩ (.complex .f64 x.d.1 x.d.2)) := ((((OffS.refl (fun k => k = bk) w2).setCell rfl _).setCell rfl _).setCell rfl _).setCell rfl _
      clear g1 g2 g3 zf zf9 zfA zfB zfC v0 v1 v2 v3 v4 v5 v6 v7 v8 v9 vA vB vC z0 z1 z2 z3 z4 z5 z6 z7 z8 z9 zA zB zC HV
      generalize ((((w2.setCell ⟨bk, 9, none⟩ (.complex .f64 x.a.1 x.a.2)).setCell ⟨bk, 10, none⟩ (.complex .f64 x.b.1 x.b.2)).setCell ⟨bk, 11, none⟩ (.complex .f64 x.c.1 x.c.2)).setCell ⟨bk, 12, none⟩ (.complex .f64 x.d.1 x.d.2)) = W3 at *
      obtain ⟨u0, u1, u2, u3, u4, u5, u6, u7, u8, u9, uA, uB, uC⟩ := gr_cells g4
      have HY : Hid (Calls Tryz.prog 66 #[tp h, .int .i64 1, Msg.msV (grM p ow x.a x.b x.c x.d) none 0 0] W3 fun e w' => e = .returned (.tuple #[]) ∧ Hid (∃ V' X' S' Z', (∀ k, X k → X' k) ∧ Hk w' B V' X' S' Z' h gs d g q s1 ca cc { G with F := x.use :: T, se := some { s with fr := true, out := s.out ++ [byB (grM p ow x.a x.b x.c x.d)] } } ∧ Hx B X wr w')) := by
        obtain ⟨V2, X2, S2, k1, k2, k3⟩ := H2.out
        obtain ⟨b1, b2, b3⟩ := HB.out
        obtain ⟨H, hF, hx, hs, hb, hM, hW⟩ := HA.out
        have hBb : B ≤ bk := by have := H.hB; omega
        have hA : ∀ k, k = bk → X2 k ∧ B ≤ k := fun k e => ⟨e ▸ k1 bk b2, by omega⟩
        have H3 := k2.alien ho hA
        refine (say_hk H3 hs hb _ none 0 0 hM hW (RdP.none _)).mono ?_
        rintro e w' ⟨rfl, V', Z', k4, k5⟩
        have hz := k3.bel.size
        have hz1 := b1.size
        have hz3 := ho.size
        have e1 : Hx B X wr W1 := Hx.of_below H.hB H.xlt b1
        have e2 : Hx B X wr w2 := e1.trans k3 fun k hk => .inl hk
        have e3 : Hx B X w2 W3 := ⟨ho.below (fun k e => (hA k e).2) (by have := H.hB; omega), fun k hk => ho.block k (by have := H.xlt k hk; omega) (by have := H.xlt k hk; omega)⟩
        exact ⟨rfl, V', _, S2, Z', fun k hk => .inl (k1 k (.inl hk)), k4, (e2.trans e3 fun _ h => h).trans k5 fun k hk => .inl (k1 k (.inl hk))⟩
      go_wp2_with (first
        | (go_at_call 66; (with_reducible refine HY.out.mono ?_); rintro e w4 ⟨rfl, H4⟩)
        | fail)
      go_roundw
      case rel => exact .inr ⟨rfl, H4⟩
      case measure => simp [intOf]
    · go_wp2
      go_end0
      exact ⟨rfl, HE.out⟩

end Go.Proofs.YtpofihiojhbfgaaGreatDoor

namespace Go.Proofs.YtpofihiojhbfgaaGreatDoor
open Go.RowKit
set_option linter.unusedVariables false
set_option maxRecDepth 8000

abbrev doM (tx : Int) : Mg := ⟨7, 0, 0, tx, 0, 0, false, [], (0, 0), (0, 0), (0, 0), (0, 0)⟩
theorem un_cells {w : World} {k : Nat} {x : Untd} (h : w.heap[k]? = some (unO x)) : w.cell? ⟨k, 0, none⟩ = some (.int .i64 x.cl) ∧ w.cell? ⟨k, 1, none⟩ = some (.int .i64 x.ep) ∧ w.cell? ⟨k, 2, none⟩ = some (.int .i64 x.tx) ∧ w.cell? ⟨k, 3, none⟩ = some (.int .i64 x.ls) := by
  refine ⟨?_, ?_, ?_, ?_⟩
  all_goals rw [cell_of_row _ _ _ _ _ _ h]; rfl

set_option maxHeartbeats 3200000 in
theorem tell_any {w : World} {B : Nat} {V X S Z : Nat → Prop} {h gs d g q : Nat} {s1 ca : Option Addr} {cc : Nat} {G : HoG} (H : Hk w B V X S Z h gs d g q s1 ca cc G) {s : Sg} (hs : G.se = some s) (hb : s.out.length ≤ 1000) (tx ls : Int) (hM : Msg.rightB (doM tx) = true) (hW : Msg.Wd (doM tx)) :
    Calls Tryz.prog 36 #[tp h, unV ⟨1, G.e1, tx, ls⟩] w fun e w' => e = .returned (.tuple #[]) ∧ ∃ V' X' Z', (∀ k, X k → X' k) ∧ Hk w' B V' X' S Z' h gs d g q s1 ca cc { G with se := some { s with fr := true, out := s.out ++ [byB (doM tx)] } } ∧ Hx B X w w' := by
  have HA := hidOf (show Hk w B V X S Z h gs d g q s1 ca cc G ∧ G.se = some s ∧ s.out.length ≤ 1000 ∧ Msg.rightB (doM tx) = true ∧ Msg.Wd (doM tx) from ⟨H, hs, hb, hM, hW⟩)
  clear H hs hb hM hW
  go_enter Tryz.func36, Tryz.ntmps36
  go_upto_region 1 with fail
  obtain ⟨bk, hbk⟩ : ∃ r, w.heap.size = r := ⟨_, rfl⟩
  obtain ⟨W, hW⟩ : ∃ W, w.alloc (unO ⟨1, G.e1, tx, ls⟩) = W := ⟨_, rfl⟩
  have hbA : Below w.heap.size w W := hW ▸ (Below.refl _ _).alloc (Nat.le_refl _) _
  have hkn : W.heap[bk]? = some (unO ⟨1, G.e1, tx, ls⟩) := hW ▸ hbk ▸ heap_alloc_new w _
  have HB := hidOf (show Below w.heap.size w W ∧ W.heap[bk]? = some (unO ⟨1, G.e1, tx, ls⟩) from ⟨hbA, hkn⟩)
  show Code.wp _ _ _ _ (w.alloc (unO ⟨1, G.e1, tx, ls⟩))
  rw [hW, hbk]
  clear hW hbk hbA hkn
  have HC : Hid (∀ U : World, U.heap[bk]? = W.heap[bk]? → U.cell? ⟨bk, 0, none⟩ = some (.int .i64 1) ∧ U.cell? ⟨bk, 1, none⟩ = some (.int .i64 G.e1)) := by
    intro U hU
    obtain ⟨y0, y1, y2, y3⟩ := un_cells (hU.trans HB.out.2)
    exact ⟨y0, y1⟩
  have HT : Hid (Calls Tryz.prog 6 #[tp h, .int .i64 1] W.drew fun e w' => e = .returned (.int .i64 G.e1) ∧ w'.heap[bk]? = W.heap[bk]? ∧ w' = W.drew) := by
    have H2 := HA.out.1.below (below_step HB.out.1 (bel0 W))
    obtain ⟨t, ht, hse⟩ := H2.ss.yes HA.out.2.1
    have hblk := H2.blk
    rw [ht] at hblk
    obtain ⟨l, v, e0, -⟩ := hse.cells
    refine (live_yes hblk e0).mono ?_
    rintro e w' ⟨rfl, rfl⟩
    exact ⟨rfl, rfl, rfl⟩
  refine wp_region_held (S := fun U => U.heap[bk]? = W.heap[bk]?) (by kernel_rfl) ?_
  have hS : W.drew.heap[bk]? = W.heap[bk]? := rfl
  refine held_val (i := 0) ?_ 4 rfl rfl (by kernel_rfl) (by kernel_rfl) (by kernel_rfl) (by rfl) (fun _ _ _ h => h) hS ?_ ?_
  rotate_left
  · (intro w hSw; go_simp; first | done | with_reducible rfl)
  simp only [Act.put, List.setIfInBounds_toArray, List.set_cons_zero, List.set_cons_succ]
  refine held_val (i := 1) ?_ 5 rfl rfl (by kernel_rfl) (by kernel_rfl) (by kernel_rfl) (by rfl) (fun _ _ _ h => h) hS ?_ ?_
  rotate_left
  · (intro w hSw; go_simp; first | done | with_reducible rfl)
  simp only [Act.put, List.setIfInBounds_toArray, List.set_cons_zero, List.set_cons_succ]
  refine held_val (i := 2) ?_ 6 rfl rfl (by kernel_rfl) (by kernel_rfl) (by kernel_rfl) (by rfl) (fun _ _ _ h => h) hS ?_ ?_
  rotate_left
  · (intro w hSw; obtain ⟨k0, k1⟩ := HC.out w hSw; go_simp; first | done | with_reducible rfl)
  simp only [Act.put, List.setIfInBounds_toArray, List.set_cons_zero, List.set_cons_succ]
  refine held_val (i := 4) ?_ 8 rfl rfl (by kernel_rfl) (by kernel_rfl) (by kernel_rfl) (by rfl) (fun _ _ _ h => h) hS ?_ ?_
  rotate_left
  · (intro w hSw; go_simp; first | done | with_reducible rfl)
  simp only [Act.put, List.setIfInBounds_toArray, List.set_cons_zero, List.set_cons_succ]
  refine held_val (i := 5) ?_ 9 rfl rfl (by kernel_rfl) (by kernel_rfl) (by kernel_rfl) (by rfl) (fun _ _ _ h => h) hS ?_ ?_
  rotate_left
  · (intro w hSw; obtain ⟨k0, k1⟩ := HC.out w hSw; go_simp; first | done | with_reducible rfl)
  simp only [Act.put, List.setIfInBounds_toArray, List.set_cons_zero, List.set_cons_succ]
  refine held_call (i := 3) 7 6 #[tp h, .int .i64 1] rfl rfl (by kernel_rfl) (by rfl) (by simp [go_sem]) HT.out ?_
  rintro e w3 ⟨rfl, hSx, hwx⟩
  refine ⟨_, rfl, hSx, ?_⟩
  have hS3 := hSx
  simp only [Act.put, List.setIfInBounds_toArray, List.set_cons_zero, List.set_cons_succ]
  refine held_val (i := 6) ?_ 10 rfl rfl (by kernel_rfl) (by kernel_rfl) (by kernel_rfl) (by rfl) (fun _ _ _ h => h) hS3 ?_ ?_
  rotate_left
  · (intro w hSw; go_simp; first | done | with_reducible rfl)
  simp only [Act.put, List.setIfInBounds_toArray, List.set_cons_zero, List.set_cons_succ]
  refine wpAnyH_done (by kernel_rfl) ?_ _
  subst hwx
  clear HT HC hS hS3 hSx
  obtain ⟨y0, y1, y2, y3⟩ := un_cells HB.out.2
  have HY : Hid (Calls Tryz.prog 66 #[tp h, .int .i64 1, Msg.msV (doM tx) none 0 0] W.drew fun e w' => e = .returned (.tuple #[]) ∧ Hid (∃ V' X' Z', (∀ k, X k → X' k) ∧ Hk w' B V' X' S Z' h gs d g q s1 ca cc { G with se := some { s with fr := true, out := s.out ++ [byB (doM tx)] } } ∧ Hx B X w w')) := by
    obtain ⟨H, hs, hb, hM, hW⟩ := HA.out
    have b1 := below_step HB.out.1 (bel0 W)
    have H2 := H.below b1
    refine (say_hk H2 hs hb _ none 0 0 hM hW (RdP.none _)).mono ?_
    rintro e w' ⟨rfl, V', Z', k4, k5⟩
    exact ⟨rfl, V', _, Z', fun k hk => .inl hk, k4, (Hx.of_below H.hB H.xlt b1).trans k5 fun k hk => .inl hk⟩
  go_wp2_with (first
    | (go_at_call 66; (with_reducible refine HY.out.mono ?_); rintro e w4 ⟨rfl, H4⟩)
    | fail)
  go_end0
  exact ⟨rfl, H4.out⟩

end Go.Proofs.YtpofihiojhbfgaaGreatDoor
