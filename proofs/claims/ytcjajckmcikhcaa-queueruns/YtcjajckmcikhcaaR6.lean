/- The document's Busy, walked. -/
import Derived.Test.YtcjajckmcikhcaaRz
namespace Go.Proofs.Ytcjajckmcikhcaa
open Go.RowKit Go.Maps
set_option linter.unusedVariables false

theorem fdZ_ge {K : List Ck} {x : Wt} (h : 0 ≤ fdZ K x) : ∃ (i : Nat) (hi : i < K.length), fdZ K x = (i : Int) ∧ fdN K x = i ∧ K[i].k = x := by
  unfold fdZ at h ⊢
  by_cases e : fdN K x < K.length
  · rw [if_pos e]
    refine ⟨fdN K x, e, rfl, rfl, ?_⟩
    have h1 := List.findIdx_getElem (w := e)
    exact keB_true.1 h1
  · rw [if_neg e] at h
    exact absurd h (by decide)
theorem OwR.put2 {α : Type} {en : α → List Value} {s : Nat} (E : Enc en s) {e : TypeId} {w : World} {ao : Option Addr} {cap : Nat} {L : List α} (h : OwR en s e w ao cap L) (t : Nat) (ht : t < L.length) (j : Nat) (hj : j < s) (u : Value) (y : α) (hy : en y = (en L[t]).set j u) :
    ∃ b off, ao = some ⟨b, off, none⟩ ∧ w.frozen? ⟨b, off + t * s + j, none⟩ = false ∧ (∃ u0, w.cell? ⟨b, off + t * s + j, none⟩ = some u0) ∧ OwR en s e (w.setCell ⟨b, off + t * s + j, none⟩ u) ao cap (L.set t y) := by
  obtain ⟨b, h⟩ := h.put E t ht j hj u y hy
  exact ⟨b, 0, h⟩

theorem ck_set {y : Ck} {k : Wt} (h : y.k = k) : ckC ⟨k, true⟩ = (ckC y).set 4 (.bool true) := by subst h; rfl

def busB (K : List Ck) (x : Wt) : Bool := decide (0 ≤ fdZ K x)
def busK (K : List Ck) (x : Wt) : List Ck := if busB K x then K.set (fdN K x) ⟨x, true⟩ else K

set_option maxRecDepth 100000 in
set_option maxHeartbeats 3200000 in
theorem rbusy_any (a1 : Option Addr) (n1 c1 : Nat) (a2 : Option Addr) (n2 c2 : Nat) (K : List Ck) (h : Int) (x : Wt) (w : World) (hK : RdR ckC w a2 c2 K) (hn : K.length = n2) (hl : n2 ≤ 1000) :
    Calls Try.prog 19 #[rqV a1 n1 c1 a2 n2 c2, .int .i64 h, wtV x] w fun e w' => ∃ a' c', e = .returned (.tuple #[rqV a1 n1 c1 a' (busK K (kyOf h x)).length c', .bool (busB K (kyOf h x))]) ∧ RdR ckC w' a' c' (busK K (kyOf h x)) ∧ Fr w w' a2 a' ∧ Below w.heap.size w w' := by
  have HK : Hid (RdR ckC w a2 c2 K ∧ K.length = n2) := ⟨hK, hn⟩
  have HW0 : Hid (P2 (((w.alloc (rqO a1 n1 c1 a2 n2 c2)).alloc (wtO x)).alloc (rqO none 0 0 none 0 0)) w.heap.size (.slice a1 n1 c1) (.slice a2 n2 c2) ∧ (((w.alloc (rqO a1 n1 c1 a2 n2 c2)).alloc (wtO x)).alloc (rqO none 0 0 none 0 0)).heap[w.heap.size + 1]? = some (wtO x) ∧ P2 (((w.alloc (rqO a1 n1 c1 a2 n2 c2)).alloc (wtO x)).alloc (rqO none 0 0 none 0 0)) (w.heap.size + 2) (.slice none 0 0) (.slice none 0 0) ∧ Below w.heap.size w (((w.alloc (rqO a1 n1 c1 a2 n2 c2)).alloc (wtO x)).alloc (rqO none 0 0 none 0 0)) ∧ w.heap.size + 2 < (((w.alloc (rqO a1 n1 c1 a2 n2 c2)).alloc (wtO x)).alloc (rqO none 0 0 none 0 0)).heap.size) := three_new w a1 n1 c1 a2 n2 c2 x
  clear hK hn
  obtain ⟨xc, xp, xo, xw⟩ := x
  show Calls Try.prog 19 #[rqV a1 n1 c1 a2 n2 c2, .int .i64 h, .agg #[.int .i64 xc, .int .i64 xp, .int .i64 xo, .bool xw]] w fun e w' => ∃ a' c', e = .returned (.tuple #[rqV a1 n1 c1 a' (busK K ⟨h, xp, xo, xw⟩).length c', .bool (busB K ⟨h, xp, xo, xw⟩)]) ∧ RdR ckC w' a' c' (busK K ⟨h, xp, xo, xw⟩) ∧ Fr w w' a2 a' ∧ Below w.heap.size w w'
  go_enter Try.func19, Try.ntmps19
  go_upto_region 1 with fail
  generalize ((w.alloc (rqO a1 n1 c1 a2 n2 c2)).alloc (wtO ⟨xc, xp, xo, xw⟩)).alloc (rqO none 0 0 none 0 0) = W0 at *
  obtain ⟨g2, hg2⟩ : ∃ g, w.heap.size = g := ⟨_, rfl⟩
  obtain ⟨g3, hg3⟩ : ∃ g, w.heap.size + 1 = g := ⟨_, rfl⟩
  obtain ⟨g4, hg4⟩ : ∃ g, w.heap.size + 1 + 1 = g := ⟨_, rfl⟩
  have HG : Hid ((g2 ≠ g4 ∧ g2 ≠ g3 ∧ g4 ≠ g3) ∧ w.heap.size ≤ g2 ∧ w.heap.size ≤ g4 ∧ w.heap.size ≤ g3) := ⟨⟨by omega, by omega, by omega⟩, by omega, by omega, by omega⟩
  have HQ : Hid (P2 W0 g2 (.slice a1 n1 c1) (.slice a2 n2 c2) ∧ W0.heap[g3]? = some (wtO ⟨xc, xp, xo, xw⟩) ∧ P2 W0 g4 (.slice none 0 0) (.slice none 0 0) ∧ Below w.heap.size w W0) := by
    obtain ⟨h1, h2, h3, h4, -⟩ := HW0.out
    rw [hg3] at h2
    rw [show w.heap.size + 2 = g4 from hg4] at h3
    rw [hg2] at h1
    exact ⟨h1, h2, h3, h4⟩
  rw [hg4, hg3, hg2]
  clear hg2 hg3 hg4 HW0
  have HN : Hid (∀ W : World, Below W0.heap.size W0 W → P2 W g2 (.slice a1 n1 c1) (.slice a2 n2 c2) ∧ W.heap[g3]? = some (wtO ⟨xc, xp, xo, xw⟩) ∧ P2 W g4 (.slice none 0 0) (.slice none 0 0) ∧ Below w.heap.size w W) := fun W hW =>
    ⟨HQ.out.1.below hW, (hW.block _ (Array.getElem?_eq_some_iff.1 HQ.out.2.1).1).trans HQ.out.2.1, HQ.out.2.2.1.below hW, below_step HQ.out.2.2.2 hW⟩
  obtain ⟨x0, x1, x2, x3⟩ := wt_cells HQ.out.2.1 (Below.refl _ _)
  simp only at x0 x1 x2 x3
  have q0 := HQ.out.1.c0
  have q1 := HQ.out.1.c1
  by_cases hh : 0 ≤ fdZ K ⟨h, xp, xo, xw⟩
  · obtain ⟨i, hi, hfz, hfn, hki⟩ := fdZ_ge hh
    have HR : Hid (busB K ⟨h, xp, xo, xw⟩ = true ∧ busK K ⟨h, xp, xo, xw⟩ = K.set i ⟨⟨h, xp, xo, xw⟩, true⟩) := by
      have e1 : busB K ⟨h, xp, xo, xw⟩ = true := by unfold busB; simpa using hh
      exact ⟨e1, by unfold busK; rw [e1, hfn]; rfl⟩
    have HI : Hid (∃ hi : i < K.length, K[i].k = ⟨h, xp, xo, xw⟩) := ⟨hi, hki⟩
    have hin : i < n2 := by have := HK.out.2; omega
    have e1' : decide ((i : Int) < 0) = false := by simp
    clear hh hfn hki hi
    go_upto_region 4 with (first
      | (go_at_call 39; refine (find_any a1 n1 c1 a2 n2 c2 K ⟨h, xp, xo, xw⟩ _ (HK.out.1.below HQ.out.2.2.2) HK.out.2 (by omega)).mono ?_; rw [hfz]; rintro e w2 ⟨rfl, hb2⟩; have HB2 : Hid (Below W0.heap.size W0 w2) := hb2; clear hb2)
      | fail)
    have HBA : Hid (Below w2.heap.size w2 (w2.alloc (.cells #[] 75)) ∧ Below W0.heap.size W0 (w2.alloc (.cells #[] 75))) := ⟨(Below.refl _ _).alloc (Nat.le_refl _) _, below_step HB2.out ((Below.refl _ _).alloc (Nat.le_refl _) _)⟩
    have t0 := (HN.out _ HBA.out.2).1.c1
    clear hfz
    go_upto_region 5 with (first
      | (at_builtin; refine wpList_append_R ckE _ rfl _ _ 36 rfl 75 _ 32 Try.underlying36 info75 rfl (L := []) (n := 0) rfl rfl (OwR.fresh 75 w2) (HK.out.1.below (HN.out _ HBA.out.2).2.2.2) rfl HK.out.2 (by omega) (by unfold maxLen; omega) ?_; intro a3 c3 w3 ho3 hg3 ha3; have HA3 : Hid (∀ a, a3 = some a → w2.heap.size ≤ a.block) := (by rcases ha3 with rfl | rfl; intro a ha; cases ha; exact Nat.le_refl _; intro a ha; cases ha; exact HBA.out.1.size); have HB3 : Hid (Below w2.heap.size w2 w3) := HBA.out.1.trans (app_below hg3 (by intro a ha; cases ha; exact Nat.le_refl _) HBA.out.1.size); have HO3 : Hid (OwR ckC 5 75 w3 a3 c3 K) := (show OwR ckC 5 75 w3 a3 c3 K from (by simpa using ho3)); clear ho3 hg3 ha3)
      | fail)
    obtain ⟨hi, hki⟩ := HI.out
    obtain ⟨b, off, rfl, hz1, ⟨u0, hz2⟩, hz3⟩ := HO3.out.put2 ckE i hi 4 (by decide) (.bool true) ⟨⟨h, xp, xo, xw⟩, true⟩ (ck_set hki)
    clear hi hki
    have HW5 : Hid (P2 (w3.setCell ⟨b, off + i * 5 + 4, none⟩ (.bool true)) g2 (.slice a1 n1 c1) (.slice a2 n2 c2) ∧ P2 (w3.setCell ⟨b, off + i * 5 + 4, none⟩ (.bool true)) g4 (.slice none 0 0) (.slice none 0 0) ∧ Below w.heap.size w (w3.setCell ⟨b, off + i * 5 + 4, none⟩ (.bool true)) ∧ OwR ckC 5 75 (w3.setCell ⟨b, off + i * 5 + 4, none⟩ (.bool true)) (some ⟨b, off, none⟩) c3 (K.set i ⟨⟨h, xp, xo, xw⟩, true⟩) ∧ b ≠ g2 ∧ b ≠ g4 ∧ w.heap.size ≤ b) := by
      have hq := HN.out _ (below_step HB2.out HB3.out)
      have hbb : w2.heap.size ≤ b := HA3.out _ rfl
      have l2 := (HN.out _ HB2.out).1.lt
      have l4 := (HN.out _ HB2.out).2.2.1.lt
      have hwb : w.heap.size ≤ b := Nat.le_trans (HN.out _ HB2.out).2.2.2.size hbb
      have n2 : g2 ≠ b := by omega
      have n4 : g4 ≠ b := by omega
      exact ⟨hq.1.other n2 _, hq.2.2.1.other n4 _, set_below hq.2.2.2 hwb _, hz3, Ne.symm n2, Ne.symm n4, hwb⟩
    clear hz3
    go_upto_region 6 with fail
    generalize w3.setCell ⟨b, off + i * 5 + 4, none⟩ (.bool true) = W5 at *
    clear hz1 hz2
    have k0 := HW5.out.1.fz 1
    have k1 := HW5.out.1.c1
    go_upto_region 7 with fail
    have HF : Hid (P2 (W5.setCell ⟨g2, 1, none⟩ (.slice (some ⟨b, off, none⟩) n2 c3)) g2 (.slice a1 n1 c1) (.slice (some ⟨b, off, none⟩) n2 c3) ∧ P2 (W5.setCell ⟨g2, 1, none⟩ (.slice (some ⟨b, off, none⟩) n2 c3)) g4 (.slice none 0 0) (.slice none 0 0) ∧ Below w.heap.size w (W5.setCell ⟨g2, 1, none⟩ (.slice (some ⟨b, off, none⟩) n2 c3)) ∧ OwR ckC 5 75 (W5.setCell ⟨g2, 1, none⟩ (.slice (some ⟨b, off, none⟩) n2 c3)) (some ⟨b, off, none⟩) c3 (K.set i ⟨⟨h, xp, xo, xw⟩, true⟩)) := by
      obtain ⟨h1, h2, h3, h4, h5, h6, h7⟩ := HW5.out
      refine ⟨h1.put1 _, h2.other HG.out.1.1.symm _, set_below h3 HG.out.2.1 _, h4.keep fun a ha _ => Below.heap_setCell _ _ _ _ ?_⟩
      cases ha
      exact h5
    clear k0 k1
    generalize W5.setCell ⟨g2, 1, none⟩ (.slice (some ⟨b, off, none⟩) n2 c3) = W6 at *
    have v0 := HF.out.1.c0
    have v1 := HF.out.1.c1
    have v2 := HF.out.2.1.c0
    have v3 := HF.out.2.1.c1
    have v4 := HF.out.2.1.fz 0
    have v5 := HF.out.2.1.fz 1
    go_wp2
    have HC : P2 ((W6.setCell ⟨g4, 0, none⟩ (.slice a1 n1 c1)).setCell ⟨g4, 1, none⟩ (.slice (some ⟨b, off, none⟩) n2 c3)) g4 (.slice a1 n1 c1) (.slice (some ⟨b, off, none⟩) n2 c3) := (HF.out.2.1.put0 _).put1 _
    have HBf : Below w.heap.size w ((W6.setCell ⟨g4, 0, none⟩ (.slice a1 n1 c1)).setCell ⟨g4, 1, none⟩ (.slice (some ⟨b, off, none⟩) n2 c3)) := set_below (set_below HF.out.2.2.1 HG.out.2.2.1 _) HG.out.2.2.1 _
    have HO : OwR ckC 5 75 ((W6.setCell ⟨g4, 0, none⟩ (.slice a1 n1 c1)).setCell ⟨g4, 1, none⟩ (.slice (some ⟨b, off, none⟩) n2 c3)) (some ⟨b, off, none⟩) c3 (K.set i ⟨⟨h, xp, xo, xw⟩, true⟩) := by
      refine (HF.out.2.2.2.keep fun a ha _ => Below.heap_setCell _ _ _ _ ?_).keep fun a ha _ => Below.heap_setCell _ _ _ _ ?_
      all_goals
        cases ha
        exact HW5.out.2.2.2.2.2.1
    generalize (W6.setCell ⟨g4, 0, none⟩ (.slice a1 n1 c1)).setCell ⟨g4, 1, none⟩ (.slice (some ⟨b, off, none⟩) n2 c3) = Wf at *
    have f0 := HC.c0
    have f1 := HC.c1
    refine bodyPost_ret (by simp [results, Try.results19, go_sem, f0, f1]; try rfl) rfl ?_
    rw [HR.out.1, HR.out.2]
    refine ⟨some ⟨b, off, none⟩, c3, by rw [List.length_set, HK.out.2], HO.rd, .inr fun a ha => ⟨?_, (HO.lt a ha).1⟩, HBf⟩
    cases ha
    exact HW5.out.2.2.2.2.2.2
  · obtain ⟨fz, hfz⟩ : ∃ fz, fdZ K ⟨h, xp, xo, xw⟩ = fz := ⟨_, rfl⟩
    have HR : Hid (busB K ⟨h, xp, xo, xw⟩ = false ∧ busK K ⟨h, xp, xo, xw⟩ = K) := by
      have e1 : busB K ⟨h, xp, xo, xw⟩ = false := by unfold busB; simpa using hh
      exact ⟨e1, by unfold busK; rw [e1]; rfl⟩
    rw [hfz] at hh
    have e1' : decide (fz < 0) = true := by simp; omega
    clear hh
    go_upto_region 3 with (first
      | (go_at_call 39; refine (find_any a1 n1 c1 a2 n2 c2 K ⟨h, xp, xo, xw⟩ _ (HK.out.1.below HQ.out.2.2.2) HK.out.2 (by omega)).mono ?_; rw [hfz]; rintro e w2 ⟨rfl, hb2⟩; have HB2 : Hid (Below W0.heap.size W0 w2) := hb2; clear hb2)
      | fail)
    clear hfz
    have p0 := (HN.out _ HB2.out).1.c0
    have p1 := (HN.out _ HB2.out).1.c1
    have r0 := (HN.out _ HB2.out).2.2.1.fz 0
    have r1 := (HN.out _ HB2.out).2.2.1.fz 1
    have r2 := (HN.out _ HB2.out).2.2.1.c0
    have r3 := (HN.out _ HB2.out).2.2.1.c1
    go_wp2
    have HC : P2 ((w2.setCell ⟨g4, 0, none⟩ (.slice a1 n1 c1)).setCell ⟨g4, 1, none⟩ (.slice a2 n2 c2)) g4 (.slice a1 n1 c1) (.slice a2 n2 c2) := ((HN.out _ HB2.out).2.2.1.put0 _).put1 _
    have HBf : Below w.heap.size w ((w2.setCell ⟨g4, 0, none⟩ (.slice a1 n1 c1)).setCell ⟨g4, 1, none⟩ (.slice a2 n2 c2)) := set_below (set_below (HN.out _ HB2.out).2.2.2 HG.out.2.2.1 _) HG.out.2.2.1 _
    generalize (w2.setCell ⟨g4, 0, none⟩ (.slice a1 n1 c1)).setCell ⟨g4, 1, none⟩ (.slice a2 n2 c2) = Wf at *
    have f0 := HC.c0
    have f1 := HC.c1
    refine bodyPost_ret (by simp [results, Try.results19, go_sem, f0, f1]; try rfl) rfl ?_
    rw [HR.out.1, HR.out.2]
    exact ⟨a2, c2, by rw [HK.out.2], HK.out.1.below HBf, .refl _ _ _, HBf⟩

end Go.Proofs.Ytcjajckmcikhcaa
