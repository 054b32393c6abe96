/- The document's Calls, walked. -/
import Derived.Test.YtcjajckmcikhcaaRz
namespace Go.Proofs.Ytcjajckmcikhcaa
open Go.RowKit Go.Maps
set_option linter.unusedVariables false

def calB (K : List Ck) (x : Wt) : Bool := rtB x && decide (fdZ K x < 0)
def calK (K : List Ck) (x : Wt) : List Ck := if calB K x then K ++ [⟨x, false⟩] else K

set_option maxRecDepth 100000 in
set_option maxHeartbeats 3200000 in
theorem rcalls_any (a1 : Option Addr) (n1 c1 : Nat) (a2 : Option Addr) (n2 c2 : Nat) (K : List Ck) (h : Int) (x : Wt) (w : World) (hK : RdR ckC w a2 c2 K) (hn : K.length = n2) (hl : n2 ≤ 1000) :
    Calls Try.prog 18 #[rqV a1 n1 c1 a2 n2 c2, .int .i64 h, wtV x] w fun e w' => ∃ a' c', e = .returned (.tuple #[rqV a1 n1 c1 a' (calK K (kyOf h x)).length c', .bool (calB K (kyOf h x))]) ∧ RdR ckC w' a' c' (calK K (kyOf h x)) ∧ Fr w w' a2 a' ∧ Below w.heap.size w w' := by
  have HK : Hid (RdR ckC w a2 c2 K ∧ K.length = n2) := ⟨hK, hn⟩
  have HW0 : Hid (P2 (((w.alloc (rqO a1 n1 c1 a2 n2 c2)).alloc (wtO x)).alloc (rqO none 0 0 none 0 0)) w.heap.size (.slice a1 n1 c1) (.slice a2 n2 c2) ∧ (((w.alloc (rqO a1 n1 c1 a2 n2 c2)).alloc (wtO x)).alloc (rqO none 0 0 none 0 0)).heap[w.heap.size + 1]? = some (wtO x) ∧ P2 (((w.alloc (rqO a1 n1 c1 a2 n2 c2)).alloc (wtO x)).alloc (rqO none 0 0 none 0 0)) (w.heap.size + 2) (.slice none 0 0) (.slice none 0 0) ∧ Below w.heap.size w (((w.alloc (rqO a1 n1 c1 a2 n2 c2)).alloc (wtO x)).alloc (rqO none 0 0 none 0 0)) ∧ w.heap.size + 2 < (((w.alloc (rqO a1 n1 c1 a2 n2 c2)).alloc (wtO x)).alloc (rqO none 0 0 none 0 0)).heap.size) := three_new w a1 n1 c1 a2 n2 c2 x
  clear hK hn
  obtain ⟨xc, xp, xo, xw⟩ := x
  show Calls Try.prog 18 #[rqV a1 n1 c1 a2 n2 c2, .int .i64 h, .agg #[.int .i64 xc, .int .i64 xp, .int .i64 xo, .bool xw]] w fun e w' => ∃ a' c', e = .returned (.tuple #[rqV a1 n1 c1 a' (calK K ⟨h, xp, xo, xw⟩).length c', .bool (calB K ⟨h, xp, xo, xw⟩)]) ∧ RdR ckC w' a' c' (calK K ⟨h, xp, xo, xw⟩) ∧ Fr w w' a2 a' ∧ Below w.heap.size w w'
  have HE : Hid (calB K ⟨h, xp, xo, xw⟩ = (rtB ⟨h, xp, xo, xw⟩ && decide (fdZ K ⟨h, xp, xo, xw⟩ < 0))) := rfl
  go_enter Try.func18, Try.ntmps18
  go_upto_region 1 with fail
  generalize ((w.alloc (rqO a1 n1 c1 a2 n2 c2)).alloc (wtO ⟨xc, xp, xo, xw⟩)).alloc (rqO none 0 0 none 0 0) = W0 at *
  obtain ⟨g2, hg2⟩ : ∃ g, w.heap.size = g := ⟨_, rfl⟩
  obtain ⟨g3, hg3⟩ : ∃ g, w.heap.size + 1 = g := ⟨_, rfl⟩
  obtain ⟨g4, hg4⟩ : ∃ g, w.heap.size + 1 + 1 = g := ⟨_, rfl⟩
  have HG : Hid ((g2 ≠ g4 ∧ g2 ≠ g3 ∧ g4 ≠ g3) ∧ w.heap.size ≤ g2 ∧ w.heap.size ≤ g4 ∧ w.heap.size ≤ g3) := ⟨⟨by omega, by omega, by omega⟩, by omega, by omega, by omega⟩
  have HQ0 : Hid (P2 W0 g2 (.slice a1 n1 c1) (.slice a2 n2 c2) ∧ W0.heap[g3]? = some (wtO ⟨xc, xp, xo, xw⟩) ∧ P2 W0 g4 (.slice none 0 0) (.slice none 0 0) ∧ Below w.heap.size w W0) := by
    obtain ⟨h1, h2, h3, h4, -⟩ := HW0.out
    rw [hg3] at h2
    rw [show w.heap.size + 2 = g4 from hg4] at h3
    rw [hg2] at h1
    exact ⟨h1, h2, h3, h4⟩
  rw [hg4, hg3, hg2]
  clear hg2 hg3 hg4 HW0
  have HQ : Hid (P2 (W0.setCell ⟨g3, 0, none⟩ (.int .i64 h)) g2 (.slice a1 n1 c1) (.slice a2 n2 c2) ∧ (W0.setCell ⟨g3, 0, none⟩ (.int .i64 h)).heap[g3]? = some (wtO ⟨h, xp, xo, xw⟩) ∧ P2 (W0.setCell ⟨g3, 0, none⟩ (.int .i64 h)) g4 (.slice none 0 0) (.slice none 0 0) ∧ Below w.heap.size w (W0.setCell ⟨g3, 0, none⟩ (.int .i64 h))) := by
    obtain ⟨h1, h2, h3, h4⟩ := HQ0.out
    refine ⟨h1.other HG.out.1.2.1 _, ?_, h3.other HG.out.1.2.2 _, set_below h4 HG.out.2.2.2 _⟩
    rw [heap_setCell_same W0 g3 0 _ 29 _ h2]
    rfl
  have i0 : W0.frozen? ⟨g3, 0, none⟩ = false := frozen_of_row _ _ _ _ _ HQ0.out.2.1
  obtain ⟨i1, -, -, -⟩ := wt_cells HQ0.out.2.1 (Below.refl _ _)
  simp only at i1
  go_upto_region 2 with fail
  generalize W0.setCell ⟨g3, 0, none⟩ (.int .i64 h) = W1 at *
  clear i0 i1 HQ0
  have HN : Hid (∀ W : World, Below W1.heap.size W1 W → P2 W g2 (.slice a1 n1 c1) (.slice a2 n2 c2) ∧ W.heap[g3]? = some (wtO ⟨h, xp, xo, xw⟩) ∧ P2 W g4 (.slice none 0 0) (.slice none 0 0) ∧ Below w.heap.size w W) := fun W hW =>
    ⟨HQ.out.1.below hW, (hW.block _ (Array.getElem?_eq_some_iff.1 HQ.out.2.1).1).trans HQ.out.2.1, HQ.out.2.2.1.below hW, below_step HQ.out.2.2.2 hW⟩
  obtain ⟨x0, x1, x2, x3⟩ := wt_cells HQ.out.2.1 (Below.refl _ _)
  simp only at x0 x1 x2 x3
  have q0 := HQ.out.1.c0
  have q1 := HQ.out.1.c1
  cases hr : rtB ⟨h, xp, xo, xw⟩
  · have HR : Hid (calB K ⟨h, xp, xo, xw⟩ = false ∧ calK K ⟨h, xp, xo, xw⟩ = K) := by
      have e1 : calB K ⟨h, xp, xo, xw⟩ = false := by rw [HE.out, hr]; rfl
      exact ⟨e1, by unfold calK; rw [e1]; rfl⟩
    go_upto_region 3 with (first
      | (go_at_call 37; refine (right_any ⟨h, xp, xo, xw⟩ _).mono ?_; rw [hr]; rintro e w1 ⟨rfl, hb1⟩)
      | fail)
    have HB1 : Hid (Below W1.heap.size W1 w1) := hb1
    clear hb1 hr
    have p0 := (HN.out _ HB1.out).1.c0
    have p1 := (HN.out _ HB1.out).1.c1
    have r0 := (HN.out _ HB1.out).2.2.1.fz 0
    have r1 := (HN.out _ HB1.out).2.2.1.fz 1
    have r2 := (HN.out _ HB1.out).2.2.1.c0
    have r3 := (HN.out _ HB1.out).2.2.1.c1
    go_wp2
    have HC : P2 ((w1.setCell ⟨g4, 0, none⟩ (.slice a1 n1 c1)).setCell ⟨g4, 1, none⟩ (.slice a2 n2 c2)) g4 (.slice a1 n1 c1) (.slice a2 n2 c2) := ((HN.out _ HB1.out).2.2.1.put0 _).put1 _
    have HBf : Below w.heap.size w ((w1.setCell ⟨g4, 0, none⟩ (.slice a1 n1 c1)).setCell ⟨g4, 1, none⟩ (.slice a2 n2 c2)) := set_below (set_below (HN.out _ HB1.out).2.2.2 HG.out.2.2.1 _) HG.out.2.2.1 _
    generalize (w1.setCell ⟨g4, 0, none⟩ (.slice a1 n1 c1)).setCell ⟨g4, 1, none⟩ (.slice a2 n2 c2) = Wf at *
    have f0 := HC.c0
    have f1 := HC.c1
    refine bodyPost_ret (by simp [results, Try.results18, go_sem, f0, f1]; try rfl) rfl ?_
    rw [HR.out.1, HR.out.2]
    exact ⟨a2, c2, by rw [HK.out.2], HK.out.1.below HBf, .refl _ _ _, HBf⟩
  obtain ⟨fz, hfz⟩ : ∃ fz, fdZ K ⟨h, xp, xo, xw⟩ = fz := ⟨_, rfl⟩
  by_cases hh : 0 ≤ fz
  · have e1' : decide (fz ≥ 0) = true := by simpa using hh
    have HR : Hid (calB K ⟨h, xp, xo, xw⟩ = false ∧ calK K ⟨h, xp, xo, xw⟩ = K) := by
      have e1 : calB K ⟨h, xp, xo, xw⟩ = false := by rw [HE.out, hr, hfz]; simpa using hh
      exact ⟨e1, by unfold calK; rw [e1]; rfl⟩
    go_upto_region 3 with (first
      | (go_at_call 39; refine (find_any a1 n1 c1 a2 n2 c2 K ⟨h, xp, xo, xw⟩ _ (HK.out.1.below (HN.out _ HB1.out).2.2.2) HK.out.2 (by omega)).mono ?_; rw [hfz]; rintro e w2 ⟨rfl, hb2⟩; have HB2 : Hid (Below W1.heap.size W1 w2) := below_step HB1.out hb2; clear hb2)
      | (go_at_call 37; refine (right_any ⟨h, xp, xo, xw⟩ _).mono ?_; rw [hr]; rintro e w1 ⟨rfl, hb1⟩; have HB1 : Hid (Below W1.heap.size W1 w1) := hb1; clear hb1; obtain ⟨y0, y1, y2, y3⟩ := wt_cells (HN.out _ HB1.out).2.1 (Below.refl _ _); simp only at y0 y1 y2 y3; have s0 := (HN.out _ HB1.out).1.c0; have s1 := (HN.out _ HB1.out).1.c1)
      | fail)
    clear hr hfz
    have p0 := (HN.out _ HB2.out).1.c0
    have p1 := (HN.out _ HB2.out).1.c1
    have r0 := (HN.out _ HB2.out).2.2.1.fz 0
    have r1 := (HN.out _ HB2.out).2.2.1.fz 1
    have r2 := (HN.out _ HB2.out).2.2.1.c0
    have r3 := (HN.out _ HB2.out).2.2.1.c1
    go_wp2
    have HC : P2 ((w2.setCell ⟨g4, 0, none⟩ (.slice a1 n1 c1)).setCell ⟨g4, 1, none⟩ (.slice a2 n2 c2)) g4 (.slice a1 n1 c1) (.slice a2 n2 c2) := ((HN.out _ HB2.out).2.2.1.put0 _).put1 _
    have HBf : Below w.heap.size w ((w2.setCell ⟨g4, 0, none⟩ (.slice a1 n1 c1)).setCell ⟨g4, 1, none⟩ (.slice a2 n2 c2)) := set_below (set_below (HN.out _ HB2.out).2.2.2 HG.out.2.2.1 _) HG.out.2.2.1 _
    generalize (w2.setCell ⟨g4, 0, none⟩ (.slice a1 n1 c1)).setCell ⟨g4, 1, none⟩ (.slice a2 n2 c2) = Wf at *
    have f0 := HC.c0
    have f1 := HC.c1
    refine bodyPost_ret (by simp [results, Try.results18, go_sem, f0, f1]; try rfl) rfl ?_
    rw [HR.out.1, HR.out.2]
    exact ⟨a2, c2, by rw [HK.out.2], HK.out.1.below HBf, .refl _ _ _, HBf⟩
  · have e1' : decide (fz ≥ 0) = false := by simpa using hh
    have HR : Hid (calB K ⟨h, xp, xo, xw⟩ = true ∧ calK K ⟨h, xp, xo, xw⟩ = K ++ [⟨⟨h, xp, xo, xw⟩, false⟩]) := by
      have e1 : calB K ⟨h, xp, xo, xw⟩ = true := by rw [HE.out, hr, hfz]; simp; omega
      exact ⟨e1, by unfold calK; rw [e1]; rfl⟩
    go_upto_region 4 with (first
      | (go_at_call 39; refine (find_any a1 n1 c1 a2 n2 c2 K ⟨h, xp, xo, xw⟩ _ (HK.out.1.below (HN.out _ HB1.out).2.2.2) HK.out.2 (by omega)).mono ?_; rw [hfz]; rintro e w2 ⟨rfl, hb2⟩; have HB2 : Hid (Below W1.heap.size W1 w2) := below_step HB1.out hb2; clear hb2)
      | (go_at_call 37; refine (right_any ⟨h, xp, xo, xw⟩ _).mono ?_; rw [hr]; rintro e w1 ⟨rfl, hb1⟩; have HB1 : Hid (Below W1.heap.size W1 w1) := hb1; clear hb1; obtain ⟨y0, y1, y2, y3⟩ := wt_cells (HN.out _ HB1.out).2.1 (Below.refl _ _); simp only at y0 y1 y2 y3; have s0 := (HN.out _ HB1.out).1.c0; have s1 := (HN.out _ HB1.out).1.c1)
      | fail)
    have HBA : Hid (Below w2.heap.size w2 (w2.alloc (.cells #[] 75)) ∧ Below W1.heap.size W1 (w2.alloc (.cells #[] 75))) := ⟨(Below.refl _ _).alloc (Nat.le_refl _) _, below_step HB2.out ((Below.refl _ _).alloc (Nat.le_refl _) _)⟩
    have t0 := (HN.out _ HBA.out.2).1.c1
    clear hr hfz hh
    go_upto_region 6 with (first
      | (at_builtin; refine wpList_append_R ckE _ rfl _ _ 36 rfl 75 _ 32 Try.underlying36 info75 rfl rfl rfl HO3.out HRb.out HM3.out rfl (by omega) (by unfold maxLen; omega) ?_; intro a5 c5 w5 ho5 hg5 ha5; have HB5 : Hid (Below w2.heap.size w2 w5) := HB4.out.trans (app_below hg5 HA3.out HB4.out.size); have HO5 : Hid (OwR ckC 5 75 w5 a5 c5 (K ++ [⟨⟨h, xp, xo, xw⟩, false⟩]) ∧ ∀ a, a5 = some a → w2.heap.size ≤ a.block) := ⟨ho5, by rcases ha5 with rfl | rfl; exact HA3.out; intro a ha; cases ha; exact HB4.out.size⟩; clear ho5 hg5 ha5; have v0 := (HN.out _ (below_step HB2.out HB5.out)).1.c0; have v1 := (HN.out _ (below_step HB2.out HB5.out)).1.c1; have v2 := (HN.out _ (below_step HB2.out HB5.out)).1.fz 1; have v3 := (HN.out _ (below_step HB2.out HB5.out)).2.2.1.fz 0; have v4 := (HN.out _ (below_step HB2.out HB5.out)).2.2.1.fz 1)
      | (at_builtin; refine wpList_append_R ckE _ rfl _ _ 36 rfl 75 _ 32 Try.underlying36 info75 rfl (L := []) (n := 0) rfl rfl (OwR.fresh 75 w2) (HK.out.1.below (HN.out _ HBA.out.2).2.2.2) rfl HK.out.2 (by omega) (by unfold maxLen; omega) ?_; intro a3 c3 w3 ho3 hg3 ha3; have HA3 : Hid (∀ a, a3 = some a → w2.heap.size ≤ a.block) := (by rcases ha3 with rfl | rfl; intro a ha; cases ha; exact Nat.le_refl _; intro a ha; cases ha; exact HBA.out.1.size); have HB3 : Hid (Below w2.heap.size w2 w3) := HBA.out.1.trans (app_below hg3 (by intro a ha; cases ha; exact Nat.le_refl _) HBA.out.1.size); have HB4 : Hid (Below w2.heap.size w2 (w3.alloc (ckO ⟨⟨h, xp, xo, xw⟩, false⟩))) := HB3.out.alloc HB3.out.size _; have HO3 : Hid (OwR ckC 5 75 (w3.alloc (ckO ⟨⟨h, xp, xo, xw⟩, false⟩)) a3 c3 K) := (show OwR ckC 5 75 w3 a3 c3 K from (by simpa using ho3)).below ((Below.refl _ _).alloc (Nat.le_refl _) _); have HRb : Hid (RdR ckC (w3.alloc (ckO ⟨⟨h, xp, xo, xw⟩, false⟩)) (some ⟨w3.heap.size, 0, none⟩) 1 [⟨⟨h, xp, xo, xw⟩, false⟩]) := RdR.built ckE w3 75 _ [⟨⟨h, xp, xo, xw⟩, false⟩] rfl 1 rfl (by unfold maxLen; omega); have HM3 : Hid (K.length = n2) := HK.out.2; clear ho3 hg3 ha3; obtain ⟨u0, u1, u2, u3⟩ := wt_cells (HN.out _ (below_step HB2.out HB3.out)).2.1 (Below.refl _ _); simp only at u0 u1 u2 u3)
      | fail)
    have HF : Hid (P2 (w5.setCell ⟨g2, 1, none⟩ (.slice a5 (n2 + 1) c5)) g2 (.slice a1 n1 c1) (.slice a5 (n2 + 1) c5) ∧ P2 (w5.setCell ⟨g2, 1, none⟩ (.slice a5 (n2 + 1) c5)) g4 (.slice none 0 0) (.slice none 0 0) ∧ Below w.heap.size w (w5.setCell ⟨g2, 1, none⟩ (.slice a5 (n2 + 1) c5)) ∧ OwR ckC 5 75 (w5.setCell ⟨g2, 1, none⟩ (.slice a5 (n2 + 1) c5)) a5 c5 (K ++ [⟨⟨h, xp, xo, xw⟩, false⟩])) := by
      have hq := HN.out _ (below_step HB2.out HB5.out)
      refine ⟨hq.1.put1 _, hq.2.2.1.other HG.out.1.1.symm _, set_below hq.2.2.2 HG.out.2.1 _, HO5.out.1.keep fun a ha _ => Below.heap_setCell _ _ _ _ ?_⟩
      have h1 := HO5.out.2 a ha
      have h2 := (HN.out _ HB2.out).1.lt
      show a.block ≠ g2
      omega
    clear v0 v1 v2 v3 v4
    generalize w5.setCell ⟨g2, 1, none⟩ (.slice a5 (n2 + 1) c5) = W6 at *
    have v0 := HF.out.1.c0
    have v1 := HF.out.1.c1
    have v2 := HF.out.2.1.c0
    have v3 := HF.out.2.1.c1
    have v4 := HF.out.2.1.fz 0
    have v5 := HF.out.2.1.fz 1
    go_wp2
    have HC : P2 ((W6.setCell ⟨g4, 0, none⟩ (.slice a1 n1 c1)).setCell ⟨g4, 1, none⟩ (.slice a5 (n2 + 1) c5)) g4 (.slice a1 n1 c1) (.slice a5 (n2 + 1) c5) := (HF.out.2.1.put0 _).put1 _
    have HBf : Below w.heap.size w ((W6.setCell ⟨g4, 0, none⟩ (.slice a1 n1 c1)).setCell ⟨g4, 1, none⟩ (.slice a5 (n2 + 1) c5)) := set_below (set_below HF.out.2.2.1 HG.out.2.2.1 _) HG.out.2.2.1 _
    have HO : OwR ckC 5 75 ((W6.setCell ⟨g4, 0, none⟩ (.slice a1 n1 c1)).setCell ⟨g4, 1, none⟩ (.slice a5 (n2 + 1) c5)) a5 c5 (K ++ [⟨⟨h, xp, xo, xw⟩, false⟩]) := by
      have h2 := (HN.out _ HB2.out).2.2.1.lt
      refine (HF.out.2.2.2.keep fun a ha _ => Below.heap_setCell _ _ _ _ ?_).keep fun a ha _ => Below.heap_setCell _ _ _ _ ?_
      all_goals
        have h1 := HO5.out.2 a ha
        show a.block ≠ g4
        omega
    generalize (W6.setCell ⟨g4, 0, none⟩ (.slice a1 n1 c1)).setCell ⟨g4, 1, none⟩ (.slice a5 (n2 + 1) c5) = Wf at *
    have f0 := HC.c0
    have f1 := HC.c1
    refine bodyPost_ret (by simp [results, Try.results18, go_sem, f0, f1]; try rfl) rfl ?_
    rw [HR.out.1, HR.out.2]
    refine ⟨a5, c5, by rw [List.length_append, HK.out.2]; rfl, HO.rd, .inr fun a ha => ⟨?_, (HO.lt a ha).1⟩, HBf⟩
    exact Nat.le_trans (HN.out _ HB2.out).2.2.2.size (HO5.out.2 a ha)

end Go.Proofs.Ytcjajckmcikhcaa
