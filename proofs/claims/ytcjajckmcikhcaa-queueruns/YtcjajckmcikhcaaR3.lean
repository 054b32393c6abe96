/- The document's Remove and Gone, walked. -/
import Derived.Test.YtcjajckmcikhcaaR2
namespace Go.Proofs.Ytcjajckmcikhcaa
open Go.RowKit Go.Maps
set_option linter.unusedVariables false

/-- The two blocks of a function that takes a queue and hands one back. -/
theorem two_new (w : World) (a1 : Option Addr) (n1 c1 : Nat) (a2 : Option Addr) (n2 c2 : Nat) : P2 ((w.alloc (rqO a1 n1 c1 a2 n2 c2)).alloc (rqO none 0 0 none 0 0)) w.heap.size (.slice a1 n1 c1) (.slice a2 n2 c2) ∧ P2 ((w.alloc (rqO a1 n1 c1 a2 n2 c2)).alloc (rqO none 0 0 none 0 0)) (w.heap.size + 1) (.slice none 0 0) (.slice none 0 0) ∧ Below w.heap.size w ((w.alloc (rqO a1 n1 c1 a2 n2 c2)).alloc (rqO none 0 0 none 0 0)) := by
  refine ⟨⟨?_⟩, ?_, by go_grown⟩
  · rw [Below.heap_alloc _ _ _ (by simp)]
    exact heap_alloc_new w _
  · have := P2.new (w.alloc (rqO a1 n1 c1 a2 n2 c2)) (.slice none 0 0) (.slice none 0 0)
    simpa using this

set_option maxRecDepth 100000 in
set_option maxHeartbeats 3200000 in
theorem rremove_any (a1 : Option Addr) (n1 c1 : Nat) (a2 : Option Addr) (n2 c2 : Nat) (L : List Wt) (c : Int) (w : World) (hL : RdR wtC w a1 c1 L) (hn : L.length = n1) (hl : n1 ≤ 1000) :
    Calls Try.prog 17 #[rqV a1 n1 c1 a2 n2 c2, .int .i64 c] w fun e w' => ∃ a' c', e = .returned (.tuple #[rqV a' (noC L c).length c' a2 n2 c2, .bool (hasB L c)]) ∧ RdR wtC w' a' c' (noC L c) ∧ Fr w w' a1 a' ∧ Below w.heap.size w w' := by
  have HL : Hid (RdR wtC w a1 c1 L ∧ L.length = n1) := ⟨hL, hn⟩
  have HW0 : Hid (P2 ((w.alloc (rqO a1 n1 c1 a2 n2 c2)).alloc (rqO none 0 0 none 0 0)) w.heap.size (.slice a1 n1 c1) (.slice a2 n2 c2) ∧ P2 ((w.alloc (rqO a1 n1 c1 a2 n2 c2)).alloc (rqO none 0 0 none 0 0)) (w.heap.size + 1) (.slice none 0 0) (.slice none 0 0) ∧ Below w.heap.size w ((w.alloc (rqO a1 n1 c1 a2 n2 c2)).alloc (rqO none 0 0 none 0 0))) := two_new w a1 n1 c1 a2 n2 c2
  clear hL hn
  go_enter Try.func17, Try.ntmps17
  go_upto_region 1 with fail
  generalize (w.alloc (rqO a1 n1 c1 a2 n2 c2)).alloc (rqO none 0 0 none 0 0) = W0 at *
  obtain ⟨g2, hg2⟩ : ∃ g, w.heap.size = g := ⟨_, rfl⟩
  obtain ⟨g4, hg4⟩ : ∃ g, w.heap.size + 1 = g := ⟨_, rfl⟩
  have HG : Hid (g2 ≠ g4 ∧ w.heap.size ≤ g2 ∧ w.heap.size ≤ g4) := ⟨by omega, by omega, by omega⟩
  have HQ : Hid (P2 W0 g2 (.slice a1 n1 c1) (.slice a2 n2 c2) ∧ P2 W0 g4 (.slice none 0 0) (.slice none 0 0) ∧ Below w.heap.size w W0) := by
    obtain ⟨h1, h3, h4⟩ := HW0.out
    rw [hg4] at h3
    rw [hg2] at h1
    exact ⟨h1, h3, h4⟩
  rw [hg4, hg2]
  clear hg2 hg4 HW0
  have HN : Hid (∀ W : World, Below W0.heap.size W0 W → P2 W g2 (.slice a1 n1 c1) (.slice a2 n2 c2) ∧ P2 W g4 (.slice none 0 0) (.slice none 0 0) ∧ Below w.heap.size w W) := fun W hW =>
    ⟨HQ.out.1.below hW, HQ.out.2.1.below hW, below_step HQ.out.2.2 hW⟩
  have q0 := HQ.out.1.c0
  have q1 := HQ.out.1.c1
  obtain ⟨th, hth⟩ : ∃ th, hasB L c = th := ⟨_, rfl⟩
  have HT : Hid (hasB L c = th) := hth
  clear hth
  go_upto_region 3 with (first
    | (go_at_call 38; refine (waits_any a1 n1 c1 a2 n2 c2 L c _ (HL.out.1.below HQ.out.2.2) HL.out.2 (by omega)).mono ?_; rw [HT.out]; rintro e w2 ⟨rfl, hb2⟩; have HB2 : Hid (Below W0.heap.size W0 w2) := hb2; clear hb2)
    | fail)
  have HI0 : Hid (OwR wtC 4 29 (w2.alloc (.cells #[] 29)) (some ⟨w2.heap.size, 0, none⟩) 0 [] ∧ Below w2.heap.size w2 (w2.alloc (.cells #[] 29))) := ⟨OwR.fresh 29 w2, (Below.refl _ _).alloc (Nat.le_refl _) _⟩
  generalize w2.alloc (.cells #[] 29) = W3 at *
  have t0 := (HN.out _ (below_step HB2.out HI0.out.2)).1.c0
  go_wp2
  go_loopw [7, 17] (fun v i wq => ∃ (k2 : Nat) (ar : Option Addr) (cr m2 : Nat), k2 ≤ n1 ∧ i = .int .i64 k2 ∧ v = .slice ar m2 cr ∧ m2 ≤ k2 ∧ Hid (OwR wtC 4 29 wq ar cr (noC (L.take k2) c) ∧ (noC (L.take k2) c).length = m2 ∧ Below w2.heap.size w2 wq ∧ ∀ a, ar = some a → w2.heap.size ≤ a.block)) (fun _ i _ => n1 - (intOf i).toNat)
  case atStart => exact ⟨0, _, _, 0, Nat.zero_le _, rfl, rfl, Nat.le_refl _, by simpa [noC] using HI0.out.1, rfl, HI0.out.2, by intro a ha; cases ha; exact Nat.le_refl _⟩
  case round =>
    clear HI0 t0
    obtain ⟨k2, ar, cr, m2, hk2, rfl, rfl, hmk, HJ⟩ := hrel
    rename World => wq
    have HBq : Hid (Below w.heap.size w wq) := (HN.out _ (below_step HB2.out HJ.out.2.2.1)).2.2
    by_cases hlt2 : k2 < n1
    · have hkl : k2 < L.length := by have := HL.out.2; omega
      obtain ⟨bk, off, hao, -, hcc⟩ := (HL.out.1.below HBq.out).at wtE hkl
      subst hao
      obtain ⟨z0, z1, z2, z3⟩ := wtIn _ _ _ _ hcc
      have HS : Hid (noC (L.take (k2 + 1)) c = if L[k2].c = c then noC (L.take k2) c else noC (L.take k2) c ++ [L[k2]]) := by
        show _ = _
        rw [List.take_succ_eq_append_getElem hkl, noC_snoc]
      clear hcc
      generalize L[k2] = y at *
      have e0' : decide ((k2 : Int) < n1) = true := by simp; omega
      obtain ⟨yc, yp, yo, yw⟩ := y
      simp only at z0 z1 z2 z3
      have hbA : Below wq.heap.size wq (wq.alloc (wtO ⟨yc, yp, yo, yw⟩)) := (Below.refl _ _).alloc (Nat.le_refl _) _
      have HJA : Hid (OwR wtC 4 29 (wq.alloc (wtO ⟨yc, yp, yo, yw⟩)) ar cr (noC (L.take k2) c) ∧ Below w2.heap.size w2 (wq.alloc (wtO ⟨yc, yp, yo, yw⟩))) := ⟨HJ.out.1.below hbA, below_step HJ.out.2.2.1 hbA⟩
      have HM2 : Hid ((noC (L.take k2) c).length = m2 ∧ ∀ a, ar = some a → w2.heap.size ≤ a.block) := ⟨HJ.out.2.1, HJ.out.2.2.2⟩
      clear hbA HJ
      by_cases ec : yc = c
      · have e1 : (yc != c) = false := by simpa [bne] using ec
        have HS1 : Hid (noC (L.take (k2 + 1)) c = noC (L.take k2) c) := by rw [HS.out, if_pos ec]; exact rfl
        clear ec HS
        go_wp2
        go_roundw
        case rel => exact ⟨k2 + 1, ar, cr, m2, by omega, by go_num, rfl, by omega, by rw [HS1.out]; exact HJA.out.1, by rw [HS1.out]; exact HM2.out.1, HJA.out.2, HM2.out.2⟩
        case measure => simp [intOf]; omega
      · have e1 : (yc != c) = true := by simpa [bne] using ec
        have HS1 : Hid (noC (L.take (k2 + 1)) c = noC (L.take k2) c ++ [⟨yc, yp, yo, yw⟩]) := by rw [HS.out, if_neg ec]; exact rfl
        clear ec HS
        have hbB : Below (wq.alloc (wtO ⟨yc, yp, yo, yw⟩)).heap.size (wq.alloc (wtO ⟨yc, yp, yo, yw⟩)) ((wq.alloc (wtO ⟨yc, yp, yo, yw⟩)).alloc (wtO ⟨yc, yp, yo, yw⟩)) := (Below.refl _ _).alloc (Nat.le_refl _) _
        have HJB : Hid (OwR wtC 4 29 ((wq.alloc (wtO ⟨yc, yp, yo, yw⟩)).alloc (wtO ⟨yc, yp, yo, yw⟩)) ar cr (noC (L.take k2) c) ∧ Below w2.heap.size w2 ((wq.alloc (wtO ⟨yc, yp, yo, yw⟩)).alloc (wtO ⟨yc, yp, yo, yw⟩))) := ⟨HJA.out.1.below hbB, below_step HJA.out.2 hbB⟩
        clear hbB
        have HRb : Hid (RdR wtC ((wq.alloc (wtO ⟨yc, yp, yo, yw⟩)).alloc (wtO ⟨yc, yp, yo, yw⟩)) (some ⟨wq.heap.size + 1, 0, none⟩) 1 [⟨yc, yp, yo, yw⟩]) := by
          have hh := RdR.built wtE (wq.alloc (wtO ⟨yc, yp, yo, yw⟩)) 29 #[.int .i64 yc, .int .i64 yp, .int .i64 yo, .bool yw] [⟨yc, yp, yo, yw⟩] rfl 1 rfl (by unfold maxLen; omega)
          have e : (wq.alloc (wtO ⟨yc, yp, yo, yw⟩)).heap.size = wq.heap.size + 1 := by simp
          rw [e] at hh
          exact hh
        go_wp2_with (first
          | (at_builtin; refine wpList_append_R wtE _ rfl _ _ 25 rfl 29 _ 32 Try.underlying25 info29 rfl rfl rfl HJB.out.1 HRb.out HM2.out.1 rfl (by omega) (by unfold maxLen; omega) ?_; intro ao3 cap3 w6 ho6 hg6 ha6)
          | fail)
        go_roundw
        case rel => exact ⟨k2 + 1, ao3, cap3, m2 + 1, by omega, by go_num, rfl, by omega, by rw [HS1.out]; exact ho6, by rw [HS1.out, List.length_append, HM2.out.1]; rfl, HJB.out.2.trans (app_below hg6 HM2.out.2 HJB.out.2.size), by rcases ha6 with rfl | rfl; exact HM2.out.2; intro a ha; cases ha; exact HJB.out.2.size⟩
        case measure => simp [intOf]; omega
    · obtain rfl : k2 = n1 := by omega
      have e0' : decide ((k2 : Int) < k2) = false := by simp
      have e9 : L.take k2 = L := List.take_of_length_le (by have := HL.out.2; omega)
      rw [e9] at HJ
      clear e9
      have hq := HN.out _ (below_step HB2.out HJ.out.2.2.1)
      have HF : Hid (P2 (wq.setCell ⟨g2, 0, none⟩ (.slice ar m2 cr)) g2 (.slice ar m2 cr) (.slice a2 n2 c2) ∧ P2 (wq.setCell ⟨g2, 0, none⟩ (.slice ar m2 cr)) g4 (.slice none 0 0) (.slice none 0 0) ∧ Below w.heap.size w (wq.setCell ⟨g2, 0, none⟩ (.slice ar m2 cr)) ∧ OwR wtC 4 29 (wq.setCell ⟨g2, 0, none⟩ (.slice ar m2 cr)) ar cr (noC L c)) := by
        refine ⟨hq.1.put0 _, hq.2.1.other HG.out.1.symm _, set_below hq.2.2 HG.out.2.1 _, HJ.out.1.keep fun a ha _ => Below.heap_setCell _ _ _ _ ?_⟩
        have h1 := HJ.out.2.2.2 a ha
        have h2 := (HN.out _ HB2.out).1.lt
        show a.block ≠ g2
        omega
      have s0 := hq.1.fz 0
      have s1 := hq.1.c0
      clear hq
      go_upto_region 10 with fail
      generalize wq.setCell ⟨g2, 0, none⟩ (.slice ar m2 cr) = W6 at *
      have v0 := HF.out.1.c0
      have v1 := HF.out.1.c1
      have v2 := HF.out.2.1.c0
      have v3 := HF.out.2.1.c1
      have v4 := HF.out.2.1.fz 0
      have v5 := HF.out.2.1.fz 1
      go_wp2
      have HC : P2 ((W6.setCell ⟨g4, 0, none⟩ (.slice ar m2 cr)).setCell ⟨g4, 1, none⟩ (.slice a2 n2 c2)) g4 (.slice ar m2 cr) (.slice a2 n2 c2) := (HF.out.2.1.put0 _).put1 _
      have HBf : Below w.heap.size w ((W6.setCell ⟨g4, 0, none⟩ (.slice ar m2 cr)).setCell ⟨g4, 1, none⟩ (.slice a2 n2 c2)) := set_below (set_below HF.out.2.2.1 HG.out.2.2 _) HG.out.2.2 _
      have HO : OwR wtC 4 29 ((W6.setCell ⟨g4, 0, none⟩ (.slice ar m2 cr)).setCell ⟨g4, 1, none⟩ (.slice a2 n2 c2)) ar cr (noC L c) := by
        have h2 := (HN.out _ HB2.out).2.1.lt
        refine (HF.out.2.2.2.keep fun a ha _ => Below.heap_setCell _ _ _ _ ?_).keep fun a ha _ => Below.heap_setCell _ _ _ _ ?_
        all_goals
          have h1 := HJ.out.2.2.2 a ha
          show a.block ≠ g4
          omega
      generalize (W6.setCell ⟨g4, 0, none⟩ (.slice ar m2 cr)).setCell ⟨g4, 1, none⟩ (.slice a2 n2 c2) = Wf at *
      have f0 := HC.c0
      have f1 := HC.c1
      refine bodyPost_ret (by simp [results, Try.results17, go_sem, f0, f1]; try rfl) rfl ?_
      rw [HT.out]
      refine ⟨ar, cr, by rw [HJ.out.2.1], HO.rd, .inr fun a ha => ⟨?_, (HO.lt a ha).1⟩, HBf⟩
      exact Nat.le_trans (HN.out _ HB2.out).2.2.size (HJ.out.2.2.2 a ha)

end Go.Proofs.Ytcjajckmcikhcaa
