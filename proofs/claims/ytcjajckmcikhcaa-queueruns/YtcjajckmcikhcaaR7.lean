/- The document's Answer, walked. -/
import Derived.Test.YtcjajckmcikhcaaR6
namespace Go.Proofs.Ytcjajckmcikhcaa
open Go.RowKit Go.Maps
set_option linter.unusedVariables false

def ansK (K : List Ck) (x : Wt) : List Ck := K.eraseIdx (fdN K x)

set_option maxRecDepth 100000 in
set_option maxHeartbeats 3200000 in
theorem ranswer_any (a1 : Option Addr) (n1 c1 : Nat) (a2 : Option Addr) (n2 c2 : Nat) (K : List Ck) (q : Wt) (w : World) (hK : RdR ckC w a2 c2 K) (hn : K.length = n2) (hl : n2 ≤ 1000) :
    Calls Try.prog 21 #[rqV a1 n1 c1 a2 n2 c2, .int .i64 q.c, .int .i64 q.p, .int .i64 q.o, .bool q.wr] w fun e w' => ∃ a' c', e = .returned (rqV a1 n1 c1 a' (ansK K q).length c') ∧ RdR ckC w' a' c' (ansK K q) ∧ Fr w w' a2 a' ∧ Below w.heap.size w w' := by
  have HK : Hid (RdR ckC w a2 c2 K ∧ K.length = n2) := ⟨hK, hn⟩
  have HW0 : Hid (P2 ((w.alloc (rqO a1 n1 c1 a2 n2 c2)).alloc (rqO none 0 0 none 0 0)) w.heap.size (.slice a1 n1 c1) (.slice a2 n2 c2) ∧ P2 ((w.alloc (rqO a1 n1 c1 a2 n2 c2)).alloc (rqO none 0 0 none 0 0)) (w.heap.size + 1) (.slice none 0 0) (.slice none 0 0) ∧ Below w.heap.size w ((w.alloc (rqO a1 n1 c1 a2 n2 c2)).alloc (rqO none 0 0 none 0 0))) := two_new w a1 n1 c1 a2 n2 c2
  have hcm0 := hK.mx
  have hcl0 := hK.le
  rw [hn] at hcl0
  have hcm : c2 ≤ 9223372036854775807 := by unfold maxLen at hcm0; omega
  clear hK hn hcm0
  go_enter Try.func21, Try.ntmps21
  go_upto_region 1 with fail
  generalize (w.alloc (rqO a1 n1 c1 a2 n2 c2)).alloc (rqO none 0 0 none 0 0) = W0 at *
  obtain ⟨g2, hg2⟩ : ∃ g, w.heap.size = g := ⟨_, rfl⟩
  obtain ⟨g4, hg4⟩ : ∃ g, w.heap.size + 1 = g := ⟨_, rfl⟩
  have HG : Hid (g2 ≠ g4 ∧ w.heap.size ≤ g2 ∧ w.heap.size ≤ g4) := ⟨by omega, by omega, by omega⟩
  have HQ : Hid (P2 W0 g2 (.slice a1 n1 c1) (.slice a2 n2 c2) ∧ P2 W0 g4 (.slice none 0 0) (.slice none 0 0) ∧ Below w.heap.size w W0) := by
    obtain ⟨h1, h3, h4⟩ := HW0.out
    rw [hg4] at h3
    rw [hg2] at h1
    exact ⟨h1, h3, h4⟩
  rw [hg4, hg2]
  clear hg2 hg4 HW0
  have HN : Hid (∀ W : World, Below W0.heap.size W0 W → P2 W g2 (.slice a1 n1 c1) (.slice a2 n2 c2) ∧ P2 W g4 (.slice none 0 0) (.slice none 0 0) ∧ Below w.heap.size w W) := fun W hW =>
    ⟨HQ.out.1.below hW, HQ.out.2.1.below hW, below_step HQ.out.2.2 hW⟩
  have q0 := HQ.out.1.c0
  have q1 := HQ.out.1.c1
  by_cases hh : 0 ≤ fdZ K q
  · obtain ⟨i, hi, hfz, hfn, hki⟩ := fdZ_ge hh
    have HR : Hid (ansK K q = K.take i ++ K.drop (i + 1)) := by
      show _ = _
      unfold ansK
      rw [hfn]
      exact List.eraseIdx_eq_take_drop_succ _ _
    have hin : i < n2 := by have := HK.out.2; omega
    have e1' : decide ((i : Int) < 0) = false := by simp
    obtain ⟨bk, off, hao, hbk⟩ : ∃ bk off, a2 = some ⟨bk, off, none⟩ ∧ bk < w.heap.size := by
      obtain ⟨bk, off, h1, h2, -⟩ := HK.out.1.at ckE hi
      exact ⟨bk, off, h1, h2⟩
    subst hao
    clear hh hfn hki hi
    have hkc : i ≤ c2 := by omega
    have hkc1 : i + 1 ≤ c2 := by omega
    have hj63 : IntKind.i64.wrap ((i : Int) + 1) = (i : Int) + 1 := by rw [IntKind.wrap_i64]; omega
    have hjn : (0 : Int) ≤ (i : Int) + 1 ∧ (i : Int) + 1 ≤ (n2 : Int) := by omega
    have hkm : (0 : Int) ≤ (i : Int) ∧ (i : Int) ≤ (n2 : Int) := by omega
    have hk0' : ¬ ((i : Int) < 0) := by omega
    obtain ⟨a9, ha9, hb9⟩ : ∃ a9 : Addr, (if c2 = i + 1 then some (⟨bk, off, none⟩ : Addr) else some ⟨bk, off + (i + 1) * 5, none⟩) = some a9 ∧ (i + 1 < c2 → a9 = ⟨bk, off + (i + 1) * 5, none⟩) := by
      by_cases h : c2 = i + 1
      · exact ⟨_, if_pos h, fun h' => by omega⟩
      · exact ⟨_, if_neg h, fun _ => rfl⟩
    go_upto_region 4 with (first
      | (go_at_call 39; refine (find_any a1 n1 c1 (some ⟨bk, off, none⟩) n2 c2 K q _ (HK.out.1.below HQ.out.2.2) HK.out.2 (by omega)).mono ?_; rw [hfz]; rintro e w2 ⟨rfl, hb2⟩; have HB2 : Hid (Below W0.heap.size W0 w2) := hb2; clear hb2)
      | fail)
    have HBA : Hid (Below w2.heap.size w2 (w2.alloc (.cells #[] 75)) ∧ Below W0.heap.size W0 (w2.alloc (.cells #[] 75))) := ⟨(Below.refl _ _).alloc (Nat.le_refl _) _, below_step HB2.out ((Below.refl _ _).alloc (Nat.le_refl _) _)⟩
    have t0 := (HN.out _ HBA.out.2).1.c1
    clear hfz
    have HM3 : Hid (K.length = n2) := HK.out.2
    have HT : Hid (∀ W : World, Below w.heap.size w W → RdR ckC W (some ⟨bk, off, none⟩) c2 (K.take i) ∧ RdR ckC W (some a9) (c2 - (i + 1)) (K.drop (i + 1))) := fun W hW => by
      have h1 := HK.out.1.below hW
      exact ⟨h1.head ckE i c2 (by have := HK.out.2; omega) hkc h1.mx (fun h => by cases h), h1.tail ckE (i + 1) (by have := HK.out.2; omega) a9 (fun h => hb9 (by have := HK.out.2; omega))⟩
    go_upto_region 5 with (first
      | (at_builtin; refine wpList_append_R ckE _ rfl _ _ 36 rfl 75 _ 32 Try.underlying36 info75 rfl (L := []) (n := 0) (m := i) rfl rfl (OwR.fresh 75 w2) (HT.out _ (HN.out _ HBA.out.2).2.2).1 rfl (by have := HM3.out; rw [List.length_take]; omega) (by omega) (by unfold maxLen; omega) ?_; intro a3 c3 w3 ho3 hg3 ha3; have HA3 : Hid (∀ a, a3 = some a → w2.heap.size ≤ a.block) := (by rcases ha3 with rfl | rfl; intro a ha; cases ha; exact Nat.le_refl _; intro a ha; cases ha; exact HBA.out.1.size); have HB3 : Hid (Below w2.heap.size w2 w3) := HBA.out.1.trans (app_below hg3 (by intro a ha; cases ha; exact Nat.le_refl _) HBA.out.1.size); have HO3 : Hid (OwR ckC 5 75 w3 a3 c3 (K.take i)) := (show OwR ckC 5 75 w3 a3 c3 (K.take i) from (by simpa using ho3)); clear ho3 hg3 ha3)
      | fail)
    have u0 := (HN.out _ (below_step HB2.out HB3.out)).1.c1
    obtain ⟨m5, hm5⟩ : ∃ m5, i + (n2 - (i + 1)) = m5 := ⟨_, rfl⟩
    go_upto_region 6 with (first
      | (at_builtin; refine wpList_append_R ckE _ rfl _ _ 36 rfl 75 _ 32 Try.underlying36 info75 rfl (n := i) (m := n2 - (i + 1)) (cap' := c2 - (i + 1)) (ao' := some a9) rfl (by first | rfl | (simp [go_sem]; done)) HO3.out (HT.out _ (HN.out _ (below_step HB2.out HB3.out)).2.2).2 (by have := HM3.out; rw [List.length_take]; omega) (by have := HM3.out; rw [List.length_drop]; omega) (by omega) (by unfold maxLen; omega) ?_; intro a5 c5 w5 ho5 hg5 ha5; have HB5 : Hid (Below w2.heap.size w2 w5) := HB3.out.trans (app_below hg5 HA3.out HB3.out.size); have HO5 : Hid (OwR ckC 5 75 w5 a5 c5 (K.take i ++ K.drop (i + 1)) ∧ ∀ a, a5 = some a → w2.heap.size ≤ a.block) := ⟨ho5, by rcases ha5 with rfl | rfl; exact HA3.out; intro a ha; cases ha; exact HB3.out.size⟩; clear ho5 hg5 ha5; have v0 := (HN.out _ (below_step HB2.out HB5.out)).1.c0; have v1 := (HN.out _ (below_step HB2.out HB5.out)).1.c1; have v2 := (HN.out _ (below_step HB2.out HB5.out)).1.fz 1; rw [hm5])
      | fail)
    have HF : Hid (P2 (w5.setCell ⟨g2, 1, none⟩ (.slice a5 m5 c5)) g2 (.slice a1 n1 c1) (.slice a5 m5 c5) ∧ P2 (w5.setCell ⟨g2, 1, none⟩ (.slice a5 m5 c5)) g4 (.slice none 0 0) (.slice none 0 0) ∧ Below w.heap.size w (w5.setCell ⟨g2, 1, none⟩ (.slice a5 m5 c5)) ∧ OwR ckC 5 75 (w5.setCell ⟨g2, 1, none⟩ (.slice a5 m5 c5)) a5 c5 (K.take i ++ K.drop (i + 1))) := by
      have hq := HN.out _ (below_step HB2.out HB5.out)
      refine ⟨hq.1.put1 _, hq.2.1.other HG.out.1.symm _, set_below hq.2.2 HG.out.2.1 _, HO5.out.1.keep fun a ha _ => Below.heap_setCell _ _ _ _ ?_⟩
      have h1 := HO5.out.2 a ha
      have h2 := (HN.out _ HB2.out).1.lt
      show a.block ≠ g2
      omega
    clear v0 v1 v2
    generalize w5.setCell ⟨g2, 1, none⟩ (.slice a5 m5 c5) = W6 at *
    have v0 := HF.out.1.c0
    have v1 := HF.out.1.c1
    have v2 := HF.out.2.1.c0
    have v3 := HF.out.2.1.c1
    have v4 := HF.out.2.1.fz 0
    have v5 := HF.out.2.1.fz 1
    go_wp2
    have HC : P2 ((W6.setCell ⟨g4, 0, none⟩ (.slice a1 n1 c1)).setCell ⟨g4, 1, none⟩ (.slice a5 m5 c5)) g4 (.slice a1 n1 c1) (.slice a5 m5 c5) := (HF.out.2.1.put0 _).put1 _
    have HBf : Below w.heap.size w ((W6.setCell ⟨g4, 0, none⟩ (.slice a1 n1 c1)).setCell ⟨g4, 1, none⟩ (.slice a5 m5 c5)) := set_below (set_below HF.out.2.2.1 HG.out.2.2 _) HG.out.2.2 _
    have HO : OwR ckC 5 75 ((W6.setCell ⟨g4, 0, none⟩ (.slice a1 n1 c1)).setCell ⟨g4, 1, none⟩ (.slice a5 m5 c5)) a5 c5 (K.take i ++ K.drop (i + 1)) := by
      have h2 := (HN.out _ HB2.out).2.1.lt
      refine (HF.out.2.2.2.keep fun a ha _ => Below.heap_setCell _ _ _ _ ?_).keep fun a ha _ => Below.heap_setCell _ _ _ _ ?_
      all_goals
        have h1 := HO5.out.2 a ha
        show a.block ≠ g4
        omega
    generalize (W6.setCell ⟨g4, 0, none⟩ (.slice a1 n1 c1)).setCell ⟨g4, 1, none⟩ (.slice a5 m5 c5) = Wf at *
    have f0 := HC.c0
    have f1 := HC.c1
    refine bodyPost_ret (by simp [results, Try.results21, go_sem, f0, f1]; try rfl) rfl ?_
    rw [HR.out]
    refine ⟨a5, c5, by rw [← hm5, List.length_append, List.length_take, List.length_drop, HK.out.2, Nat.min_eq_left (by omega)], HO.rd, .inr fun a ha => ⟨?_, (HO.lt a ha).1⟩, HBf⟩
    exact Nat.le_trans (HN.out _ HB2.out).2.2.size (HO5.out.2 a ha)
  · obtain ⟨fz, hfz⟩ : ∃ fz, fdZ K q = fz := ⟨_, rfl⟩
    have HR : Hid (ansK K q = K) := by
      show _ = _
      unfold ansK
      refine List.eraseIdx_of_length_le ?_
      unfold fdZ at hh
      by_cases e : fdN K q < K.length
      · rw [if_pos e] at hh; omega
      · omega
    rw [hfz] at hh
    have e1' : decide (fz < 0) = true := by simp; omega
    clear hh
    go_upto_region 3 with (first
      | (go_at_call 39; refine (find_any a1 n1 c1 a2 n2 c2 K q _ (HK.out.1.below HQ.out.2.2) HK.out.2 (by omega)).mono ?_; rw [hfz]; rintro e w2 ⟨rfl, hb2⟩; have HB2 : Hid (Below W0.heap.size W0 w2) := hb2; clear hb2)
      | fail)
    clear hfz
    have p0 := (HN.out _ HB2.out).1.c0
    have p1 := (HN.out _ HB2.out).1.c1
    have r0 := (HN.out _ HB2.out).2.1.fz 0
    have r1 := (HN.out _ HB2.out).2.1.fz 1
    have r2 := (HN.out _ HB2.out).2.1.c0
    have r3 := (HN.out _ HB2.out).2.1.c1
    go_wp2
    have HC : P2 ((w2.setCell ⟨g4, 0, none⟩ (.slice a1 n1 c1)).setCell ⟨g4, 1, none⟩ (.slice a2 n2 c2)) g4 (.slice a1 n1 c1) (.slice a2 n2 c2) := ((HN.out _ HB2.out).2.1.put0 _).put1 _
    have HBf : Below w.heap.size w ((w2.setCell ⟨g4, 0, none⟩ (.slice a1 n1 c1)).setCell ⟨g4, 1, none⟩ (.slice a2 n2 c2)) := set_below (set_below (HN.out _ HB2.out).2.2 HG.out.2.2 _) HG.out.2.2 _
    generalize (w2.setCell ⟨g4, 0, none⟩ (.slice a1 n1 c1)).setCell ⟨g4, 1, none⟩ (.slice a2 n2 c2) = Wf at *
    have f0 := HC.c0
    have f1 := HC.c1
    refine bodyPost_ret (by simp [results, Try.results21, go_sem, f0, f1]; try rfl) rfl ?_
    rw [HR.out]
    exact ⟨a2, c2, by rw [HK.out.2], HK.out.1.below HBf, .refl _ _ _, HBf⟩

end Go.Proofs.Ytcjajckmcikhcaa
