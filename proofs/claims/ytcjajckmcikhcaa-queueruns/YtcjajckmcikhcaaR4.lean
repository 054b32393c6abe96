/- The document's Gone, walked. -/
import Derived.Test.YtcjajckmcikhcaaR3
namespace Go.Proofs.Ytcjajckmcikhcaa
open Go.RowKit Go.Maps
set_option linter.unusedVariables false

def goK (K : List Ck) (c : Int) : List Ck := K.filter (fun y => !(y.k.c == c))
theorem goK_snoc (K : List Ck) (y : Ck) (c : Int) : goK (K ++ [y]) c = if y.k.c = c then goK K c else goK K c ++ [y] := by
  unfold goK
  rw [List.filter_append]
  by_cases e : y.k.c = c <;> simp [e]

set_option maxRecDepth 100000 in
set_option maxHeartbeats 3200000 in
theorem rgone_any (a1 : Option Addr) (n1 c1 : Nat) (a2 : Option Addr) (n2 c2 : Nat) (L : List Wt) (K : List Ck) (c : Int) (w : World) (hL : RdR wtC w a1 c1 L) (hn : L.length = n1) (hl : n1 ≤ 1000) (hlt : ∀ a, a1 = some a → a.block < w.heap.size) (hK : RdR ckC w a2 c2 K) (hnk : K.length = n2) (hlk : n2 ≤ 1000) :
    Calls Try.prog 23 #[rqV a1 n1 c1 a2 n2 c2, .int .i64 c] w fun e w' => ∃ a' c' ar cr, e = .returned (rqV a' (noC L c).length c' ar (goK K c).length cr) ∧ RdR wtC w' a' c' (noC L c) ∧ RdR ckC w' ar cr (goK K c) ∧ Fr w w' a1 a' ∧ Fr w w' a2 ar ∧ Below w.heap.size w w' := by
  have HL : Hid (RdR wtC w a1 c1 L ∧ L.length = n1 ∧ ∀ a, a1 = some a → a.block < w.heap.size) := ⟨hL, hn, hlt⟩
  have HK : Hid (RdR ckC w a2 c2 K ∧ K.length = n2) := ⟨hK, hnk⟩
  have HW0 : Hid (P2 ((w.alloc (rqO a1 n1 c1 a2 n2 c2)).alloc (rqO none 0 0 none 0 0)) w.heap.size (.slice a1 n1 c1) (.slice a2 n2 c2) ∧ P2 ((w.alloc (rqO a1 n1 c1 a2 n2 c2)).alloc (rqO none 0 0 none 0 0)) (w.heap.size + 1) (.slice none 0 0) (.slice none 0 0) ∧ Below w.heap.size w ((w.alloc (rqO a1 n1 c1 a2 n2 c2)).alloc (rqO none 0 0 none 0 0))) := two_new w a1 n1 c1 a2 n2 c2
  clear hL hn hlt hK hnk
  go_enter Try.func23, Try.ntmps23
  go_upto_region 1 with fail
  generalize (w.alloc (rqO a1 n1 c1 a2 n2 c2)).alloc (rqO none 0 0 none 0 0) = W0 at *
  obtain ⟨g2, hg2⟩ : ∃ g, w.heap.size = g := ⟨_, rfl⟩
  obtain ⟨g4, hg4⟩ : ∃ g, w.heap.size + 1 = g := ⟨_, rfl⟩
  have HG : Hid (g2 ≠ g4 ∧ w.heap.size ≤ g2 ∧ w.heap.size ≤ g4) := ⟨by omega, by omega, by omega⟩
  have HQ : Hid (P2 W0 g2 (.slice a1 n1 c1) (.slice a2 n2 c2) ∧ P2 W0 g4 (.slice none 0 0) (.slice none 0 0) ∧ Below w.heap.size w W0) := by
    obtain ⟨h1, h3, h4⟩ := HW0.out
    rw [hg4] at h3
    rw [hg2] at h1
    exact ⟨h1, h3, h4⟩
  rw [hg4, hg2]
  clear hg2 hg4 HW0
  have q0 := HQ.out.1.c0
  have q1 := HQ.out.1.c1
  have HRm : Hid (Calls Try.prog 17 #[rqV a1 n1 c1 a2 n2 c2, .int .i64 c] W0 fun e w1 => ∃ a' c' m', e = .returned (.tuple #[rqV a' m' c' a2 n2 c2, .bool (hasB L c)]) ∧ Hid ((noC L c).length = m' ∧ RdR wtC w1 a' c' (noC L c) ∧ Fr W0 w1 a1 a' ∧ Below W0.heap.size W0 w1) ∧ w1.cell? ⟨g2, 0, none⟩ = some (.slice a1 n1 c1) ∧ w1.cell? ⟨g2, 1, none⟩ = some (.slice a2 n2 c2) ∧ w1.frozen? ⟨g2, 0, none⟩ = false ∧ w1.frozen? ⟨g2, 1, none⟩ = false) := by
    refine (rremove_any a1 n1 c1 a2 n2 c2 L c W0 (HL.out.1.below HQ.out.2.2) HL.out.2.1 hl).mono ?_
    rintro e w1 ⟨a', c', rfl, h1, h2, h3⟩
    have hq := HQ.out.1.below h3
    exact ⟨a', c', _, rfl, ⟨rfl, h1, h2, h3⟩, hq.c0, hq.c1, hq.fz 0, hq.fz 1⟩
  go_upto_region 2 with (first
    | (go_at_call 17; refine HRm.out.mono ?_; rintro e w1 ⟨a', c', m', rfl, HV, y0, y1, y2, y3⟩)
    | fail)
  have HX : Hid (P2 ((w1.setCell ⟨g2, 0, none⟩ (.slice a' m' c')).setCell ⟨g2, 1, none⟩ (.slice a2 n2 c2)) g2 (.slice a' m' c') (.slice a2 n2 c2) ∧ P2 ((w1.setCell ⟨g2, 0, none⟩ (.slice a' m' c')).setCell ⟨g2, 1, none⟩ (.slice a2 n2 c2)) g4 (.slice none 0 0) (.slice none 0 0) ∧ Below w.heap.size w ((w1.setCell ⟨g2, 0, none⟩ (.slice a' m' c')).setCell ⟨g2, 1, none⟩ (.slice a2 n2 c2)) ∧ RdR wtC ((w1.setCell ⟨g2, 0, none⟩ (.slice a' m' c')).setCell ⟨g2, 1, none⟩ (.slice a2 n2 c2)) a' c' (noC L c) ∧ (∀ a, a' = some a → a.block ≠ g2 ∧ a.block ≠ g4) ∧ w1.heap.size ≤ ((w1.setCell ⟨g2, 0, none⟩ (.slice a' m' c')).setCell ⟨g2, 1, none⟩ (.slice a2 n2 c2)).heap.size) := by
    obtain ⟨-, h1, h2, h3⟩ := HV.out
    have hb := below_step HQ.out.2.2 h3
    have hne : ∀ a, a' = some a → a.block ≠ g2 ∧ a.block ≠ g4 := by
      intro a ha
      have l2 := HQ.out.1.lt
      have l4 := HQ.out.2.1.lt
      have hg := HG.out
      rcases h2 with e | e
      · have := HL.out.2.2 a (by rw [← e]; exact ha)
        exact ⟨by omega, by omega⟩
      · have := (e a ha).1
        exact ⟨by omega, by omega⟩
    exact ⟨((HQ.out.1.below h3).put0 _).put1 _, ((HQ.out.2.1.below h3).other HG.out.1.symm _).other HG.out.1.symm _, set_below (set_below hb HG.out.2.1 _) HG.out.2.1 _, (h1.keep (by simp) fun a ha _ => Below.heap_setCell _ _ _ _ (hne a ha).1).keep (by simp) fun a ha _ => Below.heap_setCell _ _ _ _ (hne a ha).1, hne, by simp⟩
  clear y0 y1 y2 y3
  generalize (w1.setCell ⟨g2, 0, none⟩ (.slice a' m' c')).setCell ⟨g2, 1, none⟩ (.slice a2 n2 c2) = w2 at *
  have HM' : Hid ((noC L c).length = m') := HV.out.1
  have HFr : Hid (a' = a1 ∨ ∀ x, a' = some x → w.heap.size ≤ x.block ∧ x.block < w2.heap.size) := by
    obtain ⟨-, -, h2, h3⟩ := HV.out
    rcases h2 with e | e
    · exact .inl e
    · exact .inr fun x hx => ⟨Nat.le_trans HQ.out.2.2.size (e x hx).1, Nat.lt_of_lt_of_le (e x hx).2 HX.out.2.2.2.2.2⟩
  have HR4 : Hid (RdR wtC w2 a' c' (noC L c) ∧ ∀ a, a' = some a → a.block ≠ g2 ∧ a.block ≠ g4) := ⟨HX.out.2.2.2.1, HX.out.2.2.2.2.1⟩
  have HN : Hid (∀ W : World, Below w2.heap.size w2 W → P2 W g2 (.slice a' m' c') (.slice a2 n2 c2) ∧ P2 W g4 (.slice none 0 0) (.slice none 0 0) ∧ Below w.heap.size w W) := fun W hW =>
    ⟨HX.out.1.below hW, HX.out.2.1.below hW, below_step HX.out.2.2.1 hW⟩
  have HB2 : Hid (Below w2.heap.size w2 w2) := Below.refl _ _
  clear HV HX HQ HRm q0 q1
  go_upto_region 3 with fail
  have HI0 : Hid (OwR ckC 5 75 (w2.alloc (.cells #[] 75)) (some ⟨w2.heap.size, 0, none⟩) 0 [] ∧ Below w2.heap.size w2 (w2.alloc (.cells #[] 75))) := ⟨OwR.fresh 75 w2, (Below.refl _ _).alloc (Nat.le_refl _) _⟩
  generalize w2.alloc (.cells #[] 75) = W3 at *
  have t0 := (HN.out _ HI0.out.2).1.c1
  go_wp2
  go_loopw [5, 18] (fun v i wq => ∃ (k2 : Nat) (ar : Option Addr) (cr m2 : Nat), k2 ≤ n2 ∧ i = .int .i64 k2 ∧ v = .slice ar m2 cr ∧ m2 ≤ k2 ∧ Hid (OwR ckC 5 75 wq ar cr (goK (K.take k2) c) ∧ (goK (K.take k2) c).length = m2 ∧ Below w2.heap.size w2 wq ∧ ∀ a, ar = some a → w2.heap.size ≤ a.block)) (fun _ i _ => n2 - (intOf i).toNat)
  case atStart => exact ⟨0, _, _, 0, Nat.zero_le _, rfl, rfl, Nat.le_refl _, by simpa [goK] using HI0.out.1, rfl, HI0.out.2, by intro a ha; cases ha; exact Nat.le_refl _⟩
  case round =>
    clear HI0 t0
    obtain ⟨k2, ar, cr, m2, hk2, rfl, rfl, hmk, HJ⟩ := hrel
    rename World => wq
    have HBq : Hid (Below w.heap.size w wq) := (HN.out _ (below_step HB2.out HJ.out.2.2.1)).2.2
    by_cases hlt2 : k2 < n2
    · have hkl : k2 < K.length := by have := HK.out.2; omega
      obtain ⟨bk, off, hao, -, hcc⟩ := (HK.out.1.below HBq.out).at ckE hkl
      subst hao
      obtain ⟨z0, z1, z2, z3, z4⟩ := ckIn _ _ _ _ hcc
      have HS : Hid (goK (K.take (k2 + 1)) c = if K[k2].k.c = c then goK (K.take k2) c else goK (K.take k2) c ++ [K[k2]]) := by
        show _ = _
        rw [List.take_succ_eq_append_getElem hkl, goK_snoc]
      clear hcc
      generalize K[k2] = y at *
      have e0' : decide ((k2 : Int) < n2) = true := by simp; omega
      obtain ⟨⟨yc, yp, yo, yw⟩, yu⟩ := y
      simp only at z0 z1 z2 z3 z4
      have hbA : Below wq.heap.size wq (wq.alloc (ckO ⟨⟨yc, yp, yo, yw⟩, yu⟩)) := (Below.refl _ _).alloc (Nat.le_refl _) _
      have HJA : Hid (OwR ckC 5 75 (wq.alloc (ckO ⟨⟨yc, yp, yo, yw⟩, yu⟩)) ar cr (goK (K.take k2) c) ∧ Below w2.heap.size w2 (wq.alloc (ckO ⟨⟨yc, yp, yo, yw⟩, yu⟩))) := ⟨HJ.out.1.below hbA, below_step HJ.out.2.2.1 hbA⟩
      have HM2 : Hid ((goK (K.take k2) c).length = m2 ∧ ∀ a, ar = some a → w2.heap.size ≤ a.block) := ⟨HJ.out.2.1, HJ.out.2.2.2⟩
      clear hbA HJ
      by_cases ec : yc = c
      · have e1 : (yc != c) = false := by simpa [bne] using ec
        have HS1 : Hid (goK (K.take (k2 + 1)) c = goK (K.take k2) c) := by rw [HS.out, if_pos ec]; exact rfl
        clear ec HS
        go_wp2
        go_roundw
        case rel => exact ⟨k2 + 1, ar, cr, m2, by omega, by go_num, rfl, by omega, by rw [HS1.out]; exact HJA.out.1, by rw [HS1.out]; exact HM2.out.1, HJA.out.2, HM2.out.2⟩
        case measure => simp [intOf]; omega
      · have e1 : (yc != c) = true := by simpa [bne] using ec
        have HS1 : Hid (goK (K.take (k2 + 1)) c = goK (K.take k2) c ++ [⟨⟨yc, yp, yo, yw⟩, yu⟩]) := by rw [HS.out, if_neg ec]; exact rfl
        clear ec HS
        have hbB : Below (wq.alloc (ckO ⟨⟨yc, yp, yo, yw⟩, yu⟩)).heap.size (wq.alloc (ckO ⟨⟨yc, yp, yo, yw⟩, yu⟩)) ((wq.alloc (ckO ⟨⟨yc, yp, yo, yw⟩, yu⟩)).alloc (ckO ⟨⟨yc, yp, yo, yw⟩, yu⟩)) := (Below.refl _ _).alloc (Nat.le_refl _) _
        have HJB : Hid (OwR ckC 5 75 ((wq.alloc (ckO ⟨⟨yc, yp, yo, yw⟩, yu⟩)).alloc (ckO ⟨⟨yc, yp, yo, yw⟩, yu⟩)) ar cr (goK (K.take k2) c) ∧ Below w2.heap.size w2 ((wq.alloc (ckO ⟨⟨yc, yp, yo, yw⟩, yu⟩)).alloc (ckO ⟨⟨yc, yp, yo, yw⟩, yu⟩))) := ⟨HJA.out.1.below hbB, below_step HJA.out.2 hbB⟩
        clear hbB
        have HRb : Hid (RdR ckC ((wq.alloc (ckO ⟨⟨yc, yp, yo, yw⟩, yu⟩)).alloc (ckO ⟨⟨yc, yp, yo, yw⟩, yu⟩)) (some ⟨wq.heap.size + 1, 0, none⟩) 1 [⟨⟨yc, yp, yo, yw⟩, yu⟩]) := by
          have hh := RdR.built ckE (wq.alloc (ckO ⟨⟨yc, yp, yo, yw⟩, yu⟩)) 75 #[.int .i64 yc, .int .i64 yp, .int .i64 yo, .bool yw, .bool yu] [⟨⟨yc, yp, yo, yw⟩, yu⟩] rfl 1 rfl (by unfold maxLen; omega)
          have e : (wq.alloc (ckO ⟨⟨yc, yp, yo, yw⟩, yu⟩)).heap.size = wq.heap.size + 1 := by simp
          rw [e] at hh
          exact hh
        go_wp2_with (first
          | (at_builtin; refine wpList_append_R ckE _ rfl _ _ 36 rfl 75 _ 32 Try.underlying36 info75 rfl rfl rfl HJB.out.1 HRb.out HM2.out.1 rfl (by omega) (by unfold maxLen; omega) ?_; intro ao3 cap3 w6 ho6 hg6 ha6)
          | fail)
        go_roundw
        case rel => exact ⟨k2 + 1, ao3, cap3, m2 + 1, by omega, by go_num, rfl, by omega, by rw [HS1.out]; exact ho6, by rw [HS1.out, List.length_append, HM2.out.1]; rfl, HJB.out.2.trans (app_below hg6 HM2.out.2 HJB.out.2.size), by rcases ha6 with rfl | rfl; exact HM2.out.2; intro a ha; cases ha; exact HJB.out.2.size⟩
        case measure => simp [intOf]; omega
    · obtain rfl : k2 = n2 := by omega
      have e0' : decide ((k2 : Int) < k2) = false := by simp
      have e9 : K.take k2 = K := List.take_of_length_le (by have := HK.out.2; omega)
      rw [e9] at HJ
      clear e9
      have hq := HN.out _ (below_step HB2.out HJ.out.2.2.1)
      have HF : Hid (P2 (wq.setCell ⟨g2, 1, none⟩ (.slice ar m2 cr)) g2 (.slice a' m' c') (.slice ar m2 cr) ∧ P2 (wq.setCell ⟨g2, 1, none⟩ (.slice ar m2 cr)) g4 (.slice none 0 0) (.slice none 0 0) ∧ Below w.heap.size w (wq.setCell ⟨g2, 1, none⟩ (.slice ar m2 cr)) ∧ OwR ckC 5 75 (wq.setCell ⟨g2, 1, none⟩ (.slice ar m2 cr)) ar cr (goK K c) ∧ RdR wtC (wq.setCell ⟨g2, 1, none⟩ (.slice ar m2 cr)) a' c' (noC L c)) := by
        refine ⟨hq.1.put1 _, hq.2.1.other HG.out.1.symm _, set_below hq.2.2 HG.out.2.1 _, HJ.out.1.keep fun a ha _ => Below.heap_setCell _ _ _ _ ?_, (HR4.out.1.below HJ.out.2.2.1).keep (by simp) fun a ha _ => Below.heap_setCell _ _ _ _ (HR4.out.2 a ha).1⟩
        have h1 := HJ.out.2.2.2 a ha
        have h2 := (HN.out _ HB2.out).1.lt
        show a.block ≠ g2
        omega
      have HSz : Hid (w2.heap.size ≤ (wq.setCell ⟨g2, 1, none⟩ (.slice ar m2 cr)).heap.size) := by
        have := HJ.out.2.2.1.size
        show _ ≤ _
        simpa using this
      have s0 := hq.1.fz 1
      have s1 := hq.1.c1
      clear hq
      go_upto_region 10 with fail
      generalize wq.setCell ⟨g2, 1, none⟩ (.slice ar m2 cr) = W6 at *
      have v0 := HF.out.1.c0
      have v1 := HF.out.1.c1
      have v2 := HF.out.2.1.c0
      have v3 := HF.out.2.1.c1
      have v4 := HF.out.2.1.fz 0
      have v5 := HF.out.2.1.fz 1
      go_wp2
      have HC : P2 ((W6.setCell ⟨g4, 0, none⟩ (.slice a' m' c')).setCell ⟨g4, 1, none⟩ (.slice ar m2 cr)) g4 (.slice a' m' c') (.slice ar m2 cr) := (HF.out.2.1.put0 _).put1 _
      have HBf : Below w.heap.size w ((W6.setCell ⟨g4, 0, none⟩ (.slice a' m' c')).setCell ⟨g4, 1, none⟩ (.slice ar m2 cr)) := set_below (set_below HF.out.2.2.1 HG.out.2.2 _) HG.out.2.2 _
      have HO : OwR ckC 5 75 ((W6.setCell ⟨g4, 0, none⟩ (.slice a' m' c')).setCell ⟨g4, 1, none⟩ (.slice ar m2 cr)) ar cr (goK K c) := by
        have h2 := (HN.out _ HB2.out).2.1.lt
        refine (HF.out.2.2.2.1.keep fun a ha _ => Below.heap_setCell _ _ _ _ ?_).keep fun a ha _ => Below.heap_setCell _ _ _ _ ?_
        all_goals
          have h1 := HJ.out.2.2.2 a ha
          show a.block ≠ g4
          omega
      have HO2 : RdR wtC ((W6.setCell ⟨g4, 0, none⟩ (.slice a' m' c')).setCell ⟨g4, 1, none⟩ (.slice ar m2 cr)) a' c' (noC L c) := (HF.out.2.2.2.2.keep (by simp) fun a ha _ => Below.heap_setCell _ _ _ _ (HR4.out.2 a ha).2).keep (by simp) fun a ha _ => Below.heap_setCell _ _ _ _ (HR4.out.2 a ha).2
      have hszf : w2.heap.size ≤ ((W6.setCell ⟨g4, 0, none⟩ (.slice a' m' c')).setCell ⟨g4, 1, none⟩ (.slice ar m2 cr)).heap.size := by
        have h6 : w2.heap.size ≤ W6.heap.size := HSz.out
        simpa using h6
      generalize (W6.setCell ⟨g4, 0, none⟩ (.slice a' m' c')).setCell ⟨g4, 1, none⟩ (.slice ar m2 cr) = Wf at *
      have f0 := HC.c0
      have f1 := HC.c1
      refine bodyPost_ret (by simp [results, Try.results23, go_sem, f0, f1]; try rfl) rfl ?_
      refine ⟨a', c', ar, cr, by rw [HJ.out.2.1, HM'.out], HO2, HO.rd, ?_, .inr fun a ha => ⟨?_, (HO.lt a ha).1⟩, HBf⟩
      · rcases HFr.out with e | e
        · exact .inl e
        · exact .inr fun a ha => ⟨(e a ha).1, Nat.lt_of_lt_of_le (e a ha).2 hszf⟩
      · exact Nat.le_trans (HN.out _ HB2.out).2.2.size (HJ.out.2.2.2 a ha)

end Go.Proofs.Ytcjajckmcikhcaa
