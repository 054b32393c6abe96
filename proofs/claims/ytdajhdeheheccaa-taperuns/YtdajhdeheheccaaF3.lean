/- What the reference's Cut and Crash do, walked. -/
import Derived.Test.YtdajhdeheheccaaF2
namespace Go.Proofs.Ytdajhdeheheccaa
open Go.RowKit
set_option linter.unusedVariables false

theorem take_one {bs : List Nat} {k : Nat} (h : k < bs.length) : bs.take k ++ [bs[k]] = bs.take (k + 1) := by rw [List.take_succ_eq_append_getElem h]

theorem Own8.push {w : World} {base : Nat} {ao : Option Addr} {cap k : Nat} {bs : List Nat} (hk : k < bs.length) (h : OwnI w base 5 .u8 ao cap (ci (bs.take k) ++ [((bs[k] : Nat) : Int)])) (hb : ∀ b ∈ bs, b < 256) : Own8 w base ao (k + 1) cap (bs.take (k + 1)) := by
  refine ⟨?_, by simp; omega, fun b h2 => hb b (List.mem_of_mem_take h2)⟩
  have e : ci (bs.take (k + 1)) = ci (bs.take k) ++ [((bs[k] : Nat) : Int)] := by rw [← take_one hk, ci_append]; rfl
  rw [e]; exact h

set_option maxHeartbeats 3200000 in
theorem refCut_any (a : Option Addr) (n c s r : Nat) (bs : List Nat) (kk : Int) (L S : Nat) (T : List Nat) (w : World) (hR : Rd8 w a n c bs) (hn : n ≤ 20000) (hs : s ≤ n) (hL : cutN kk n = L) (hS : min s L = S) (hT : bs.take L = T) :
    Calls Try.prog 20 #[rv a n c s r, .int .i64 kk] w fun e w' => ∃ a' c', e = .returned (rv a' L c' S r) ∧ Own8 w' w.heap.size a' L c' T ∧ Below w.heap.size w w' := by
  have hl := hR.len
  have HX1 := (show Hid _ from bx1 w a n c s r zbox)
  have HX2 := (show Hid _ from bx2 w (tbox a n c s r))
  have hW : Below w.heap.size w ((w.alloc (tbox a n c s r)).alloc zbox) := ((Below.refl _ _).alloc (Nat.le_refl _) _).alloc (by simp) _
  have hLn := cutN_le kk n
  rw [hL] at hLn
  have HS : Hid (min s L = S) := hS
  have HT : Hid (bs.take L = T) := hT
  unfold cutN at hL
  have HL : Hid ((min (max kk 0) (n : Int)).toNat = L) := hL
  clear hL hS hT
  have HC : Hid (∀ W' : World, Below (w.heap.size + 2) ((w.alloc (tbox a n c s r)).alloc zbox) W' → W'.cell? ⟨w.heap.size, 0, none⟩ = some (.slice a n c)) := fun W' hb => (HX1.out.below hb (by omega)).c0
  go_enter Try.func20, Try.ntmps20
  go_wp2
  go_loopw [5, 11] (fun o i wr => ∃ (k j : Nat) (ao : Option Addr) (cap : Nat), k ≤ n ∧ i = .int .i64 k ∧ j = min k L ∧ o = .slice ao j cap ∧ Hid (Own8 wr (w.heap.size + 2) ao j cap (bs.take j)) ∧ Below (w.heap.size + 2) ((w.alloc (tbox a n c s r)).alloc zbox) wr) (fun _ i _ => n - (intOf i).toNat)
  case atStart => exact ⟨0, 0, _, _, Nat.zero_le _, rfl, by omega, rfl, ⟨OwnI.fresh3 w _ _ _ _ _ (Nat.le_refl _), rfl, by simp⟩, (Below.refl _ _).alloc (by simp) _⟩
  case round =>
    obtain ⟨k, j, ao, cap, hk, rfl, hj, rfl, HO, hbel⟩ := hrel
    have HJ : Hid (j = min k L) := hj
    clear hj
    have hsz := hbel.size
    simp at hsz
    have hc := HC.out _ hbel
    by_cases hlt : k < n
    · have hlb : k < bs.length := by omega
      by_cases hkL : k < L
      · obtain rfl : j = k := by have := HJ.out; omega
        have hki : (j : Int) < kk := by have := HL.out; omega
        obtain ⟨b, off, rfl, h2, hcell⟩ := (hR.below (hW.trans (hbel.mono (by omega)))).at hlt
        have hol := HO.out.len
        go_wp2_with (at_builtin; refine wpList_append_rdI _ rfl (.tmp 17) (.tmp 23) 27 rfl (w.heap.size + 2) 5 .u8 (.int .u8 0) 1 Try.underlying27 info5 rfl rfl rfl (HO.out.own.alloc _) (RdI.one _ _ _ _) (by rw [ci_length]; exact hol) rfl (by omega) (by unfold maxLen; omega) (by simp; omega) ?_; intro ao4 cap4 w4 ho4 hb4; have hB4 : Below (w.heap.size + 2) ((w.alloc (tbox (some ⟨b, off, none⟩) n c s r)).alloc zbox) w4 := (hbel.alloc (by omega) _).trans hb4; have ho4 := Own8.push hlb ho4 hR.byte)
        go_roundw
        case rel => exact ⟨j + 1, j + 1, ao4, cap4, by omega, by go_num, by omega, rfl, ho4, hB4⟩
        case measure => simp [intOf]; omega
      · have hki : ¬ (k : Int) < kk := by have := HL.out; omega
        go_wp2
        go_roundw
        case rel => exact ⟨k + 1, j, ao, cap, by omega, by go_num, by have := HJ.out; omega, rfl, HO.out, hbel⟩
        case measure => simp [intOf]; omega
    · obtain rfl : j = L := by have := HJ.out; omega
      have hx1 := HX1.out.below hbel (by omega)
      have hx2 := HX2.out.below hbel (by omega)
      have q0 := hx1.c0
      have q1 := hx1.c1
      have q2 := hx1.c2
      have f0 := hx1.f 0
      have f1 := hx1.f 1
      have s0 := hx2.c0
      have s1 := hx2.c1
      have s2 := hx2.c2
      have g0 := hx2.f 0
      have g1 := hx2.f 1
      have g2 := hx2.f 2
      have ho := HO.out
      rw [HT.out] at ho
      by_cases hsj : (j : Int) < (s : Int)
      · have eS : Hid (S = j) := (show S = j by have := HS.out; omega)
        go_wp2
        have hx3 := ((hx2.other ⟨w.heap.size, 0, none⟩ (.slice ao j cap) (by simp)).other ⟨w.heap.size, 1, none⟩ (.int .i64 (j : Int)) (by simp)).put (.slice ao j cap) (.int .i64 (j : Int)) (.int .i64 (r : Int))
        refine bodyPost_ret (by simp [results, Try.results20, go_sem, hx3.c0, hx3.c1, hx3.c2]; try rfl) rfl ?_
        exact ⟨ao, cap, by rw [eS.out], (((((ho.set ⟨w.heap.size, 0, none⟩ _ (by simp)).set ⟨w.heap.size, 1, none⟩ _ (by simp)).set ⟨w.heap.size + 1, 0, none⟩ _ (by simp)).set ⟨w.heap.size + 1, 1, none⟩ _ (by simp)).set ⟨w.heap.size + 1, 2, none⟩ _ (by simp)).mono (by omega), (((((hW.trans (hbel.mono (by omega))).setCell (p := ⟨w.heap.size, 0, none⟩) (by simp) _).setCell (p := ⟨w.heap.size, 1, none⟩) (by simp) _).setCell (p := ⟨w.heap.size + 1, 0, none⟩) (by simp) _).setCell (p := ⟨w.heap.size + 1, 1, none⟩) (by simp) _).setCell (p := ⟨w.heap.size + 1, 2, none⟩) (by simp) _⟩
      · have eS : Hid (S = s) := (show S = s by have := HS.out; omega)
        go_wp2
        have hx3 := (hx2.other ⟨w.heap.size, 0, none⟩ (.slice ao j cap) (by simp)).put (.slice ao j cap) (.int .i64 (s : Int)) (.int .i64 (r : Int))
        refine bodyPost_ret (by simp [results, Try.results20, go_sem, hx3.c0, hx3.c1, hx3.c2]; try rfl) rfl ?_
        exact ⟨ao, cap, by rw [eS.out], ((((ho.set ⟨w.heap.size, 0, none⟩ _ (by simp)).set ⟨w.heap.size + 1, 0, none⟩ _ (by simp)).set ⟨w.heap.size + 1, 1, none⟩ _ (by simp)).set ⟨w.heap.size + 1, 2, none⟩ _ (by simp)).mono (by omega), ((((hW.trans (hbel.mono (by omega))).setCell (p := ⟨w.heap.size, 0, none⟩) (by simp) _).setCell (p := ⟨w.heap.size + 1, 0, none⟩) (by simp) _).setCell (p := ⟨w.heap.size + 1, 1, none⟩) (by simp) _).setCell (p := ⟨w.heap.size + 1, 2, none⟩) (by simp) _⟩

set_option maxHeartbeats 3200000 in
theorem refCrash_any (a : Option Addr) (n c s r : Nat) (bs : List Nat) (kk : Int) (L : Nat) (T : List Nat) (w : World) (hR : Rd8 w a n c bs) (hn : n ≤ 20000) (hs : s ≤ n) (hL : crashN s n kk = L) (hT : bs.take L = T) :
    Calls Try.prog 16 #[rv a n c s r, .int .i64 kk] w fun e w' => ∃ a' c', e = .returned (rv a' L c' L r) ∧ Own8 w' w.heap.size a' L c' T ∧ Below w.heap.size w w' := by
  have hl := hR.len
  have hcap := hR.rd.le
  rw [ci_length, hl] at hcap
  have hmx := hR.rd.mx
  unfold maxLen at hmx
  have HX1 := (show Hid _ from bx1 w a n c s r zbox)
  have HX2 := (show Hid _ from bx2 w (tbox a n c s r))
  have hW : Below w.heap.size w ((w.alloc (tbox a n c s r)).alloc zbox) := ((Below.refl _ _).alloc (Nat.le_refl _) _).alloc (by simp) _
  have hLn := crashN_le s n kk hs
  rw [hL] at hLn
  have HT : Hid (bs.take L = T) := hT
  unfold crashN at hL
  have HL : Hid (s + (min (max kk 0) ((n : Int) - s)).toNat = L) := hL
  clear hL hT
  have HC : Hid (∀ W' : World, Below (w.heap.size + 2) ((w.alloc (tbox a n c s r)).alloc zbox) W' → W'.cell? ⟨w.heap.size, 0, none⟩ = some (.slice a n c) ∧ W'.cell? ⟨w.heap.size, 1, none⟩ = some (.int .i64 (s : Int))) := fun W' hb => ⟨(HX1.out.below hb (by omega)).c0, (HX1.out.below hb (by omega)).c1⟩
  have hRs : Rd8 w a s c (bs.take s) := ⟨by have := hR.rd.head s (by rw [ci_length]; omega); rwa [ci_take] at this, by simp; omega, fun b hb => hR.byte b (List.mem_of_mem_take hb)⟩
  have hsl := hRs.len
  go_enter Try.func16, Try.ntmps16
  go_wp2_with (at_builtin; refine wpList_append_rdI _ rfl (.tmp 7) (.tmp 12) 27 rfl (w.heap.size + 2) 5 .u8 (.int .u8 0) 1 Try.underlying27 info5 rfl rfl rfl (OwnI.fresh3 w _ _ _ _ _ (Nat.le_refl _)) ((hRs.below hW).alloc _).rd rfl (by rw [ci_length]; exact hsl) (by omega) (by unfold maxLen; omega) (by simp) ?_; intro ao3 cap3 w3 ho3 hb3; have ho3 : Own8 w3 (w.heap.size + 2) ao3 s cap3 (bs.take s) := ⟨ho3, hsl, hRs.byte⟩; have hB3 : Below (w.heap.size + 2) ((w.alloc (tbox a n c s r)).alloc zbox) w3 := ((Below.refl _ _).alloc (by simp) (.cells #[] 5)).trans hb3; obtain ⟨q0, q1⟩ := HC.out _ hB3)
  go_loopw [5, 6] (fun o i wr => ∃ (k j : Nat) (ao : Option Addr) (cap : Nat), s ≤ k ∧ k ≤ n ∧ i = .int .i64 k ∧ j = min k L ∧ o = .slice ao j cap ∧ Hid (Own8 wr (w.heap.size + 2) ao j cap (bs.take j)) ∧ Below (w.heap.size + 2) ((w.alloc (tbox a n c s r)).alloc zbox) wr) (fun _ i _ => n - (intOf i).toNat)
  case atStart => exact ⟨s, s, ao3, cap3, Nat.le_refl _, hs, rfl, by omega, rfl, ho3, hB3⟩
  case round =>
    obtain ⟨k, j, ao, cap, hsk, hk, rfl, hj, rfl, HO, hbel⟩ := hrel
    have HJ : Hid (j = min k L) := hj
    clear hj q0 q1
    have hsz := hbel.size
    simp at hsz
    obtain ⟨hc, hcs⟩ := HC.out _ hbel
    by_cases hlt : k < n
    · have hlb : k < bs.length := by omega
      by_cases hkL : k < L
      · obtain rfl : j = k := by have := HJ.out; omega
        have hki : (j : Int) - (s : Int) < kk := by have := HL.out; omega
        obtain ⟨b, off, rfl, h2, hcell⟩ := (hR.below (hW.trans (hbel.mono (by omega)))).at hlt
        have hol := HO.out.len
        go_wp2_with (at_builtin; refine wpList_append_rdI _ rfl (.tmp 29) (.tmp 35) 27 rfl (w.heap.size + 2) 5 .u8 (.int .u8 0) 1 Try.underlying27 info5 rfl rfl rfl (HO.out.own.alloc _) (RdI.one _ _ _ _) (by rw [ci_length]; exact hol) rfl (by omega) (by unfold maxLen; omega) (by simp; omega) ?_; intro ao4 cap4 w4 ho4 hb4; have hB4 : Below (w.heap.size + 2) ((w.alloc (tbox (some ⟨b, off, none⟩) n c s r)).alloc zbox) w4 := (hbel.alloc (by omega) _).trans hb4; have ho4 := Own8.push hlb ho4 hR.byte)
        go_roundw
        case rel => exact ⟨j + 1, j + 1, ao4, cap4, by omega, by omega, by go_num, by omega, rfl, ho4, hB4⟩
        case measure => simp [intOf]; omega
      · have hki : ¬ (k : Int) - (s : Int) < kk := by have := HL.out; omega
        go_wp2
        go_roundw
        case rel => exact ⟨k + 1, j, ao, cap, by omega, by omega, by go_num, by have := HJ.out; omega, rfl, HO.out, hbel⟩
        case measure => simp [intOf]; omega
    · obtain rfl : j = L := by have := HJ.out; omega
      have hx1 := HX1.out.below hbel (by omega)
      have hx2 := HX2.out.below hbel (by omega)
      have q2 := hx1.c2
      have s0 := hx2.c0
      have s1 := hx2.c1
      have s2 := hx2.c2
      have g0 := hx2.f 0
      have g1 := hx2.f 1
      have g2 := hx2.f 2
      have ho := HO.out
      rw [HT.out] at ho
      go_wp2
      have hx3 := hx2.put (.slice ao j cap) (.int .i64 (j : Int)) (.int .i64 (r : Int))
      refine bodyPost_ret (by simp [results, Try.results16, go_sem, hx3.c0, hx3.c1, hx3.c2]; try rfl) rfl ?_
      exact ⟨ao, cap, rfl, (((ho.set ⟨w.heap.size + 1, 0, none⟩ _ (by simp)).set ⟨w.heap.size + 1, 1, none⟩ _ (by simp)).set ⟨w.heap.size + 1, 2, none⟩ _ (by simp)).mono (by omega), (((hW.trans (hbel.mono (by omega))).setCell (p := ⟨w.heap.size + 1, 0, none⟩) (by simp) _).setCell (p := ⟨w.heap.size + 1, 1, none⟩) (by simp) _).setCell (p := ⟨w.heap.size + 1, 2, none⟩) (by simp) _⟩

end Go.Proofs.Ytdajhdeheheccaa
