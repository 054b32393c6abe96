/- What is stable stays: the walk. -/
import Derived.Test.YtnapkcejpllmcaaKp
import Derived.Deep.RegionHeldLaw
import Derived.WalkSmall
namespace Go.Proofs.Ytnapkcejpllmcaa
open Go.RowKit
set_option linter.unusedVariables false

set_option maxHeartbeats 3200000 in
theorem keeps_walk (a0 : Option Addr) (c0 n0 : Nat) (A : List ActG) (keep : Int) (w : World) (hA : ActsAt w a0 A) (hn : A.length = n0) (hm : n0 ≤ 200) :
    Calls Try.prog 5 #[.slice a0 n0 c0, .int .i64 keep] w fun e w' => e = .returned (.bool true) ∧ Below w.heap.size w w' := by
  have HA : Hid (ActsAt w a0 A) := hA
  clear hA
  go_enter Try.func5, Try.ntmps5
  go_wp2_with (first
    | (go_at_call 10; refine (alive_any _).mono ?_; rintro e w1 ⟨rfl, hb1⟩; have hs1 := hb1.size)
    | (go_at_call 8; refine (new_any 6 _).mono ?_; rintro e w2 ⟨rfl, hD2, hS2, hb2⟩; have hD2 : Drv w2 w1.heap.size (fun k => w2.heap.size + 2 ≤ k) (List.replicate 6 Sec.e) := hD2 _ (by omega); have hs2 : w1.heap.size + 2 ≤ w2.heap.size := (by omega); clear hS2))
  go_loopw [24] (fun i wr => ∃ (k : Nat) (L : List Sec), k ≤ n0 ∧ i = .int .i64 k ∧ Hid (L.length = 6 ∧ Drv wr w1.heap.size (fun k => w2.heap.size + 2 ≤ k) L ∧ StrAt wr w2.heap.size (L.map Sec.s) ∧ StrAt wr (w2.heap.size + 1) (L.map Sec.b)) ∧ Below w.heap.size w wr ∧ w2.heap.size + 2 ≤ wr.heap.size) (fun i _ => n0 - (intOf i).toNat)
  case atStart =>
    refine ⟨0, List.replicate 6 Sec.e, Nat.zero_le _, rfl, ⟨by simp, ?_, ?_, ?_⟩, ?_, by simp⟩
    · exact (hD2.below ((Below.refl _ _).alloc (Nat.le_refl _) _)).below ((Below.refl _ _).alloc (Nat.le_refl _) _)
    · exact (StrAt.new w2).below ((Below.refl _ _).alloc (Nat.le_refl _) _)
    · have := StrAt.new (w2.alloc (.cells #[.string ⟨#[]⟩, .string ⟨#[]⟩, .string ⟨#[]⟩, .string ⟨#[]⟩, .string ⟨#[]⟩, .string ⟨#[]⟩] 53))
      simpa using this
    · exact ((below_step hb1 hb2).alloc (by omega) _).alloc (by simp; omega) _
  case round =>
    obtain ⟨k, L, hk, rfl, HI, hbel, hsz⟩ := hrel
    by_cases hlt : k < n0
    · have hAr := HA.out.below hbel
      obtain ⟨b, off, rfl, _, hc⟩ := hAr.cell (by intro e; rw [e] at hn; simp at hn; omega)
      obtain ⟨hc0, hc1, hc2⟩ := hc k (by omega)
      have hR := hAr.rd A[k] (List.getElem_mem _)
      have hZ := hAr.sz A[k] (List.getElem_mem _)
      have hR0 := HA.out.rd A[k] (List.getElem_mem _)
      clear hAr hc
      generalize A[k] = x at *
      obtain ⟨kk, nn, aa, mm, cc, bs⟩ := x
      simp only at hc0 hc1 hc2 hR hZ hR0
      have hDa := HI.out.2.1.below ((Below.refl _ _).alloc (Nat.le_refl _) (.cells #[.int .i64 kk, .int .i64 nn, .slice aa mm cc] 37))
      have hSa := HI.out.2.2.1.below ((Below.refl _ _).alloc (Nat.le_refl _) (.cells #[.int .i64 kk, .int .i64 nn, .slice aa mm cc] 37))
      have hLa := HI.out.2.2.2.below ((Below.refl _ _).alloc (Nat.le_refl _) (.cells #[.int .i64 kk, .int .i64 nn, .slice aa mm cc] 37))
      have hL6 := HI.out.1
      clear HI
      by_cases hk1 : kk = 1
      · subst hk1
        obtain ⟨x0, x1, x2, x3, x4, x5, rfl⟩ := six_of hL6
        go_wp2_with (go_at_call 15; refine (sync_any _ _ _ _ hDa).mono ?_; rintro e w3 ⟨rfl, hD3, hO3, _⟩; have hS3 := hSa.off hO3 (by omega); have hL3 := hLa.off hO3 (by omega); have hl0 := hL3.c 0 (by simp); have hl1 := hL3.c 1 (by simp); have hl2 := hL3.c 2 (by simp); have hl3 := hL3.c 3 (by simp); have hl4 := hL3.c 4 (by simp); have hl5 := hL3.c 5 (by simp); have hf0 := hS3.f 0; have hf1 := hS3.f 1; have hf2 := hS3.f 2; have hf3 := hS3.f 3; have hf4 := hS3.f 4; have hf5 := hS3.f 5; have hk0 := hS3.c 0 (by simp); have hk1 := hS3.c 1 (by simp); have hk2 := hS3.c 2 (by simp); have hk3 := hS3.c 3 (by simp); have hk4 := hS3.c 4 (by simp); have hk5 := hS3.c 5 (by simp))
        go_roundw
        case rel =>
          refine ⟨k + 1, [x0.settle, x1.settle, x2.settle, x3.settle, x4.settle, x5.settle], by omega, by go_num, ⟨rfl, ?_, ?_, ?_⟩, ?_, by have := hO3.size; simp at this; simp [World.setCell]; omega⟩
          · have q : ¬ (w2.heap.size + 2 ≤ w2.heap.size) := by omega
            have q0 : w2.heap.size ≠ w1.heap.size := by omega
            have q1 : w2.heap.size ≠ w1.heap.size + 1 := by omega
            exact (((((hD3.other _ _ q q0 q1).other _ _ q q0 q1).other _ _ q q0 q1).other _ _ q q0 q1).other _ _ q q0 q1).other _ _ q q0 q1
          · exact StrAt.six hS3 _ _ _ _ _ _
          · have q : w2.heap.size + 1 ≠ w2.heap.size := by omega
            exact (((((hL3.other _ _ q).other _ _ q).other _ _ q).other _ _ q).other _ _ q).other _ _ q
          · have q : w.heap.size ≤ w2.heap.size := by omega
            exact (((((below_off (hbel.alloc (by omega) _) hO3 (by omega) (by simp; omega)).setCell q _).setCell q _).setCell q _).setCell q _).setCell q _ |>.setCell q _
        case measure => simp [intOf]; omega
      · have hS : Hid (∀ W' : World, W'.heap[wr.heap.size]? = some (.cells #[.int .i64 kk, .int .i64 nn, .slice aa mm cc] 37) → W'.cell? ⟨wr.heap.size, 1, none⟩ = some (.int .i64 nn) ∧ W'.cell? ⟨wr.heap.size, 2, none⟩ = some (.slice aa mm cc)) :=
          fun W' h => ⟨by rw [cell_of_row _ _ _ _ _ _ h]; rfl, by rw [cell_of_row _ _ _ _ _ _ h]; rfl⟩
        have hnew : (wr.alloc (.cells #[.int .i64 kk, .int .i64 nn, .slice aa mm cc] 37)).heap[wr.heap.size]? = some (.cells #[.int .i64 kk, .int .i64 nn, .slice aa mm cc] 37) := heap_alloc_new wr _
        have HN : Hid ((wr.alloc (.cells #[.int .i64 kk, .int .i64 nn, .slice aa mm cc] 37)).heap[wr.heap.size]? = some (.cells #[.int .i64 kk, .int .i64 nn, .slice aa mm cc] 37)) := hnew
        clear hnew
        have hml := hR.len
        by_cases hok : hasB L nn = true ∧ mm ≤ 100
        · obtain ⟨hok, hm100⟩ := hok
          obtain ⟨i, rfl, hi⟩ := hasB_nat hok
          clear hok
          go_wp2
          first
            | go_region_held_law (fun W' => W'.cell? ⟨wr.heap.size, 1, none⟩ = some (.int .i64 (i : Int)) ∧ W'.cell? ⟨wr.heap.size, 2, none⟩ = some (.slice aa mm cc))
                (first | exact hS.out _ HN.out | exact hS.out _ ((Below.heap_alloc _ _ _ (by simp)).trans HN.out) | exact hS.out _ hN3 | exact hS.out _ hN4)
                ((first
                  | (refine step_append_rdI (n := 0) (m := mm) _ (by rfl) _ _ _ (by rfl) (wr.heap.size + 1) 5 .u8 (.int .u8 0) 1 Try.underlying22 info5 rfl (by rfl) (by rfl) (OwnI.fresh2 wr _ _ _ _ (by omega)) (RdI.drew ((hR.alloc _).alloc _).rd) rfl (by rw [ci_length]; exact hml) (by omega) (by unfold maxLen; omega) (by simp) ?_; intro ao3 cap3 w3 ho3 hb3; have hO3 := Own8.mk ho3 hml hR.byte; have hB3 : Below (wr.heap.size + 1) (wr.alloc (.cells #[.int .i64 kk, .int .i64 (i : Int), .slice aa mm cc] 37)) w3 := ((Below.refl _ _).alloc (by simp) (.cells #[] 5)).trans ⟨hb3.os, hb3.tape, hb3.output, hb3.size, hb3.block⟩; have hN3 := (hB3.block wr.heap.size (by omega)).trans HN.out)
                  | (go_at_call 13; refine (write_okB _ _ _ i _ _ _ bs w3 (hDa.below (hB3.mono (by simp))) hi hO3.rd hm100 (by have := hB3.size; simp at this; omega)).mono ?_; rintro e w4 ⟨rfl, hD4, hO4⟩; have hN4 := (hO4.block wr.heap.size (by have := hB3.size; simp at this; omega) (by omega)).trans hN3)))
            | fail
          have hs3 := hB3.size
          simp at hs3
          have hB4 : Below w.heap.size w w4 := below_off ((hbel.alloc (by omega) _).trans (hB3.mono (by omega))) hO4 (by omega) (by omega)
          have hL4 := (hLa.below (hB3.mono (by simp))).off hO4 (by omega)
          have hS4 := (hSa.below (hB3.mono (by simp))).off hO4 (by omega)
          obtain ⟨hc4, hc5⟩ := hS.out _ hN4
          have hx := (hR0.below hB4).str
          have hlf := hL4.f i
          have hlc := hL4.c i (by simp; omega)
          have hi6 : i < 6 := by omega
          go_wp2
          go_roundw
          case rel =>
            refine ⟨k + 1, L.set i (L[i].wrote bs), by omega, by go_num, ⟨by simp; omega, ?_, ?_, ?_⟩, hB4.setCell (by simp; omega) _, by have := hO4.size; simp [World.setCell]; omega⟩
            · exact hD4.other _ _ (by simp) (by simp; omega) (by simp; omega)
            · rw [map_wrote_s]; exact hS4.other _ _ (by simp)
            · have := hL4.put i (by simp; omega) bs
              rw [List.map_set]; exact this
          case measure => simp [intOf]; omega
        · have hbad : hasB L nn = false ∨ 100 < mm := by
            cases hh : hasB L nn
            · exact .inl rfl
            · exact .inr (by have : ¬ mm ≤ 100 := fun h => hok ⟨hh, h⟩; omega)
          clear hok
          go_wp2
          first
            | go_region_held_law (fun W' => W'.cell? ⟨wr.heap.size, 1, none⟩ = some (.int .i64 nn) ∧ W'.cell? ⟨wr.heap.size, 2, none⟩ = some (.slice aa mm cc))
                (first | exact hS.out _ HN.out | exact hS.out _ ((Below.heap_alloc _ _ _ (by simp)).trans HN.out) | exact hS.out _ hN3)
                ((first
                  | (refine step_append_rdI (n := 0) (m := mm) _ (by rfl) _ _ _ (by rfl) (wr.heap.size + 1) 5 .u8 (.int .u8 0) 1 Try.underlying22 info5 rfl (by rfl) (by rfl) (OwnI.fresh2 wr _ _ _ _ (by omega)) (RdI.drew ((hR.alloc _).alloc _).rd) rfl (by rw [ci_length]; exact hml) (by omega) (by unfold maxLen; omega) (by simp) ?_; intro ao3 cap3 w3 ho3 hb3; have hB3 : Below (wr.heap.size + 1) (wr.alloc (.cells #[.int .i64 kk, .int .i64 nn, .slice aa mm cc] 37)) w3 := ((Below.refl _ _).alloc (by simp) (.cells #[] 5)).trans ⟨hb3.os, hb3.tape, hb3.output, hb3.size, hb3.block⟩; have hN3 := (hB3.block wr.heap.size (by omega)).trans HN.out)
                  | (go_at_call 13; refine (write_bad _ _ L nn _ _ _ w3 (hDa.below (hB3.mono (by simp))) hbad).mono ?_; rintro e w' ⟨rfl, hw⟩; subst w')))
            | fail
          have hs3 := hB3.size
          simp at hs3
          go_wp2
          go_roundw
          case rel => exact ⟨k + 1, L, by omega, by go_num, ⟨hL6, hDa.below (hB3.mono (by simp)), hSa.below (hB3.mono (by simp)), hLa.below (hB3.mono (by simp))⟩, (hbel.alloc (by omega) _).trans (hB3.mono (by omega)), by omega⟩
          case measure => simp [intOf]; omega
    · go_wp2_with (go_at_call 17; refine (crash_any _ _ _ _ _ HI.out.2.1).mono ?_; rintro e w3 ⟨rfl, hD3, hO3⟩)
      have hB3 : Below w.heap.size w w3 := below_off hbel hO3 (by omega) (by omega)
      have hS3 := HI.out.2.2.1.off hO3 (by omega)
      have hL3 := HI.out.2.2.2.off hO3 (by omega)
      have hL6 := HI.out.1
      have hs3 := hO3.size
      go_loopw [53] (fun i wq => ∃ k : Nat, k ≤ 6 ∧ i = .int .i64 k ∧ Below w3.heap.size w3 wq) (fun i _ => 6 - (intOf i).toNat)
      case atStart => exact ⟨0, Nat.zero_le _, rfl, Below.refl _ _⟩
      case round =>
        obtain ⟨k2, hk2, rfl, hbq⟩ := hrel
        have hDq := hD3.below hbq
        have hSq := hS3.below hbq
        have hLq := hL3.below hbq
        by_cases hlt2 : k2 < 6
        · have hkl : k2 < (L.mapIdx (fate keep)).length := by simp; omega
          go_wp2_with (go_at_call 9; refine (read_ok _ _ _ k2 _ hDq hkl).mono ?_; rintro e w4 ⟨ao4, n4, cap4, rfl, ho4, _, hb4⟩)
          have hcs := (hSq.below hb4).c k2 (by simp; omega)
          have hcl := (hLq.below hb4).c k2 (by simp; omega)
          simp only [List.getElem_map] at hcs hcl
          have sx : ∀ m, (convert 22 9 (.slice ao4 n4 cap4)).run Try.prog (w4.drewN m) = .ok (.string (strOfNums (ci (L.mapIdx (fate keep))[k2].b))) (w4.drewN m) := fun m => (ho4.rd.heap (w' := w4.drewN m) rfl).str
          have hk6 : (k2 : Int) < 6 := by omega
          have hfb : (L.mapIdx (fate keep))[k2].b = (L[k2]'(by omega)).b ∨ (L.mapIdx (fate keep))[k2].b = (L[k2]'(by omega)).s := by
            rw [List.getElem_mapIdx]; exact fate_b _ _ _
          generalize (L.mapIdx (fate keep))[k2].b = xb at *
          by_cases hE : (strOfNums (ci xb)).toList == (strOfNums (ci (L[k2]'(by omega)).s)).toList
          · go_quiet (fail)
            go_wp2
            go_roundw
            case rel => exact ⟨k2 + 1, by omega, by go_num, below_drewN (hbq.trans (hb4.mono hbq.size)) _⟩
            case measure => simp [intOf]; omega
          · have hxb : xb = (L[k2]'(by omega)).b := by
              rcases hfb with h | h
              · exact h
              · rw [h] at hE; simp at hE
            subst hxb
            have hE2 : ((strOfNums (ci (L[k2]'(by omega)).b)).toList == (strOfNums (ci (L[k2]'(by omega)).s)).toList) = false := by simpa using hE
            clear hE
            go_quiet (fail)
            go_wp2
            go_roundw
            case rel => exact ⟨k2 + 1, by omega, by go_num, below_drewN (hbq.trans (hb4.mono hbq.size)) _⟩
            case measure => simp [intOf]; omega
        · have hsq := hbq.size
          go_wp2_with (first
            | (go_at_call 21; with_reducible refine (all_any _ _ _ _ hDq).mono ?_; rintro e w5 ⟨ao5, cap5, ps, rfl, ho5, hp5, hb5⟩; have hD5 := hDq.below hb5; have hs5 := hb5.size)
            | (go_at_call 17; refine (crash_any _ _ _ 0 _ hD5).mono ?_; rintro e w6 ⟨rfl, hD6, hO6⟩; have hs6 := hO6.size; have hr6 := ho5.off hO6 (by omega))
            | (go_at_call 21; with_reducible refine (all_any _ _ _ _ hD6).mono ?_; rintro e w7 ⟨ao7, cap7, qs, rfl, ho7, hp7, hb7⟩)
            | (go_at_call 20; refine (same_true ao5 cap5 6 ao7 cap7 ps qs w7 (hr6.1.below hb7) ho7.own.rd (fun p hp => (hr6.2 p hp).below hb7) (fun p hp => (ho7.el p hp).rd) (by have := congrArg List.length hp5; simp at this; omega) (by rw [hp5, hp7]; exact crash_twice _ _ _) (by omega)).mono ?_; rintro e w8 ⟨rfl, j8, hw8⟩))
          go_ret
          refine ⟨rfl, ?_⟩
          subst hw8
          exact below_drewN (below_step (below_off (below_step (below_step hB3 hbq) hb5) hO6 (by omega) (by omega)) hb7) _

end Go.Proofs.Ytnapkcejpllmcaa
