/- What is dropped in two parts is dropped at once; the middle: the walk. -/
import Derived.Test.YtdajhdeheheccaaT3
import Derived.Test.YtdajhdeheheccaaTr
import Derived.Test.YtdajhdeheheccaaSt
import Derived.Test.YtdajhdeheheccaaSg
import Derived.Deep.RegionHeldLaw
import Derived.Deep.DeepCutAuto
namespace Go.Proofs.Ytdajhdeheheccaa
open Go.RowKit
set_option linter.unusedVariables false

abbrev kbox (k0 k1 : Int) : Obj := .cells #[.int .i64 k0, .int .i64 k1] 45

set_option maxRecDepth 100000 in
set_option maxHeartbeats 6400000 in
theorem drops_walk (a0 : Option Addr) (c0 n0 : Nat) (bs : List Nat) (X Y E : Nat) (w : World) (hR : Rd8 w a0 n0 c0 bs) (h5 : n0 ≤ 5000) (hX : X ≤ n0) (hY : Y ≤ n0 - X) (hE1 : X ≤ E) (hE2 : E ≤ n0) :
    Calls Try.prog 7 #[.slice a0 n0 c0, .agg #[.int .i64 (X : Int), .int .i64 (Y : Int)], .int .i64 (E : Int)] w fun e w' => e = .returned (.bool true) ∧ Below w.heap.size w w' := by
  have HR : Hid (Rd8 w a0 n0 c0 bs) := hR
  have hbl := hR.len
  clear hR
  have hYi : (Y : Int) ≤ (n0 : Int) - (X : Int) := by omega
  have HK : Hid (∀ W' : World, Below (w.heap.size + 1) (w.alloc (kbox X Y)) W' → W'.cell? ⟨w.heap.size, 0, none⟩ = some (.int .i64 (X : Int)) ∧ W'.cell? ⟨w.heap.size, 1, none⟩ = some (.int .i64 (Y : Int))) := by
    intro W' hb
    have h := (hb.block w.heap.size (by omega)).trans (heap_alloc_new w (kbox X Y))
    exact ⟨by rw [cell_of_row _ _ _ _ _ _ h]; rfl, by rw [cell_of_row _ _ _ _ _ _ h]; rfl⟩
  have HB : Hid (∀ W' : World, Below (w.heap.size + 1) (w.alloc (kbox X Y)) W' → Below w.heap.size w W') := by
    intro W' hb
    exact below_alloc (hb.mono (by omega))
  go_enter Try.func7, Try.ntmps7
  go_wp2_with (first
    | (go_at_call 8; refine (alive_any _).mono ?_; rintro e w1 ⟨rfl, hb1⟩; have hb1 : Below (w.heap.size + 1) (w.alloc (kbox X Y)) w1 := hb1.mono (by simp); have hs1 : w.heap.size + 1 ≤ w1.heap.size := (by have := hb1.size; simp at this; omega); obtain ⟨q0, q1⟩ := HK.out _ hb1)
    | (go_at_call 9; refine (new_any 20000 w3).mono ?_; rintro e w4 ⟨rfl, hN, hZ4, hb4⟩; have hT4 : Tp w4 (w.heap.size + 1) w3.heap.size none 0 0 [] 0 20000 := hN _ (by omega); clear hN; have hB4 := hB3.trans (hb4.mono (by omega)); have hz4 : w3.heap.size < w4.heap.size := (by omega); clear hZ4)
    | (go_at_call 9; refine (new_any 20000 w2).mono ?_; rintro e w3 ⟨rfl, hN, hZ3, hb3⟩; have hT3 : Tp w3 (w.heap.size + 1) w2.heap.size none 0 0 [] 0 20000 := hN _ (by omega); clear hN; have hB3 := hB2.trans (hb3.mono (by omega)); have hz3 : w2.heap.size < w3.heap.size := (by omega); clear hZ3)
    | (go_at_call 9; refine (new_any 20000 w1).mono ?_; rintro e w2 ⟨rfl, hN, hZ2, hb2⟩; have hT2 : Tp w2 (w.heap.size + 1) w1.heap.size none 0 0 [] 0 20000 := hN _ hs1; clear hN; have hB2 := hb1.trans (hb2.mono (by omega)); have hz2 : w1.heap.size < w2.heap.size := (by omega); clear hZ2))
  have hi0 : ∀ W : World, (Instr.index 49 (.agg #[tp w1.heap.size, tp w2.heap.size, tp w3.heap.size]) (.int .i64 0)).run Try.prog W = .ok (tp w1.heap.size) W := fun _ => rfl
  have hi1 : ∀ W : World, (Instr.index 49 (.agg #[tp w1.heap.size, tp w2.heap.size, tp w3.heap.size]) (.int .i64 1)).run Try.prog W = .ok (tp w2.heap.size) W := fun _ => rfl
  have hi2 : ∀ W : World, (Instr.index 49 (.agg #[tp w1.heap.size, tp w2.heap.size, tp w3.heap.size]) (.int .i64 2)).run Try.prog W = .ok (tp w3.heap.size) W := fun _ => rfl
  go_loopw [63] (fun i wr => ∃ (k : Nat) (x y z : Gt), k ≤ 3 ∧ i = .int .i64 k ∧ x.g = w1.heap.size ∧ y.g = w2.heap.size ∧ z.g = w3.heap.size ∧ Hid (Tri wr (w.heap.size + 1) x y z) ∧ Hid (x.state (decide (0 < k)) bs n0 ∧ y.state (decide (1 < k)) bs n0 ∧ z.state (decide (2 < k)) bs n0) ∧ Below (w.heap.size + 1) (w.alloc (kbox X Y)) wr) (fun i _ => 3 - (intOf i).toNat)
  case atStart => exact ⟨0, ⟨w1.heap.size, none, 0, 0, [], 0⟩, ⟨w2.heap.size, none, 0, 0, [], 0⟩, ⟨w3.heap.size, none, 0, 0, [], 0⟩, by omega, rfl, rfl, rfl, rfl, ⟨(hT2.below hb3).below hb4, hT3.below hb4, hT4, ⟨by simp; omega, by simp, by simp, by simp⟩, ⟨by simp; omega, by simp, by simp, by simp⟩, ⟨by simp; omega, by simp, by simp, by simp⟩⟩, ⟨⟨rfl, rfl, rfl⟩, ⟨rfl, rfl, rfl⟩, ⟨rfl, rfl, rfl⟩⟩, hB4⟩
  case round =>
    obtain ⟨k, ⟨xg, xa, xn, xc, xb, xs⟩, ⟨yg, ya, yn, yc, yb, ys⟩, ⟨zg, za, zn, zc, zb, zs⟩, hk, rfl, e1, e2, e3, HI, HF, hbel⟩ := hrel
    simp only at e1 e2 e3
    subst e1 e2 e3
    have hsz := hbel.size
    simp at hsz
    have hRr := HR.out.below (HB.out _ hbel)
    obtain ⟨f1, f2, f3⟩ := HF.out
    rcases (show k = 0 ∨ k = 1 ∨ k = 2 ∨ k = 3 by omega) with rfl | rfl | rfl | rfl
    · obtain ⟨rfl, rfl, rfl⟩ := f1
      obtain ⟨rfl, rfl, rfl⟩ := f2
      obtain ⟨rfl, rfl, rfl⟩ := f3
      go_wp2_with (first
        | (at_builtin; refine wpList_append_rdI _ rfl _ _ 27 rfl wr.heap.size 5 .u8 (.int .u8 0) 1 Try.underlying27 info5 rfl rfl rfl (OwnI.fresh wr _ _ _ (Nat.le_refl _)) (hRr.alloc _).rd rfl (by rw [ci_length]; exact hbl) (by omega) (by unfold maxLen; omega) (by simp) ?_; intro ao5 cap5 w5 ho5 hb5; have hO5 : Own8 w5 wr.heap.size ao5 n0 cap5 bs := ⟨ho5, hbl, hRr.byte⟩; have hB5 : Below wr.heap.size wr w5 := ((Below.refl _ _).alloc (Nat.le_refl _) (.cells #[] 5)).trans hb5; have HT5 := (show Hid _ from HI.out.below hB5))
        | (go_at_call 10; refine (append_ok _ _ _ _ _ _ _ _ _ HT5.out.t1 _ _ _ _ hO5.rd (.inr (by simp; omega))).mono ?_; rintro e w6 ⟨rfl, ao6, cap6, hT6, hO6, hN6⟩; have HT6 := (show Hid _ from HT5.out.turn1 hT6 hO6 hN6); have hB6 := (hbel.trans (hB5.mono (by omega))).trans (HT5.out.t1.belowB hO6); clear hT6)
        | (go_at_call 13; refine (sync_any _ _ _ _ _ _ _ _ _ HT6.out.t1).mono ?_; rintro e w7 ⟨rfl, hT7, hO7, -⟩; have HT7 := (show Hid _ from HT6.out.turn1 hT7 hO7 (Nw.refl _ _)); have hB7 := hB6.trans (HT6.out.t1.belowB hO7); clear hT7))
      go_roundw
      case rel => exact ⟨1, _, _, _, by omega, by go_num, rfl, rfl, rfl, HT7.out, ⟨⟨by simp, by simp, by simp⟩, ⟨rfl, rfl, rfl⟩, ⟨rfl, rfl, rfl⟩⟩, hB7⟩
      case measure => simp [intOf]
    · obtain ⟨rfl, rfl, rfl⟩ : bs = xb ∧ n0 = xn ∧ n0 = xs := ⟨f1.1.symm, f1.2.1.symm, f1.2.2.symm⟩
      obtain ⟨rfl, rfl, rfl⟩ := f2
      obtain ⟨rfl, rfl, rfl⟩ := f3
      go_wp2_with (first
        | (at_builtin; refine wpList_append_rdI _ rfl _ _ 27 rfl wr.heap.size 5 .u8 (.int .u8 0) 1 Try.underlying27 info5 rfl rfl rfl (OwnI.fresh wr _ _ _ (Nat.le_refl _)) (hRr.alloc _).rd rfl (by rw [ci_length]; exact hbl) (by omega) (by unfold maxLen; omega) (by simp) ?_; intro ao5 cap5 w5 ho5 hb5; have hO5 : Own8 w5 wr.heap.size ao5 n0 cap5 bs := ⟨ho5, hbl, hRr.byte⟩; have hB5 : Below wr.heap.size wr w5 := ((Below.refl _ _).alloc (Nat.le_refl _) (.cells #[] 5)).trans hb5; have HT5 := (show Hid _ from HI.out.below hB5))
        | (go_at_call 10; refine (append_ok _ _ _ _ _ _ _ _ _ HT5.out.t2 _ _ _ _ hO5.rd (.inr (by simp; omega))).mono ?_; rintro e w6 ⟨rfl, ao6, cap6, hT6, hO6, hN6⟩; have HT6 := (show Hid _ from HT5.out.turn2 hT6 hO6 hN6); have hB6 := (hbel.trans (hB5.mono (by omega))).trans (HT5.out.t2.belowB hO6); clear hT6)
        | (go_at_call 13; refine (sync_any _ _ _ _ _ _ _ _ _ HT6.out.t2).mono ?_; rintro e w7 ⟨rfl, hT7, hO7, -⟩; have HT7 := (show Hid _ from HT6.out.turn2 hT7 hO7 (Nw.refl _ _)); have hB7 := hB6.trans (HT6.out.t2.belowB hO7); clear hT7))
      go_roundw
      case rel => exact ⟨2, _, _, _, by omega, by go_num, rfl, rfl, rfl, HT7.out, ⟨⟨rfl, rfl, rfl⟩, ⟨by simp, by simp, by simp⟩, ⟨rfl, rfl, rfl⟩⟩, hB7⟩
      case measure => simp [intOf]
    · obtain ⟨rfl, rfl, rfl⟩ : bs = xb ∧ n0 = xn ∧ n0 = xs := ⟨f1.1.symm, f1.2.1.symm, f1.2.2.symm⟩
      obtain ⟨rfl, rfl, rfl⟩ : bs = yb ∧ n0 = yn ∧ n0 = ys := ⟨f2.1.symm, f2.2.1.symm, f2.2.2.symm⟩
      obtain ⟨rfl, rfl, rfl⟩ := f3
      go_wp2_with (first
        | (at_builtin; refine wpList_append_rdI _ rfl _ _ 27 rfl wr.heap.size 5 .u8 (.int .u8 0) 1 Try.underlying27 info5 rfl rfl rfl (OwnI.fresh wr _ _ _ (Nat.le_refl _)) (hRr.alloc _).rd rfl (by rw [ci_length]; exact hbl) (by omega) (by unfold maxLen; omega) (by simp) ?_; intro ao5 cap5 w5 ho5 hb5; have hO5 : Own8 w5 wr.heap.size ao5 n0 cap5 bs := ⟨ho5, hbl, hRr.byte⟩; have hB5 : Below wr.heap.size wr w5 := ((Below.refl _ _).alloc (Nat.le_refl _) (.cells #[] 5)).trans hb5; have HT5 := (show Hid _ from HI.out.below hB5))
        | (go_at_call 10; refine (append_ok _ _ _ _ _ _ _ _ _ HT5.out.t3 _ _ _ _ hO5.rd (.inr (by simp; omega))).mono ?_; rintro e w6 ⟨rfl, ao6, cap6, hT6, hO6, hN6⟩; have HT6 := (show Hid _ from HT5.out.turn3 hT6 hO6 hN6); have hB6 := (hbel.trans (hB5.mono (by omega))).trans (HT5.out.t3.belowB hO6); clear hT6)
        | (go_at_call 13; refine (sync_any _ _ _ _ _ _ _ _ _ HT6.out.t3).mono ?_; rintro e w7 ⟨rfl, hT7, hO7, -⟩; have HT7 := (show Hid _ from HT6.out.turn3 hT7 hO7 (Nw.refl _ _)); have hB7 := hB6.trans (HT6.out.t3.belowB hO7); clear hT7))
      go_roundw
      case rel => exact ⟨3, _, _, _, by omega, by go_num, rfl, rfl, rfl, HT7.out, ⟨⟨rfl, rfl, rfl⟩, ⟨rfl, rfl, rfl⟩, ⟨by simp, by simp, by simp⟩⟩, hB7⟩
      case measure => simp [intOf]
    · obtain ⟨rfl, rfl, rfl⟩ : bs = xb ∧ n0 = xn ∧ n0 = xs := ⟨f1.1.symm, f1.2.1.symm, f1.2.2.symm⟩
      obtain ⟨rfl, rfl, rfl⟩ : bs = yb ∧ n0 = yn ∧ n0 = ys := ⟨f2.1.symm, f2.2.1.symm, f2.2.2.symm⟩
      obtain ⟨rfl, rfl, rfl⟩ : bs = zb ∧ n0 = zn ∧ n0 = zs := ⟨f3.1.symm, f3.2.1.symm, f3.2.2.symm⟩
      have hw1 : IntKind.i64.wrap ((X : Int) + (Y : Int)) = (X : Int) + (Y : Int) := by rw [IntKind.wrap_i64]; omega
      obtain ⟨T, hTe⟩ : ∃ T, (bs.drop X).drop Y = T := ⟨_, rfl⟩
      have hTe2 : bs.drop (X + Y) = T := by rw [← hTe, List.drop_drop]
      have HTe : Hid ((bs.drop X).drop Y = T ∧ bs.drop (X + Y) = T) := ⟨hTe, hTe2⟩
      clear hTe hTe2
      have hBd : Below (w.heap.size + 1) (w.alloc (kbox X Y)) wr.drew := hbel.drew
      have hTd := HI.out.below (Below.refl _ _).drew
      have HTd := (show Hid _ from hTd)
      clear hTd
      go_upto_region 12 with fail
      go_cut [104] (fun c wx => c = .bool false ∧ Hid (Tp wx (w.heap.size + 1) w3.heap.size za n0 zc bs n0 20000) ∧ Below (w.heap.size + 1) (w.alloc (kbox X Y)) wx)
      case first =>
        first
          | go_region_held (fun W' => W'.cell? ⟨w.heap.size, 0, none⟩ = some (.int .i64 (X : Int)) ∧ W'.cell? ⟨w.heap.size, 1, none⟩ = some (.int .i64 (Y : Int)))
              (first | exact HK.out _ hBd | exact HK.out _ hB5 | exact HK.out _ hB6 | exact HK.out _ hB7 | exact HK.out _ hB8 | exact HK.out _ hB9 | fail)
              (first
                | (go_at_call 23; refine (bytes_any _ _ _ _ _ _ _ _ _ HT8.out.t2).mono ?_; rintro e w9 ⟨ao9, cap9, rfl, ho9, hb9⟩; have HT9 := (show Hid _ from HT8.out.below hb9); have hB9 := hB8.trans (hb9.mono (by have := hB8.size; simp at this; omega)); have hx89 := (ho8.rd.below hb9).st; have hx9 := ho9.rd.st)
                | (go_at_call 23; refine (bytes_any _ _ _ _ _ _ _ _ _ HT7.out.t1).mono ?_; rintro e w8 ⟨ao8, cap8, rfl, ho8, hb8⟩; have HT8 := (show Hid _ from HT7.out.below hb8); have hB8 := hB7.trans (hb8.mono (by have := hB7.size; simp at this; omega)); have hx8 := ho8.rd.st)
                | (go_at_call 21; refine (drop_ok _ _ _ _ _ _ _ _ _ HT6.out.t2 (X + Y) (by simp; omega)).mono ?_; rintro e w7 ⟨rfl, ao7, cap7, hT7, hO7, hN7⟩; rw [HTe.out.2] at hT7; have HT7 := (show Hid _ from HT6.out.turn2 hT7 hO7 hN7); have hB7 := hB6.trans (HT6.out.t2.belowB hO7); clear hT7)
                | (go_at_call 21; refine (drop_ok _ _ _ _ _ _ _ _ _ HT5.out.t1 Y (by simp; omega)).mono ?_; rintro e w6 ⟨rfl, ao6, cap6, hT6, hO6, hN6⟩; simp only at hT6; rw [HTe.out.1] at hT6; have HT6 := (show Hid _ from HT5.out.turn1 hT6 hO6 hN6); have hB6 := hB5.trans (HT5.out.t1.belowB hO6); clear hT6)
                | (go_at_call 21; refine (drop_ok _ _ _ _ _ _ _ _ _ HTd.out.t1 X (by simp; omega)).mono ?_; rintro e w5 ⟨rfl, ao5, cap5, hT5, hO5, hN5⟩; have HT5 := (show Hid _ from HTd.out.turn1 hT5 hO5 hN5); have hB5 := hBd.trans (HTd.out.t1.belowB hO5); clear hT5)
                | fail)
          | fail
        all_goals
          go_wp2_with fail
          go_meet
          exact ⟨by simp, HT9.out.t3, hB9⟩
      case rest =>
        obtain ⟨rfl, HZ, hB9⟩ := hcut
        have hcap := HR.out.rd.le
        rw [ci_length, hbl] at hcap
        have hES : ((E - X : Nat) : Int) = (E : Int) - (X : Int) := by omega
        have hw2 : IntKind.i64.wrap ((E : Int) - (X : Int)) = (E : Int) - (X : Int) := by rw [IntKind.wrap_i64]; omega
        obtain ⟨TE, hTE⟩ : ∃ TE, bs.take E = TE := ⟨_, rfl⟩
        obtain ⟨M, hM⟩ : ∃ M, TE.drop X = M := ⟨_, rfl⟩
        have HM : Hid (TE.drop X = M) := hM
        have HTE : Hid (bs.take E = TE) := hTE
        have hRM : Rd8 w (if c0 = X then a0 else a0.map (fun x => x.add X)) (E - X) (c0 - X) M := by
          have h1 := HR.out.rd.cut X E hE1 (by rw [ci_length]; omega)
          refine ⟨?_, by rw [← hM, ← hTE]; simp; omega, fun b hb => HR.out.byte b ?_⟩
          · rw [← hM, ← hTE]
            have e : ci ((bs.take E).drop X) = ((ci bs).drop X).take (E - X) := by simp [ci, List.drop_take]
            rw [e]; exact h1
          · rw [← hM, ← hTE] at hb
            exact List.mem_of_mem_take (List.mem_of_mem_drop hb)
        clear hM hTE
        go_wp2_with (go_at_call 19; refine (cut_at _ _ _ _ _ _ _ _ _ HZ.out (E : Int) E E TE (by unfold cutN; omega) (by omega) HTE.out).mono ?_; rintro e w10 ⟨rfl, hT10, hO10, -⟩; have hB10 := hB9.trans (HZ.out.belowB hO10))
        have hBe : Below (w.heap.size + 1) (w.alloc (kbox X Y)) w10.drew := hB10.drew
        have HTe2 : Hid (Tp w10.drew (w.heap.size + 1) w3.heap.size za E zc TE E 20000) := hT10.below (Below.refl _ _).drew
        clear hT10
        by_cases hcx : c0 = X
        · rw [if_pos hcx] at hRM
          obtain rfl : n0 = X := by omega
          obtain rfl : E = n0 := by omega
          obtain rfl : c0 = E := by omega
          have HRM : Hid (Rd8 w a0 0 0 M) := (show Rd8 w a0 0 0 M by simpa using hRM)
          clear hRM
          first
            | go_region_held (fun W' => W'.cell? ⟨w.heap.size, 0, none⟩ = some (.int .i64 (c0 : Int)) ∧ (convert 27 9 (.slice a0 0 0)).run Try.prog W' = .ok (.string (st M)) W')
                (first | exact ⟨(HK.out _ hBe).1, (HRM.out.below (HB.out _ hBe)).st⟩ | exact ⟨(HK.out _ hB11).1, (HRM.out.below (HB.out _ hB11)).st⟩ | exact ⟨(HK.out _ hB12).1, (HRM.out.below (HB.out _ hB12)).st⟩ | fail)
                (first
                  | (go_at_call 24; refine (safe_any _ _ _ _ _ _ _ _ _ HT12.out).mono ?_; rintro e w' ⟨rfl, hw⟩; subst w')
                  | (go_at_call 23; refine (bytes_any _ _ _ _ _ _ _ _ _ HT11.out).mono ?_; rintro e w12 ⟨ao12, cap12, rfl, ho12, hb12⟩; have HT12 := (show Hid _ from HT11.out.below hb12); have hB12 := hB11.trans (hb12.mono (by have := hB11.size; simp at this; omega)); have hx12 := ho12.rd.st)
                  | (go_at_call 21; refine (drop_ok _ _ _ _ _ _ _ _ _ HTe2.out c0 (by omega)).mono ?_; rintro e w11 ⟨rfl, ao11, cap11, hT11, hO11, hN11⟩; rw [HM.out] at hT11; simp only [Nat.sub_self] at hT11; have HT11 := (show Hid _ from hT11); have hB11 := hBe.trans (HTe2.out.belowB hO11); clear hT11)
                  | fail)
            | fail
          all_goals
            go_wp2
            go_ret
            exact ⟨by first | (simp; done) | (simp; rfl), HB.out _ hB12⟩
        · rw [if_neg hcx] at hRM
          obtain ⟨ab, rfl⟩ : ∃ ab, a0 = some ab := by
            cases a0 with
            | none => have := RdS.nil HR.out.rd rfl; omega
            | some ab => exact ⟨ab, rfl⟩
          have HRM : Hid (Rd8 w (some (ab.add X)) (E - X) (c0 - X) M) := hRM
          clear hRM
          first
            | go_region_held (fun W' => W'.cell? ⟨w.heap.size, 0, none⟩ = some (.int .i64 (X : Int)) ∧ (convert 27 9 (.slice (some (ab.add X)) (E - X) (c0 - X))).run Try.prog W' = .ok (.string (st M)) W')
                (first | exact ⟨(HK.out _ hBe).1, (HRM.out.below (HB.out _ hBe)).st⟩ | exact ⟨(HK.out _ hB11).1, (HRM.out.below (HB.out _ hB11)).st⟩ | exact ⟨(HK.out _ hB12).1, (HRM.out.below (HB.out _ hB12)).st⟩ | fail)
                (first
                  | (go_at_call 24; refine (safe_any _ _ _ _ _ _ _ _ _ HT12.out).mono ?_; rintro e w' ⟨rfl, hw⟩; subst w')
                  | (go_at_call 23; refine (bytes_any _ _ _ _ _ _ _ _ _ HT11.out).mono ?_; rintro e w12 ⟨ao12, cap12, rfl, ho12, hb12⟩; have HT12 := (show Hid _ from HT11.out.below hb12); have hB12 := hB11.trans (hb12.mono (by have := hB11.size; simp at this; omega)); have hx12 := ho12.rd.st)
                  | (go_at_call 21; refine (drop_ok _ _ _ _ _ _ _ _ _ HTe2.out X (by omega)).mono ?_; rintro e w11 ⟨rfl, ao11, cap11, hT11, hO11, hN11⟩; rw [HM.out] at hT11; have HT11 := (show Hid _ from hT11); have hB11 := hBe.trans (HTe2.out.belowB hO11); clear hT11)
                  | fail)
            | fail
          all_goals
            go_wp2
            go_ret
            exact ⟨by simp, HB.out _ hB12⟩

end Go.Proofs.Ytdajhdeheheccaa
