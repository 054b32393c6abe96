/- Whatever is done with a tape: the walk. -/
import Derived.Test.YtdajhdeheheccaaG2
import Derived.Test.YtdajhdeheheccaaT3
import Derived.Deep.RegionHeldLaw
import Derived.Deep.DeepCutAuto
import Derived.Deep.CutBlock
namespace Go.Proofs.Ytdajhdeheheccaa
open Go.RowKit
set_option linter.unusedVariables false

set_option maxRecDepth 100000 in
set_option maxHeartbeats 12800000 in
theorem runs_walk (room : Int) (a1 : Option Addr) (c1 n1 : Nat) (A : List ActG) (w : World) (hA : ActsAt w a1 A) (hn : A.length = n1) (hm : n1 ≤ 200) :
    Calls Try.prog 4 #[.int .i64 room, .slice a1 n1 c1] w fun e w' => e = .returned (.bool true) ∧ Below w.heap.size w w' := by
  have HA : Hid (ActsAt w a1 A) := hA
  clear hA
  obtain ⟨R, hR⟩ : ∃ R, bnd room = R := ⟨_, rfl⟩
  have hRl := bnd_le room
  rw [hR] at hRl
  have HR : Hid (bnd room = R) := hR
  clear hR
  go_enter Try.func4, Try.ntmps4
  go_wp2_with (first
    | (go_at_call 8; refine (alive_any _).mono ?_; rintro e w1 ⟨rfl, hb1⟩; have hs1 := hb1.size)
    | (go_at_call 9; refine (new_any room _).mono ?_; rintro e w2 ⟨rfl, hN, hZ2, hb2⟩; have hT2 : Tp w2 w.heap.size w1.heap.size none 0 0 [] 0 R := (by have := hN _ hs1; rwa [HR.out] at this); clear hN; have hB2 : Below w.heap.size w w2 := below_step hb1 hb2; have hs2 : w1.heap.size < w2.heap.size := (by omega); clear hZ2)
    | (go_at_call 11; refine (refNew_any room _).mono ?_; rintro e w3 ⟨rfl, hb3⟩; rw [HR.out]; have hT3 := hT2.below hb3; have hB3 := below_step hB2 hb3; have hs3 := hb3.size))
  have hal : Below w3.heap.size w3 (w3.alloc (.cells #[.slice none 0 0, .int .i64 0, .int .i64 (R : Int)] 30)) := (Below.refl _ _).alloc (Nat.le_refl _) _
  have H0 : Hid (Run (w3.alloc (.cells #[.slice none 0 0, .int .i64 0, .int .i64 (R : Int)] 30)) w.heap.size w1.heap.size w3.heap.size none 0 0 [] 0 R none 0 0 [] 0 R) := ⟨hT3.below hal, Bx.of (t := 30) (heap_alloc_new w3 _), Rd8.empty _, by omega, by omega, by simp, by simp, by simp⟩
  have hB4 : Below w.heap.size w (w3.alloc (.cells #[.slice none 0 0, .int .i64 0, .int .i64 (R : Int)] 30)) := hB3.trans (hal.mono (by omega))
  clear hal hT3
  go_loopw [26] (fun i wr => ∃ (k : Nat) (ao : Option Addr) (n cap : Nat) (bs : List Nat) (s r : Nat) (ra : Option Addr) (rc : Nat), k ≤ n1 ∧ i = .int .i64 k ∧ Hid (Run wr w.heap.size w1.heap.size w3.heap.size ao n cap bs s r ra n rc bs s r) ∧ Below w.heap.size w wr) (fun i _ => n1 - (intOf i).toNat)
  case atStart => exact ⟨0, none, 0, 0, [], 0, R, none, 0, Nat.zero_le _, rfl, H0.out, hB4⟩
  case round =>
    obtain ⟨k, ao, n, cap, bs, s, r, ra, rc, hk, rfl, HI, hbel⟩ := hrel
    by_cases hlt : k < n1
    · have hAr := HA.out.below hbel
      obtain ⟨bk, off, rfl, _, hc⟩ := hAr.cell (by intro e; rw [e] at hn; simp at hn; omega)
      obtain ⟨hc0, hc1, hc2⟩ := hc k (by omega)
      have hX := hAr.rd A[k] (List.getElem_mem _)
      have hZ := hAr.sz A[k] (List.getElem_mem _)
      have hX0 := HA.out.rd A[k] (List.getElem_mem _)
      clear hAr hc
      generalize A[k] = x at *
      obtain ⟨kk, nn, aa, mm, cc, ys⟩ := x
      simp only at hc0 hc1 hc2 hX hZ hX0
      have hml := hX.len
      have hsz := hbel.size
      have HT1 := (show Hid _ from HI.out.act kk nn (.slice aa mm cc))
      have hB1 : Below w.heap.size w (wr.alloc (.cells #[.int .i64 kk, .int .i64 nn, .slice aa mm cc] 33)) := hbel.alloc (by omega) _
      have hgl : w1.heap.size < wr.heap.size := HI.out.t.hd.lt
      have hpl : w3.heap.size < wr.heap.size := HI.out.x.lt
      have hnl := HI.out.t.le
      have hrl := HI.out.t.rl
      have hsl := HI.out.t.sl
      have hbl := HI.out.t.own.len
      clear HI
      go_upto_block 2 with fail
      go_cut [9, 10, 11, 12, 13, 14] (fun e f o y z1 z2 wc => ∃ (E : Int) (O : Bool) (ao : Option Addr) (n cap : Nat) (bs : List Nat) (s r : Nat) (ra : Option Addr) (rc : Nat), e = .int .i64 E ∧ f = .int .i64 E ∧ o = .bool O ∧ y = .bool O ∧ Hid (Run wc w.heap.size w1.heap.size w3.heap.size ao n cap bs s r ra n rc bs s r) ∧ Below w.heap.size w wc)
      case first =>
        by_cases hk0 : kk = 0
        · subst hk0
          by_cases hfit : mm = 0 ∨ n + mm ≤ r
          · skip
            go_wp2_with (first
              | (at_builtin; refine wpList_append_rdI _ rfl (.tmp 34) (.tmp 36) 27 rfl (wr.heap.size + 1) 5 .u8 (.int .u8 0) 1 Try.underlying27 info5 rfl rfl rfl (OwnI.fresh2 wr _ _ _ _ (by omega)) ((hX.alloc _).alloc _).rd rfl (by rw [ci_length]; exact hml) (by omega) (by unfold maxLen; omega) (by simp) ?_; intro aw cw wa how hbw; have how : Own8 wa (wr.heap.size + 1) aw mm cw ys := ⟨how, hml, hX.byte⟩; have hBw : Below (wr.heap.size + 1) (wr.alloc (.cells #[.int .i64 0, .int .i64 nn, .slice aa mm cc] 33)) wa := ((Below.refl _ _).alloc (by simp) (.cells #[] 5)).trans hbw; have HTw := (show Hid _ from HT1.out.below (hBw.mono (by simp))); have hBa := hB1.trans (hBw.mono (by omega)); have hza := hBw.size; simp at hza)
              | (go_at_call 10; refine (append_ok _ _ _ _ _ _ _ _ _ HTw.out.t _ _ _ _ how.rd hfit).mono ?_; rintro e w4 ⟨rfl, ao4, cap4, hT4, hO4, hN4⟩; have HT4 := (show Hid _ from HTw.out.tape hT4 hO4 hN4); have hB4' := hBa.trans (HTw.out.t.belowB hO4); have hw4 : Own8 w4 (wr.heap.size + 1) aw mm cw ys := how.keep (fun a ha => hO4.block _ (how.lt a ha) (by have := how.ge a ha; omega) (fun c hc e => by have := how.ge a ha; have := HT1.out.t.own.lt c hc; simp at this; omega)); have hz4 := hO4.size; clear hT4; have r0 := HT4.out.x.c0; have r1 := HT4.out.x.c1; have r2 := HT4.out.x.c2; have t1 := HT4.out.av.c1; have t2 := HT4.out.av.c2)
              | (go_at_call 12; refine (refAppend_ok ra n rc s r bs aa mm cc ys _ HT4.out.rd (hX0.below hB4') hnl hrl hfit).mono ?_; rintro e w5 ⟨ra5, rc5, rfl, ho5, hb5⟩; have HT5 := (show Hid _ from HT4.out.below hb5); have hB5 := below_step hB4' hb5; have s0 := HT5.out.x.c0; have s1 := HT5.out.x.c1; have s2 := HT5.out.x.c2; have f0 := HT5.out.x.f 0; have f1 := HT5.out.x.f 1; have f2 := HT5.out.x.f 2))
            have hz5 := hb5.size
            have HR6 : Hid (Ru (((w5.setCell ⟨w3.heap.size, 0, none⟩ (.slice ra5 (n + mm) rc5)).setCell ⟨w3.heap.size, 1, none⟩ (.int .i64 (s : Int))).setCell ⟨w3.heap.size, 2, none⟩ (.int .i64 (r : Int))) w.heap.size w1.heap.size w3.heap.size wr.heap.size ao4 (n + mm) cap4 (bs ++ ys) s r ra5 (n + mm) rc5 (bs ++ ys) s r 0 nn (.slice aa mm cc)) := Ru.refNew HT4.out hb5 ho5 s r
            have hB6 : Below w.heap.size w (((w5.setCell ⟨w3.heap.size, 0, none⟩ (.slice ra5 (n + mm) rc5)).setCell ⟨w3.heap.size, 1, none⟩ (.int .i64 (s : Int))).setCell ⟨w3.heap.size, 2, none⟩ (.int .i64 (r : Int))) := below_set3 hB5 (by omega) _ _ _
            have hO6 : Own8 (((w5.setCell ⟨w3.heap.size, 0, none⟩ (.slice ra5 (n + mm) rc5)).setCell ⟨w3.heap.size, 1, none⟩ (.int .i64 (s : Int))).setCell ⟨w3.heap.size, 2, none⟩ (.int .i64 (r : Int))) (wr.heap.size + 1) aw mm cw ys := (((hw4.below hb5).set ⟨w3.heap.size, 0, none⟩ _ (by simp; omega)).set ⟨w3.heap.size, 1, none⟩ _ (by simp; omega)).set ⟨w3.heap.size, 2, none⟩ _ (by simp; omega)
            have HAO : Hid (∀ a, ao4 = some a → a.block < wr.heap.size + 1 ∨ wa.heap.size ≤ a.block) := fun a ha => by rcases hN4 a ha with ⟨c, hc, e⟩ | hc; exact .inl (by have := HT1.out.t.own.lt c hc; simp at this; omega); exact .inr hc
            have HRA : Hid (∀ a, ra5 = some a → a.block < wr.heap.size + 1 ∨ wa.heap.size ≤ a.block) := fun a ha => .inr (by have := ho5.ge a ha; omega)
            have HOW : Hid (Own8 wa (wr.heap.size + 1) aw mm cw ys) := how
            obtain ⟨wA, hwA⟩ : ∃ x, x = wr := ⟨wr, rfl⟩
            subst hwA
            clear HT5 HT4 HTw HT1 hw4 r0 r1 r2 t1 t2 s0 s1 s2 f0 f1 f2 hB5 hB4' how
            generalize (((w5.setCell ⟨w3.heap.size, 0, none⟩ (.slice ra5 (n + mm) rc5)).setCell ⟨w3.heap.size, 1, none⟩ (.int .i64 (s : Int))).setCell ⟨w3.heap.size, 2, none⟩ (.int .i64 (r : Int))) = W6 at *
            go_loopw [50] (fun t wq => ∃ k2 : Nat, k2 ≤ mm ∧ t = .int .i64 k2 ∧ Hid ((∃ xs, Own8 wq (wA.heap.size + 1) aw mm cw xs) ∧ Ru wq w.heap.size w1.heap.size w3.heap.size wA.heap.size ao4 (n + mm) cap4 (bs ++ ys) s r ra5 (n + mm) rc5 (bs ++ ys) s r 0 nn (.slice aa mm cc)) ∧ Below w.heap.size w wq) (fun t _ => mm - (intOf t).toNat)
            case atStart => exact ⟨0, Nat.zero_le _, rfl, ⟨⟨_, hO6⟩, HR6.out⟩, hB6⟩
            case round =>
              obtain ⟨k2, hk2, rfl, HX, hbq⟩ := hrel
              by_cases hlt2 : k2 < mm
              · obtain ⟨o, rfl, ho1, ho2⟩ := HOW.out.at0 (by omega)
                obtain ⟨⟨xs, hxs⟩, hTq⟩ := HX.out
                have hfz := hxs.own.frozenAt k2
                obtain ⟨y, hy, hcy⟩ := hxs.cellAt k2 hlt2
                obtain ⟨z, hz256, hwy⟩ : ∃ z : Nat, z < 256 ∧ IntKind.u8.wrap ((y : Int) + 1) = (z : Int) := ⟨(y + 1) % 256, by omega, by rw [IntKind.wrap_u8]; omega⟩
                have HTq := (show Hid _ from hTq)
                clear hTq
                go_wp2
                go_roundw
                case rel => exact ⟨k2 + 1, by omega, by go_num, ⟨⟨_, hxs.put k2 z hz256⟩, HTq.out.other _ _ (by simp; omega) (by simp; omega) (by simp; omega) (fun a ha => by have := HAO.out a ha; simp; omega) (fun a ha => by have := HRA.out a ha; simp; omega)⟩, hbq.setCell (by simp; omega) _⟩
                case measure => simp [intOf]; omega
              · go_wp2
                go_meet
                exact ⟨0, false, ao4, n + mm, cap4, (bs ++ ys), s, r, ra5, rc5, rfl, rfl, rfl, rfl, HX.out.2.run, hbq⟩
          · have hm0 : mm ≠ 0 := fun e => hfit (.inl e)
            have hmf : ¬ n + mm ≤ r := fun e => hfit (.inr e)
            clear hfit
            go_wp2_with (first
              | (at_builtin; refine wpList_append_rdI _ rfl (.tmp 34) (.tmp 36) 27 rfl (wr.heap.size + 1) 5 .u8 (.int .u8 0) 1 Try.underlying27 info5 rfl rfl rfl (OwnI.fresh2 wr _ _ _ _ (by omega)) ((hX.alloc _).alloc _).rd rfl (by rw [ci_length]; exact hml) (by omega) (by unfold maxLen; omega) (by simp) ?_; intro aw cw wa how hbw; have how : Own8 wa (wr.heap.size + 1) aw mm cw ys := ⟨how, hml, hX.byte⟩; have hBw : Below (wr.heap.size + 1) (wr.alloc (.cells #[.int .i64 0, .int .i64 nn, .slice aa mm cc] 33)) wa := ((Below.refl _ _).alloc (by simp) (.cells #[] 5)).trans hbw; have HTw := (show Hid _ from HT1.out.below (hBw.mono (by simp))); have hBa := hB1.trans (hBw.mono (by omega)); have hza := hBw.size; simp at hza)
              | (go_at_call 10; refine (append_bad _ _ _ _ _ _ _ _ _ HTw.out.t _ _ _ hm0 hmf (by omega)).mono ?_; rintro e w4 ⟨rfl, hb4⟩; have HT4 := (show Hid _ from HTw.out.below hb4); have hB4' := below_step hBa hb4; have hw4 := how.below hb4; have hz4 := hb4.size; have r0 := HT4.out.x.c0; have r1 := HT4.out.x.c1; have r2 := HT4.out.x.c2; have t1 := HT4.out.av.c1; have t2 := HT4.out.av.c2)
              | (go_at_call 12; refine (refAppend_bad ra n rc s r aa mm cc _ hnl hm0 hmf (by omega)).mono ?_; rintro e w5 ⟨rfl, hb5⟩; have HT5 := (show Hid _ from HT4.out.below hb5); have hB5 := below_step hB4' hb5; have s0 := HT5.out.x.c0; have s1 := HT5.out.x.c1; have s2 := HT5.out.x.c2; have f0 := HT5.out.x.f 0; have f1 := HT5.out.x.f 1; have f2 := HT5.out.x.f 2))
            have hz5 := hb5.size
            have HR6 : Hid (Ru (((w5.setCell ⟨w3.heap.size, 0, none⟩ (.slice ra (n) rc)).setCell ⟨w3.heap.size, 1, none⟩ (.int .i64 (s : Int))).setCell ⟨w3.heap.size, 2, none⟩ (.int .i64 (r : Int))) w.heap.size w1.heap.size w3.heap.size wr.heap.size ao (n) cap bs s r ra (n) rc bs s r 0 nn (.slice aa mm cc)) := HT5.out.refSame s r
            have hB6 : Below w.heap.size w (((w5.setCell ⟨w3.heap.size, 0, none⟩ (.slice ra (n) rc)).setCell ⟨w3.heap.size, 1, none⟩ (.int .i64 (s : Int))).setCell ⟨w3.heap.size, 2, none⟩ (.int .i64 (r : Int))) := below_set3 hB5 (by omega) _ _ _
            have hO6 : Own8 (((w5.setCell ⟨w3.heap.size, 0, none⟩ (.slice ra (n) rc)).setCell ⟨w3.heap.size, 1, none⟩ (.int .i64 (s : Int))).setCell ⟨w3.heap.size, 2, none⟩ (.int .i64 (r : Int))) (wr.heap.size + 1) aw mm cw ys := (((hw4.below hb5).set ⟨w3.heap.size, 0, none⟩ _ (by simp; omega)).set ⟨w3.heap.size, 1, none⟩ _ (by simp; omega)).set ⟨w3.heap.size, 2, none⟩ _ (by simp; omega)
            have HAO : Hid (∀ a, ao = some a → a.block < wr.heap.size + 1 ∨ wa.heap.size ≤ a.block) := fun a ha => .inl (by have := HT1.out.t.own.lt a ha; simp at this; omega)
            have HRA : Hid (∀ a, ra = some a → a.block < wr.heap.size + 1 ∨ wa.heap.size ≤ a.block) := fun a ha => .inl (by have := (HT1.out.rl a ha).1; simp at this; omega)
            have HOW : Hid (Own8 wa (wr.heap.size + 1) aw mm cw ys) := how
            obtain ⟨wA, hwA⟩ : ∃ x, x = wr := ⟨wr, rfl⟩
            subst hwA
            clear HT5 HT4 HTw HT1 hw4 r0 r1 r2 t1 t2 s0 s1 s2 f0 f1 f2 hB5 hB4' how
            generalize (((w5.setCell ⟨w3.heap.size, 0, none⟩ (.slice ra (n) rc)).setCell ⟨w3.heap.size, 1, none⟩ (.int .i64 (s : Int))).setCell ⟨w3.heap.size, 2, none⟩ (.int .i64 (r : Int))) = W6 at *
            go_loopw [50] (fun t wq => ∃ k2 : Nat, k2 ≤ mm ∧ t = .int .i64 k2 ∧ Hid ((∃ xs, Own8 wq (wA.heap.size + 1) aw mm cw xs) ∧ Ru wq w.heap.size w1.heap.size w3.heap.size wA.heap.size ao (n) cap bs s r ra (n) rc bs s r 0 nn (.slice aa mm cc)) ∧ Below w.heap.size w wq) (fun t _ => mm - (intOf t).toNat)
            case atStart => exact ⟨0, Nat.zero_le _, rfl, ⟨⟨_, hO6⟩, HR6.out⟩, hB6⟩
            case round =>
              obtain ⟨k2, hk2, rfl, HX, hbq⟩ := hrel
              by_cases hlt2 : k2 < mm
              · obtain ⟨o, rfl, ho1, ho2⟩ := HOW.out.at0 (by omega)
                obtain ⟨⟨xs, hxs⟩, hTq⟩ := HX.out
                have hfz := hxs.own.frozenAt k2
                obtain ⟨y, hy, hcy⟩ := hxs.cellAt k2 hlt2
                obtain ⟨z, hz256, hwy⟩ : ∃ z : Nat, z < 256 ∧ IntKind.u8.wrap ((y : Int) + 1) = (z : Int) := ⟨(y + 1) % 256, by omega, by rw [IntKind.wrap_u8]; omega⟩
                have HTq := (show Hid _ from hTq)
                clear hTq
                go_wp2
                go_roundw
                case rel => exact ⟨k2 + 1, by omega, by go_num, ⟨⟨_, hxs.put k2 z hz256⟩, HTq.out.other _ _ (by simp; omega) (by simp; omega) (by simp; omega) (fun a ha => by have := HAO.out a ha; simp; omega) (fun a ha => by have := HRA.out a ha; simp; omega)⟩, hbq.setCell (by simp; omega) _⟩
                case measure => simp [intOf]; omega
              · go_wp2
                go_meet
                exact ⟨61, false, ao, n, cap, bs, s, r, ra, rc, rfl, rfl, rfl, rfl, HX.out.2.run, hbq⟩
        · skip
          by_cases hk1 : kk = 1
          · subst hk1
            go_wp2_with (first
              | (go_at_call 13; refine (sync_any _ _ _ _ _ _ _ _ _ HT1.out.t).mono ?_; rintro e w4 ⟨rfl, hT4, hO4, -⟩; have HT4 := (show Hid _ from HT1.out.tape hT4 hO4 (Nw.refl _ _)); have hB4' := hB1.trans (HT1.out.t.belowB hO4); clear hT4; have r0 := HT4.out.x.c0; have r1 := HT4.out.x.c1; have r2 := HT4.out.x.c2; have t1 := HT4.out.av.c1; have t2 := HT4.out.av.c2)
              | (go_at_call 14; refine (refSync_any ra n rc s r _).mono ?_; rintro e w5 ⟨rfl, hb5⟩; have HT5 := (show Hid _ from HT4.out.below hb5); have hB5 := below_step hB4' hb5; have s0 := HT5.out.x.c0; have s1 := HT5.out.x.c1; have s2 := HT5.out.x.c2; have f0 := HT5.out.x.f 0; have f1 := HT5.out.x.f 1; have f2 := HT5.out.x.f 2))
            go_meet
            exact ⟨0, false, ao, n, cap, bs, n, r, ra, rc, rfl, rfl, rfl, rfl, (HT5.out.refSame n r).run, below_set3 hB5 (by omega) _ _ _⟩
          · skip
            by_cases hk2 : kk = 2
            · subst hk2
              obtain ⟨L, hL⟩ : ∃ L, crashN s n nn = L := ⟨_, rfl⟩
              obtain ⟨T, hT⟩ : ∃ T, bs.take L = T := ⟨_, rfl⟩
              have HL : Hid (crashN s n nn = L) := hL
              have HTk : Hid (bs.take L = T) := hT
              clear hL hT
              go_wp2_with (first
                | (go_at_call 15; refine (crash_at _ _ _ _ _ _ _ _ _ HT1.out.t nn L T HL.out HTk.out).mono ?_; rintro e w4 ⟨rfl, hT4, hO4, -⟩; have HT4 := (show Hid _ from HT1.out.tape hT4 hO4 (Nw.refl _ _)); have hB4' := hB1.trans (HT1.out.t.belowB hO4); clear hT4; have r0 := HT4.out.x.c0; have r1 := HT4.out.x.c1; have r2 := HT4.out.x.c2; have t1 := HT4.out.av.c1; have t2 := HT4.out.av.c2)
                | (go_at_call 16; refine (refCrash_any ra n rc s r bs nn L T _ HT4.out.rd hnl hsl HL.out HTk.out).mono ?_; rintro e w5 ⟨ra5, rc5, rfl, ho5, hb5⟩; have HT5 := (show Hid _ from HT4.out.below hb5); have hB5 := below_step hB4' hb5; have s0 := HT5.out.x.c0; have s1 := HT5.out.x.c1; have s2 := HT5.out.x.c2; have f0 := HT5.out.x.f 0; have f1 := HT5.out.x.f 1; have f2 := HT5.out.x.f 2))
              go_meet
              exact ⟨0, false, ao, L, cap, T, L, r, ra5, rc5, rfl, rfl, rfl, rfl, (Ru.refNew HT4.out hb5 ho5 L r).run, below_set3 hB5 (by omega) _ _ _⟩
            · skip
              by_cases hk3 : kk = 3
              · subst hk3
                go_wp2_with (first
                  | (go_at_call 17; refine (limit_any _ _ _ _ _ _ _ _ _ HT1.out.t nn).mono ?_; rintro e w4 ⟨rfl, hT4, hO4, -⟩; have HT4 := (show Hid _ from HT1.out.tape hT4 hO4 (Nw.refl _ _)); have hB4' := hB1.trans (HT1.out.t.belowB hO4); clear hT4; have r0 := HT4.out.x.c0; have r1 := HT4.out.x.c1; have r2 := HT4.out.x.c2; have t1 := HT4.out.av.c1; have t2 := HT4.out.av.c2)
                  | (go_at_call 18; refine (refLimit_any ra n rc s r nn _).mono ?_; rintro e w5 ⟨rfl, hb5⟩; have HT5 := (show Hid _ from HT4.out.below hb5); have hB5 := below_step hB4' hb5; have s0 := HT5.out.x.c0; have s1 := HT5.out.x.c1; have s2 := HT5.out.x.c2; have f0 := HT5.out.x.f 0; have f1 := HT5.out.x.f 1; have f2 := HT5.out.x.f 2))
                go_meet
                exact ⟨0, false, ao, n, cap, bs, s, bnd nn, ra, rc, rfl, rfl, rfl, rfl, (HT5.out.refSame s (bnd nn)).run, below_set3 hB5 (by omega) _ _ _⟩
              · skip
                by_cases hk4 : kk = 4
                · subst hk4
                  obtain ⟨L, hL⟩ : ∃ L, cutN nn n = L := ⟨_, rfl⟩
                  obtain ⟨T, hT⟩ : ∃ T, bs.take L = T := ⟨_, rfl⟩
                  have HL : Hid (cutN nn n = L) := hL
                  have HTk : Hid (bs.take L = T) := hT
                  clear hL hT
                  obtain ⟨S, hS⟩ : ∃ S, min s L = S := ⟨_, rfl⟩
                  have HS : Hid (min s L = S) := hS
                  clear hS
                  go_wp2_with (first
                    | (go_at_call 19; refine (cut_at _ _ _ _ _ _ _ _ _ HT1.out.t nn L S T HL.out HS.out HTk.out).mono ?_; rintro e w4 ⟨rfl, hT4, hO4, -⟩; have HT4 := (show Hid _ from HT1.out.tape hT4 hO4 (Nw.refl _ _)); have hB4' := hB1.trans (HT1.out.t.belowB hO4); clear hT4; have r0 := HT4.out.x.c0; have r1 := HT4.out.x.c1; have r2 := HT4.out.x.c2; have t1 := HT4.out.av.c1; have t2 := HT4.out.av.c2)
                    | (go_at_call 20; refine (refCut_any ra n rc s r bs nn L S T _ HT4.out.rd hnl hsl HL.out HS.out HTk.out).mono ?_; rintro e w5 ⟨ra5, rc5, rfl, ho5, hb5⟩; have HT5 := (show Hid _ from HT4.out.below hb5); have hB5 := below_step hB4' hb5; have s0 := HT5.out.x.c0; have s1 := HT5.out.x.c1; have s2 := HT5.out.x.c2; have f0 := HT5.out.x.f 0; have f1 := HT5.out.x.f 1; have f2 := HT5.out.x.f 2))
                  go_meet
                  exact ⟨0, false, ao, L, cap, T, S, r, ra5, rc5, rfl, rfl, rfl, rfl, (Ru.refNew HT4.out hb5 ho5 S r).run, below_set3 hB5 (by omega) _ _ _⟩
                · skip
                  by_cases hk5 : kk = 5
                  · subst hk5
                    by_cases hd : nn < 0 ∨ (s : Int) < nn
                    · skip
                      go_wp2_with (first
                        | (go_at_call 21; refine (drop_bad _ _ _ _ _ _ _ _ _ HT1.out.t nn hd).mono ?_; rintro e w4 ⟨rfl, hw⟩; subst w4; have HT4 := HT1; have hB4' := hB1; have r0 := HT4.out.x.c0; have r1 := HT4.out.x.c1; have r2 := HT4.out.x.c2; have t1 := HT4.out.av.c1; have t2 := HT4.out.av.c2)
                        | (go_at_call 22; refine (refDrop_bad ra n rc s r nn _ hd).mono ?_; rintro e w5 ⟨rfl, hb5⟩; have HT5 := (show Hid _ from HT4.out.below hb5); have hB5 := below_step hB4' hb5; have s0 := HT5.out.x.c0; have s1 := HT5.out.x.c1; have s2 := HT5.out.x.c2; have f0 := HT5.out.x.f 0; have f1 := HT5.out.x.f 1; have f2 := HT5.out.x.f 2))
                      go_meet
                      exact ⟨0, false, ao, n, cap, bs, s, r, ra, rc, rfl, rfl, rfl, rfl, (HT5.out.refSame s r).run, below_set3 hB5 (by omega) _ _ _⟩
                    · obtain ⟨d, rfl⟩ : ∃ d : Nat, nn = d := ⟨nn.toNat, by omega⟩
                      have hds : d ≤ s := by omega
                      clear hd
                      go_wp2_with (first
                        | (go_at_call 21; refine (drop_ok _ _ _ _ _ _ _ _ _ HT1.out.t d hds).mono ?_; rintro e w4 ⟨rfl, hL4⟩; have hL4' := HT1.out.tapeLed hL4; obtain ⟨ao4, cap4, hR4, hBl⟩ := hL4'; have HT4 := (show Hid _ from hR4); have hB4' := hB1.trans hBl; clear hR4; have r0 := HT4.out.x.c0; have r1 := HT4.out.x.c1; have r2 := HT4.out.x.c2; have t1 := HT4.out.av.c1; have t2 := HT4.out.av.c2)
                        | (go_at_call 22; refine (refDrop_ok ra n rc s r bs d _ HT4.out.rd hnl hsl hds).mono ?_; rintro e w5 ⟨ra5, rc5, rfl, ho5, hb5⟩; have HT5 := (show Hid _ from HT4.out.below hb5); have hB5 := below_step hB4' hb5; have s0 := HT5.out.x.c0; have s1 := HT5.out.x.c1; have s2 := HT5.out.x.c2; have f0 := HT5.out.x.f 0; have f1 := HT5.out.x.f 1; have f2 := HT5.out.x.f 2))
                      go_meet
                      exact ⟨0, true, ao4, n - d, cap4, bs.drop d, s - d, r, ra5, rc5, rfl, rfl, rfl, rfl, (Ru.refNew HT4.out hb5 ho5 (s - d) r).run, below_set3 hB5 (by omega) _ _ _⟩
                  · skip
                    go_wp2
                    go_meet
                    exact ⟨0, false, ao, n, cap, bs, s, r, ra, rc, rfl, rfl, rfl, rfl, HT1.out.run, hB1⟩
      case rest =>
        obtain ⟨E, O, ao', n', cap', bs', s', r', ra', rc', rfl, rfl, rfl, rfl, HW, hBw⟩ := hcut
        have HS : Hid (∀ W' : World, Below wc.heap.size wc W' → W'.cell? ⟨w3.heap.size, 0, none⟩ = some (.slice ra' n' rc') ∧ W'.cell? ⟨w3.heap.size, 1, none⟩ = some (.int .i64 (s' : Int)) ∧ (convert 27 9 (.slice ra' n' rc')).run Try.prog W' = .ok (.string (st bs')) W') := fun W' hb => ⟨(HW.out.below hb).x.c0, (HW.out.below hb).x.c1, (HW.out.below hb).rd.st⟩
        have hBd : Below wc.heap.size wc wc.drew := (Below.refl _ _).drew
        have hE1 : (E != E) = false := by simp
        have hE2 : (E == E) = true := by simp
        go_wp2
        first
          | go_region_held (fun W' => W'.cell? ⟨w3.heap.size, 0, none⟩ = some (.slice ra' n' rc') ∧ W'.cell? ⟨w3.heap.size, 1, none⟩ = some (.int .i64 (s' : Int)) ∧ (convert 27 9 (.slice ra' n' rc')).run Try.prog W' = .ok (.string (st bs')) W')
              (first | exact HS.out _ hBd | exact HS.out _ hB9 | fail)
              (first
                | (go_at_call 24; refine (safe_any _ _ _ _ _ _ _ _ _ (HW.out.below hB9).t).mono ?_; rintro e w' ⟨rfl, hw⟩; subst w')
                | (go_at_call 23; refine (bytes_any _ _ _ _ _ _ _ _ _ (HW.out.below hBd).t).mono ?_; rintro e w9 ⟨ao9, cap9, rfl, ho9, hb9⟩; have hB9 : Below wc.heap.size wc w9 := ⟨hb9.os, hb9.tape, hb9.output, hb9.size, hb9.block⟩; have hx9 := ho9.rd.st)
                | fail)
          | fail
        all_goals
          go_wp2
          go_roundw
          case rel => exact ⟨k + 1, ao', n', cap', bs', s', r', ra', rc', by omega, by go_num, HW.out.below hB9, below_step hBw hB9⟩
          case measure => simp [intOf]; omega
    · go_wp2
      go_ret
      exact ⟨rfl, hbel⟩

end Go.Proofs.Ytdajhdeheheccaa
