/- Never more than eight bodies: the walk. -/
import Derived.Test.YtgdlejeopdipiaaRu
import Derived.Test.YtgdlejeopdipiaaOq
import Derived.BigQuiet
namespace Go.Proofs.Ytgdlejeopdipiaa
open Go.RowKit
set_option linter.unusedVariables false

abbrev wI : LkI := ⟨2, 3, 4, true⟩
abbrev wP (a : Int) : PkG := ⟨2, 3, 4, 0, a, false, []⟩

theorem pksOf_length (I : LkI) (L : List (List Nat)) (s h : Nat) : (pksOf I L s h).length = max 1 L.length := by
  unfold pksOf
  split
  · rename_i e; subst e; rfl
  · rename_i e
    rw [pksFrom_length]
    have : 0 < L.length := List.length_pos_iff.2 e
    omega

theorem open_is (w : World) (B g : Nat) (ao : Option Addr) (n cap : Nat) (V : Nat → Prop) (I : LkI) (L : List (List Nat)) (s h : Nat) (H : Lk w B g ao n cap V I L s h) (z : Int) (hz : (n : Int) = z) : Calls Try.prog 19 #[lp g] w fun e w' => e = .returned (.int .i64 z) ∧ w' = w := by
  subst hz
  exact open_any w B g ao n cap V I L s h H

set_option maxRecDepth 100000 in
set_option maxHeartbeats 6400000 in
theorem window_main (a0 : Option Addr) (c0 n0 : Nat) (Q : List Pt) (a1 : Option Addr) (c1 n1 : Nat) (Z : List Int) (w : World) (hQ : RdS w a0 c0 (Q.map Pt.val)) (hn : Q.length = n0) (hb : ∀ p ∈ Q, Rd8 w p.ao p.n p.cap p.bs ∧ p.n ≤ 140737488351232) (hZ : RdI w .i64 a1 c1 Z) (hz : Z.length = n1) (t0 : ¬ ((60 : Int) < (n0 : Int))) (t1 : ¬ ((60 : Int) < (n1 : Int))) :
    Calls Try.prog 8 #[.slice a0 n0 c0, .slice a1 n1 c1] w fun e w' => e = .returned (.bool true) ∧ Below w.heap.size w w' := by
  have HQ : Hid (RdS w a0 c0 (Q.map Pt.val) ∧ (∀ p ∈ Q, Rd8 w p.ao p.n p.cap p.bs ∧ p.n ≤ 140737488351232) ∧ Q.length = n0) := ⟨hQ, hb, hn⟩
  have HZ : Hid (RdI w .i64 a1 c1 Z ∧ Z.length = n1) := ⟨hZ, hz⟩
  clear hQ hb hn hZ hz
  go_enter Try.func8, Try.ntmps8
  go_wp2_with (first
    | (go_at_call 9; refine (new_any 2 3 4 true w1).mono ?_; rintro e w2 ⟨rfl, hK, hb2⟩; have K2 := hK w1.heap.size (fun _ => True) (Nat.le_refl _); clear hK; have hB2 : Below w.heap.size w w2 := below_step hb1 hb2)
    | (go_at_call 11; refine (alive_any _).mono ?_; rintro e w1 ⟨rfl, hb1⟩))
  have HK2 : Hid (Lk w2 w1.heap.size w1.heap.size none 0 0 (fun _ => True) wI [] 0 0) := K2
  have hs1 := hb1.size
  clear K2
  go_loopw [27] (fun i wr => ∃ (k : Nat) (ao : Option Addr) (n cap : Nat) (L : List (List Nat)) (s : Nat), k ≤ n0 ∧ i = .int .i64 k ∧ Hid (Lk wr w1.heap.size w1.heap.size ao n cap (fun _ => True) wI L s 0 ∧ s ≤ k) ∧ Below w.heap.size w wr) (fun i _ => n0 - (intOf i).toNat)
  case atStart => exact ⟨0, none, 0, 0, [], 0, Nat.zero_le _, rfl, ⟨HK2.out, Nat.le_refl _⟩, hB2⟩
  case round =>
    obtain ⟨k, ao, n, cap, L, s, hk, rfl, HI, hbel⟩ := hrel
    rename World => wr
    by_cases hlt : k < n0
    · have hQr := HQ.out.1.below hbel
      obtain ⟨bk, off, rfl, _, hcA⟩ := hQr.at (t := k) (by simp; have := HQ.out.2.2; omega)
      have hcB := hcA k (by simp; have := HQ.out.2.2; omega)
      have hX := HQ.out.2.1 (Q[k]'(by have := HQ.out.2.2; omega)) (List.getElem_mem _)
      simp only [List.getElem_map] at hcB
      clear hcA hQr
      generalize Q[k]'(by have := HQ.out.2.2; omega) = x at *
      obtain ⟨ax, m, cx, bs⟩ := x
      have hc : wr.cell? ⟨bk, off + k, none⟩ = some (.slice ax m cx) := hcB
      clear hcB
      obtain ⟨hX1, hX2⟩ := hX
      simp only at hX1 hX2
      have HX1 : Hid (Rd8 wr ax m cx bs) := hX1.below hbel
      have hml := hX1.len
      clear hX1
      have hsk := HI.out.2
      have hn8 := HI.out.1.le
      obtain ⟨E, hE⟩ : ∃ E, pshE m n = E := ⟨_, rfl⟩
      obtain ⟨n2, hn2⟩ : ∃ n2, pshN m n n = n2 := ⟨_, rfl⟩
      obtain ⟨s2, hs2⟩ : ∃ s2, pshN m n s = s2 := ⟨_, rfl⟩
      obtain ⟨L2, hL2⟩ : ∃ L2, pshL m n L bs = L2 := ⟨_, rfl⟩
      have HE : Hid (pshE m n = E ∧ pshN m n n = n2 ∧ pshN m n s = s2 ∧ pshL m n L bs = L2 ∧ s2 ≤ s + 1) := ⟨hE, hn2, hs2, hL2, by have := psh_le m n s; omega⟩
      clear hE hn2 hs2 hL2
      go_upto_region 11 with (first
        | (go_at_call 10; refine (push_any wa w1.heap.size w1.heap.size ao n cap (fun _ => True) wI L s 0 KA.out.1 aw m cw bs KA.out.2.1.rd (by omega) (fun _ _ => trivial) E n2 s2 L2 HE.out.1 HE.out.2.1 HE.out.2.2.1 HE.out.2.2.2.1).mono ?_; rintro e w4 ⟨rfl, ao4, cap4, K4, hO4, hN4⟩; have hBB := KA.out.1.belowB hO4; have HK4 : Hid (Lk w4 w1.heap.size w1.heap.size ao4 n2 cap4 (fun _ => True) wI L2 s2 0 ∧ Below w.heap.size w w4) := ⟨K4, KA.out.2.2.trans (hBB.mono hs1)⟩)
        | (at_builtin; refine wpList_append_rdI _ rfl _ _ 27 rfl wr.heap.size 5 .u8 (.int .u8 0) 1 Try.underlying27 info5 rfl rfl rfl (OwnI.fresh wr wr.heap.size 5 .u8 (Nat.le_refl _)) (HX1.out.alloc _).rd rfl (by rw [ci_length]; exact hml) (by omega) (by unfold maxLen; omega) (by simp) ?_; intro aw cw wa how' hbw; have how : Own8 wa wr.heap.size aw m cw bs := ⟨by simpa using how', hml, HX1.out.byte⟩; have hBw : Below wr.heap.size wr wa := below_alloc hbw; have KA : Hid (Lk wa w1.heap.size w1.heap.size ao n cap (fun _ => True) wI L s 0 ∧ Own8 wa wr.heap.size aw m cw bs ∧ Below w.heap.size w wa) := ⟨HI.out.1.below hBw, how, below_step hbel hBw⟩; clear how how' hbw)
        | (go_at_call 12; refine (sent_any _ _ _ _ _ _ _ _ _ _ _ HI.out.1).mono ?_; rintro e w9 ⟨rfl, hw⟩; subst w9)
        | (go_at_call 19; refine (open_any _ _ _ _ _ _ _ _ _ _ _ HI.out.1).mono ?_; rintro e w9 ⟨rfl, hw⟩; subst w9))
      clear K4
      go_cut [60] (fun b wc => b = .bool false ∧ wc = w4)
      case first =>
        by_cases m7 : 700 < m
        · have e1 : (E == 0) = false := by have := HE.out.1; simp [pshE, m7] at this; simp [← this]
          have e2 : (s2 : Int) = (s : Int) := by have := HE.out.2.2.1; have h0 := HE.out.1; simp [pshE, m7] at h0; simp [pshN, pshE, m7] at this; omega
          have e3 : ((s2 : Int) != (s : Int)) = false := by simp [e2]
          have m8 : ¬ ((m : Int) ≤ 700) := by omega
          clear e2 m7
          go_wp2_with (first
            | (go_at_call 12; refine (sent_any _ _ _ _ _ _ _ _ _ _ _ HK4.out.1).mono ?_; rintro e w9 ⟨rfl, hw⟩; subst w9))
          go_meet
          exact ⟨rfl, rfl⟩
        · have m8 : (m : Int) ≤ 700 := by omega
          by_cases n7 : n = 8
          · have e1 : (E == 0) = false := by have := HE.out.1; simp [pshE, m7, n7] at this; simp [← this]
            have e2 : (s2 : Int) = (s : Int) := by have := HE.out.2.2.1; simp [pshN, pshE, m7, n7] at this; omega
            have e3 : ((s2 : Int) != (s : Int)) = false := by simp [e2]
            have n9 : ¬ ((n : Int) < 8) := by omega
            clear e2 m7 n7
            go_wp2_with (first
              | (go_at_call 12; refine (sent_any _ _ _ _ _ _ _ _ _ _ _ HK4.out.1).mono ?_; rintro e w9 ⟨rfl, hw⟩; subst w9))
            go_meet
            exact ⟨rfl, rfl⟩
          · have h0 : E = 0 := by have := HE.out.1; rw [pshE_ok m7 n7] at this; exact this.symm
            have e1 : (E == 0) = true := by simp [h0]
            have e4 : (E != 0) = false := by simp [h0]
            have n9 : (n : Int) < 8 := by omega
            have e3 : ((s2 : Int) != (s : Int)) = true := by have := HE.out.2.2.1; simp [pshN, pshE, m7, n7] at this; simp; omega
            clear h0 m7 n7
            go_wp2_with (first
              | (go_at_call 12; refine (sent_any _ _ _ _ _ _ _ _ _ _ _ HK4.out.1).mono ?_; rintro e w9 ⟨rfl, hw⟩; subst w9))
            go_meet
            exact ⟨rfl, rfl⟩
      case rest =>
        obtain ⟨rfl, hwc⟩ := hcut
        subst wc
        have hsb := HE.out.2.2.2.2
        go_upto_if 64 with fail
        go_cut [10] (fun e0 wc => ∃ (n' : Nat) (L' : List (List Nat)), e0 = .int .i64 E ∧ Hid (Lk wc w1.heap.size w1.heap.size ao4 n' cap4 (fun _ => True) wI L' s2 0 ∧ Below w.heap.size w wc))
        case first =>
          by_cases hka : k < n1
          · obtain ⟨b1, o1, rfl, _, hzA⟩ := (HZ.out.1.below HK4.out.2).at (t := k) (by have := HZ.out.2; omega)
            have hz0 := hzA k (by have := HZ.out.2; omega)
            clear hzA
            generalize Z[k]'(by have := HZ.out.2; omega) = z at *
            go_wp2_with (first
              | (go_at_call 14; refine (got_is w4 w1.heap.size w1.heap.size ao4 n2 cap4 (fun _ => True) wI L2 s2 0 HK4.out.1 (wP z) (.slice none 0 0) (fun _ => True) (By.nil _ _) (by simp) (by omega) false _ 0 [] _ (by simp [gotB]) rfl rfl (by simp [gotH, gotB]) (by simp [gotX, gotB])).mono ?_; rintro e w5 ⟨v5, rfl, -, K5, hO5⟩))
            go_meet
            exact ⟨_, _, rfl, K5, HK4.out.2.trans ((HK4.out.1.belowB hO5).mono hs1)⟩
          · go_wp2
            go_meet
            exact ⟨n2, L2, rfl, HK4.out⟩
        case rest =>
          obtain ⟨n', L', rfl, HW⟩ := hcut
          have hl' := HW.out.1.len
          have hn8' := HW.out.1.le
          have hns := HW.out.1.sl
          have q8 : ¬ ((8 : Int) < (n' : Int)) := by omega
          have HL' : Hid (L'.length = n') := hl'
          by_cases h0 : n' = 0
          · obtain ⟨M, hM⟩ : ∃ M, (pksOf wI L' s2 0).length = M := ⟨_, rfl⟩
            have hM1 : M = 1 := by rw [pksOf_length] at hM; omega
            have hMa : ((M : Int) != 1) = false := by simp; omega
            have hmx : ¬ ((1 : Int) < (n' : Int)) := by omega
            have HN0 : Hid (n' = 0) := h0
            have HSQ : Hid (∀ j, j < M → ∃ b, (pksOf wI L' s2 0)[j]? = some (mkPk wI 0 0 b)) := by
              intro j hj
              obtain rfl : j = 0 := by omega
              refine ⟨[], ?_⟩
              unfold pksOf
              rw [if_pos (List.eq_nil_of_length_eq_zero (by omega))]
              rfl
            have hM8 : M ≤ 8 := by omega
            clear hM1 h0
            have HPk : Hid (∀ (j : Nat) (W : World) (v : Value), j < M → Pks W wc.heap.size (fun k => wc.heap.size ≤ k) v (pksOf wI L' s2 0) → ∃ g6 c6 b au mu cu, v = .slice (some ⟨g6, 0, none⟩) M c6 ∧ PkIn W g6 (j * 7) (mkPk wI 0 0 b) (.slice au mu cu)) := by
              intro j W v hj hp
              obtain ⟨g6, c6, u, e, _, h1, au, mu, cu, hu, -⟩ := hp.at j (by omega)
              subst hu
              obtain ⟨b, hb⟩ := HSQ.out j hj
              rw [hM] at e
              have h2 : (pksOf wI L' s2 0)[j]? = some ((pksOf wI L' s2 0)[j]'(by omega)) := by simp
              rw [hb] at h2
              simp only [Option.some.injEq] at h2
              rw [← h2] at h1
              exact ⟨g6, c6, b, au, mu, cu, e, h1⟩
            have HM : Hid ((pksOf wI L' s2 0).length = M) := hM
            clear hM
            go_wp2_with (first
              | (go_at_call 19; refine (open_any _ _ _ _ _ _ _ _ _ _ _ K6).mono ?_; rintro e w9 ⟨rfl, hw⟩; subst w9)
              | (go_at_call 17; refine (packets_any wc _ _ _ _ _ _ _ _ _ _ HW.out.1).mono ?_; rintro e w6 ⟨v6, rfl, hp6, hb6⟩; have K6 := HW.out.1.below hb6; have HP6 : Hid (Pks w6 wc.heap.size (fun k => wc.heap.size ≤ k) v6 (pksOf wI L' s2 0)) := hp6; obtain ⟨a6, c6, hv6, -⟩ := hp6.shape; rw [HM.out] at hv6; subst hv6; clear hp6))
            have HK6 : Hid (Lk w6 w1.heap.size w1.heap.size ao4 n' cap4 (fun _ => True) wI L' s2 0 ∧ Below w.heap.size w w6) := ⟨K6, below_step HW.out.2 hb6⟩
            clear K6
            obtain ⟨wA, hwA⟩ : ∃ x, x = wr := ⟨wr, rfl⟩
            subst hwA
            obtain ⟨z, hz'⟩ : ∃ z : Int, (n' : Int) = z := ⟨_, rfl⟩
            have HZ' : Hid ((n' : Int) = z) := hz'
            have HSM : Hid (s2 ≤ 16777215) := HW.out.1.sm
            clear hz'
            go_loopw [87] (fun t wq => ∃ j : Nat, j ≤ M ∧ t = .int .i64 j ∧ Below w6.heap.size w6 wq) (fun t _ => M - (intOf t).toNat)
            case atStart => exact ⟨0, Nat.zero_le _, rfl, Below.refl _ _⟩
            case round =>
              obtain ⟨j, hj, rfl, hbq⟩ := hrel
              rename World => wq
              by_cases hjl : j < M
              · obtain ⟨g6, c6', b, au, mu, cu, e6, p6⟩ := HPk.out j wq _ hjl (HP6.out.below hbq)
                simp only [Value.slice.injEq, true_and] at e6
                obtain ⟨rfl, -⟩ := e6
                have i0 : wq.cell? ⟨g6, j * 7, none⟩ = some (.int .i64 2) := p6.c0
                have i1 : wq.cell? ⟨g6, j * 7 + 1, none⟩ = some (.int .i64 3) := p6.c1
                have i2 : wq.cell? ⟨g6, j * 7 + 2, none⟩ = some (.int .i64 4) := p6.c2
                have i3 : wq.cell? ⟨g6, j * 7 + 3, none⟩ = some (.int .i64 0) := p6.c3
                have i4 : wq.cell? ⟨g6, j * 7 + 4, none⟩ = some (.int .i64 0) := p6.c4
                have i5 : wq.cell? ⟨g6, j * 7 + 5, none⟩ = some (.bool true) := p6.c5
                have i6 : wq.cell? ⟨g6, j * 7 + 6, none⟩ = some (.slice au mu cu) := p6.c6
                clear p6
                have q1 : ¬ ((0 : Int) < z) := by have := HN0.out; have := HZ'.out; omega
                have q2 : (z == 0) = true := by have := HN0.out; have := HZ'.out; simp; omega
                have hbA : Below wq.heap.size wq (wq.alloc (.cells #[.int .i64 2, .int .i64 3, .int .i64 4, .int .i64 0, .int .i64 0, .bool true, .slice au mu cu] 30)) := (Below.refl _ _).alloc (Nat.le_refl _) _
                have hC := C7.new wq 30 (.int .i64 2) (.int .i64 3) (.int .i64 4) (.int .i64 0) (.int .i64 0) (.bool true) (.slice au mu cu)
                have HKq : Hid (∀ W : World, W.heap = (wq.alloc (.cells #[.int .i64 2, .int .i64 3, .int .i64 4, .int .i64 0, .int .i64 0, .bool true, .slice au mu cu] 30)).heap → Lk W w1.heap.size w1.heap.size ao4 n' cap4 (fun _ => True) wI L' s2 0) := fun W hW => ((HK6.out.1.below hbq).below hbA).keep ⟨by rw [hW]; exact Nat.le_refl _, fun _ _ _ _ _ _ _ => by rw [hW]⟩ (by rw [hW]) fun _ _ => by rw [hW]
                have k3 := hC.c3
                have k5 := hC.c5
                have k0 := hC.c0
                clear hC
                go_upto_region 21 with fail
                go_quiet ((first
                  | (go_at_call 12; refine (sent_any _ _ _ _ _ _ _ _ _ _ _ (HKq.out _ ?_)).mono ?_; rfl; rintro e w9 ⟨rfl, hw⟩; subst w9; exact ⟨rfl, _, rfl⟩)
                  | (go_at_call 19; refine (open_is _ _ _ _ _ _ _ _ _ _ _ (HKq.out _ ?_) z HZ'.out).mono ?_; rfl; rintro e w9 ⟨rfl, hw⟩; subst w9; exact ⟨rfl, _, rfl⟩)))
                go_wp2
                go_roundw
                case rel => exact ⟨j + 1, by omega, by go_num, below_step hbq ⟨hbA.os, hbA.tape, hbA.output, hbA.size, hbA.block⟩⟩
                case measure => simp [intOf]; omega
              · go_wp2
                go_roundw
                case rel => exact ⟨k + 1, ao4, n', cap4, L', s2, by omega, by go_num, ⟨HK6.out.1.below hbq, by have := HE.out.2.2.2.2; omega⟩, HK6.out.2.trans (hbq.mono (by have := HK6.out.2.size; omega))⟩
                case measure => simp [intOf]; omega
          · by_cases h1 : 1 < n'
            · have hmx : (1 : Int) < (n' : Int) := by omega
              obtain ⟨M, hM⟩ : ∃ M, (pksOf wI L' s2 0).length = M := ⟨_, rfl⟩
              have hMn : M = n' := by rw [pksOf_length] at hM; omega
              have hMb : ((M : Int) != (n' : Int)) = false := by simp; omega
              have HN0 : Hid (¬ n' = 0 ∧ M = n') := ⟨h0, hMn⟩
              have HSQ : Hid (∀ j, j < M → ∃ b, (pksOf wI L' s2 0)[j]? = some (mkPk wI 0 ((s2 : Int) - (n' : Int) + 1 + (j : Int)) b)) := by
                intro j hj
                refine ⟨L'[j]'(by omega), ?_⟩
                have h9 := pksFrom_get wI 0 L' ((s2 : Int) - (n' : Int) + 1) j (by omega)
                have e9 : (s2 : Int) - (L'.length : Int) + 1 = (s2 : Int) - (n' : Int) + 1 := by rw [hl']
                unfold pksOf
                rw [if_neg (by intro e; subst e; simp at hl'; omega), e9]
                exact h9
              have hM8 : M ≤ 8 := by omega
              clear hMn h0
              have HPk : Hid (∀ (j : Nat) (W : World) (v : Value), j < M → Pks W wc.heap.size (fun k => wc.heap.size ≤ k) v (pksOf wI L' s2 0) → ∃ g6 c6 b au mu cu, v = .slice (some ⟨g6, 0, none⟩) M c6 ∧ PkIn W g6 (j * 7) (mkPk wI 0 ((s2 : Int) - (n' : Int) + 1 + (j : Int)) b) (.slice au mu cu)) := by
                intro j W v hj hp
                obtain ⟨g6, c6, u, e, _, h1, au, mu, cu, hu, -⟩ := hp.at j (by omega)
                subst hu
                obtain ⟨b, hb⟩ := HSQ.out j hj
                rw [hM] at e
                have h2 : (pksOf wI L' s2 0)[j]? = some ((pksOf wI L' s2 0)[j]'(by omega)) := by simp
                rw [hb] at h2
                simp only [Option.some.injEq] at h2
                rw [← h2] at h1
                exact ⟨g6, c6, b, au, mu, cu, e, h1⟩
              have HM : Hid ((pksOf wI L' s2 0).length = M) := hM
              clear hM
              go_wp2_with (first
                | (go_at_call 19; refine (open_any _ _ _ _ _ _ _ _ _ _ _ K6).mono ?_; rintro e w9 ⟨rfl, hw⟩; subst w9)
                | (go_at_call 17; refine (packets_any wc _ _ _ _ _ _ _ _ _ _ HW.out.1).mono ?_; rintro e w6 ⟨v6, rfl, hp6, hb6⟩; have K6 := HW.out.1.below hb6; have HP6 : Hid (Pks w6 wc.heap.size (fun k => wc.heap.size ≤ k) v6 (pksOf wI L' s2 0)) := hp6; obtain ⟨a6, c6, hv6, -⟩ := hp6.shape; rw [HM.out] at hv6; subst hv6; clear hp6))
              have HK6 : Hid (Lk w6 w1.heap.size w1.heap.size ao4 n' cap4 (fun _ => True) wI L' s2 0 ∧ Below w.heap.size w w6) := ⟨K6, below_step HW.out.2 hb6⟩
              clear K6
              obtain ⟨wA, hwA⟩ : ∃ x, x = wr := ⟨wr, rfl⟩
              subst hwA
              obtain ⟨z, hz'⟩ : ∃ z : Int, (n' : Int) = z := ⟨_, rfl⟩
              have HZ' : Hid ((n' : Int) = z) := hz'
              have HSM : Hid (s2 ≤ 16777215) := HW.out.1.sm
              clear hz'
              go_loopw [87] (fun t wq => ∃ j : Nat, j ≤ M ∧ t = .int .i64 j ∧ Below w6.heap.size w6 wq) (fun t _ => M - (intOf t).toNat)
              case atStart => exact ⟨0, Nat.zero_le _, rfl, Below.refl _ _⟩
              case round =>
                obtain ⟨j, hj, rfl, hbq⟩ := hrel
                rename World => wq
                by_cases hjl : j < M
                · obtain ⟨g6, c6', b, au, mu, cu, e6, p6⟩ := HPk.out j wq _ hjl (HP6.out.below hbq)
                  simp only [Value.slice.injEq, true_and] at e6
                  obtain ⟨rfl, -⟩ := e6
                  have i0 : wq.cell? ⟨g6, j * 7, none⟩ = some (.int .i64 2) := p6.c0
                  have i1 : wq.cell? ⟨g6, j * 7 + 1, none⟩ = some (.int .i64 3) := p6.c1
                  have i2 : wq.cell? ⟨g6, j * 7 + 2, none⟩ = some (.int .i64 4) := p6.c2
                  have i3 : wq.cell? ⟨g6, j * 7 + 3, none⟩ = some (.int .i64 ((s2 : Int) - z + 1 + (j : Int))) := by rw [← HZ'.out]; exact p6.c3
                  have i4 : wq.cell? ⟨g6, j * 7 + 4, none⟩ = some (.int .i64 0) := p6.c4
                  have i5 : wq.cell? ⟨g6, j * 7 + 5, none⟩ = some (.bool true) := p6.c5
                  have i6 : wq.cell? ⟨g6, j * 7 + 6, none⟩ = some (.slice au mu cu) := p6.c6
                  clear p6
                  have q1 : (0 : Int) < z := by have := HN0.out; have := HZ'.out; omega
                  have q2 : (z == 0) = false := by have := HN0.out; have := HZ'.out; simp; omega
                  have w1' : IntKind.i64.wrap ((s2 : Int) - z) = (s2 : Int) - z := by have := HSM.out; have := HN0.out.2; have := HZ'.out; rw [IntKind.wrap_i64]; omega
                  have w2' : IntKind.i64.wrap ((s2 : Int) - z + 1) = (s2 : Int) - z + 1 := by have := HSM.out; have := HN0.out.2; have := HZ'.out; rw [IntKind.wrap_i64]; omega
                  have w3' : IntKind.i64.wrap ((s2 : Int) - z + 1 + (j : Int)) = (s2 : Int) - z + 1 + (j : Int) := by have := HSM.out; have := HN0.out.2; have := HZ'.out; rw [IntKind.wrap_i64]; omega
                  have hbA : Below wq.heap.size wq (wq.alloc (.cells #[.int .i64 2, .int .i64 3, .int .i64 4, .int .i64 ((s2 : Int) - z + 1 + (j : Int)), .int .i64 0, .bool true, .slice au mu cu] 30)) := (Below.refl _ _).alloc (Nat.le_refl _) _
                  have hC := C7.new wq 30 (.int .i64 2) (.int .i64 3) (.int .i64 4) (.int .i64 ((s2 : Int) - z + 1 + (j : Int))) (.int .i64 0) (.bool true) (.slice au mu cu)
                  have HKq : Hid (∀ W : World, W.heap = (wq.alloc (.cells #[.int .i64 2, .int .i64 3, .int .i64 4, .int .i64 ((s2 : Int) - z + 1 + (j : Int)), .int .i64 0, .bool true, .slice au mu cu] 30)).heap → Lk W w1.heap.size w1.heap.size ao4 n' cap4 (fun _ => True) wI L' s2 0) := fun W hW => ((HK6.out.1.below hbq).below hbA).keep ⟨by rw [hW]; exact Nat.le_refl _, fun _ _ _ _ _ _ _ => by rw [hW]⟩ (by rw [hW]) fun _ _ => by rw [hW]
                  have k3 := hC.c3
                  have k5 := hC.c5
                  have k0 := hC.c0
                  clear hC
                  go_upto_region 21 with fail
                  go_quiet ((first
                    | (go_at_call 12; refine (sent_any _ _ _ _ _ _ _ _ _ _ _ (HKq.out _ ?_)).mono ?_; rfl; rintro e w9 ⟨rfl, hw⟩; subst w9; exact ⟨rfl, _, rfl⟩)
                    | (go_at_call 19; refine (open_is _ _ _ _ _ _ _ _ _ _ _ (HKq.out _ ?_) z HZ'.out).mono ?_; rfl; rintro e w9 ⟨rfl, hw⟩; subst w9; exact ⟨rfl, _, rfl⟩)))
                  go_wp2
                  go_roundw
                  case rel => exact ⟨j + 1, by omega, by go_num, below_step hbq ⟨hbA.os, hbA.tape, hbA.output, hbA.size, hbA.block⟩⟩
                  case measure => simp [intOf]; omega
                · go_wp2
                  go_roundw
                  case rel => exact ⟨k + 1, ao4, n', cap4, L', s2, by omega, by go_num, ⟨HK6.out.1.below hbq, by have := HE.out.2.2.2.2; omega⟩, HK6.out.2.trans (hbq.mono (by have := HK6.out.2.size; omega))⟩
                  case measure => simp [intOf]; omega
            · have hmx : ¬ ((1 : Int) < (n' : Int)) := by omega
              obtain ⟨M, hM⟩ : ∃ M, (pksOf wI L' s2 0).length = M := ⟨_, rfl⟩
              have hMn : M = n' := by rw [pksOf_length] at hM; omega
              have hMa : ((M : Int) != 1) = false := by simp; omega
              have HN0 : Hid (¬ n' = 0 ∧ M = n') := ⟨h0, hMn⟩
              have HSQ : Hid (∀ j, j < M → ∃ b, (pksOf wI L' s2 0)[j]? = some (mkPk wI 0 ((s2 : Int) - (n' : Int) + 1 + (j : Int)) b)) := by
                intro j hj
                refine ⟨L'[j]'(by omega), ?_⟩
                have h9 := pksFrom_get wI 0 L' ((s2 : Int) - (n' : Int) + 1) j (by omega)
                have e9 : (s2 : Int) - (L'.length : Int) + 1 = (s2 : Int) - (n' : Int) + 1 := by rw [hl']
                unfold pksOf
                rw [if_neg (by intro e; subst e; simp at hl'; omega), e9]
                exact h9
              have hM8 : M ≤ 8 := by omega
              clear hMn h0
              have HPk : Hid (∀ (j : Nat) (W : World) (v : Value), j < M → Pks W wc.heap.size (fun k => wc.heap.size ≤ k) v (pksOf wI L' s2 0) → ∃ g6 c6 b au mu cu, v = .slice (some ⟨g6, 0, none⟩) M c6 ∧ PkIn W g6 (j * 7) (mkPk wI 0 ((s2 : Int) - (n' : Int) + 1 + (j : Int)) b) (.slice au mu cu)) := by
                intro j W v hj hp
                obtain ⟨g6, c6, u, e, _, h1, au, mu, cu, hu, -⟩ := hp.at j (by omega)
                subst hu
                obtain ⟨b, hb⟩ := HSQ.out j hj
                rw [hM] at e
                have h2 : (pksOf wI L' s2 0)[j]? = some ((pksOf wI L' s2 0)[j]'(by omega)) := by simp
                rw [hb] at h2
                simp only [Option.some.injEq] at h2
                rw [← h2] at h1
                exact ⟨g6, c6, b, au, mu, cu, e, h1⟩
              have HM : Hid ((pksOf wI L' s2 0).length = M) := hM
              clear hM
              go_wp2_with (first
                | (go_at_call 19; refine (open_any _ _ _ _ _ _ _ _ _ _ _ K6).mono ?_; rintro e w9 ⟨rfl, hw⟩; subst w9)
                | (go_at_call 17; refine (packets_any wc _ _ _ _ _ _ _ _ _ _ HW.out.1).mono ?_; rintro e w6 ⟨v6, rfl, hp6, hb6⟩; have K6 := HW.out.1.below hb6; have HP6 : Hid (Pks w6 wc.heap.size (fun k => wc.heap.size ≤ k) v6 (pksOf wI L' s2 0)) := hp6; obtain ⟨a6, c6, hv6, -⟩ := hp6.shape; rw [HM.out] at hv6; subst hv6; clear hp6))
              have HK6 : Hid (Lk w6 w1.heap.size w1.heap.size ao4 n' cap4 (fun _ => True) wI L' s2 0 ∧ Below w.heap.size w w6) := ⟨K6, below_step HW.out.2 hb6⟩
              clear K6
              obtain ⟨wA, hwA⟩ : ∃ x, x = wr := ⟨wr, rfl⟩
              subst hwA
              obtain ⟨z, hz'⟩ : ∃ z : Int, (n' : Int) = z := ⟨_, rfl⟩
              have HZ' : Hid ((n' : Int) = z) := hz'
              have HSM : Hid (s2 ≤ 16777215) := HW.out.1.sm
              clear hz'
              go_loopw [87] (fun t wq => ∃ j : Nat, j ≤ M ∧ t = .int .i64 j ∧ Below w6.heap.size w6 wq) (fun t _ => M - (intOf t).toNat)
              case atStart => exact ⟨0, Nat.zero_le _, rfl, Below.refl _ _⟩
              case round =>
                obtain ⟨j, hj, rfl, hbq⟩ := hrel
                rename World => wq
                by_cases hjl : j < M
                · obtain ⟨g6, c6', b, au, mu, cu, e6, p6⟩ := HPk.out j wq _ hjl (HP6.out.below hbq)
                  simp only [Value.slice.injEq, true_and] at e6
                  obtain ⟨rfl, -⟩ := e6
                  have i0 : wq.cell? ⟨g6, j * 7, none⟩ = some (.int .i64 2) := p6.c0
                  have i1 : wq.cell? ⟨g6, j * 7 + 1, none⟩ = some (.int .i64 3) := p6.c1
                  have i2 : wq.cell? ⟨g6, j * 7 + 2, none⟩ = some (.int .i64 4) := p6.c2
                  have i3 : wq.cell? ⟨g6, j * 7 + 3, none⟩ = some (.int .i64 ((s2 : Int) - z + 1 + (j : Int))) := by rw [← HZ'.out]; exact p6.c3
                  have i4 : wq.cell? ⟨g6, j * 7 + 4, none⟩ = some (.int .i64 0) := p6.c4
                  have i5 : wq.cell? ⟨g6, j * 7 + 5, none⟩ = some (.bool true) := p6.c5
                  have i6 : wq.cell? ⟨g6, j * 7 + 6, none⟩ = some (.slice au mu cu) := p6.c6
                  clear p6
                  have q1 : (0 : Int) < z := by have := HN0.out; have := HZ'.out; omega
                  have q2 : (z == 0) = false := by have := HN0.out; have := HZ'.out; simp; omega
                  have w1' : IntKind.i64.wrap ((s2 : Int) - z) = (s2 : Int) - z := by have := HSM.out; have := HN0.out.2; have := HZ'.out; rw [IntKind.wrap_i64]; omega
                  have w2' : IntKind.i64.wrap ((s2 : Int) - z + 1) = (s2 : Int) - z + 1 := by have := HSM.out; have := HN0.out.2; have := HZ'.out; rw [IntKind.wrap_i64]; omega
                  have w3' : IntKind.i64.wrap ((s2 : Int) - z + 1 + (j : Int)) = (s2 : Int) - z + 1 + (j : Int) := by have := HSM.out; have := HN0.out.2; have := HZ'.out; rw [IntKind.wrap_i64]; omega
                  have hbA : Below wq.heap.size wq (wq.alloc (.cells #[.int .i64 2, .int .i64 3, .int .i64 4, .int .i64 ((s2 : Int) - z + 1 + (j : Int)), .int .i64 0, .bool true, .slice au mu cu] 30)) := (Below.refl _ _).alloc (Nat.le_refl _) _
                  have hC := C7.new wq 30 (.int .i64 2) (.int .i64 3) (.int .i64 4) (.int .i64 ((s2 : Int) - z + 1 + (j : Int))) (.int .i64 0) (.bool true) (.slice au mu cu)
                  have HKq : Hid (∀ W : World, W.heap = (wq.alloc (.cells #[.int .i64 2, .int .i64 3, .int .i64 4, .int .i64 ((s2 : Int) - z + 1 + (j : Int)), .int .i64 0, .bool true, .slice au mu cu] 30)).heap → Lk W w1.heap.size w1.heap.size ao4 n' cap4 (fun _ => True) wI L' s2 0) := fun W hW => ((HK6.out.1.below hbq).below hbA).keep ⟨by rw [hW]; exact Nat.le_refl _, fun _ _ _ _ _ _ _ => by rw [hW]⟩ (by rw [hW]) fun _ _ => by rw [hW]
                  have k3 := hC.c3
                  have k5 := hC.c5
                  have k0 := hC.c0
                  clear hC
                  go_upto_region 21 with fail
                  go_quiet ((first
                    | (go_at_call 12; refine (sent_any _ _ _ _ _ _ _ _ _ _ _ (HKq.out _ ?_)).mono ?_; rfl; rintro e w9 ⟨rfl, hw⟩; subst w9; exact ⟨rfl, _, rfl⟩)
                    | (go_at_call 19; refine (open_is _ _ _ _ _ _ _ _ _ _ _ (HKq.out _ ?_) z HZ'.out).mono ?_; rfl; rintro e w9 ⟨rfl, hw⟩; subst w9; exact ⟨rfl, _, rfl⟩)))
                  go_wp2
                  go_roundw
                  case rel => exact ⟨j + 1, by omega, by go_num, below_step hbq ⟨hbA.os, hbA.tape, hbA.output, hbA.size, hbA.block⟩⟩
                  case measure => simp [intOf]; omega
                · go_wp2
                  go_roundw
                  case rel => exact ⟨k + 1, ao4, n', cap4, L', s2, by omega, by go_num, ⟨HK6.out.1.below hbq, by have := HE.out.2.2.2.2; omega⟩, HK6.out.2.trans (hbq.mono (by have := HK6.out.2.size; omega))⟩
                  case measure => simp [intOf]; omega
    · go_wp2
      go_ret
      exact ⟨rfl, hbel⟩

end Go.Proofs.Ytgdlejeopdipiaa
