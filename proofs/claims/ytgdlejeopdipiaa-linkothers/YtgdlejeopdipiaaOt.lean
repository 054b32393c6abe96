/- A packet of another session: the walk. -/
import Derived.Test.YtgdlejeopdipiaaRu
import Derived.Test.YtgdlejeopdipiaaOq
namespace Go.Proofs.Ytgdlejeopdipiaa
open Go.RowKit
set_option linter.unusedVariables false

set_option maxRecDepth 100000 in
set_option maxHeartbeats 6400000 in
theorem others_main (P0 : PkG) (a0 : Option Addr) (n0 c0 : Nat) (a1 : Option Addr) (c1 n1 : Nat) (Q : List Pt) (P2 : PkG) (a2 : Option Addr) (n2 c2 : Nat) (w : World) (hQ : RdS w a1 c1 (Q.map Pt.val)) (hn : Q.length = n1) (hb : ∀ p ∈ Q, Rd8 w p.ao p.n p.cap p.bs ∧ p.n ≤ 140737488351232) (hm : n1 ≤ 20)
    (t1 : ¬ (P0.cl < 0)) (t2 : ¬ (3 < P0.cl)) (t3 : ¬ (P0.ep < 0)) (t4 : ¬ (16777215 < P0.ep)) (t5 : ¬ (P0.bo < 0)) (t6 : ¬ (16777215 < P0.bo)) :
    Calls Try.prog 7 #[pkV P0 (.slice a0 n0 c0), .slice a1 n1 c1, pkV P2 (.slice a2 n2 c2)] w fun e w' => e = .returned (.bool true) ∧ Below w.heap.size w w' := by
  have HQ : Hid (RdS w a1 c1 (Q.map Pt.val) ∧ (∀ p ∈ Q, Rd8 w p.ao p.n p.cap p.bs ∧ p.n ≤ 140737488351232) ∧ Q.length = n1) := ⟨hQ, hb, hn⟩
  have t0 : ¬ ((20 : Int) < (n1 : Int)) := by omega
  clear hQ hb hn
  go_enter Try.func7, Try.ntmps7
  go_wp2_with (first
    | (go_at_call 9; refine (new_any P0.cl P0.ep P0.bo P0.sv w1).mono ?_; rintro e w2 ⟨rfl, hK, hb2⟩; have K2 := hK w1.heap.size (fun _ => True) (Nat.le_refl _); clear hK; have hB2 : Below w.heap.size w w2 := below_step hB1 hb2; have HP2 : Hid (PkIn w2 w.heap.size 0 P0 (.slice a0 n0 c0) ∧ PkIn w2 (w.heap.size + 1) 0 P2 (.slice a2 n2 c2)) := ⟨hP1.below hb2, hQ1.below hb2⟩)
    | (go_at_call 11; refine (alive_any _).mono ?_; rintro e w1 ⟨rfl, hb1⟩; have hP1 := ((PkIn.new w P0 (.slice a0 n0 c0)).below ((Below.refl _ _).alloc (Nat.le_refl _) (pkO P2 (.slice a2 n2 c2)))).below hb1; have hQ1' := (PkIn.new (w.alloc (pkO P0 (.slice a0 n0 c0))) P2 (.slice a2 n2 c2)).below hb1; have hQ1 : PkIn w1 (w.heap.size + 1) 0 P2 (.slice a2 n2 c2) := (by simpa using hQ1'); clear hQ1'; have hB1 : Below w.heap.size w w1 := below_step (below2 w _ _) hb1; have i0 := hP1.c0; have i1 := hP1.c1; have i2 := hP1.c2; have i5 := hP1.c5; simp only [Nat.zero_add] at i1 i2 i5))
  have HK2 : Hid (Lk w2 w1.heap.size w1.heap.size none 0 0 (fun _ => True) (hdI P0) [] 0 0) := K2
  clear K2 hP1 hQ1
  have hs12 : w.heap.size + 1 < w1.heap.size := by have h1 := hb1.size; simp at h1; omega
  go_loopw [59] (fun i wr => ∃ (k : Nat) (ao : Option Addr) (n cap : Nat) (L : List (List Nat)) (s : Nat), k ≤ n1 ∧ i = .int .i64 k ∧ Hid (Lk wr w1.heap.size w1.heap.size ao n cap (fun _ => True) (hdI P0) L s 0 ∧ s ≤ k ∧ PkIn wr w.heap.size 0 P0 (.slice a0 n0 c0) ∧ PkIn wr (w.heap.size + 1) 0 P2 (.slice a2 n2 c2)) ∧ Below w.heap.size w wr) (fun i _ => n1 - (intOf i).toNat)
  case atStart => exact ⟨0, none, 0, 0, [], 0, Nat.zero_le _, rfl, ⟨HK2.out, Nat.le_refl _, HP2.out⟩, hB2⟩
  case round =>
    obtain ⟨k, ao, n, cap, L, s, hk, rfl, HI, hbel⟩ := hrel
    rename World => wr
    by_cases hlt : k < n1
    · have hQr := HQ.out.1.below hbel
      obtain ⟨bk, off, rfl, _, hcA⟩ := hQr.at (t := k) (by simp; have := HQ.out.2.2; omega)
      have hcB := hcA k (by simp; have := HQ.out.2.2; omega)
      have hX := HQ.out.2.1 (Q[k]'(by have := HQ.out.2.2; omega)) (List.getElem_mem _)
      simp only [List.getElem_map] at hcB
      clear hcA hQr
      generalize Q[k]'(by have := HQ.out.2.2; omega) = x at *
      obtain ⟨ax, m, cx, bs⟩ := x
      have hc : wr.cell? ⟨bk, off + k, none⟩ = some (.slice ax m cx) := hcB
      clear hcB
      obtain ⟨hX1, hX2⟩ := hX
      simp only at hX1 hX2
      have HX1 : Hid (Rd8 wr ax m cx bs) := hX1.below hbel
      have hml := hX1.len
      clear hX1
      have hsk := HI.out.2.1
      go_wp2_with (first
        | (go_at_call 10; refine (push_any wa w1.heap.size w1.heap.size ao n cap (fun _ => True) (hdI P0) L s 0 KA.out.1 aw m cw bs KA.out.2.1.rd (by omega) (fun _ _ => trivial) _ _ _ _ rfl rfl rfl rfl).mono ?_; rintro e w4 ⟨rfl, ao4, cap4, K4, hO4, hN4⟩; have hBB := KA.out.1.belowB hO4)
        | (at_builtin; refine wpList_append_rdI _ rfl _ _ 27 rfl wr.heap.size 5 .u8 (.int .u8 0) 1 Try.underlying27 info5 rfl rfl rfl (OwnI.fresh wr wr.heap.size 5 .u8 (Nat.le_refl _)) (HX1.out.alloc _).rd rfl (by rw [ci_length]; exact hml) (by omega) (by unfold maxLen; omega) (by simp) ?_; intro aw cw wa how' hbw; have how : Own8 wa wr.heap.size aw m cw bs := ⟨by simpa using how', hml, HX1.out.byte⟩; have hBw : Below wr.heap.size wr wa := below_alloc hbw; have KA : Hid (Lk wa w1.heap.size w1.heap.size ao n cap (fun _ => True) (hdI P0) L s 0 ∧ Own8 wa wr.heap.size aw m cw bs ∧ PkIn wa w.heap.size 0 P0 (.slice a0 n0 c0) ∧ PkIn wa (w.heap.size + 1) 0 P2 (.slice a2 n2 c2) ∧ Below w.heap.size w wa) := ⟨HI.out.1.below hBw, how, HI.out.2.2.1.below hBw, HI.out.2.2.2.below hBw, below_step hbel hBw⟩; clear how how' hbw))
      go_roundw
      case rel => exact ⟨k + 1, ao4, _, cap4, _, _, by omega, by go_num, ⟨K4, by have := psh_le m n s; omega, KA.out.2.2.1.keep (hBB.block _ (by omega)), KA.out.2.2.2.1.keep (hBB.block _ (by omega))⟩, KA.out.2.2.2.2.trans (hBB.mono (by omega))⟩
      case measure => simp [intOf]; omega
    · obtain ⟨hK, hsk, hp0, hp2⟩ := HI.out
      have HK : Hid (Lk wr w1.heap.size w1.heap.size ao n cap (fun _ => True) (hdI P0) L s 0) := hK
      have HP2' : Hid (PkIn wr (w.heap.size + 1) 0 P2 (.slice a2 n2 c2)) := hp2
      have HPL : Hid ((pksOf (hdI P0) L s 0).length ≤ 1000) := by
        unfold Hid pksOf
        split
        · simp
        · rw [pksFrom_length]
          have h1 := hK.len
          have h2 := hK.le
          omega
      have j0 := hp0.c0
      have j1 := hp0.c1
      have j2 := hp0.c2
      have j5 := hp0.c5
      have k0 := hp2.c0
      have k1 := hp2.c1
      have k2 := hp2.c2
      have k5 := hp2.c5
      simp only [Nat.zero_add] at j1 j2 j5 k1 k2 k5
      clear hK hp0 hp2 HI
      cases q1 : (P2.cl == P0.cl)
      · have HFIT : Hid (fitB (hdI P0) s P2 = false) := by simp [Hid, fitB, q1]
        go_wp2_with (first
          | (go_at_call 20; refine (heard_any _ _ _ _ _ _ _ _ _ _ _ (HK.out.below hB8)).mono ?_; rintro e w9 ⟨rfl, hw⟩; subst w9)
          | (go_at_call 16; refine (samePackets_same w7 _ _ _ _ v7 v5 _ hp7 (hp5.below hB57) HPL.out).mono ?_; rintro e w8 ⟨rfl, hb8⟩; have hB8 : Below wr.heap.size wr w8 := below_step hB7 hb8)
          | (go_at_call 17; refine (packets_any w6 _ _ _ _ _ _ _ _ _ _ (HK.out.below hB6)).mono ?_; rintro e w7 ⟨v7, rfl, hp7, hb7⟩; have hB7 : Below wr.heap.size wr w7 := below_step hB6 hb7; have hB57 : Below w5.heap.size w5 w7 := below_step hb6 hb7)
          | (go_at_call 14; refine (got_no w5 _ _ _ _ _ _ _ _ _ _ (HK.out.below hb5) P2 (.slice a2 n2 c2) HFIT.out).mono ?_; rintro e w6 ⟨rfl, hb6⟩; have hB6 : Below wr.heap.size wr w6 := below_step hb5 hb6)
          | (go_at_call 17; refine (packets_any wr _ _ _ _ _ _ _ _ _ _ HK.out).mono ?_; rintro e w5 ⟨v5, rfl, hp5, hb5⟩; have hq := HP2'.out.below hb5; have l0 := hq.c0; have l1 := hq.c1; have l2 := hq.c2; have l3 := hq.c3; have l4 := hq.c4; have l5 := hq.c5; have l6 := hq.c6; simp only [Nat.zero_add] at l1 l2 l3 l4 l5 l6; clear hq))
        go_ret
        exact ⟨rfl, below_step hbel hB8⟩
      · cases q2 : (P2.ep == P0.ep)
        · have HFIT : Hid (fitB (hdI P0) s P2 = false) := by simp [Hid, fitB, q2]
          go_wp2_with (first
            | (go_at_call 20; refine (heard_any _ _ _ _ _ _ _ _ _ _ _ (HK.out.below hB8)).mono ?_; rintro e w9 ⟨rfl, hw⟩; subst w9)
            | (go_at_call 16; refine (samePackets_same w7 _ _ _ _ v7 v5 _ hp7 (hp5.below hB57) HPL.out).mono ?_; rintro e w8 ⟨rfl, hb8⟩; have hB8 : Below wr.heap.size wr w8 := below_step hB7 hb8)
            | (go_at_call 17; refine (packets_any w6 _ _ _ _ _ _ _ _ _ _ (HK.out.below hB6)).mono ?_; rintro e w7 ⟨v7, rfl, hp7, hb7⟩; have hB7 : Below wr.heap.size wr w7 := below_step hB6 hb7; have hB57 : Below w5.heap.size w5 w7 := below_step hb6 hb7)
            | (go_at_call 14; refine (got_no w5 _ _ _ _ _ _ _ _ _ _ (HK.out.below hb5) P2 (.slice a2 n2 c2) HFIT.out).mono ?_; rintro e w6 ⟨rfl, hb6⟩; have hB6 : Below wr.heap.size wr w6 := below_step hb5 hb6)
            | (go_at_call 17; refine (packets_any wr _ _ _ _ _ _ _ _ _ _ HK.out).mono ?_; rintro e w5 ⟨v5, rfl, hp5, hb5⟩; have hq := HP2'.out.below hb5; have l0 := hq.c0; have l1 := hq.c1; have l2 := hq.c2; have l3 := hq.c3; have l4 := hq.c4; have l5 := hq.c5; have l6 := hq.c6; simp only [Nat.zero_add] at l1 l2 l3 l4 l5 l6; clear hq))
          go_ret
          exact ⟨rfl, below_step hbel hB8⟩
        · cases q3 : (P2.bo == P0.bo)
          · have HFIT : Hid (fitB (hdI P0) s P2 = false) := by simp [Hid, fitB, q3]
            go_wp2_with (first
              | (go_at_call 20; refine (heard_any _ _ _ _ _ _ _ _ _ _ _ (HK.out.below hB8)).mono ?_; rintro e w9 ⟨rfl, hw⟩; subst w9)
              | (go_at_call 16; refine (samePackets_same w7 _ _ _ _ v7 v5 _ hp7 (hp5.below hB57) HPL.out).mono ?_; rintro e w8 ⟨rfl, hb8⟩; have hB8 : Below wr.heap.size wr w8 := below_step hB7 hb8)
              | (go_at_call 17; refine (packets_any w6 _ _ _ _ _ _ _ _ _ _ (HK.out.below hB6)).mono ?_; rintro e w7 ⟨v7, rfl, hp7, hb7⟩; have hB7 : Below wr.heap.size wr w7 := below_step hB6 hb7; have hB57 : Below w5.heap.size w5 w7 := below_step hb6 hb7)
              | (go_at_call 14; refine (got_no w5 _ _ _ _ _ _ _ _ _ _ (HK.out.below hb5) P2 (.slice a2 n2 c2) HFIT.out).mono ?_; rintro e w6 ⟨rfl, hb6⟩; have hB6 : Below wr.heap.size wr w6 := below_step hb5 hb6)
              | (go_at_call 17; refine (packets_any wr _ _ _ _ _ _ _ _ _ _ HK.out).mono ?_; rintro e w5 ⟨v5, rfl, hp5, hb5⟩; have hq := HP2'.out.below hb5; have l0 := hq.c0; have l1 := hq.c1; have l2 := hq.c2; have l3 := hq.c3; have l4 := hq.c4; have l5 := hq.c5; have l6 := hq.c6; simp only [Nat.zero_add] at l1 l2 l3 l4 l5 l6; clear hq))
            go_ret
            exact ⟨rfl, below_step hbel hB8⟩
          · cases q4 : (P2.sv == P0.sv)
            · skip
              go_wp2
              go_ret
              exact ⟨rfl, hbel⟩
            · have HFIT : Hid (fitB (hdI P0) s P2 = false) := by simp [Hid, fitB, bne, q4]
              go_wp2_with (first
                | (go_at_call 20; refine (heard_any _ _ _ _ _ _ _ _ _ _ _ (HK.out.below hB8)).mono ?_; rintro e w9 ⟨rfl, hw⟩; subst w9)
                | (go_at_call 16; refine (samePackets_same w7 _ _ _ _ v7 v5 _ hp7 (hp5.below hB57) HPL.out).mono ?_; rintro e w8 ⟨rfl, hb8⟩; have hB8 : Below wr.heap.size wr w8 := below_step hB7 hb8)
                | (go_at_call 17; refine (packets_any w6 _ _ _ _ _ _ _ _ _ _ (HK.out.below hB6)).mono ?_; rintro e w7 ⟨v7, rfl, hp7, hb7⟩; have hB7 : Below wr.heap.size wr w7 := below_step hB6 hb7; have hB57 : Below w5.heap.size w5 w7 := below_step hb6 hb7)
                | (go_at_call 14; refine (got_no w5 _ _ _ _ _ _ _ _ _ _ (HK.out.below hb5) P2 (.slice a2 n2 c2) HFIT.out).mono ?_; rintro e w6 ⟨rfl, hb6⟩; have hB6 : Below wr.heap.size wr w6 := below_step hb5 hb6)
                | (go_at_call 17; refine (packets_any wr _ _ _ _ _ _ _ _ _ _ HK.out).mono ?_; rintro e w5 ⟨v5, rfl, hp5, hb5⟩; have hq := HP2'.out.below hb5; have l0 := hq.c0; have l1 := hq.c1; have l2 := hq.c2; have l3 := hq.c3; have l4 := hq.c4; have l5 := hq.c5; have l6 := hq.c6; simp only [Nat.zero_add] at l1 l2 l3 l4 l5 l6; clear hq))
              go_ret
              exact ⟨rfl, below_step hbel hB8⟩

end Go.Proofs.Ytgdlejeopdipiaa
