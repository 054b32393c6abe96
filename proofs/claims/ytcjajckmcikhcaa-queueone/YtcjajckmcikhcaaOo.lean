/- Nobody waits twice: QueueOne's walk. -/
import Derived.Test.YtcjajckmcikhcaaOn
namespace Go.Proofs.Ytcjajckmcikhcaa
open Go.RowKit Go.Maps
set_option linter.unusedVariables false

/-- What the second loop keeps. -/
structure TwoI (w W : World) (q : Nat) (aw : Option Addr) (cw : Nat) (ar : Option Addr) (cr : Nat) (L M : List Wt) : Prop where
  qx : Qx w.heap.size (fun j => rowOf aw j ∨ rowOf ar j) W q L C0 0
  ow : OwR wtC 4 29 W aw cw L
  or_ : OwR wtC 4 29 W ar cr M
  bel : Below w.heap.size w W
  gw : ∀ a, aw = some a → w.heap.size ≤ a.block
  gr : ∀ a, ar = some a → w.heap.size ≤ a.block
  ne : ∀ a b, aw = some a → ar = some b → a.block ≠ b.block

theorem TwoI.vlt {w W : World} {q : Nat} {aw : Option Addr} {cw : Nat} {ar : Option Addr} {cr : Nat} {L M : List Wt} (h : TwoI w W q aw cw ar cr L M) : ∀ j, (rowOf aw j ∨ rowOf ar j) → j < W.heap.size := by
  rintro j (⟨a, ha, rfl⟩ | ⟨a, ha, rfl⟩)
  · exact (h.ow.lt a ha).1
  · exact (h.or_.lt a ha).1

theorem TwoI.below {w W W' : World} {q : Nat} {aw : Option Addr} {cw : Nat} {ar : Option Addr} {cr : Nat} {L M : List Wt} (h : TwoI w W q aw cw ar cr L M) (hb : Below W.heap.size W W') : TwoI w W' q aw cw ar cr L M :=
  ⟨h.qx.below hb, h.ow.below hb, h.or_.below hb, below_step h.bel hb, h.gw, h.gr, h.ne⟩

theorem TwoI.app {w W w6 : World} {q : Nat} {aw : Option Addr} {cw : Nat} {ar : Option Addr} {cr : Nat} {L M M' : List Wt} (h : TwoI w W q aw cw ar cr L M) {ao3 : Option Addr} {cap3 : Nat} (ho : OwR wtC 4 29 w6 ao3 cap3 M') (hg : W.grownBy w6 (ar.map (·.block))) (ha : ao3 = ar ∨ ao3 = some ⟨W.heap.size, 0, none⟩) : TwoI w w6 q aw cw ao3 cap3 L M' := by
  have o3 : OffS (fun j => rowOf aw j ∨ rowOf ar j) W w6 := OffS.grown hg fun k hk => by
    cases ar with
    | none => cases hk
    | some a => exact .inr ⟨a, rfl, by simpa using hk.symm⟩
  have hw : ∀ a, aw = some a → w6.heap[a.block]? = W.heap[a.block]? := fun a haw => hg.block _ (h.ow.lt a haw).1 (by
    intro e
    cases ar with
    | none => cases e
    | some b => exact h.ne a b haw rfl (by simpa using e))
  refine ⟨(h.qx.off o3).less ?_, h.ow.keep fun a haw _ => hw a haw, ho, h.bel.trans (o3.below (fun k hk => ?_) h.bel.size), h.gw, ?_, ?_⟩
  · rintro k (hk | ⟨a, haa, rfl⟩)
    · exact .inl (.inl hk)
    · rcases ha with rfl | rfl
      · exact .inl (.inr ⟨a, haa, rfl⟩)
      · cases haa
        exact .inr (Nat.le_refl _)
  · rcases hk with ⟨a, haa, rfl⟩ | ⟨a, haa, rfl⟩
    · exact h.gw a haa
    · exact h.gr a haa
  · intro a haa
    rcases ha with rfl | rfl
    · exact h.gr a haa
    · cases haa
      exact h.bel.size
  · intro a b haa hbb
    rcases ha with rfl | rfl
    · exact h.ne a b haa hbb
    · cases hbb
      have := (h.ow.lt a haa).1
      simp only
      omega

theorem TwoI.step {w W W' : World} {q : Nat} {aw : Option Addr} {cw : Nat} {ar : Option Addr} {cr : Nat} {L M L' : List Wt} (h : TwoI w W q aw cw ar cr L M) (s : Sx w.heap.size (fun j => rowOf aw j ∨ rowOf ar j) W W' q L' C0 0) :
    Qx w.heap.size (fun j => rowOf aw j ∨ rowOf ar j) W' q L' C0 0 ∧ OwR wtC 4 29 W' ar cr M ∧ Below w.heap.size w W' ∧ ∀ j, (rowOf aw j ∨ rowOf ar j) → j < W'.heap.size :=
  ⟨s.qx, h.or_.keep fun a ha _ => s.keep _ (.inr ⟨a, ha, rfl⟩), h.bel.trans s.bel, fun j hj => Nat.lt_of_lt_of_le (h.vlt j hj) s.size⟩

set_option maxRecDepth 100000 in
set_option maxHeartbeats 6400000 in
theorem one_main (a0 : Option Addr) (c0 n0 : Nat) (A : List Wt) (c : Int) (w : World) (hA : WantsAt w a0 A) (hn : A.length = n0) :
    Calls Try.prog 7 #[.slice a0 n0 c0, .int .i64 c] w fun e w' => e = .returned (.bool true) ∧ Below w.heap.size w w' := by
  have HA : Hid (WantsAt w a0 A ∧ A.length = n0) := ⟨hA, hn⟩
  clear hA hn
  by_cases h50 : 50 < n0
  · have e50 : decide ((n0 : Int) > 50) = true := by simp; omega
    go_enter Try.func7, Try.ntmps7
    go_wp2_with (first
      | (go_at_call 9; refine (alive_any _).mono ?_; rintro e wA ⟨rfl, hbA⟩)
      | fail)
    go_ret
    exact ⟨rfl, hbA⟩
  have e50 : decide ((n0 : Int) > 50) = false := by simp; omega
  go_enter Try.func7, Try.ntmps7
  go_wp2_with (first
    | (go_at_call 8; refine (newX _).mono ?_; rintro e w1 ⟨q, rfl, hq1, hb1⟩)
    | (go_at_call 9; refine (alive_any _).mono ?_; rintro e wA ⟨rfl, hbA⟩)
    | fail)
  have H0 : Hid (OneI w ((w1.alloc (.cells #[.bool false, .bool false, .bool false, .bool false] 61)).alloc (.cells #[] 29)) q w1.heap.size (some ⟨w1.heap.size + 1, 0, none⟩) 0 []) := by
    have hb2 : Below w1.heap.size w1 ((w1.alloc (.cells #[.bool false, .bool false, .bool false, .bool false] 61)).alloc (.cells #[] 29)) := by go_grown
    have hsz : w.heap.size ≤ w1.heap.size := Nat.le_trans hbA.size hb1.size
    refine ⟨((hq1.lower hbA.size).foreign hb2).less ?_, ?_, ?_, below_step (below_step hbA hb1) hb2, Nice.nil, hsz, ?_, ?_⟩
    · rintro k (rfl | ⟨a, ha, rfl⟩)
      · exact .inr (Nat.le_refl _)
      · cases ha
        exact .inr (by simp)
    · have := OwR.fresh (en := wtC) (s := 4) 29 (w1.alloc (.cells #[.bool false, .bool false, .bool false, .bool false] 61))
      simpa using this
    · rw [Below.heap_alloc _ _ _ (by simp)]
      exact heap_alloc_new w1 _
    · intro a ha
      cases ha
      simp only
      omega
    · intro a ha
      cases ha
      simp
  clear hq1 hb1 hbA
  obtain ⟨gs, hgs⟩ : ∃ g, w1.heap.size = g := ⟨_, rfl⟩
  obtain ⟨g7, hg7⟩ : ∃ g, w1.heap.size + 1 = g := ⟨_, rfl⟩
  rw [hg7, hgs] at H0
  rw [hg7, hgs]
  clear hgs hg7
  generalize (w1.alloc (.cells #[.bool false, .bool false, .bool false, .bool false] 61)).alloc (.cells #[] 29) = W0 at *
  go_loopw [7, 25] (fun v i wr => ∃ (k : Nat) (L : List Wt) (aw : Option Addr) (cw m : Nat), k ≤ n0 ∧ i = .int .i64 k ∧ v = .slice aw m cw ∧ Hid (OneI w wr q gs aw cw L ∧ L.length = m)) (fun _ i _ => n0 - (intOf i).toNat)
  case atStart => exact ⟨0, [], _, _, 0, Nat.zero_le _, rfl, rfl, H0.out, rfl⟩
  case round =>
    clear H0
    obtain ⟨k, L, aw, cw, m, hk, rfl, rfl, HI⟩ := hrel
    rename World => wr
    by_cases hlt : k < n0
    · have hkl : k < A.length := by have := HA.out.2; omega
      obtain ⟨cA, hRA⟩ := HA.out.1.1
      obtain ⟨bk, off, rfl, -, hcc⟩ := (hRA.keep (w' := wr) HI.out.1.bel.size (fun a _ hl => HI.out.1.bel.block _ hl)).at wtE hkl
      obtain ⟨z0, z1, z2, z3⟩ := wtIn _ _ _ _ hcc
      clear hcc hRA
      generalize A[k] = x at *
      have e0' : decide ((k : Int) < n0) = true := by simp; omega
      have HC : Hid (Calls Try.prog 11 #[qp q, wtV x] (wr.alloc (wtO x)) fun e w' => e = .returned (.bool (addB L x)) ∧ Hid (OneM w w' q gs aw cw L (addL L x) x wr.heap.size)) := one_add HI.out.1 x
      have HLm : Hid (L.length = m ∧ Nice L) := ⟨HI.out.2, HI.out.1.nice⟩
      cases hb : addB L x
      · have e2 : addL L x = L := by unfold addL; rw [hb]; rfl
        rw [hb, e2] at HC
        clear e2 hb HI
        go_wp2_with (first
          | (go_at_call 11; refine HC.out.mono ?_; rintro e w3 ⟨rfl, HM⟩)
          | fail)
        go_roundw
        case rel => exact ⟨k + 1, L, aw, cw, m, by omega, by go_num, rfl, HM.out.stays rfl, HLm.out.1⟩
        case measure => simp [intOf]; omega
      · have e2 : addL L x = L ++ [x] := by unfold addL; rw [hb]; rfl
        have hN : Nice (L ++ [x]) := by rw [← e2]; exact HLm.out.2.add x
        obtain ⟨hrt, hno⟩ := addB_facts hb
        have HN : Hid (Nice (L ++ [x]) ∧ hasB L x.c = false) := ⟨hN, hasB_false.2 hno⟩
        rw [hb, e2] at HC
        obtain ⟨xc, xp, xo, xw⟩ := x
        obtain ⟨j, rfl⟩ : ∃ j : Nat, xc = (j : Int) := ⟨xc.toNat, by have := hrt.1.1; simp only at this; omega⟩
        have hj : j < 4 := by have := hrt.1.2; simp only at this; omega
        have hm4 : m ≤ 4 := by have := HLm.out.1; have := HLm.out.2.le4; omega
        simp only at z0 z1 z2 z3
        clear e2 hb hN hrt hno HI
        have y1 : decide ((j : Int) < 0) = false := by simp
        have y2 : decide ((j : Int) > 3) = false := by simp; omega
        have y3 : (j : Int) < 4 := by omega
        go_upto_region 12 with (first
          | (go_at_call 11; refine HC.out.mono ?_; rintro e w3 ⟨rfl, HM⟩)
          | fail)
        obtain ⟨b0', b1', b2', b3'⟩ := wt_cells HM.out.bx (Below.refl _ _)
        have s0 := s4_cell HM.out.s4 j hj
        have hfz : w3.frozen? ⟨gs, j, none⟩ = false := frozen_of_row _ _ _ _ _ HM.out.s4
        rw [show hasB L (j : Int) = false from HN.out.2] at s0
        simp only at b0' b1' b2' b3'
        obtain ⟨eb, heb⟩ : ∃ g, wr.heap.size = g := ⟨_, rfl⟩
        rw [heb] at HM b0' b1' b2' b3' ⊢
        clear heb
        have HE : Hid (eb ≠ gs ∧ w3.heap[eb]? = some (wtO ⟨(j : Int), xp, xo, xw⟩) ∧ eb < w3.heap.size) := ⟨HM.out.nx.1, HM.out.bx, (Array.getElem?_eq_some_iff.1 HM.out.bx).1⟩
        have hb4 : (w3.setCell ⟨gs, j, none⟩ (.bool true)).heap[eb]? = some (wtO ⟨(j : Int), xp, xo, xw⟩) := (Below.heap_setCell _ _ _ _ HE.out.1).trans HE.out.2.1
        obtain ⟨d0, d1, d2, d3⟩ := wt_cells hb4 (Below.refl _ _)
        simp only at d0 d1 d2 d3
        have HO : Hid (OwR wtC 4 29 ((w3.setCell ⟨gs, j, none⟩ (.bool true)).alloc (wtO ⟨(j : Int), xp, xo, xw⟩)) aw cw L) := by
          have h1 : OwR wtC 4 29 (w3.setCell ⟨gs, j, none⟩ (.bool true)) aw cw L := HM.out.ow.keep fun a ha _ => Below.heap_setCell _ _ _ _ (HM.out.ne a ha)
          exact h1.below ((Below.refl _ _).alloc (Nat.le_refl _) _)
        have HRb : Hid (RdR wtC ((w3.setCell ⟨gs, j, none⟩ (.bool true)).alloc (wtO ⟨(j : Int), xp, xo, xw⟩)) (some ⟨w3.heap.size, 0, none⟩) 1 [⟨(j : Int), xp, xo, xw⟩]) := by
          have hh := RdR.built wtE (w3.setCell ⟨gs, j, none⟩ (.bool true)) 29 #[.int .i64 (j : Int), .int .i64 xp, .int .i64 xo, .bool xw] [⟨(j : Int), xp, xo, xw⟩] rfl 1 rfl (by unfold maxLen; omega)
          have e : (w3.setCell ⟨gs, j, none⟩ (.bool true)).heap.size = w3.heap.size := by simp
          rw [e] at hh
          exact hh
        clear hb4
        go_wp2_with (first
          | (at_builtin; refine wpList_append_R wtE _ rfl _ _ 25 rfl 29 _ 32 Try.underlying25 info29 rfl rfl rfl HO.out HRb.out HLm.out.1 rfl (by omega) (by unfold maxLen; omega) ?_; intro ao3 cap3 w6 ho6 hg6 ha6)
          | fail)
        go_roundw
        case rel => exact ⟨k + 1, L ++ [⟨(j : Int), xp, xo, xw⟩], ao3, cap3, m + 1, by omega, by go_num, rfl, HM.out.taken HN.out.1 j hj rfl ho6 hg6 ha6, by rw [List.length_append, HLm.out.1]; rfl⟩
        case measure => simp [intOf]; omega
    · obtain rfl : k = n0 := by omega
      have e0' : decide ((k : Int) < k) = false := by simp
      have HLm : Hid (L.length = m ∧ Nice L) := ⟨HI.out.2, HI.out.1.nice⟩
      have hm4 : m ≤ 4 := by have := HLm.out.1; have := HLm.out.2.le4; omega
      go_wp2_with (first
        | (go_at_call 28; refine HSm.out.mono ?_; rintro e w8 ⟨rfl, hb8⟩)
        | (go_at_call 10; refine (all_any _ _ _ _ _ _ (HI.out.1.qx : Qx _ _ _ _ _ _ _) (by have := HLm.out.2.le4; omega)).mono ?_; rw [HLm.out.1]; rintro e w7 ⟨a7, c7, rfl, ho7, -, hb7⟩; have HSm : Hid (Calls Try.prog 28 #[.slice a7 m c7, .slice aw m cw] w7 fun e w' => e = .returned (.bool true) ∧ Below wr.heap.size wr w') := (same_true a7 c7 m aw cw L w7 ho7.rd (HI.out.1.ow.rd.below hb7) HLm.out.1).mono fun e w' h => ⟨h.1, below_step hb7 h.2⟩)
        | fail)
      have H2 : Hid (TwoI w (w8.alloc (.cells #[] 29)) q aw cw (some ⟨w8.heap.size, 0, none⟩) 0 L []) := by
        have hbA : Below w8.heap.size w8 (w8.alloc (.cells #[] 29)) := (Below.refl _ _).alloc (Nat.le_refl _) _
        have hb9 : Below wr.heap.size wr (w8.alloc (.cells #[] 29)) := below_step hb8 hbA
        refine ⟨(((HI.out.1.qx.less (fun k hk => .inr hk)).below hb8).foreign hbA).less ?_, HI.out.1.ow.below hb9, OwR.fresh 29 w8, below_step HI.out.1.bel hb9, HI.out.1.gw, ?_, ?_⟩
        · rintro k (hk | ⟨a, ha, rfl⟩)
          · exact .inl hk
          · cases ha
            exact .inr (Nat.le_refl _)
        · intro a ha
          cases ha
          exact Nat.le_trans HI.out.1.bel.size hb8.size
        · intro a b ha hb
          cases hb
          have := (HI.out.1.ow.lt a ha).1
          have := hb8.size
          simp only
          omega
      clear HI HSm ho7 hb7 hb8
      generalize w8.alloc (.cells #[] 29) = W9 at *
      go_loopw [11, 66] (fun v i wq => ∃ (k2 : Nat) (ar : Option Addr) (cr m2 : Nat), k2 ≤ m ∧ i = .int .i64 k2 ∧ v = .slice ar m2 cr ∧ m2 ≤ 4 ∧ Hid (TwoI w wq q aw cw ar cr L (noC (L.take k2) c) ∧ (noC (L.take k2) c).length = m2)) (fun _ i _ => m - (intOf i).toNat)
      case atStart => exact ⟨0, _, _, 0, Nat.zero_le _, rfl, rfl, by omega, by simpa [noC] using H2.out, rfl⟩
      case round =>
        clear H2
        obtain ⟨k2, ar, cr, m2, hk2, rfl, rfl, hm2, HJ⟩ := hrel
        rename World => wq
        by_cases hlt2 : k2 < m
        · have hkl : k2 < L.length := by have := HLm.out.1; omega
          obtain ⟨bk, off, hao, -, hcc⟩ := HJ.out.1.ow.rd.at wtE hkl
          subst hao
          obtain ⟨z0, z1, z2, z3⟩ := wtIn _ _ _ _ hcc
          have HS : Hid (noC (L.take (k2 + 1)) c = if L[k2].c = c then noC (L.take k2) c else noC (L.take k2) c ++ [L[k2]]) := by
            show _ = _
            rw [List.take_succ_eq_append_getElem hkl, noC_snoc]
          have HLe : Hid ((noC (L.take k2) c).length ≤ k2) := by
            show _ ≤ _
            unfold noC
            exact Nat.le_trans (List.length_filter_le _ _) (by rw [List.length_take]; omega)
          clear hcc
          generalize L[k2] = y at *
          have hmk : m2 ≤ k2 := by have := HLe.out; have := HJ.out.2; omega
          have e0' : decide ((k2 : Int) < m) = true := by simp; omega
          obtain ⟨yc, yp, yo, yw⟩ := y
          simp only at z0 z1 z2 z3
          have hbA : Below wq.heap.size wq (wq.alloc (wtO ⟨yc, yp, yo, yw⟩)) := (Below.refl _ _).alloc (Nat.le_refl _) _
          have HJA : Hid (TwoI w (wq.alloc (wtO ⟨yc, yp, yo, yw⟩)) q (some ⟨bk, off, none⟩) cw ar cr L (noC (L.take k2) c)) := HJ.out.1.below hbA
          have HM2 : Hid ((noC (L.take k2) c).length = m2) := HJ.out.2
          clear hbA HJ
          by_cases ec : yc = c
          · have e1 : (yc != c) = false := by simpa [bne] using ec
            have HS1 : Hid (noC (L.take (k2 + 1)) c = noC (L.take k2) c) := by rw [HS.out, if_pos ec]; exact rfl
            clear ec HS
            go_wp2
            go_roundw
            case rel => exact ⟨k2 + 1, ar, cr, m2, by omega, by go_num, rfl, by omega, by rw [HS1.out]; exact HJA.out, by rw [HS1.out]; exact HM2.out⟩
            case measure => simp [intOf]; omega
          · have e1 : (yc != c) = true := by simpa [bne] using ec
            have HS1 : Hid (noC (L.take (k2 + 1)) c = noC (L.take k2) c ++ [⟨yc, yp, yo, yw⟩]) := by rw [HS.out, if_neg ec]; exact rfl
            clear ec HS
            have HJB : Hid (TwoI w ((wq.alloc (wtO ⟨yc, yp, yo, yw⟩)).alloc (wtO ⟨yc, yp, yo, yw⟩)) q (some ⟨bk, off, none⟩) cw ar cr L (noC (L.take k2) c)) := HJA.out.below ((Below.refl _ _).alloc (Nat.le_refl _) _)
            have HRb : Hid (RdR wtC ((wq.alloc (wtO ⟨yc, yp, yo, yw⟩)).alloc (wtO ⟨yc, yp, yo, yw⟩)) (some ⟨wq.heap.size + 1, 0, none⟩) 1 [⟨yc, yp, yo, yw⟩]) := by
              have hh := RdR.built wtE (wq.alloc (wtO ⟨yc, yp, yo, yw⟩)) 29 #[.int .i64 yc, .int .i64 yp, .int .i64 yo, .bool yw] [⟨yc, yp, yo, yw⟩] rfl 1 rfl (by unfold maxLen; omega)
              have e : (wq.alloc (wtO ⟨yc, yp, yo, yw⟩)).heap.size = wq.heap.size + 1 := by simp
              rw [e] at hh
              exact hh
            go_wp2_with (first
              | (at_builtin; refine wpList_append_R wtE _ rfl _ _ 25 rfl 29 _ 32 Try.underlying25 info29 rfl rfl rfl HJB.out.or_ HRb.out HM2.out rfl (by omega) (by unfold maxLen; omega) ?_; intro ao3 cap3 w6 ho6 hg6 ha6)
              | fail)
            go_roundw
            case rel => exact ⟨k2 + 1, ao3, cap3, m2 + 1, by omega, by go_num, rfl, by omega, by rw [HS1.out]; exact HJB.out.app ho6 hg6 ha6, by rw [HS1.out, List.length_append, HM2.out]; rfl⟩
            case measure => simp [intOf]; omega
        · obtain rfl : k2 = m := by omega
          have e0' : decide ((k2 : Int) < k2) = false := by simp
          have e9 : L.take k2 = L := List.take_of_length_le (by have := HLm.out.1; omega)
          rw [e9] at HJ
          clear e9
          have HF : Hid (hasB L c = decide ((m2 : Int) < (k2 : Int)) ∧ rmL L c = noC L c ∧ hasB (rmL L c) c = false) := by
            refine ⟨?_, rm_noC c HLm.out.2, has_rm HLm.out.2 c⟩
            have h1 := HJ.out.2
            have h2 := HLm.out.1
            rw [has_count, h1, h2]
            simp
          have HR1 : Hid (Calls Try.prog 13 #[qp q, .int .i64 c] wq fun e w' => e = .returned (.bool (decide ((m2 : Int) < (k2 : Int)))) ∧ Hid (Qx w.heap.size (fun j => rowOf aw j ∨ rowOf ar j) w' q (noC L c) C0 0 ∧ OwR wtC 4 29 w' ar cr (noC L c) ∧ Below w.heap.size w w' ∧ ∀ j, (rowOf aw j ∨ rowOf ar j) → j < w'.heap.size)) := by
            refine (removeX HJ.out.1.qx HJ.out.1.vlt HJ.out.1.bel.size (by have := HLm.out.2.le4; omega) c).mono ?_
            rintro e w' ⟨rfl, s⟩
            have := HJ.out.1.step s
            rw [HF.out.2.1] at this
            exact ⟨by rw [HF.out.1], this⟩
          have HM2 : Hid ((noC L c).length = m2) := HJ.out.2
          clear HJ
          go_wp2_with (first
            | (go_at_call 13; refine (removeX HQ11.out.1 HQ11.out.2.2 HQ11.out.2.1.size (by have := HM2.out; omega) c).mono ?_; rw [show hasB (noC L c) c = false from HF.out.2.1 ▸ HF.out.2.2]; rintro e w12 ⟨rfl, s12⟩; have HB : Hid (Below w.heap.size w w12) := HQ11.out.2.1.trans s12.bel)
            | (go_at_call 28; refine HSm2.out.mono ?_; rintro e w11 ⟨rfl, hb11⟩; have HQ11 : Hid (Qx w.heap.size (fun j => rowOf aw j ∨ rowOf ar j) w11 q (noC L c) C0 0 ∧ Below w.heap.size w w11 ∧ ∀ j, (rowOf aw j ∨ rowOf ar j) → j < w11.heap.size) := ⟨HQ10.out.1.below hb11, below_step HQ10.out.2.2.1 hb11, fun j hj => Nat.lt_of_lt_of_le (HQ10.out.2.2.2 j hj) hb11.size⟩)
            | (go_at_call 10; refine (all_any _ _ _ _ _ _ (HQ10.out.1 : Qx _ _ _ _ _ _ _) (by have := HM2.out; omega)).mono ?_; rw [HM2.out]; rintro e w13 ⟨a13, c13, rfl, ho13, -, hb13⟩; have HSm2 : Hid (Calls Try.prog 28 #[.slice a13 m2 c13, .slice ar m2 cr] w13 fun e w' => e = .returned (.bool true) ∧ Below w10.heap.size w10 w') := (same_true a13 c13 m2 ar cr (noC L c) w13 ho13.rd (HQ10.out.2.1.rd.below hb13) HM2.out).mono fun e w' h => ⟨h.1, below_step hb13 h.2⟩)
            | (go_at_call 13; refine HR1.out.mono ?_; rintro e w10 ⟨rfl, HQ10⟩)
            | fail)
          go_ret
          exact ⟨rfl, HB.out⟩


end Go.Proofs.Ytcjajckmcikhcaa
