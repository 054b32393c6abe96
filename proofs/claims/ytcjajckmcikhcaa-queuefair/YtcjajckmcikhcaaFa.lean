/- First come, first served: QueueFair's walk. -/
import Derived.Test.YtcjajckmcikhcaaFb
namespace Go.Proofs.Ytcjajckmcikhcaa
open Go.RowKit Go.Maps
set_option linter.unusedVariables false

theorem inB_snoc (Z : List Int) (z c : Int) : inB (Z ++ [z]) c = (inB Z c || z == c) := by
  unfold inB
  rw [List.any_append]
  simp

theorem no_v' {W : World} : ∀ k, False → k < W.heap.size := fun _ h => h.elim

/-- What is known when all have asked: the queue, and what All told. -/
structure FaI (w W : World) (q : Nat) (al : Option Addr) (cl : Nat) (L : List Wt) : Prop where
  qx : Qx w.heap.size (fun _ => False) W q L C0 0
  rd : RdR wtC W al cl L
  bel : Below w.heap.size w W
  nice : Nice L

theorem FaI.below {w W W' : World} {q : Nat} {al : Option Addr} {cl : Nat} {L : List Wt} (h : FaI w W q al cl L) (hb : Below W.heap.size W W') : FaI w W' q al cl L :=
  ⟨h.qx.below hb, h.rd.below hb, below_step h.bel hb, h.nice⟩

set_option maxRecDepth 100000 in
set_option maxHeartbeats 6400000 in
theorem fair_main (a0 : Option Addr) (c0 n0 : Nat) (A : List Wt) (w : World) (hA : WantsAt w a0 A) (hn : A.length = n0) :
    Calls Try.prog 5 #[.slice a0 n0 c0] w fun e w' => e = .returned (.bool true) ∧ Below w.heap.size w w' := by
  have HA : Hid (WantsAt w a0 A ∧ A.length = n0) := ⟨hA, hn⟩
  clear hA hn
  by_cases h50 : 50 < n0
  · have e50 : decide ((n0 : Int) > 50) = true := by simp; omega
    go_enter Try.func5, Try.ntmps5
    go_wp2_with (first
      | (go_at_call 9; refine (alive_any _).mono ?_; rintro e wA ⟨rfl, hbA⟩)
      | fail)
    go_ret
    exact ⟨rfl, hbA⟩
  have e50 : decide ((n0 : Int) > 50) = false := by simp; omega
  go_enter Try.func5, Try.ntmps5
  go_wp2_with (first
    | (go_at_call 8; refine (newX _).mono ?_; rintro e w1 ⟨q, rfl, hq1, hb1⟩)
    | (go_at_call 9; refine (alive_any _).mono ?_; rintro e wA ⟨rfl, hbA⟩)
    | fail)
  have H0 : Hid (Qx w.heap.size (fun _ => False) w1 q [] C0 0 ∧ Below w.heap.size w w1) := ⟨hq1.lower hbA.size, below_step hbA hb1⟩
  clear hq1 hb1 hbA
  go_loopw [23] (fun i wr => ∃ (k : Nat) (L : List Wt), k ≤ n0 ∧ i = .int .i64 k ∧ Hid (Qx w.heap.size (fun _ => False) wr q L C0 0 ∧ Below w.heap.size w wr ∧ Nice L)) (fun i _ => n0 - (intOf i).toNat)
  case atStart => exact ⟨0, [], Nat.zero_le _, rfl, H0.out.1, H0.out.2, Nice.nil⟩
  case round =>
    clear H0
    obtain ⟨k, L, hk, rfl, HI⟩ := hrel
    rename World => wr
    by_cases hlt : k < n0
    · have hkl : k < A.length := by have := HA.out.2; omega
      obtain ⟨cA, hRA⟩ := HA.out.1.1
      obtain ⟨bk, off, rfl, -, hcc⟩ := (hRA.keep (w' := wr) HI.out.2.1.size (fun a _ hl => HI.out.2.1.block _ hl)).at wtE hkl
      obtain ⟨z0, z1, z2, z3⟩ := wtIn _ _ _ _ hcc
      clear hcc hRA
      generalize A[k] = x at *
      have e0' : decide ((k : Int) < n0) = true := by simp; omega
      have hb : Below wr.heap.size wr (wr.alloc (wtO x)) := (Below.refl _ _).alloc (Nat.le_refl _) _
      have HC : Hid (Calls Try.prog 11 #[qp q, wtV x] (wr.alloc (wtO x)) fun e w' => e = .returned (.bool (addB L x)) ∧ Hid (Qx w.heap.size (fun _ => False) w' q (addL L x) C0 0 ∧ Below w.heap.size w w' ∧ Nice (addL L x))) := by
        refine (addX (HI.out.1.below hb) no_v' (Nat.le_trans HI.out.2.1.size hb.size) (by have := HI.out.2.2.le4; omega) x).mono ?_
        rintro e w' ⟨rfl, s⟩
        exact ⟨rfl, s.qx, (below_step HI.out.2.1 hb).trans s.bel, HI.out.2.2.add x⟩
      clear hb HI
      go_wp2_with (first
        | (go_at_call 11; refine HC.out.mono ?_; rintro e w3 ⟨rfl, HM⟩)
        | fail)
      go_roundw
      case rel => exact ⟨k + 1, addL L x, by omega, by go_num, HM.out⟩
      case measure => simp [intOf]; omega
    · obtain rfl : k = n0 := by omega
      have e0' : decide ((k : Int) < k) = false := by simp
      obtain ⟨m, hm⟩ : ∃ m, L.length = m := ⟨_, rfl⟩
      have HLm : Hid (L.length = m) := hm
      have hm4 : m ≤ 4 := by have := HI.out.2.2.le4; omega
      have em4 : decide ((m : Int) > 4) = false := by simp; omega
      clear hm
      have HAll : Hid (Calls Try.prog 10 #[qp q] wr fun e w' => ∃ al cl, e = .returned (.slice al m cl) ∧ Hid (FaI w w' q al cl L)) := by
        refine (all_any _ _ _ _ _ _ (HI.out.1 : Qx _ _ _ _ _ _ _) (by have := HI.out.2.2.le4; omega)).mono ?_
        rintro e w' ⟨al, cl, rfl, ho, -, hb⟩
        exact ⟨al, cl, by rw [HLm.out], HI.out.1.below hb, ho.rd, below_step HI.out.2.1 hb, HI.out.2.2⟩
      clear HI
      go_upto_region 12 with (first
        | (go_at_call 10; refine HAll.out.mono ?_; rintro e w6 ⟨al, cl, rfl, HF⟩)
        | fail)
      go_cut [49] (fun v wx => v = .bool false ∧ Hid (FaI w wx q al cl L))
      case first =>
        by_cases hm0 : m = 0
        · have e1 : decide ((m : Int) > 0) = false := by simp; omega
          go_wp2
          go_meet
          exact ⟨rfl, HF.out⟩
        · have e1 : decide ((m : Int) > 0) = true := by simp; omega
          have hkl : 0 < L.length := by have := HLm.out; omega
          obtain ⟨bk, off, hao, -, hcc⟩ := HF.out.rd.at wtE hkl
          subst hao
          obtain ⟨z0, z1, z2, z3⟩ := wtIn _ _ _ _ hcc
          have HAh : Hid (Calls Try.prog 30 #[qp q, wtV L[0]] w6 fun e w' => ∃ a c, e = .returned (.slice a 0 c) ∧ Hid (FaI w w' q (some ⟨bk, off, none⟩) cl L)) := by
            refine (ahead_any _ _ _ _ _ _ (HF.out.qx : Qx _ _ _ _ _ _ _) (by have := HF.out.nice.le4; omega) L[0]).mono ?_
            rw [ahead_first HF.out.nice hkl]
            rintro e w' ⟨a, c, rfl, ho, hb⟩
            exact ⟨a, c, rfl, HF.out.below hb⟩
          clear hcc
          generalize L[0] = x at *
          simp only [Nat.zero_mul, Nat.add_zero] at z0 z1 z2 z3
          have em : (0 : Int) < (m : Int) := by omega
          go_wp2_with (first
            | (go_at_call 30; refine HAh.out.mono ?_; rintro e w7 ⟨a7, c7, rfl, HF7⟩)
            | fail)
          go_meet
          exact ⟨rfl, HF7.out⟩
      case rest =>
        clear HF
        obtain ⟨rfl, HF⟩ := hcut
        rename World => w8
        go_wp2
        go_loopw [52] (fun i wr => ∃ (i1 : Nat), i1 ≤ m ∧ i = .int .i64 i1 ∧ Hid (FaI w wr q al cl L)) (fun i _ => m - (intOf i).toNat)
        case atStart => exact ⟨0, Nat.zero_le _, rfl, HF⟩
        case round =>
          clear HF
          obtain ⟨i1, hi1, rfl, HF⟩ := hrel
          rename World => wi
          by_cases hlti : i1 < m
          · have hil : i1 < L.length := by have := HLm.out; omega
            obtain ⟨bk, off, hao, -, hcc⟩ := HF.out.rd.at wtE hil
            subst hao
            obtain ⟨z0, z1, z2, z3⟩ := wtIn _ _ _ _ hcc
            clear hcc
            have HEa : Hid (∃ h : i1 < L.length, L[i1] = L[i1]) := ⟨hil, rfl⟩
            obtain ⟨a, ha⟩ : ∃ a, L[i1] = a := ⟨_, rfl⟩
            rw [ha] at z0 z1 z2 z3
            have HEA : Hid (∃ h : i1 < L.length, L[i1] = a) := ⟨hil, ha⟩
            clear ha HEa hil
            have e0i : decide ((i1 : Int) < m) = true := by simp; omega
            have hbA : Below wi.heap.size wi (wi.alloc (wtO a)) := (Below.refl _ _).alloc (Nat.le_refl _) _
            have HFA : Hid (FaI w (wi.alloc (wtO a)) q (some ⟨bk, off, none⟩) cl L ∧ (wi.alloc (wtO a)).heap[wi.heap.size]? = some (wtO a)) := ⟨HF.out.below hbA, heap_alloc_new wi _⟩
            clear HF hbA
            go_upto_region 17 with fail
            obtain ⟨ga, hga⟩ : ∃ g, wi.heap.size = g := ⟨_, rfl⟩
            rw [hga] at HFA ⊢
            clear hga
            show Code.wp _ _ _ _ (wi.alloc (wtO a))
            generalize wi.alloc (wtO a) = WA at *
            go_wp2
            go_loopw [59] (fun i wr => ∃ (k1 : Nat), k1 ≤ m ∧ i = .int .i64 k1 ∧ Hid (FaI w wr q (some ⟨bk, off, none⟩) cl L ∧ wr.heap[ga]? = some (wtO a))) (fun i _ => m - (intOf i).toNat)
            case atStart => exact ⟨0, Nat.zero_le _, rfl, HFA⟩
            case round =>
              clear HFA z0 z1 z2 z3
              obtain ⟨k1, hk1, rfl, HK⟩ := hrel
              rename World => wk
              by_cases hltk : k1 < m
              · have hkl : k1 < L.length := by have := HLm.out; omega
                obtain ⟨bk', off', hao, -, hcc⟩ := HK.out.1.rd.at wtE hkl
                obtain ⟨rfl, rfl⟩ : bk = bk' ∧ off = off' := by simpa using hao
                clear hao
                obtain ⟨z0, z1, z2, z3⟩ := wtIn _ _ _ _ hcc
                clear hcc
                obtain ⟨b, hb⟩ : ∃ b, L[k1] = b := ⟨_, rfl⟩
                rw [hb] at z0 z1 z2 z3
                have HEB : Hid (∃ h : k1 < L.length, L[k1] = b) := ⟨hkl, hb⟩
                clear hb hkl
                have e0k : decide ((k1 : Int) < m) = true := by simp; omega
                have hbA : Below wk.heap.size wk (wk.alloc (wtO b)) := (Below.refl _ _).alloc (Nat.le_refl _) _
                have HKB : Hid (FaI w (wk.alloc (wtO b)) q (some ⟨bk, off, none⟩) cl L ∧ (wk.alloc (wtO b)).heap[ga]? = some (wtO a) ∧ (wk.alloc (wtO b)).heap[wk.heap.size]? = some (wtO b)) := ⟨HK.out.1.below hbA, (hbA.block _ (Array.getElem?_eq_some_iff.1 HK.out.2).1).trans HK.out.2, heap_alloc_new wk _⟩
                clear HK hbA
                obtain ⟨Z, hZ⟩ : ∃ Z, ahead L b = Z := ⟨_, rfl⟩
                obtain ⟨nz, hnz⟩ : ∃ nz, Z.length = nz := ⟨_, rfl⟩
                have HZ : Hid (Z.length = nz ∧ nz ≤ 4 ∧ inB Z a.c = (decide (i1 < k1) && crB a b)) := by
                  obtain ⟨h1, rfl⟩ := HEA.out
                  obtain ⟨h2, rfl⟩ := HEB.out
                  refine ⟨hnz, ?_, by rw [← hZ]; exact ahead_in HKB.out.1.nice i1 k1 h1 h2⟩
                  have := ahead_le L L[k1]
                  have := HKB.out.1.nice.le4
                  rw [← hnz, ← hZ]
                  omega
                have HAh : Hid (Calls Try.prog 30 #[qp q, wtV b] (wk.alloc (wtO b)) fun e w' => ∃ az cz, e = .returned (.slice az nz cz) ∧ Hid (RdI w' .i64 az cz Z ∧ FaI w w' q (some ⟨bk, off, none⟩) cl L ∧ w'.heap[ga]? = some (wtO a) ∧ w'.heap[wk.heap.size]? = some (wtO b))) := by
                  refine (ahead_any _ _ _ _ _ _ (HKB.out.1.qx : Qx _ _ _ _ _ _ _) (by have := HKB.out.1.nice.le4; omega) b).mono ?_
                  rw [hZ]
                  rintro e w' ⟨az, cz, rfl, ho, hb⟩
                  exact ⟨az, cz, by rw [hnz], ho.rd, HKB.out.1.below hb, (hb.block _ (Array.getElem?_eq_some_iff.1 HKB.out.2.1).1).trans HKB.out.2.1, (hb.block _ (Array.getElem?_eq_some_iff.1 HKB.out.2.2).1).trans HKB.out.2.2⟩
                have x0 := wt_cells HKB.out.2.2 (Below.refl _ _)
                obtain ⟨x0, x1, x2, x3⟩ := x0
                clear hZ hnz
                go_wp2_with (first
                  | (go_at_call 30; refine HAh.out.mono ?_; rintro e w9 ⟨az, cz, rfl, HR⟩)
                  | fail)
                obtain ⟨gb, hgb⟩ : ∃ g, wk.heap.size = g := ⟨_, rfl⟩
                rw [hgb] at HR ⊢
                clear hgb x0 x1 x2 x3 HKB HAh
                obtain ⟨p0, p1, p2, p3⟩ := wt_cells HR.out.2.2.1 (Below.refl _ _)
                obtain ⟨r0, r1, r2, r3⟩ := wt_cells HR.out.2.2.2 (Below.refl _ _)
                have hz4 : nz ≤ 4 := HZ.out.2.1
                go_loopw [11, 68] (fun v i wr => ∃ (t : Nat) (f : Bool), t ≤ nz ∧ i = .int .i64 t ∧ v = .bool f ∧ Hid (f = inB (Z.take t) a.c) ∧ Hid (wr = w9)) (fun _ i _ => nz - (intOf i).toNat)
                case atStart => exact ⟨0, false, Nat.zero_le _, rfl, rfl, rfl, rfl⟩
                case round =>
                  obtain ⟨t, f, ht, rfl, rfl, HI, HW9⟩ := hrel
                  rename World => wz
                  have e9 : wz = w9 := HW9.out
                  clear HW9
                  subst wz
                  by_cases hltt : t < nz
                  · have htl : t < Z.length := by have := HZ.out.1; omega
                    obtain ⟨b1, o1, rfl, _, hc1⟩ := HR.out.1.at htl
                    have hd1 := hc1 t htl
                    have HS : Hid (inB (Z.take (t + 1)) a.c = (inB (Z.take t) a.c || Z[t] == a.c)) := by
                      show _ = _
                      rw [List.take_succ_eq_append_getElem htl, inB_snoc]
                    clear hc1
                    generalize Z[t] = z at *
                    have e0t : decide ((t : Int) < nz) = true := by simp; omega
                    cases f
                    · go_wp2
                      go_roundw
                      case rel => exact ⟨t + 1, z == a.c, by omega, by go_num, rfl, by rw [HS.out, ← HI.out]; exact (Bool.false_or _).symm, (by first | exact (rfl : w9 = w9) | exact trivial)⟩
                      case measure => simp [intOf]; omega
                    · go_wp2
                      go_roundw
                      case rel => exact ⟨t + 1, true, by omega, by go_num, rfl, by rw [HS.out, ← HI.out]; exact (Bool.true_or _).symm, (by first | exact (rfl : w9 = w9) | exact trivial)⟩
                      case measure => simp [intOf]; omega
                  · obtain rfl : t = nz := by omega
                    have e0t : decide ((t : Int) < t) = false := by simp
                    have HFl : Hid (f = (decide (i1 < k1) && crB a b)) := by
                      have h1 := HI.out
                      rw [List.take_of_length_le (by have := HZ.out.1; omega)] at h1
                      exact h1.trans HZ.out.2.2
                    clear HI
                    go_upto_region 26 with fail
                    go_cut [14] (fun v wx => v = .bool (crB a b) ∧ wx = w9)
                    case first =>
                      have HCr : Hid (crB a b = (a.p == b.p && (a.o == b.o && (a.wr || b.wr)))) := rfl
                      cases h1 : (a.p == b.p)
                      · go_wp2
                        go_meet
                        exact ⟨by rw [HCr.out, h1]; rfl, rfl⟩
                      · cases h2 : (a.o == b.o)
                        · go_wp2
                          go_meet
                          exact ⟨by rw [HCr.out, h1, h2]; rfl, rfl⟩
                        · by_cases h3 : a.wr = true
                          · rw [h3] at p3
                            have H3 : Hid (a.wr = true) := h3
                            clear h3
                            go_wp2
                            go_meet
                            exact ⟨by rw [HCr.out, h1, h2, H3.out]; rfl, rfl⟩
                          · have h3' : a.wr = false := by simpa using h3
                            rw [h3'] at p3
                            have H3 : Hid (a.wr = false) := h3'
                            clear h3 h3'
                            go_wp2
                            go_meet
                            exact ⟨by rw [HCr.out, h1, h2, H3.out]; rfl, rfl⟩
                    case rest =>
                      obtain ⟨rfl, hwx⟩ := hcut
                      rename World => wc9
                      subst wc9
                      go_upto_region 27 with fail
                      go_cut [119] (fun v wx => v = .bool false ∧ wx = w9)
                      case first =>
                        have HNe : Hid (i1 ≠ k1 → (a.c == b.c) = false) := by
                          intro hne
                          obtain ⟨h1, rfl⟩ := HEA.out
                          obtain ⟨h2, rfl⟩ := HEB.out
                          have hap := List.pairwise_iff_getElem.1 HR.out.2.1.nice.ap
                          rw [beq_eq_false_iff_ne]
                          rcases Nat.lt_or_gt_of_ne hne with h | h
                          · exact hap i1 k1 h1 h2 h
                          · exact (hap k1 i1 h2 h1 h).symm
                        by_cases hik : i1 < k1
                        · have y1 : decide ((i1 : Int) < (k1 : Int)) = true := by simp; omega
                          have y2 : ((i1 : Int) != (k1 : Int)) = true := by simp [bne]; omega
                          have y3 := HNe.out (by omega)
                          have hf : f = crB a b := by rw [HFl.out]; simp [hik]
                          subst hf
                          generalize crB a b = cr at *
                          have y4 : (cr != cr) = false := by simp
                          go_wp2
                          go_meet
                          exact ⟨rfl, rfl⟩
                        · have y1 : decide ((i1 : Int) < (k1 : Int)) = false := by simp; omega
                          have hf : f = false := by rw [HFl.out]; simp [hik]
                          subst hf
                          by_cases hie : i1 = k1
                          · have y2 : ((i1 : Int) != (k1 : Int)) = false := by simp [bne]; omega
                            go_wp2
                            go_meet
                            exact ⟨rfl, rfl⟩
                          · have y2 : ((i1 : Int) != (k1 : Int)) = true := by simp [bne]; omega
                            have y3 := HNe.out hie
                            go_wp2
                            go_meet
                            exact ⟨rfl, rfl⟩
                      case rest =>
                        obtain ⟨rfl, hwx⟩ := hcut
                        rename World => wc9
                        subst wc9
                        go_upto_region 29 with fail
                        go_cut [146] (fun v wx => v = .bool false ∧ Hid (FaI w wx q (some ⟨bk, off, none⟩) cl L ∧ wx.heap[ga]? = some (wtO a)))
                        case first =>
                          have HRt : Hid (Rt a) := by
                            obtain ⟨g1, rfl⟩ := HEA.out
                            exact HR.out.2.1.nice.rt _ (List.getElem_mem _)
                          obtain ⟨j, hj⟩ : ∃ j : Nat, a.o = (j : Int) := ⟨a.o.toNat, by have := HRt.out.2.2.2.1; omega⟩
                          have HJ4 : Hid (a.o = (j : Int) ∧ j < 4) := ⟨hj, by have := HRt.out.2.2.2.2; omega⟩
                          clear hj
                          have HCL : Hid (∀ V : World, Below w9.heap.size w9 V → V.cell? ⟨ga, 0, none⟩ = some (.int .i64 a.c) ∧ V.cell? ⟨ga, 1, none⟩ = some (.int .i64 a.p) ∧ V.cell? ⟨ga, 2, none⟩ = some (.int .i64 (j : Nat)) ∧ V.cell? ⟨ga, 3, none⟩ = some (.bool a.wr) ∧ V.cell? ⟨gb, 0, none⟩ = some (.int .i64 b.c) ∧ V.cell? ⟨gb, 1, none⟩ = some (.int .i64 b.p) ∧ True) := fun V hV => by
                            obtain ⟨f1, f2, f3, f4⟩ := wt_cells HR.out.2.2.1 hV
                            obtain ⟨f5, f6, f7, f8⟩ := wt_cells HR.out.2.2.2 hV
                            rw [HJ4.out.1] at f3
                            exact ⟨f1, f2, f3, f4, f5, f6, trivial⟩
                          have HBk : Hid (∀ V : World, Below w9.heap.size w9 V → FaI w V q (some ⟨bk, off, none⟩) cl L ∧ V.heap[ga]? = some (wtO a)) := fun V hV => ⟨HR.out.2.1.below hV, (hV.block _ (Array.getElem?_eq_some_iff.1 HR.out.2.2.1).1).trans HR.out.2.2.1⟩
                          by_cases hik : i1 = k1
                          · refine fair_w1 q ga gb i1 k1 a.c a.p b.c b.p a.wr j w9 HCL _ _ _ _ _ _ _ _ _ _ _ _ _ _ _ _ _ _ _ _ _ _ _ _ _ _ _ _ _ _ _ _ _ _ _ _ _ _ _ _ _ _ _ _ _ _ _ _ _ _ _ _ _ _ _ _ _ _ _ _ _ _ _ _ _ _ _ _ _ _ _ _ _ _ _ _ _ _ _ _ _ _ _ _ _ _ _ _ _ _ _ _ _ _ _ _ _ _ _ _ _ _ _ _ _ _ _ _ _ _ _ _ _ _ _ _ _ _ _ _ _ _ _ _ _ _ _ _ _ _ _ _ _ _ _ _ _ _ _ _ _ _ _ _ _ ?_ hik
                            intro x120 x121 x122 x123 x124 x125 x126 x127 x128 x129 x130 x131 x132 x133 x134 x135 x136 x137 x138 x139 x140 x141 x142 x143 x144 x145 w' hSw'
                            have HD : Hid (FaI w w' q (some ⟨bk, off, none⟩) cl L ∧ w'.heap[ga]? = some (wtO a)) := HBk.out w' hSw'
                            clear hSw' HCL HBk
                            go_wp2
                            go_meet
                            exact ⟨rfl, HD.out⟩
                          by_cases hp : (a.p == b.p) = true
                          · by_cases h3 : a.wr = true
                            · have HAo : Hid (resN b.c b.p L < 16 ∧ (resN b.c b.p L).testBit a.o.toNat = true) := by
                                obtain ⟨g1, rfl⟩ := HEA.out
                                obtain ⟨g2, rfl⟩ := HEB.out
                                have hap := List.pairwise_iff_getElem.1 HR.out.2.1.nice.ap
                                refine ⟨resN_lt _ _ L HR.out.2.1.nice.rt, res_bit _ _ HR.out.2.1.nice.rt _ (List.getElem_mem _) ?_ (by simpa using hp) h3⟩
                                rcases Nat.lt_or_gt_of_ne hik with h | h
                                · exact hap i1 k1 g1 g2 h
                                · exact (hap k1 i1 g2 g1 h).symm
                              have HRs : Hid (∀ V : World, Below w9.heap.size w9 V → Calls Try.prog 15 #[qp q, .int .i64 b.c, .int .i64 b.p] V fun e w' => e = .returned (.int .i64 ((resN b.c b.p L : Nat) : Int)) ∧ Below w9.heap.size w9 w') := fun V hV => by
                                refine (reserved_any _ _ _ _ _ _ ((HR.out.2.1.below hV).qx : Qx _ _ _ _ _ _ _) (by have := HR.out.2.1.nice.le4; omega) HR.out.2.1.nice.rt b.c b.p).mono ?_
                                rintro e w' ⟨rfl, hb⟩
                                exact ⟨rfl, below_step hV hb⟩
                              refine fair_w4 q ga gb i1 k1 a.c a.p b.c b.p a.wr j w9 HCL _ _ _ _ _ _ _ _ _ _ _ _ _ _ _ _ _ _ _ _ _ _ _ _ _ _ _ _ _ _ _ _ _ _ _ _ _ _ _ _ _ _ _ _ _ _ _ _ _ _ _ _ _ _ _ _ _ _ _ _ _ _ _ _ _ _ _ _ _ _ _ _ _ _ _ _ _ _ _ _ _ _ _ _ _ _ _ _ _ _ _ _ _ _ _ _ _ _ _ _ _ _ _ _ _ _ _ _ _ _ _ _ _ _ _ _ _ _ _ _ _ _ _ _ _ _ _ _ _ _ _ _ _ _ _ _ _ _ _ _ _ _ _ _ _ ?_ hik hp h3 (resN b.c b.p L) HJ4.out.2 (shr16 _ HAo.out.1 j HJ4.out.2 (by have := HAo.out.2; rw [HJ4.out.1] at this; simpa using this)) HRs
                              have HH3 : Hid (a.wr = true) := h3
                              clear h3 hp hik HRs
                              intro x120 x121 x122 x123 x124 x125 x126 x127 x128 x129 x130 x131 x132 x133 x134 x135 x136 x137 x138 x139 x140 x141 x142 x143 x144 x145 w' hSw'
                              have HD : Hid (FaI w w' q (some ⟨bk, off, none⟩) cl L ∧ w'.heap[ga]? = some (wtO a)) := HBk.out w' hSw'
                              clear hSw' HCL HBk
                              go_wp2
                              go_meet
                              exact ⟨rfl, HD.out⟩
                            · refine fair_w3 q ga gb i1 k1 a.c a.p b.c b.p a.wr j w9 HCL _ _ _ _ _ _ _ _ _ _ _ _ _ _ _ _ _ _ _ _ _ _ _ _ _ _ _ _ _ _ _ _ _ _ _ _ _ _ _ _ _ _ _ _ _ _ _ _ _ _ _ _ _ _ _ _ _ _ _ _ _ _ _ _ _ _ _ _ _ _ _ _ _ _ _ _ _ _ _ _ _ _ _ _ _ _ _ _ _ _ _ _ _ _ _ _ _ _ _ _ _ _ _ _ _ _ _ _ _ _ _ _ _ _ _ _ _ _ _ _ _ _ _ _ _ _ _ _ _ _ _ _ _ _ _ _ _ _ _ _ _ _ _ _ _ ?_ hik hp (by simpa using h3)
                              clear h3 hp hik
                              intro x120 x121 x122 x123 x124 x125 x126 x127 x128 x129 x130 x131 x132 x133 x134 x135 x136 x137 x138 x139 x140 x141 x142 x143 x144 x145 w' hSw'
                              have HD : Hid (FaI w w' q (some ⟨bk, off, none⟩) cl L ∧ w'.heap[ga]? = some (wtO a)) := HBk.out w' hSw'
                              clear hSw' HCL HBk
                              go_wp2
                              go_meet
                              exact ⟨rfl, HD.out⟩
                          · refine fair_w2 q ga gb i1 k1 a.c a.p b.c b.p a.wr j w9 HCL _ _ _ _ _ _ _ _ _ _ _ _ _ _ _ _ _ _ _ _ _ _ _ _ _ _ _ _ _ _ _ _ _ _ _ _ _ _ _ _ _ _ _ _ _ _ _ _ _ _ _ _ _ _ _ _ _ _ _ _ _ _ _ _ _ _ _ _ _ _ _ _ _ _ _ _ _ _ _ _ _ _ _ _ _ _ _ _ _ _ _ _ _ _ _ _ _ _ _ _ _ _ _ _ _ _ _ _ _ _ _ _ _ _ _ _ _ _ _ _ _ _ _ _ _ _ _ _ _ _ _ _ _ _ _ _ _ _ _ _ _ _ _ _ _ ?_ hik (by simpa using hp)
                            clear hp hik
                            intro x120 x121 x122 x123 x124 x125 x126 x127 x128 x129 x130 x131 x132 x133 x134 x135 x136 x137 x138 x139 x140 x141 x142 x143 x144 x145 w' hSw'
                            have HD : Hid (FaI w w' q (some ⟨bk, off, none⟩) cl L ∧ w'.heap[ga]? = some (wtO a)) := HBk.out w' hSw'
                            clear hSw' HCL HBk
                            go_wp2
                            go_meet
                            exact ⟨rfl, HD.out⟩
                        case rest =>
                          obtain ⟨rfl, HE⟩ := hcut
                          clear p0 p1 p2 p3 r0 r1 r2 r3 HR
                          go_wp2
                          go_roundw
                          case rel => exact ⟨k1 + 1, by omega, by go_num, HE.out⟩
                          case measure => simp [intOf]; omega
              · obtain rfl : k1 = m := by omega
                have e0k : decide ((k1 : Int) < k1) = false := by simp
                go_wp2
                go_roundw
                case rel => exact ⟨i1 + 1, by omega, by go_num, HK.out.1⟩
                case measure => simp [intOf]; omega
          · obtain rfl : i1 = m := by omega
            have e0i : decide ((i1 : Int) < i1) = false := by simp
            go_wp2
            go_ret
            exact ⟨rfl, HF.out.bel⟩

end Go.Proofs.Ytcjajckmcikhcaa
