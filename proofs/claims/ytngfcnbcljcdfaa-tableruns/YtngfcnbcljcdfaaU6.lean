/- What the document's Grant does, walked. -/
import Derived.Test.YtngfcnbcljcdfaaU5
namespace Go.Proofs.Ytngfcnbcljcdfaa
open Go.RowKit
set_option linter.unusedVariables false

/-- Is this client in the way, with this object? -/
def hind (T : Nat → Nat) (c p a b i d : Nat) : Bool := (d != c) && ((ow T d p).testBit i && (a.testBit i || b.testBit i) || (cp T d p).testBit i && b.testBit i)

theorem bit_high {m i : Nat} (hm : m < 16) (hi : ¬ i < 4) : m.testBit i = false := by
  apply Nat.testBit_lt_two_pow
  have : 2 ^ 4 ≤ 2 ^ i := Nat.pow_le_pow_right (by decide) (by omega)
  omega
theorem gr_all {T : Nat → Nat} {c p a b : Nat} (ha : a < 16) (hb : b < 16) (h : ∀ i d, i < 4 → d < 4 → hind T c p a b i d = false) : grB T c p a b = true := by
  rw [grB_iff]
  refine ⟨fun d i hd hne ho hab => ?_, fun d i hd hne ho hbb => ?_⟩
  · by_cases hi : i < 4
    · have := h i d hi hd
      have e : (d != c) = true := by simpa using hne
      unfold hind at this
      rw [e, ho] at this
      rcases hab with hab | hab <;> rw [hab] at this <;> simp at this
    · rw [bit_high ha hi, bit_high hb hi] at hab
      simp at hab
  · by_cases hi : i < 4
    · have := h i d hi hd
      have e : (d != c) = true := by simpa using hne
      unfold hind at this
      rw [e, ho, hbb] at this
      simp at this
    · rw [bit_high hb hi] at hbb
      simp at hbb
theorem gr_hit {T : Nat → Nat} {c p a b i d : Nat} (hd : d < 4) (h : hind T c p a b i d = true) : grB T c p a b = false := by
  rw [← Bool.not_eq_true, grB_iff]
  rintro ⟨h1, h2⟩
  unfold hind at h
  simp only [Bool.and_eq_true, Bool.or_eq_true, bne_iff_ne] at h
  obtain ⟨hne, h | h⟩ := h
  · exact h1 d i hd hne h.1 h.2
  · exact h2 d i hd hne h.1 h.2

theorem Lay.drew {w W : World} {T : Nat → Nat} {qa qb : Nat} {a0 a1 a2 a3 b0 b1 b2 b3 : Bool} (h : Lay w W T qa qb a0 a1 a2 a3 b0 b1 b2 b3) : Lay w W.drew T qa qb a0 a1 a2 a3 b0 b1 b2 b3 :=
  ⟨h.t.keep rfl, h.z.keep rfl, h.a.keep rfl, h.b.keep rfl, h.ha, h.hb, ⟨h.bel.os, h.bel.tape, h.bel.output, h.bel.size, h.bel.block⟩⟩

set_option maxRecDepth 100000 in
set_option maxHeartbeats 6400000 in
theorem rgrant_in (T : Nat → Nat) (hT : ∀ i, T i < 16) (c p a b : Nat) (hc : c < 4) (hp : p < 6) (ha : a < 16) (hb : b < 16) (w : World) (B : Bool) (T' : Nat → Nat) (HG0 : Hid (grB T c p a b = B ∧ (if grB T c p a b = true then grT T c p a b else T) = T')) : Calls Try.prog 14 #[.agg (rfA T), .int .i64 (c : Int), .int .i64 (p : Int), .int .i64 (a : Int), .int .i64 (b : Int)] w fun e w' => e = .returned (.tuple #[.agg (rfA T'), .bool B]) ∧ Below w.heap.size w w' := by
  have h1 := pl_nat hc hp
  have hz := zero37
  obtain ⟨a0, a1, a2, a3, hA⟩ := Bt.mk' a
  obtain ⟨b0, b1, b2, b3, hB⟩ := Bt.mk' b
  have HA : Hid (Bt a a0 a1 a2 a3) := hA
  have HB : Hid (Bt b b0 b1 b2 b3) := hB
  clear hA hB
  go_enter Try.func14, Try.ntmps14
  go_wp2_with (first
    | (go_at_call 31; refine (In_any c p _).mono ?_; rw [h1]; rintro e wx ⟨rfl, hw⟩; subst wx)
    | (go_at_call 30; with_reducible refine (bits_in hb HB.out _).mono ?_; rintro e w4 ⟨rfl, hb4⟩; have HL := Lay.mk' (b0 := b0) (b1 := b1) (b2 := b2) (b3 := b3) hb2 hb4)
    | (go_at_call 30; with_reducible refine (bits_in ha HA.out _).mono ?_; rintro e w2 ⟨rfl, hb2⟩))
  have HL' : Hid (Lay w (w4.alloc (.cells #[.bool b0, .bool b1, .bool b2, .bool b3] 33)) T w2.heap.size w4.heap.size a0 a1 a2 a3 b0 b1 b2 b3) := HL
  clear HL hz
  generalize w2.heap.size = qa at *
  go_loopw [16] (fun i wq => ∃ k : Nat, k ≤ 4 ∧ i = .int .i64 k ∧ Hid (Lay w wq T qa w4.heap.size a0 a1 a2 a3 b0 b1 b2 b3 ∧ ∀ i d, i < k → d < 4 → hind T c p a b i d = false)) (fun i _ => 4 - (intOf i).toNat)
  case atStart => exact ⟨0, by omega, rfl, ⟨HL'.out, fun i d h => by omega⟩⟩
  case round =>
    clear HL'
    obtain ⟨k, hk, rfl, HI⟩ := hrel
    rename World => wk
    by_cases hlt : k < 4
    · have e4 : decide ((k : Int) < 4) = true := by simp; omega
      go_wp2
      go_loopw [17] (fun i wq => ∃ d : Nat, d ≤ 4 ∧ i = .int .i64 d ∧ Hid (Lay w wq T qa w4.heap.size a0 a1 a2 a3 b0 b1 b2 b3 ∧ ∀ d', d' < d → hind T c p a b k d' = false)) (fun i _ => 4 - (intOf i).toNat)
      case atStart => exact ⟨0, by omega, rfl, ⟨HI.out.1, fun d h => by omega⟩⟩
      case round =>
        obtain ⟨d, hd, rfl, HJ⟩ := hrel
        by_cases hd4 : d < 4
        · have e5 : decide ((d : Int) < 4) = true := by simp; omega
          by_cases hdc : d = c
          · have e1 : ((d : Int) != (c : Int)) = false := by simp; omega
            have HK : Hid (hind T c p a b k d = false) := by unfold Hid hind; simp [hdc]
            clear hdc
            go_wp2
            go_roundw
            case rel => exact ⟨d + 1, by omega, by go_num, ⟨HJ.out.1, fun d' h => by by_cases e : d' = d; (subst e; exact HK.out); exact HJ.out.2 d' (by omega)⟩⟩
            case measure => simp [intOf]; omega
          · have e1 : ((d : Int) != (c : Int)) = true := by simp; omega
            have e2 : (d != c) = true := by simpa using hdc
            obtain ⟨V, hV⟩ : ∃ V, hind T c p a b k d = V := ⟨_, rfl⟩
            have hV2 := hV
            unfold hind at hV2
            rw [e2] at hV2
            have HV : Hid (hind T c p a b k d = V) := hV
            have ca := HJ.out.1.a.bit HA.out k hlt
            have cb := HJ.out.1.b.bit HB.out k hlt
            have gc := HJ.out.1.t.c hd4 hp hlt
            have gw := HJ.out.1.t.o hd4 hp hlt
            generalize (ow T d p).testBit k = o at *
            generalize (cp T d p).testBit k = z at *
            generalize a.testBit k = x at *
            generalize b.testBit k = y at *
            clear hV hdc e2
            have HV9 : Hid True := trivial
            cases o
            · cases z
              · obtain rfl : V = false := by rw [← hV2]; simp
                clear hV2 HV9
                go_wp2
                go_roundw
                case rel => exact ⟨d + 1, by omega, by go_num, ⟨HJ.out.1, fun d' h => by by_cases e : d' = d; (subst e; exact HV.out); exact HJ.out.2 d' (by omega)⟩⟩
                case measure => simp [intOf]; omega
              · cases y
                · obtain rfl : V = false := by rw [← hV2]; simp
                  clear hV2 HV9
                  go_wp2
                  go_roundw
                  case rel => exact ⟨d + 1, by omega, by go_num, ⟨HJ.out.1, fun d' h => by by_cases e : d' = d; (subst e; exact HV.out); exact HJ.out.2 d' (by omega)⟩⟩
                  case measure => simp [intOf]; omega
                · obtain rfl : V = true := by rw [← hV2]; simp
                  have HG : Hid (grB T c p a b = false) := gr_hit hd4 HV.out
                  clear hV2 HV9
                  go_upto_region 12 with fail
                  refine wp_region_lit ?_
                  refine wpList_load37 rfl _ rfl w.heap.size _ rfl HJ.out.1.t ?_
                  refine wpList_store37 rfl _ _ rfl (w.heap.size + 1) _ _ rfl rfl HJ.out.1.z ?_
                  intro w9 hR9 ho9
                  go_wp2
                  have hl9 := loadV37 hR9
                  refine bodyPost_ret (results_cell2 Try.results14 (by rfl) (by rfl) hl9) (by rfl) ?_
                  exact ⟨by obtain ⟨h8, h9⟩ := HG0.out; rw [HG.out] at h8 h9; subst h8; subst h9; rfl, HJ.out.1.bel.trans (ho9.below (by omega) HJ.out.1.bel.size)⟩
            · cases x
              · cases y
                · cases z
                  · obtain rfl : V = false := by rw [← hV2]; simp
                    clear hV2 HV9
                    go_wp2
                    go_roundw
                    case rel => exact ⟨d + 1, by omega, by go_num, ⟨HJ.out.1, fun d' h => by by_cases e : d' = d; (subst e; exact HV.out); exact HJ.out.2 d' (by omega)⟩⟩
                    case measure => simp [intOf]; omega
                  · obtain rfl : V = false := by rw [← hV2]; simp
                    clear hV2 HV9
                    go_wp2
                    go_roundw
                    case rel => exact ⟨d + 1, by omega, by go_num, ⟨HJ.out.1, fun d' h => by by_cases e : d' = d; (subst e; exact HV.out); exact HJ.out.2 d' (by omega)⟩⟩
                    case measure => simp [intOf]; omega
                · obtain rfl : V = true := by rw [← hV2]; simp
                  have HG : Hid (grB T c p a b = false) := gr_hit hd4 HV.out
                  clear hV2 HV9
                  go_upto_region 12 with fail
                  refine wp_region_lit ?_
                  refine wpList_load37 rfl _ rfl w.heap.size _ rfl HJ.out.1.t ?_
                  refine wpList_store37 rfl _ _ rfl (w.heap.size + 1) _ _ rfl rfl HJ.out.1.z ?_
                  intro w9 hR9 ho9
                  go_wp2
                  have hl9 := loadV37 hR9
                  refine bodyPost_ret (results_cell2 Try.results14 (by rfl) (by rfl) hl9) (by rfl) ?_
                  exact ⟨by obtain ⟨h8, h9⟩ := HG0.out; rw [HG.out] at h8 h9; subst h8; subst h9; rfl, HJ.out.1.bel.trans (ho9.below (by omega) HJ.out.1.bel.size)⟩
              · obtain rfl : V = true := by rw [← hV2]; simp
                have HG : Hid (grB T c p a b = false) := gr_hit hd4 HV.out
                clear hV2 HV9
                go_upto_region 12 with fail
                refine wp_region_lit ?_
                refine wpList_load37 rfl _ rfl w.heap.size _ rfl HJ.out.1.t ?_
                refine wpList_store37 rfl _ _ rfl (w.heap.size + 1) _ _ rfl rfl HJ.out.1.z ?_
                intro w9 hR9 ho9
                go_wp2
                have hl9 := loadV37 hR9
                refine bodyPost_ret (results_cell2 Try.results14 (by rfl) (by rfl) hl9) (by rfl) ?_
                exact ⟨by obtain ⟨h8, h9⟩ := HG0.out; rw [HG.out] at h8 h9; subst h8; subst h9; rfl, HJ.out.1.bel.trans (ho9.below (by omega) HJ.out.1.bel.size)⟩
        · obtain rfl : d = 4 := by omega
          go_wp2
          go_roundw
          case rel => exact ⟨k + 1, by omega, by go_num, ⟨HJ.out.1, fun i d h1 h2 => by by_cases e : i = k; (subst e; exact HJ.out.2 d h2); exact HI.out.2 i d (by omega) h2⟩⟩
          case measure => simp [intOf]; omega
    · obtain rfl : k = 4 := by omega
      have HG : Hid (grB T c p a b = true) := gr_all ha hb fun i d h1 h2 => HI.out.2 i d h1 h2
      have HT0 : Hid (Lay w wk (TT T c p (cp T c p) (ow T c p)) qa w4.heap.size a0 a1 a2 a3 b0 b1 b2 b3) := by unfold Hid; rw [TT_self]; exact HI.out.1
      clear HI
      go_wp2
      go_loopw [18] (fun i wq => ∃ (k X Y : Nat), k ≤ 4 ∧ i = .int .i64 k ∧ Hid (Lay w wq (TT T c p X Y) qa w4.heap.size a0 a1 a2 a3 b0 b1 b2 b3 ∧ X < 16 ∧ Y < 16 ∧ (∀ j, X.testBit j = if j < k then (cp T c p).testBit j || (a.testBit j || b.testBit j) else (cp T c p).testBit j) ∧ (∀ j, Y.testBit j = if j < k then (ow T c p).testBit j || b.testBit j else (ow T c p).testBit j))) (fun i _ => 4 - (intOf i).toNat)
      case atStart => exact ⟨0, _, _, by omega, rfl, ⟨HT0.out, hT _, hT _, fun j => by simp, fun j => by simp⟩⟩
      case round =>
        clear HT0
        obtain ⟨k, X, Y, hk, rfl, HI⟩ := hrel
        rename World => wq
        by_cases hlt : k < 4
        · have ca := HI.out.1.a.bit HA.out k hlt
          have cb := HI.out.1.b.bit HB.out k hlt
          have gc := HI.out.1.t.c hc hp hlt
          have f0 := HI.out.1.t.fz (c * 24 + p * 4 + k)
          rw [TT_cp hp] at gc
          have hXk : X.testBit k = (cp T c p).testBit k := by rw [HI.out.2.2.2.1 k, if_neg (by omega)]
          have hYk : Y.testBit k = (ow T c p).testBit k := by rw [HI.out.2.2.2.2 k, if_neg (by omega)]
          obtain ⟨vx, hvx⟩ : ∃ v, (X.testBit k || (a.testBit k || b.testBit k)) = v := ⟨_, rfl⟩
          obtain ⟨vy, hvy⟩ : ∃ v, (Y.testBit k || b.testBit k) = v := ⟨_, rfl⟩
          have HV : Hid (∀ k', k' = k → ((cp T c p).testBit k' || (a.testBit k' || b.testBit k')) = vx ∧ ((ow T c p).testBit k' || b.testBit k') = vy) := fun k' e => by subst e; exact ⟨by rw [← hXk]; exact hvx, by rw [← hYk]; exact hvy⟩
          have HL1 : Hid (Lay w (wq.setCell ⟨w.heap.size, c * 24 + p * 4 + k, none⟩ (.bool vx)).drew (TT T c p (setb X k vx) Y) qa w4.heap.size a0 a1 a2 a3 b0 b1 b2 b3) := (HI.out.1.off ((Off.refl _ _).set (c * 24 + p * 4 + k) (.bool vx)) (HI.out.1.t.putC hc hp hlt vx)).drew
          clear hXk hYk
          generalize hx9 : X.testBit k = x9 at *
          generalize ha9 : a.testBit k = a9 at *
          generalize hb9 : b.testBit k = b9 at *
          have HY9 : Hid (b.testBit k = b9) := hb9
          clear hx9 ha9 hb9
          go_upto_region 16 with fail
          go_cut [] (fun wc => wc = (wq.setCell ⟨w.heap.size, c * 24 + p * 4 + k, none⟩ (.bool vx)).drew)
          case first =>
            clear hvy
            cases x9 <;> cases a9 <;> cases b9 <;> simp at hvx <;> subst vx
            all_goals go_big_region
            all_goals go_wp2_with fail
            all_goals go_meet
            all_goals rfl
          case rest =>
            subst hcut
            clear ca cb gc f0 hvx
            generalize (wq.setCell ⟨w.heap.size, c * 24 + p * 4 + k, none⟩ (.bool vx)).drew = W1 at *
            have cb := HL1.out.b.bit HB.out k hlt
            rw [HY9.out] at cb
            have gw := HL1.out.t.o hc hp hlt
            have f1 := HL1.out.t.fz (96 + c * 24 + p * 4 + k)
            rw [TT_ow hp] at gw
            have HL2 : Hid (Lay w (W1.setCell ⟨w.heap.size, 96 + c * 24 + p * 4 + k, none⟩ (.bool vy)).drew (TT T c p (setb X k vx) (setb Y k vy)) qa w4.heap.size a0 a1 a2 a3 b0 b1 b2 b3) := (HL1.out.off ((Off.refl _ _).set (96 + c * 24 + p * 4 + k) (.bool vy)) (HL1.out.t.putO hc hp hlt vy)).drew
            generalize hy9 : Y.testBit k = y9 at *
            clear hy9
            go_upto_region 17 with fail
            cases y9 <;> cases b9 <;> simp at hvy <;> subst vy
            all_goals go_big_region
            all_goals go_wp2
            all_goals go_roundw
            all_goals first
              | (simp [intOf]; omega)
              | skip
            all_goals
                refine ⟨k + 1, setb X k vx, setb Y k _, by omega, by go_num, ⟨HL2.out, setb_lt HI.out.2.1 hlt _, setb_lt HI.out.2.2.1 hlt _, fun j => ?_, fun j => ?_⟩⟩
                · rw [setb_bit, HI.out.2.2.2.1 j]; exact step_set (k := k) (x := fun j => (cp T c p).testBit j) (y := fun j => (cp T c p).testBit j || (a.testBit j || b.testBit j)) (HV.out k rfl).1
                · rw [setb_bit, HI.out.2.2.2.2 j]; exact step_set (k := k) (x := fun j => (ow T c p).testBit j) (y := fun j => (ow T c p).testBit j || b.testBit j) (HV.out k rfl).2
        · obtain rfl : k = 4 := by omega
          have hX : X = cp T c p ||| (a ||| b) := eq16 HI.out.2.1 (lor (hT _) (lor ha hb)) fun j hj => by rw [HI.out.2.2.2.1 j, if_pos hj, bit_or, bit_or]
          have hY : Y = ow T c p ||| b := eq16 HI.out.2.2.1 (lor (hT _) hb) fun j hj => by rw [HI.out.2.2.2.2 j, if_pos hj, bit_or]
          have HT4 : Hid (Lay w wq (grT T c p a b) qa w4.heap.size a0 a1 a2 a3 b0 b1 b2 b3) := by
            have := HI.out.1
            rw [hX, hY] at this
            exact this
          clear hX hY
          go_upto_region 18 with fail
          refine wp_region_lit ?_
          refine wpList_load37 rfl _ rfl w.heap.size _ rfl HT4.out.t ?_
          refine wpList_store37 rfl _ _ rfl (w.heap.size + 1) _ _ rfl rfl HT4.out.z ?_
          intro w9 hR9 ho9
          go_wp2
          have hl9 := loadV37 hR9
          refine bodyPost_ret (results_cell2 Try.results14 (by rfl) (by rfl) hl9) (by rfl) ?_
          exact ⟨by obtain ⟨h8, h9⟩ := HG0.out; rw [HG.out] at h8 h9; subst h8; subst h9; rfl, HT4.out.bel.trans (ho9.below (by omega) HT4.out.bel.size)⟩

end Go.Proofs.Ytngfcnbcljcdfaa
