/- What the document's short functions on tables do, walked. -/
import Derived.Test.YtngfcnbcljcdfaaU0
namespace Go.Proofs.Ytngfcnbcljcdfaa
open Go.RowKit
set_option linter.unusedVariables false

theorem In_any (c p : Int) (w : World) : Calls Try.prog 31 #[.int .i64 c, .int .i64 p] w fun e w' => e = .returned (.bool (plB c p)) ∧ w' = w := by
  cases h1 : decide (0 ≤ c) <;> cases h2 : decide (c < 4) <;> cases h3 : decide (0 ≤ p)
  all_goals
    have q1 := h1
    have q2 := h2
    have q3 := h3
    simp only [decide_eq_true_eq, decide_eq_false_iff_not] at q1 q2 q3
    go_enter Try.func31, Try.ntmps31
    go_wp2
    go_ret
    refine ⟨ret_bool ?_, rfl⟩
    simp only [plB, clB, h1, h2, h3, Bool.true_and, Bool.false_and, Bool.and_false, Bool.and_true]
    try (first | rfl | (apply decide_eq_decide.2; omega))

/-- The value of the bits below the k-th. -/
def low4 (a b c d : Bool) (k : Nat) : Nat := (if 0 < k then a.toNat else 0) + (if 1 < k then 2 * b.toNat else 0) + (if 2 < k then 4 * c.toNat else 0) + (if 3 < k then 8 * d.toNat else 0)

theorem low_step (a b c d : Bool) (k : Nat) (hk : k < 4) : low4 a b c d (k + 1) = low4 a b c d k + (if #[a, b, c, d][k]! then 2 ^ k else 0) ∧ low4 a b c d k ≤ 15 := by
  match k, hk with
  | 0, _ | 1, _ | 2, _ | 3, _ => cases a <;> cases b <;> cases c <;> cases d <;> decide

set_option maxHeartbeats 800000 in
theorem mask4_any (a b c d : Bool) (w : World) : Calls Try.prog 33 #[.agg #[.bool a, .bool b, .bool c, .bool d]] w fun e w' => e = .returned (.int .i64 (mk4 a b c d : Nat)) ∧ Below w.heap.size w w' := by
  have hb := heap_alloc_new w (.cells #[.bool a, .bool b, .bool c, .bool d] 33)
  have HC : Hid (∀ k, k < 4 → (w.alloc (.cells #[.bool a, .bool b, .bool c, .bool d] 33)).cell? ⟨w.heap.size, k, none⟩ = some (.bool #[a, b, c, d][k]!)) := fun k hk => by
    rw [cell_of_row _ _ _ _ _ _ hb]
    match k, hk with
    | 0, _ | 1, _ | 2, _ | 3, _ => rfl
  have HL : Hid (∀ k, k < 4 → low4 a b c d (k + 1) = low4 a b c d k + (if #[a, b, c, d][k]! then 2 ^ k else 0) ∧ low4 a b c d k ≤ 15) := fun k hk => low_step a b c d k hk
  have HF : Hid (low4 a b c d 4 = mk4 a b c d ∧ low4 a b c d 0 = 0) := ⟨by cases a <;> cases b <;> cases c <;> cases d <;> rfl, rfl⟩
  clear hb
  go_enter Try.func33, Try.ntmps33
  go_wp2
  go_loopw [3, 4, 5] (fun u v i wq => ∃ (k x y : Nat), k ≤ 4 ∧ x ≤ 30 ∧ y ≤ 16 ∧ i = .int .i64 k ∧ u = .int .i64 (x : Int) ∧ v = .int .i64 (y : Int) ∧ Hid (x = low4 a b c d k ∧ y = 2 ^ k) ∧ wq = w.alloc (.cells #[.bool a, .bool b, .bool c, .bool d] 33)) (fun _ _ i _ => 4 - (intOf i).toNat)
  case atStart => exact ⟨0, 0, 1, by omega, by omega, by omega, rfl, rfl, rfl, ⟨HF.out.2.symm, rfl⟩, rfl⟩
  case round =>
    obtain ⟨k, x, y, hk, hx, hy, rfl, rfl, rfl, HI, hw⟩ := hrel
    subst hw
    by_cases hlt : k < 4
    · have hc := HC.out k hlt
      obtain ⟨bb, hbb⟩ : ∃ bb, #[a, b, c, d][k]! = bb := ⟨_, rfl⟩
      rw [hbb] at hc
      have HB : Hid (#[a, b, c, d][k]! = bb ∧ 2 ^ (k + 1) = 2 * y ∧ x ≤ 15 ∧ y ≤ 8) := ⟨hbb, by rw [HI.out.2, Nat.pow_succ]; omega, by have := HL.out k hlt; have := HI.out.1; omega, by rw [HI.out.2]; match k, hlt with
        | 0, _ | 1, _ | 2, _ | 3, _ => decide⟩
      clear hbb
      cases bb
      · go_wp2
        go_roundw
        case rel => exact ⟨k + 1, x, 2 * y, by omega, by omega, by have := HB.out; omega, by go_num, rfl, by go_num, ⟨by have h1 := HL.out k hlt; rw [HB.out.1] at h1; simp at h1; have := HI.out.1; omega, HB.out.2.1.symm⟩, by trivial⟩
        case measure => simp [intOf]; omega
      · go_wp2
        go_roundw
        case rel => exact ⟨k + 1, x + y, 2 * y, by omega, by have := HB.out; omega, by have := HB.out; omega, by go_num, by go_num, by go_num, ⟨by have h1 := HL.out k hlt; rw [HB.out.1] at h1; simp at h1; have := HI.out; omega, HB.out.2.1.symm⟩, by trivial⟩
        case measure => simp [intOf]; omega
    · obtain rfl : k = 4 := by omega
      go_wp2
      go_ret
      exact ⟨ret_int (by rw [HI.out.1, HF.out.1]), (Below.refl _ _).alloc (Nat.le_refl _) _⟩

/-- What a client has, and owns. -/
theorem rcopies_any (T : Nat → Nat) (hT : ∀ i, T i < 16) (c p : Int) (w : World) : Calls Try.prog 20 #[.agg (rfA T), .int .i64 c, .int .i64 p] w fun e w' => e = .returned (.int .i64 (cpI T c p : Nat)) ∧ Below w.heap.size w w' := by
  cases h1 : plB c p
  · go_enter Try.func20, Try.ntmps20
    go_wp2_with (go_at_call 31; refine (In_any c p _).mono ?_; rw [h1]; rintro e w1 ⟨rfl, hw⟩; subst w1)
    go_ret
    exact ⟨ret_int (by simp [cpI, h1]), (Below.refl _ _).alloc (Nat.le_refl _) _⟩
  · obtain ⟨k, l, hk, hl, rfl, rfl⟩ := nat_of_pl h1
    have hR := Rb.new w T
    have c0 := hR.c hk hl (i := 0) (by omega)
    have c1 := hR.c hk hl (i := 1) (by omega)
    have c2 := hR.c hk hl (i := 2) (by omega)
    have c3 := hR.c hk hl (i := 3) (by omega)
    simp only [Nat.add_zero] at c0
    have e0 : cpI T k l = cp T k l := cpI_nat hk hl
    have e1 := mk4_bits (cp T k l) (hT _)
    rw [e0, ← e1]
    generalize (cp T k l).testBit 0 = b0 at *
    generalize (cp T k l).testBit 1 = b1 at *
    generalize (cp T k l).testBit 2 = b2 at *
    generalize (cp T k l).testBit 3 = b3 at *
    clear e0 e1 hR
    go_enter Try.func20, Try.ntmps20
    go_wp2_with (first
      | (go_at_call 33; refine (mask4_any b0 b1 b2 b3 _).mono ?_; rintro e w2 ⟨rfl, hb2⟩)
      | (go_at_call 31; refine (In_any k l _).mono ?_; rw [h1]; rintro e w1 ⟨rfl, hw⟩; subst w1))
    go_ret
    exact ⟨rfl, below_step ((Below.refl _ _).alloc (Nat.le_refl _) _) hb2⟩

theorem rowns_any (T : Nat → Nat) (hT : ∀ i, T i < 16) (c p : Int) (w : World) : Calls Try.prog 22 #[.agg (rfA T), .int .i64 c, .int .i64 p] w fun e w' => e = .returned (.int .i64 (owI T c p : Nat)) ∧ Below w.heap.size w w' := by
  cases h1 : plB c p
  · go_enter Try.func22, Try.ntmps22
    go_wp2_with (go_at_call 31; refine (In_any c p _).mono ?_; rw [h1]; rintro e w1 ⟨rfl, hw⟩; subst w1)
    go_ret
    exact ⟨ret_int (by simp [owI, h1]), (Below.refl _ _).alloc (Nat.le_refl _) _⟩
  · obtain ⟨k, l, hk, hl, rfl, rfl⟩ := nat_of_pl h1
    have hR := Rb.new w T
    have c0 := hR.o hk hl (i := 0) (by omega)
    have c1 := hR.o hk hl (i := 1) (by omega)
    have c2 := hR.o hk hl (i := 2) (by omega)
    have c3 := hR.o hk hl (i := 3) (by omega)
    simp only [Nat.add_zero] at c0
    have e0 : owI T k l = ow T k l := owI_nat hk hl
    have e1 := mk4_bits (ow T k l) (hT _)
    rw [e0, ← e1]
    generalize (ow T k l).testBit 0 = b0 at *
    generalize (ow T k l).testBit 1 = b1 at *
    generalize (ow T k l).testBit 2 = b2 at *
    generalize (ow T k l).testBit 3 = b3 at *
    clear e0 e1 hR
    go_enter Try.func22, Try.ntmps22
    go_wp2_with (first
      | (go_at_call 33; refine (mask4_any b0 b1 b2 b3 _).mono ?_; rintro e w2 ⟨rfl, hb2⟩)
      | (go_at_call 31; refine (In_any k l _).mono ?_; rw [h1]; rintro e w1 ⟨rfl, hw⟩; subst w1))
    go_ret
    exact ⟨rfl, below_step ((Below.refl _ _).alloc (Nat.le_refl _) _) hb2⟩


theorem OwnI.emp (w : World) (base : Nat) (hb : base ≤ w.heap.size) : OwnI (w.alloc (.cells #[] 3)) base 3 .i64 (some ⟨w.heap.size, 0, none⟩) 0 [] := OwnI.fresh w base 3 .i64 hb

set_option maxHeartbeats 1600000 in
theorem rholders_in (T : Nat → Nat) (c p o : Nat) (hc : c < 4) (hp : p < 6) (ho : o < 4) (wr : Bool) (w : World) : Calls Try.prog 26 #[.agg (rfA T), .int .i64 (c : Int), .int .i64 (p : Int), .int .i64 (o : Int), .bool wr] w fun e w' => ∃ ao n cap, e = .returned (.slice ao n cap) ∧ OwnI w' w.heap.size 3 .i64 ao cap (hol T c p o wr 4) ∧ (hol T c p o wr 4).length = n ∧ Below w.heap.size w w' := by
  have h1 := pl_nat hc hp
  have h2 : ¬ ((o : Int) < 0) := by omega
  have h3 : ¬ ((3 : Int) < (o : Int)) := by omega
  have HR : Hid (Rb ((w.alloc (.cells (rfA T) 37)).alloc (.cells #[] 3)) w.heap.size T) := (Rb.new w T).below ((Below.refl _ _).alloc (Nat.le_refl _) _)
  have HB : Hid (Below w.heap.size w ((w.alloc (.cells (rfA T) 37)).alloc (.cells #[] 3))) := below_step ((Below.refl _ _).alloc (Nat.le_refl _) _) ((Below.refl _ _).alloc (Nat.le_refl _) _)
  go_enter Try.func26, Try.ntmps26
  go_wp2_with (go_at_call 31; refine (In_any c p _).mono ?_; rw [h1]; rintro e w1 ⟨rfl, hw⟩; subst w1)
  go_loopw [11, 12] (fun v i wq => ∃ (t : Nat) (ao : Option Addr) (n cap : Nat), t ≤ 4 ∧ i = .int .i64 t ∧ v = .slice ao n cap ∧ Hid (Rb wq w.heap.size T ∧ OwnI wq (w.heap.size + 1) 3 .i64 ao cap (hol T c p o wr t) ∧ (hol T c p o wr t).length = n) ∧ Below w.heap.size w wq) (fun _ i _ => 4 - (intOf i).toNat)
  case atStart =>
    have := OwnI.emp (w.alloc (.cells (rfA T) 37)) (w.heap.size + 1) (by simp)
    exact ⟨0, _, 0, 0, by omega, rfl, rfl, ⟨HR.out, by simpa [hol] using this, rfl⟩, HB.out⟩
  case round =>
    clear HR HB
    obtain ⟨t, ao, n, cap, ht, rfl, rfl, HI, hbel⟩ := hrel
    rename World => wq
    by_cases hlt : t < 4
    · have g0 := HI.out.1.c hlt hp ho
      have g1 := HI.out.1.o hlt hp ho
      have hn4 := hol_len T c p o wr t
      rw [HI.out.2.2] at hn4
      have hsq := hbel.size
      have hlq := HI.out.1.lt
      by_cases hkc : t = c
      · have e1 : ((t : Int) != (c : Int)) = false := by simp; omega
        have HK : Hid (t = c) := hkc
        clear hkc
        cases wr
        all_goals
          go_wp2
          go_roundw
          case rel => exact ⟨t + 1, ao, n, cap, by omega, by go_num, rfl, ⟨HI.out.1, by rw [hol_no (by simp [HK.out])]; exact HI.out.2.1, by rw [hol_no (by simp [HK.out])]; exact HI.out.2.2⟩, hbel⟩
          case measure => simp [intOf]; omega
      · have e1 : ((t : Int) != (c : Int)) = true := by simp; omega
        have e2 : (t != c) = true := by simp; omega
        have HK : Hid ((t != c) = true) := e2
        clear hkc e2
        obtain ⟨bb, hbb⟩ : ∃ bb, (wm T wr t p).testBit o = bb := ⟨_, rfl⟩
        have HB : Hid ((wm T wr t p).testBit o = bb) := hbb
        cases wr
        · simp only [wm, Bool.false_eq_true, if_false] at hbb
          rw [hbb] at g1
          clear g0 hbb
          cases bb
          · go_wp2
            go_roundw
            case rel => exact ⟨t + 1, ao, n, cap, by omega, by go_num, rfl, ⟨HI.out.1, by rw [hol_no (by rw [HB.out]; simp)]; exact HI.out.2.1, by rw [hol_no (by rw [HB.out]; simp)]; exact HI.out.2.2⟩, hbel⟩
            case measure => simp [intOf]; omega
          · go_wp2_with (at_builtin; refine wpList_append_rdI _ rfl _ _ 28 rfl (w.heap.size + 1) 3 .i64 (.int .i64 0) 8 Try.underlying28 info3 rfl rfl rfl (HI.out.2.1.alloc _) (RdI.built _ 3 .i64 #[.int .i64 (t : Int)] 1 [(t : Int)] rfl rfl (by simp [maxLen])) HI.out.2.2 rfl (by omega) (by unfold maxLen; omega) (by simp; omega) ?_; intro ao2 cap2 w3 ho3 hb3)
            go_roundw
            case rel => exact ⟨t + 1, ao2, n + 1, cap2, by omega, by go_num, rfl, ⟨(HI.out.1.below ((Below.refl _ _).alloc (Nat.le_refl _) _)).keep (hb3.block _ (by omega)), by rw [hol_yes (by rw [HB.out, HK.out]; rfl)]; exact ho3, by rw [hol_yes (by rw [HB.out, HK.out]; rfl)]; simp [HI.out.2.2]⟩, hbel.trans (((Below.refl _ _).alloc hbel.size _).trans (hb3.mono (by omega)))⟩
            case measure => simp [intOf]; omega
        · simp only [wm, if_true] at hbb
          rw [hbb] at g0
          clear g1 hbb
          cases bb
          · go_wp2
            go_roundw
            case rel => exact ⟨t + 1, ao, n, cap, by omega, by go_num, rfl, ⟨HI.out.1, by rw [hol_no (by rw [HB.out]; simp)]; exact HI.out.2.1, by rw [hol_no (by rw [HB.out]; simp)]; exact HI.out.2.2⟩, hbel⟩
            case measure => simp [intOf]; omega
          · go_wp2_with (at_builtin; refine wpList_append_rdI _ rfl _ _ 28 rfl (w.heap.size + 1) 3 .i64 (.int .i64 0) 8 Try.underlying28 info3 rfl rfl rfl (HI.out.2.1.alloc _) (RdI.built _ 3 .i64 #[.int .i64 (t : Int)] 1 [(t : Int)] rfl rfl (by simp [maxLen])) HI.out.2.2 rfl (by omega) (by unfold maxLen; omega) (by simp; omega) ?_; intro ao2 cap2 w3 ho3 hb3)
            go_roundw
            case rel => exact ⟨t + 1, ao2, n + 1, cap2, by omega, by go_num, rfl, ⟨(HI.out.1.below ((Below.refl _ _).alloc (Nat.le_refl _) _)).keep (hb3.block _ (by omega)), by rw [hol_yes (by rw [HB.out, HK.out]; rfl)]; exact ho3, by rw [hol_yes (by rw [HB.out, HK.out]; rfl)]; simp [HI.out.2.2]⟩, hbel.trans (((Below.refl _ _).alloc hbel.size _).trans (hb3.mono (by omega)))⟩
            case measure => simp [intOf]; omega
    · obtain rfl : t = 4 := by omega
      go_wp2
      go_ret
      exact ⟨ao, n, cap, rfl, HI.out.2.1.mono (by omega), HI.out.2.2, hbel⟩

theorem rholders_any (T : Nat → Nat) (c p o : Int) (wr : Bool) (w : World) : Calls Try.prog 26 #[.agg (rfA T), .int .i64 c, .int .i64 p, .int .i64 o, .bool wr] w fun e w' => ∃ ao n cap, e = .returned (.slice ao n cap) ∧ OwnI w' w.heap.size 3 .i64 ao cap (hoI T c p o wr) ∧ (hoI T c p o wr).length = n ∧ Below w.heap.size w w' := by
  by_cases hh : plB c p = true ∧ 0 ≤ o ∧ o < 4
  · have e0 : hoI T c p o wr = hol T c.toNat p.toNat o.toNat wr 4 := by unfold hoI; rw [if_pos hh]
    rw [e0]
    obtain ⟨k, l, hk, hl, rfl, rfl⟩ := nat_of_pl hh.1
    obtain ⟨q, rfl⟩ : ∃ q : Nat, o = q := ⟨o.toNat, by omega⟩
    exact rholders_in T k l q hk hl (by omega) wr w
  · have e0 : hoI T c p o wr = [] := by unfold hoI; rw [if_neg hh]
    rw [e0]
    have HO : Hid (OwnI ((w.alloc (.cells (rfA T) 37)).alloc (.cells #[] 3)) w.heap.size 3 .i64 (some ⟨w.heap.size + 1, 0, none⟩) 0 []) := by
      unfold Hid
      have := OwnI.emp (w.alloc (.cells (rfA T) 37)) w.heap.size (by simp)
      simpa using this
    have HB : Hid (Below w.heap.size w ((w.alloc (.cells (rfA T) 37)).alloc (.cells #[] 3))) := below_step ((Below.refl _ _).alloc (Nat.le_refl _) _) ((Below.refl _ _).alloc (Nat.le_refl _) _)
    cases h1 : plB c p
    · clear hh e0
      go_enter Try.func26, Try.ntmps26
      go_wp2_with (go_at_call 31; refine (In_any c p _).mono ?_; rw [h1]; rintro e w1 ⟨rfl, hw⟩; subst w1)
      go_ret
      exact ⟨_, 0, 0, rfl, HO.out, rfl, HB.out⟩
    · have ho : ¬ (0 ≤ o ∧ o < 4) := fun h => hh ⟨h1, h⟩
      clear hh e0
      by_cases h2 : o < 0
      · clear ho
        go_enter Try.func26, Try.ntmps26
        go_wp2_with (go_at_call 31; refine (In_any c p _).mono ?_; rw [h1]; rintro e w1 ⟨rfl, hw⟩; subst w1)
        go_ret
        exact ⟨_, 0, 0, rfl, HO.out, rfl, HB.out⟩
      · have h3 : 3 < o := by omega
        clear ho
        go_enter Try.func26, Try.ntmps26
        go_wp2_with (go_at_call 31; refine (In_any c p _).mono ?_; rw [h1]; rintro e w1 ⟨rfl, hw⟩; subst w1)
        go_ret
        exact ⟨_, 0, 0, rfl, HO.out, rfl, HB.out⟩

theorem rholders_is (T : Nat → Nat) (c p o : Int) (wr : Bool) (w : World) (L : List Int) (n : Nat) (hL : hoI T c p o wr = L) (hn : L.length = n) : Calls Try.prog 26 #[.agg (rfA T), .int .i64 c, .int .i64 p, .int .i64 o, .bool wr] w fun e w' => ∃ ao cap, e = .returned (.slice ao n cap) ∧ OwnI w' w.heap.size 3 .i64 ao cap L ∧ Below w.heap.size w w' := by
  subst hL hn
  refine (rholders_any T c p o wr w).mono ?_
  rintro e w' ⟨ao, n, cap, rfl, h1, rfl, h2⟩
  exact ⟨ao, cap, rfl, h1, h2⟩

end Go.Proofs.Ytngfcnbcljcdfaa
