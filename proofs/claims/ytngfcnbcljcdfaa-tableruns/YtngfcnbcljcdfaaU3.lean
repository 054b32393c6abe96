/- What the document's Free does, and its readers of any numbers, walked. -/
import Derived.Test.YtngfcnbcljcdfaaU2
namespace Go.Proofs.Ytngfcnbcljcdfaa
open Go.RowKit
set_option linter.unusedVariables false

/-- Four bools lie in a block. -/
structure B4 (w : World) (q : Nat) (a b c d : Bool) : Prop where
  blk : w.heap[q]? = some (.cells #[.bool a, .bool b, .bool c, .bool d] 33 (0, 0))
section
variable {w w' : World} {q : Nat} {a b c d : Bool}
theorem B4.c0 (h : B4 w q a b c d) : w.cell? ⟨q, 0, none⟩ = some (.bool a) := by rw [cell_of_row _ _ _ _ _ _ h.blk]; rfl
theorem B4.c1 (h : B4 w q a b c d) : w.cell? ⟨q, 1, none⟩ = some (.bool b) := by rw [cell_of_row _ _ _ _ _ _ h.blk]; rfl
theorem B4.c2 (h : B4 w q a b c d) : w.cell? ⟨q, 2, none⟩ = some (.bool c) := by rw [cell_of_row _ _ _ _ _ _ h.blk]; rfl
theorem B4.c3 (h : B4 w q a b c d) : w.cell? ⟨q, 3, none⟩ = some (.bool d) := by rw [cell_of_row _ _ _ _ _ _ h.blk]; rfl
theorem B4.fz (h : B4 w q a b c d) (j : Nat) : w.frozen? ⟨q, j, none⟩ = false := frozen_of_row _ _ _ _ _ h.blk
theorem B4.lt (h : B4 w q a b c d) : q < w.heap.size := (Array.getElem?_eq_some_iff.1 h.blk).1
theorem B4.keep (h : B4 w q a b c d) (hq : w'.heap[q]? = w.heap[q]?) : B4 w' q a b c d := ⟨hq.trans h.blk⟩
theorem B4.below (h : B4 w q a b c d) (hb : Below w.heap.size w w') : B4 w' q a b c d := h.keep (hb.block q h.lt)
theorem B4.p0 (h : B4 w q a b c d) (x : Bool) : B4 (w.setCell ⟨q, 0, none⟩ (.bool x)) q x b c d := ⟨by rw [heap_setCell_same w q 0 _ 33 _ h.blk]; rfl⟩
theorem B4.p1 (h : B4 w q a b c d) (x : Bool) : B4 (w.setCell ⟨q, 1, none⟩ (.bool x)) q a x c d := ⟨by rw [heap_setCell_same w q 1 _ 33 _ h.blk]; rfl⟩
theorem B4.p2 (h : B4 w q a b c d) (x : Bool) : B4 (w.setCell ⟨q, 2, none⟩ (.bool x)) q a b x d := ⟨by rw [heap_setCell_same w q 2 _ 33 _ h.blk]; rfl⟩
theorem B4.p3 (h : B4 w q a b c d) (x : Bool) : B4 (w.setCell ⟨q, 3, none⟩ (.bool x)) q a b c x := ⟨by rw [heap_setCell_same w q 3 _ 33 _ h.blk]; rfl⟩
end

def fbit (T : Nat → Nat) (c p i t : Nat) : Bool := decide (i < t) && ((hol T c p i false 4).length == 0)

set_option maxHeartbeats 3200000 in
theorem rfree_in (T : Nat → Nat) (hT : ∀ i, T i < 16) (c p : Nat) (hc : c < 4) (hp : p < 6) (w : World) : Calls Try.prog 23 #[.agg (rfA T), .int .i64 (c : Int), .int .i64 (p : Int)] w fun e w' => e = .returned (.int .i64 (frI T c p : Nat)) ∧ Below w.heap.size w w' := by
  have h1 := pl_nat hc hp
  have HF : Hid (mk4 (fbit T c p 0 4) (fbit T c p 1 4) (fbit T c p 2 4) (fbit T c p 3 4) = frI T c p) := by
    unfold Hid frI
    rw [if_pos h1, ← rfree_math hT]
    rfl
  have HR : Hid (Rb ((w.alloc (.cells (rfA T) 37)).alloc (.cells #[.bool false, .bool false, .bool false, .bool false] 33)) w.heap.size T) := (Rb.new w T).below ((Below.refl _ _).alloc (Nat.le_refl _) _)
  have HB : Hid (B4 ((w.alloc (.cells (rfA T) 37)).alloc (.cells #[.bool false, .bool false, .bool false, .bool false] 33)) (w.heap.size + 1) (fbit T c p 0 0) (fbit T c p 1 0) (fbit T c p 2 0) (fbit T c p 3 0)) := by
    have h2 := heap_alloc_new (w.alloc (.cells (rfA T) 37)) (.cells #[.bool false, .bool false, .bool false, .bool false] 33)
    rw [show (w.alloc (.cells (rfA T) 37)).heap.size = w.heap.size + 1 from by simp] at h2
    exact ⟨h2⟩
  have HW : Hid (Below w.heap.size w ((w.alloc (.cells (rfA T) 37)).alloc (.cells #[.bool false, .bool false, .bool false, .bool false] 33))) := below_step ((Below.refl _ _).alloc (Nat.le_refl _) _) ((Below.refl _ _).alloc (Nat.le_refl _) _)
  go_enter Try.func23, Try.ntmps23
  go_wp2_with (go_at_call 31; refine (In_any c p _).mono ?_; rw [h1]; rintro e w1 ⟨rfl, hw⟩; subst w1)
  go_loopw [8] (fun i wq => ∃ t : Nat, t ≤ 4 ∧ i = .int .i64 t ∧ Hid (Rb wq w.heap.size T ∧ B4 wq (w.heap.size + 1) (fbit T c p 0 t) (fbit T c p 1 t) (fbit T c p 2 t) (fbit T c p 3 t)) ∧ Below w.heap.size w wq) (fun i _ => 4 - (intOf i).toNat)
  case atStart => exact ⟨0, by omega, rfl, ⟨HR.out, HB.out⟩, HW.out⟩
  case round =>
    clear HR HB HW
    obtain ⟨t, ht, rfl, HI, hbel⟩ := hrel
    rename World => wq
    by_cases hlt : t < 4
    · obtain ⟨n, hn⟩ : ∃ n, (hol T c p t false 4).length = n := ⟨_, rfl⟩
      have HN : Hid (hoI T c p t false = hol T c p t false 4 ∧ (hol T c p t false 4).length = n) := ⟨hoI_nat hc hp hlt false, hn⟩
      obtain ⟨B, hB⟩ : ∃ B, ((n : Int) == 0) = B := ⟨_, rfl⟩
      have HBn : Hid ((n == 0) = B) := by
        unfold Hid
        rw [← hB, Bool.eq_iff_iff, beq_iff_eq, beq_iff_eq]
        omega
      have HE : Hid (fbit T c p t (t + 1) = B) := by
        unfold Hid fbit
        rw [HN.out.2, HBn.out]
        simp
      clear hn
      rcases (by omega : t = 0 ∨ t = 1 ∨ t = 2 ∨ t = 3) with rfl | rfl | rfl | rfl
      all_goals
        go_upto_region 7 with fail
        refine wp_region_lit ?_
        refine wpList_plain rfl fun K1 hK1 => ?_
        go_step
        refine hK1 _ _ ?_
        clear hK1 K1
        refine wpList_load37 rfl _ rfl w.heap.size T rfl HI.out.1 ?_
        go_wp2_with (go_at_call 26; refine (rholders_is T c p _ false wq _ n HN.out.1 HN.out.2).mono ?_; rintro e w2 ⟨ax, cx, rfl, -, hb2⟩; have B2 := HI.out.2.below hb2; have d0 := B2.c0; have d1 := B2.c1; have d2 := B2.c2; have d3 := B2.c3; have z0 := B2.fz 0; have z1 := B2.fz 1; have z2 := B2.fz 2; have z3 := B2.fz 3)
      · refine ⟨⟨1, by decide, rfl, ⟨(HI.out.1.below hb2).keep (Below.heap_setCell _ _ _ _ (by simp)), ?_⟩, below_set (below_step hbel hb2) (Nat.le_succ _) _⟩, by simp [intOf]⟩
        have h9 := B2.p0 B
        have e9 := HE.out
        subst e9
        exact h9
      · refine ⟨⟨2, by decide, rfl, ⟨(HI.out.1.below hb2).keep (Below.heap_setCell _ _ _ _ (by simp)), ?_⟩, below_set (below_step hbel hb2) (Nat.le_succ _) _⟩, by simp [intOf]⟩
        have h9 := B2.p1 B
        have e9 := HE.out
        subst e9
        exact h9
      · refine ⟨⟨3, by decide, rfl, ⟨(HI.out.1.below hb2).keep (Below.heap_setCell _ _ _ _ (by simp)), ?_⟩, below_set (below_step hbel hb2) (Nat.le_succ _) _⟩, by simp [intOf]⟩
        have h9 := B2.p2 B
        have e9 := HE.out
        subst e9
        exact h9
      · refine ⟨⟨4, by decide, rfl, ⟨(HI.out.1.below hb2).keep (Below.heap_setCell _ _ _ _ (by simp)), ?_⟩, below_set (below_step hbel hb2) (Nat.le_succ _) _⟩, by simp [intOf]⟩
        have h9 := B2.p3 B
        have e9 := HE.out
        subst e9
        exact h9
    · obtain rfl : t = 4 := by omega
      have d0 := HI.out.2.c0
      have d1 := HI.out.2.c1
      have d2 := HI.out.2.c2
      have d3 := HI.out.2.c3
      go_wp2_with (go_at_call 33; refine (mask4_any _ _ _ _ _).mono ?_; rintro e w3 ⟨rfl, hb3⟩)
      go_ret
      exact ⟨ret_int (by rw [HF.out]), below_step hbel hb3⟩

theorem rfree_any (T : Nat → Nat) (hT : ∀ i, T i < 16) (c p : Int) (w : World) : Calls Try.prog 23 #[.agg (rfA T), .int .i64 c, .int .i64 p] w fun e w' => e = .returned (.int .i64 (frI T c p : Nat)) ∧ Below w.heap.size w w' := by
  cases h1 : plB c p
  · go_enter Try.func23, Try.ntmps23
    go_wp2_with (go_at_call 31; refine (In_any c p _).mono ?_; rw [h1]; rintro e w1 ⟨rfl, hw⟩; subst w1)
    go_ret
    exact ⟨ret_int (by simp [frI, h1]), (Below.refl _ _).alloc (Nat.le_refl _) _⟩
  · obtain ⟨k, l, hk, hl, rfl, rfl⟩ := nat_of_pl h1
    exact rfree_in T hT k l hk hl w

theorem ralone_any (T : Nat → Nat) (hT : ∀ i, T i < 16) (hS : Sole T) (c p : Int) (w : World) : Calls Try.prog 24 #[.agg (rfA T), .int .i64 c, .int .i64 p] w fun e w' => e = .returned (.bool (alI T c p)) ∧ Below w.heap.size w w' := by
  cases h1 : plB c p
  · go_enter Try.func24, Try.ntmps24
    go_wp2_with (go_at_call 31; refine (In_any c p _).mono ?_; rw [h1]; rintro e w1 ⟨rfl, hw⟩; subst w1)
    go_ret
    exact ⟨ret_bool (by simp [alI, h1]), (Below.refl _ _).alloc (Nat.le_refl _) _⟩
  · obtain ⟨k, l, hk, hl, rfl, rfl⟩ := nat_of_pl h1
    refine (ralone_in T k l hk hl w).mono ?_
    rintro e w' ⟨rfl, hb⟩
    exact ⟨ret_bool (by rw [← alone_same hT hS hl]; simp [alI, h1]), hb⟩


set_option maxHeartbeats 6400000 in
theorem bits_any (m : Int) (w : World) : Calls Try.prog 30 #[.int .i64 m] w fun e w' => e = .returned (.tuple #[.agg #[.bool (maB m && m.toNat.testBit 0), .bool (maB m && m.toNat.testBit 1), .bool (maB m && m.toNat.testBit 2), .bool (maB m && m.toNat.testBit 3)], .bool (maB m)]) ∧ Below w.heap.size w w' := by
  cases h1 : maB m
  · have h2 : m < 0 ∨ 15 < m := by
      simp only [maB, Bool.and_eq_false_iff, decide_eq_false_iff_not] at h1
      omega
    by_cases h3 : m < 0
    · clear h2 h1
      go_enter Try.func30, Try.ntmps30
      go_wp2
      go_returns
      exact ⟨by simp, by go_grown⟩
    · have h4 : 15 < m := by omega
      clear h2 h1
      go_enter Try.func30, Try.ntmps30
      go_wp2
      go_returns
      exact ⟨by simp, by go_grown⟩
  · obtain ⟨k, hk, rfl⟩ := nat_of_ma h1
    simp only [Int.toNat_natCast, Bool.true_and]
    match k, hk with
    | 0, _ | 1, _ | 2, _ | 3, _ | 4, _ | 5, _ | 6, _ | 7, _ | 8, _ | 9, _ | 10, _ | 11, _ | 12, _ | 13, _ | 14, _ | 15, _ =>
      go_enter Try.func30, Try.ntmps30
      go_wp2
      go_returns
      exact ⟨by rfl, by go_grown⟩
    | k + 16, h => omega

end Go.Proofs.Ytngfcnbcljcdfaa
