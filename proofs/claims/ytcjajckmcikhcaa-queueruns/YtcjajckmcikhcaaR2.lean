/- The document's Add, walked. -/
import Derived.Test.YtcjajckmcikhcaaR1
namespace Go.Proofs.Ytcjajckmcikhcaa
open Go.RowKit Go.Maps
set_option linter.unusedVariables false

/-- A struct of two cells in a block. -/
structure P2 (W : World) (b : Nat) (v0 v1 : Value) : Prop where
  blk : W.heap[b]? = some (.cells #[v0, v1] 38 (0, 0))
section
variable {W W' : World} {b : Nat} {v0 v1 : Value}
theorem P2.c0 (h : P2 W b v0 v1) : W.cell? ⟨b, 0, none⟩ = some v0 := by rw [cell_of_row _ _ _ _ _ _ h.blk]; rfl
theorem P2.c1 (h : P2 W b v0 v1) : W.cell? ⟨b, 1, none⟩ = some v1 := by rw [cell_of_row _ _ _ _ _ _ h.blk]; rfl
theorem P2.fz (h : P2 W b v0 v1) (j : Nat) : W.frozen? ⟨b, j, none⟩ = false := frozen_of_row _ _ _ _ _ h.blk
theorem P2.lt (h : P2 W b v0 v1) : b < W.heap.size := (Array.getElem?_eq_some_iff.1 h.blk).1
theorem P2.keep (h : P2 W b v0 v1) (hb : W'.heap[b]? = W.heap[b]?) : P2 W' b v0 v1 := ⟨hb.trans h.blk⟩
theorem P2.below (h : P2 W b v0 v1) (hb : Below W.heap.size W W') : P2 W' b v0 v1 := h.keep (hb.block b h.lt)
theorem P2.put0 (h : P2 W b v0 v1) (u : Value) : P2 (W.setCell ⟨b, 0, none⟩ u) b u v1 := ⟨by rw [heap_setCell_same W b 0 _ 38 u h.blk]; rfl⟩
theorem P2.put1 (h : P2 W b v0 v1) (u : Value) : P2 (W.setCell ⟨b, 1, none⟩ u) b v0 u := ⟨by rw [heap_setCell_same W b 1 _ 38 u h.blk]; rfl⟩
theorem P2.other (h : P2 W b v0 v1) {a : Addr} (ha : b ≠ a.block) (u : Value) : P2 (W.setCell a u) b v0 v1 := h.keep (Below.heap_setCell _ _ _ _ ha)
theorem P2.new (W : World) (v0 v1 : Value) : P2 (W.alloc (.cells #[v0, v1] 38)) W.heap.size v0 v1 := ⟨heap_alloc_new W _⟩
end

/-- A slice of the answer: the elder one, or one that was made since. -/
def Fr (w w' : World) (a a' : Option Addr) : Prop := a' = a ∨ ∀ x, a' = some x → w.heap.size ≤ x.block ∧ x.block < w'.heap.size
theorem Fr.refl (w w' : World) (a : Option Addr) : Fr w w' a a := .inl rfl

theorem app_below {W w' : World} {ao : Option Addr} {B : Nat} (hg : W.grownBy w' (ao.map (·.block))) (h : ∀ a, ao = some a → B ≤ a.block) (hB : B ≤ W.heap.size) : Below B W w' :=
  (Below.refl B W).grown hg hB fun k hk => by
    cases ao with
    | none => cases hk
    | some a =>
      have : a.block = k := by simpa using hk
      rw [← this]
      exact h a rfl

/-- Stores into blocks from B on. -/
theorem set_below {B : Nat} {w W : World} (h : Below B w W) {a : Addr} (ha : B ≤ a.block) (u : Value) : Below B w (W.setCell a u) := h.setCell ha u

set_option maxRecDepth 100000 in
set_option maxHeartbeats 3200000 in
theorem radd_any (a1 : Option Addr) (n1 c1 : Nat) (a2 : Option Addr) (n2 c2 : Nat) (L : List Wt) (x : Wt) (w : World) (hL : RdR wtC w a1 c1 L) (hn : L.length = n1) (hl : n1 ≤ 1000) :
    Calls Try.prog 16 #[rqV a1 n1 c1 a2 n2 c2, wtV x] w fun e w' => ∃ a' c', e = .returned (.tuple #[rqV a' (addL L x).length c' a2 n2 c2, .bool (addB L x)]) ∧ RdR wtC w' a' c' (addL L x) ∧ Fr w w' a1 a' ∧ Below w.heap.size w w' := by
  have HE : Hid (addB L x = (rtB x && !hasB L x.c)) := by
    show _ = _
    rw [addB_eq]
    unfold rtB
    cases cliB x.c <;> cases objB x.p x.o <;> rfl
  have HL : Hid (RdR wtC w a1 c1 L ∧ L.length = n1) := ⟨hL, hn⟩
  have HW0 : Hid (P2 (((w.alloc (rqO a1 n1 c1 a2 n2 c2)).alloc (wtO x)).alloc (rqO none 0 0 none 0 0)) w.heap.size (.slice a1 n1 c1) (.slice a2 n2 c2) ∧ (((w.alloc (rqO a1 n1 c1 a2 n2 c2)).alloc (wtO x)).alloc (rqO none 0 0 none 0 0)).heap[w.heap.size + 1]? = some (wtO x) ∧ P2 (((w.alloc (rqO a1 n1 c1 a2 n2 c2)).alloc (wtO x)).alloc (rqO none 0 0 none 0 0)) (w.heap.size + 2) (.slice none 0 0) (.slice none 0 0) ∧ Below w.heap.size w (((w.alloc (rqO a1 n1 c1 a2 n2 c2)).alloc (wtO x)).alloc (rqO none 0 0 none 0 0)) ∧ w.heap.size + 2 < (((w.alloc (rqO a1 n1 c1 a2 n2 c2)).alloc (wtO x)).alloc (rqO none 0 0 none 0 0)).heap.size) := by
    refine ⟨⟨?_⟩, ?_, ?_, by go_grown, by simp⟩
    · rw [Below.heap_alloc _ _ _ (by simp; omega), Below.heap_alloc _ _ _ (by simp)]
      exact heap_alloc_new w _
    · rw [Below.heap_alloc _ _ _ (by simp)]
      have := heap_alloc_new (w.alloc (rqO a1 n1 c1 a2 n2 c2)) (wtO x)
      simpa using this
    · have := P2.new ((w.alloc (rqO a1 n1 c1 a2 n2 c2)).alloc (wtO x)) (.slice none 0 0) (.slice none 0 0)
      simpa using this
  clear hL hn
  go_enter Try.func16, Try.ntmps16
  go_upto_region 1 with fail
  generalize ((w.alloc (rqO a1 n1 c1 a2 n2 c2)).alloc (wtO x)).alloc (rqO none 0 0 none 0 0) = W0 at *
  obtain ⟨g2, hg2⟩ : ∃ g, w.heap.size = g := ⟨_, rfl⟩
  obtain ⟨g3, hg3⟩ : ∃ g, w.heap.size + 1 = g := ⟨_, rfl⟩
  obtain ⟨g4, hg4⟩ : ∃ g, w.heap.size + 1 + 1 = g := ⟨_, rfl⟩
  have HG : Hid (g2 ≠ g4 ∧ w.heap.size ≤ g2 ∧ w.heap.size ≤ g4) := ⟨by omega, by omega, by omega⟩
  have HQ : Hid (P2 W0 g2 (.slice a1 n1 c1) (.slice a2 n2 c2) ∧ W0.heap[g3]? = some (wtO x) ∧ P2 W0 g4 (.slice none 0 0) (.slice none 0 0) ∧ Below w.heap.size w W0) := by
    obtain ⟨h1, h2, h3, h4, -⟩ := HW0.out
    rw [hg3] at h2
    rw [show w.heap.size + 2 = g4 from hg4] at h3
    rw [hg2] at h1
    exact ⟨h1, h2, h3, h4⟩
  rw [hg4, hg3, hg2]
  clear hg2 hg3 hg4 HW0
  have HN : Hid (∀ W : World, Below W0.heap.size W0 W → P2 W g2 (.slice a1 n1 c1) (.slice a2 n2 c2) ∧ W.heap[g3]? = some (wtO x) ∧ P2 W g4 (.slice none 0 0) (.slice none 0 0) ∧ Below w.heap.size w W) := fun W hW =>
    ⟨HQ.out.1.below hW, (hW.block _ (Array.getElem?_eq_some_iff.1 HQ.out.2.1).1).trans HQ.out.2.1, HQ.out.2.2.1.below hW, below_step HQ.out.2.2.2 hW⟩
  obtain ⟨x0, x1, x2, x3⟩ := wt_cells HQ.out.2.1 (Below.refl _ _)
  have q0 := HQ.out.1.c0
  have q1 := HQ.out.1.c1
  cases hr : rtB x
  · have e1 : addB L x = false := by rw [HE.out, hr]; rfl
    have e2 : addL L x = L := by unfold addL; rw [e1]; rfl
    have HR : Hid (addB L x = false ∧ addL L x = L) := ⟨e1, e2⟩
    clear e1 e2
    go_upto_region 2 with (first
      | (go_at_call 37; refine (right_any x _).mono ?_; rw [hr]; rintro e w1 ⟨rfl, hb1⟩)
      | fail)
    have HB1 : Hid (Below W0.heap.size W0 w1) := hb1
    clear hb1 hr
    have p0 := (HN.out _ HB1.out).1.c0
    have p1 := (HN.out _ HB1.out).1.c1
    have r0 := (HN.out _ HB1.out).2.2.1.fz 0
    have r1 := (HN.out _ HB1.out).2.2.1.fz 1
    have r2 := (HN.out _ HB1.out).2.2.1.c0
    have r3 := (HN.out _ HB1.out).2.2.1.c1
    go_wp2
    have HC : P2 ((w1.setCell ⟨g4, 0, none⟩ (.slice a1 n1 c1)).setCell ⟨g4, 1, none⟩ (.slice a2 n2 c2)) g4 (.slice a1 n1 c1) (.slice a2 n2 c2) := ((HN.out _ HB1.out).2.2.1.put0 _).put1 _
    have HBf : Below w.heap.size w ((w1.setCell ⟨g4, 0, none⟩ (.slice a1 n1 c1)).setCell ⟨g4, 1, none⟩ (.slice a2 n2 c2)) := set_below (set_below (HN.out _ HB1.out).2.2.2 HG.out.2.2 _) HG.out.2.2 _
    generalize (w1.setCell ⟨g4, 0, none⟩ (.slice a1 n1 c1)).setCell ⟨g4, 1, none⟩ (.slice a2 n2 c2) = Wf at *
    have f0 := HC.c0
    have f1 := HC.c1
    refine bodyPost_ret (by simp [results, Try.results16, go_sem, f0, f1]; try rfl) rfl ?_
    rw [HR.out.1, HR.out.2]
    exact ⟨a1, c1, by rw [HL.out.2], HL.out.1.below HBf, .refl _ _ _, HBf⟩
  cases hh : hasB L x.c
  · have e1 : addB L x = true := by rw [HE.out, hr, hh]; rfl
    have e2 : addL L x = L ++ [x] := by unfold addL; rw [e1]; rfl
    have HR : Hid (addB L x = true ∧ addL L x = L ++ [x]) := ⟨e1, e2⟩
    clear e1 e2
    go_upto_region 3 with (first
      | (go_at_call 38; refine (waits_any a1 n1 c1 a2 n2 c2 L x.c _ (HL.out.1.below (HN.out _ HB1.out).2.2.2) HL.out.2 (by omega)).mono ?_; rw [hh]; rintro e w2 ⟨rfl, hb2⟩; have HB2 : Hid (Below W0.heap.size W0 w2) := below_step HB1.out hb2; clear hb2)
      | (go_at_call 37; refine (right_any x _).mono ?_; rw [hr]; rintro e w1 ⟨rfl, hb1⟩; have HB1 : Hid (Below W0.heap.size W0 w1) := hb1; clear hb1; obtain ⟨y0, y1, y2, y3⟩ := wt_cells (HN.out _ HB1.out).2.1 (Below.refl _ _); have s0 := (HN.out _ HB1.out).1.c0; have s1 := (HN.out _ HB1.out).1.c1)
      | fail)
    have HBA : Hid (Below w2.heap.size w2 (w2.alloc (.cells #[] 29)) ∧ Below W0.heap.size W0 (w2.alloc (.cells #[] 29))) := ⟨(Below.refl _ _).alloc (Nat.le_refl _) _, below_step HB2.out ((Below.refl _ _).alloc (Nat.le_refl _) _)⟩
    have t0 := (HN.out _ HBA.out.2).1.c0
    clear hr hh
    go_upto_region 5 with (first
      | (at_builtin; refine wpList_append_R wtE _ rfl _ _ 25 rfl 29 _ 32 Try.underlying25 info29 rfl rfl rfl HO3.out HRb.out HM3.out rfl (by omega) (by unfold maxLen; omega) ?_; intro a5 c5 w5 ho5 hg5 ha5; have HB5 : Hid (Below w2.heap.size w2 w5) := HB4.out.trans (app_below hg5 HA3.out HB4.out.size); have HO5 : Hid (OwR wtC 4 29 w5 a5 c5 (L ++ [x]) ∧ ∀ a, a5 = some a → w2.heap.size ≤ a.block) := ⟨ho5, by rcases ha5 with rfl | rfl; exact HA3.out; intro a ha; cases ha; exact HB4.out.size⟩; clear ho5 hg5 ha5; have v0 := (HN.out _ (below_step HB2.out HB5.out)).1.c0; have v1 := (HN.out _ (below_step HB2.out HB5.out)).1.c1; have v2 := (HN.out _ (below_step HB2.out HB5.out)).1.fz 0; have v3 := (HN.out _ (below_step HB2.out HB5.out)).2.2.1.fz 0; have v4 := (HN.out _ (below_step HB2.out HB5.out)).2.2.1.fz 1)
      | (at_builtin; refine wpList_append_R wtE _ rfl _ _ 25 rfl 29 _ 32 Try.underlying25 info29 rfl (L := []) (n := 0) rfl rfl (OwR.fresh 29 w2) (HL.out.1.below (HN.out _ HBA.out.2).2.2.2) rfl HL.out.2 (by omega) (by unfold maxLen; omega) ?_; intro a3 c3 w3 ho3 hg3 ha3; have HA3 : Hid (∀ a, a3 = some a → w2.heap.size ≤ a.block) := (by rcases ha3 with rfl | rfl; intro a ha; cases ha; exact Nat.le_refl _; intro a ha; cases ha; exact HBA.out.1.size); have HB3 : Hid (Below w2.heap.size w2 w3) := HBA.out.1.trans (app_below hg3 (by intro a ha; cases ha; exact Nat.le_refl _) HBA.out.1.size); have HB4 : Hid (Below w2.heap.size w2 (w3.alloc (wtO x))) := HB3.out.alloc HB3.out.size _; have HO3 : Hid (OwR wtC 4 29 (w3.alloc (wtO x)) a3 c3 L) := (show OwR wtC 4 29 w3 a3 c3 L from (by simpa using ho3)).below ((Below.refl _ _).alloc (Nat.le_refl _) _); have HRb : Hid (RdR wtC (w3.alloc (wtO x)) (some ⟨w3.heap.size, 0, none⟩) 1 [x]) := RdR.built wtE w3 29 _ [x] rfl 1 rfl (by unfold maxLen; omega); have HM3 : Hid (L.length = n1) := HL.out.2; clear ho3 hg3 ha3; obtain ⟨u0, u1, u2, u3⟩ := wt_cells (HN.out _ (below_step HB2.out HB3.out)).2.1 (Below.refl _ _))
      | fail)
    have HF : Hid (P2 (w5.setCell ⟨g2, 0, none⟩ (.slice a5 (n1 + 1) c5)) g2 (.slice a5 (n1 + 1) c5) (.slice a2 n2 c2) ∧ P2 (w5.setCell ⟨g2, 0, none⟩ (.slice a5 (n1 + 1) c5)) g4 (.slice none 0 0) (.slice none 0 0) ∧ Below w.heap.size w (w5.setCell ⟨g2, 0, none⟩ (.slice a5 (n1 + 1) c5)) ∧ OwR wtC 4 29 (w5.setCell ⟨g2, 0, none⟩ (.slice a5 (n1 + 1) c5)) a5 c5 (L ++ [x])) := by
      have hq := HN.out _ (below_step HB2.out HB5.out)
      refine ⟨hq.1.put0 _, hq.2.2.1.other HG.out.1.symm _, set_below hq.2.2.2 HG.out.2.1 _, HO5.out.1.keep fun a ha _ => Below.heap_setCell _ _ _ _ ?_⟩
      have h1 := HO5.out.2 a ha
      have h2 := (HN.out _ HB2.out).1.lt
      show a.block ≠ g2
      omega
    clear v0 v1 v2 v3 v4
    generalize w5.setCell ⟨g2, 0, none⟩ (.slice a5 (n1 + 1) c5) = W6 at *
    have v0 := HF.out.1.c0
    have v1 := HF.out.1.c1
    have v2 := HF.out.2.1.c0
    have v3 := HF.out.2.1.c1
    have v4 := HF.out.2.1.fz 0
    have v5 := HF.out.2.1.fz 1
    go_wp2
    have HC : P2 ((W6.setCell ⟨g4, 0, none⟩ (.slice a5 (n1 + 1) c5)).setCell ⟨g4, 1, none⟩ (.slice a2 n2 c2)) g4 (.slice a5 (n1 + 1) c5) (.slice a2 n2 c2) := (HF.out.2.1.put0 _).put1 _
    have HBf : Below w.heap.size w ((W6.setCell ⟨g4, 0, none⟩ (.slice a5 (n1 + 1) c5)).setCell ⟨g4, 1, none⟩ (.slice a2 n2 c2)) := set_below (set_below HF.out.2.2.1 HG.out.2.2 _) HG.out.2.2 _
    have HO : OwR wtC 4 29 ((W6.setCell ⟨g4, 0, none⟩ (.slice a5 (n1 + 1) c5)).setCell ⟨g4, 1, none⟩ (.slice a2 n2 c2)) a5 c5 (L ++ [x]) := by
      have h2 := (HN.out _ HB2.out).2.2.1.lt
      refine (HF.out.2.2.2.keep fun a ha _ => Below.heap_setCell _ _ _ _ ?_).keep fun a ha _ => Below.heap_setCell _ _ _ _ ?_
      all_goals
        have h1 := HO5.out.2 a ha
        show a.block ≠ g4
        omega
    generalize (W6.setCell ⟨g4, 0, none⟩ (.slice a5 (n1 + 1) c5)).setCell ⟨g4, 1, none⟩ (.slice a2 n2 c2) = Wf at *
    have f0 := HC.c0
    have f1 := HC.c1
    refine bodyPost_ret (by simp [results, Try.results16, go_sem, f0, f1]; try rfl) rfl ?_
    rw [HR.out.1, HR.out.2]
    refine ⟨a5, c5, by rw [List.length_append, HL.out.2]; rfl, HO.rd, .inr fun a ha => ⟨?_, (HO.lt a ha).1⟩, HBf⟩
    exact Nat.le_trans (HN.out _ HB2.out).2.2.2.size (HO5.out.2 a ha)
  · have e1 : addB L x = false := by rw [HE.out, hr, hh]; rfl
    have e2 : addL L x = L := by unfold addL; rw [e1]; rfl
    have HR : Hid (addB L x = false ∧ addL L x = L) := ⟨e1, e2⟩
    clear e1 e2
    go_upto_region 2 with (first
      | (go_at_call 38; refine (waits_any a1 n1 c1 a2 n2 c2 L x.c _ (HL.out.1.below (HN.out _ HB1.out).2.2.2) HL.out.2 (by omega)).mono ?_; rw [hh]; rintro e w2 ⟨rfl, hb2⟩; have HB2 : Hid (Below W0.heap.size W0 w2) := below_step HB1.out hb2; clear hb2)
      | (go_at_call 37; refine (right_any x _).mono ?_; rw [hr]; rintro e w1 ⟨rfl, hb1⟩; have HB1 : Hid (Below W0.heap.size W0 w1) := hb1; clear hb1; obtain ⟨y0, y1, y2, y3⟩ := wt_cells (HN.out _ HB1.out).2.1 (Below.refl _ _); have s0 := (HN.out _ HB1.out).1.c0; have s1 := (HN.out _ HB1.out).1.c1)
      | fail)
    clear hr hh
    have p0 := (HN.out _ HB2.out).1.c0
    have p1 := (HN.out _ HB2.out).1.c1
    have r0 := (HN.out _ HB2.out).2.2.1.fz 0
    have r1 := (HN.out _ HB2.out).2.2.1.fz 1
    have r2 := (HN.out _ HB2.out).2.2.1.c0
    have r3 := (HN.out _ HB2.out).2.2.1.c1
    go_wp2
    have HC : P2 ((w2.setCell ⟨g4, 0, none⟩ (.slice a1 n1 c1)).setCell ⟨g4, 1, none⟩ (.slice a2 n2 c2)) g4 (.slice a1 n1 c1) (.slice a2 n2 c2) := ((HN.out _ HB2.out).2.2.1.put0 _).put1 _
    have HBf : Below w.heap.size w ((w2.setCell ⟨g4, 0, none⟩ (.slice a1 n1 c1)).setCell ⟨g4, 1, none⟩ (.slice a2 n2 c2)) := set_below (set_below (HN.out _ HB2.out).2.2.2 HG.out.2.2 _) HG.out.2.2 _
    generalize (w2.setCell ⟨g4, 0, none⟩ (.slice a1 n1 c1)).setCell ⟨g4, 1, none⟩ (.slice a2 n2 c2) = Wf at *
    have f0 := HC.c0
    have f1 := HC.c1
    refine bodyPost_ret (by simp [results, Try.results16, go_sem, f0, f1]; try rfl) rfl ?_
    rw [HR.out.1, HR.out.2]
    exact ⟨a1, c1, by rw [HL.out.2], HL.out.1.below HBf, .refl _ _ _, HBf⟩

end Go.Proofs.Ytcjajckmcikhcaa
