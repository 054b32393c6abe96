/- The reference's copy of a drive, walked. -/
import Derived.Test.YtnapkcejpllmcaaR2
namespace Go.Proofs.Ytnapkcejpllmcaa
open Go.RowKit
set_option linter.unusedVariables false

theorem hs_alloc {A B C : Prop} {b : Nat} {W0 w : World} (o : Obj) (h : A ∧ B ∧ C ∧ Below b W0 w) (hb : b ≤ W0.heap.size) : Below b W0 (w.alloc o) := h.2.2.2.alloc (Nat.le_trans hb h.2.2.2.size) o
theorem hs_step {A B C : Prop} {b : Nat} {W0 w w' : World} (hs : Below w.heap.size w w') (h : A ∧ B ∧ C ∧ Below b W0 w) (hb : b ≤ W0.heap.size) : Below b W0 w' := h.2.2.2.trans (hs.mono (Nat.le_trans hb h.2.2.2.size))
theorem hs_set3 {A B C : Prop} {b : Nat} {W0 w : World} {p q r : Addr} {x y z : Value} (h : A ∧ B ∧ C ∧ Below b W0 w) (hp : b ≤ p.block) (hq : b ≤ q.block) (hr : b ≤ r.block) : Below b W0 (((w.setCell p x).setCell q y).setCell r z) := ((h.2.2.2.setCell hp x).setCell hq y).setCell hr z

theorem RdS.viaS {A B C : Prop} {w W0 w' : World} {ao : Option Addr} {cap : Nat} {xs : List Value} (h : RdS w ao cap xs) (hw : Below w.heap.size w W0) (hS : A ∧ B ∧ C ∧ Below (w.heap.size + 1) W0 w') : RdS w' ao cap xs := h.below (hw.trans (hS.2.2.2.mono (Nat.le_succ _)))

theorem Fresh.at {v w' : World} {e : TypeId} {ao : Option Addr} {cap : Nat} {ys : List Value} (h : Fresh v w' e ao cap ys) (b : Nat) (hb : b ≤ v.heap.size) : ys ≠ [] → ∃ o, ao = some ⟨o, 0, none⟩ ∧ b ≤ o ∧ o < w'.heap.size ∧ OwnS w' o e ao cap ys := by
  intro hy
  obtain ⟨h1, h2⟩ := h.own hy
  obtain ⟨o, e1, _, h4⟩ : ∃ o, ao = some ⟨o, 0, none⟩ ∧ v.heap.size ≤ o ∧ o < w'.heap.size := by
    obtain ⟨_, q2⟩ := h2
    rcases q2 with ⟨hv, hn⟩ | ⟨g, cp, cur, hv, hg, hh, _⟩
    · exact absurd (List.eq_nil_of_length_eq_zero hn) hy
    · simp only [Value.slice.injEq] at hv
      exact ⟨g, hv.1, hg, (Array.getElem?_eq_some_iff.1 hh).1⟩
  have e2 : o = v.heap.size := by rw [e1] at h1; simpa using h1
  subst e2
  exact ⟨_, e1, hb, h4, h2⟩

theorem OwnS.set_below {w : World} {base : Nat} {e : TypeId} {ao : Option Addr} {cap : Nat} {xs : List Value} (h : OwnS w base e ao cap xs) (a : Addr) (u : Value) (ha : a.block < base) : OwnS (w.setCell a u) base e ao cap xs := ownsRow_setCell_below h ha u

theorem OwnS.cellAt {w : World} {base : Nat} {e : TypeId} {g cap : Nat} {xs : List Value} (h : OwnS w base e (some ⟨g, 0, none⟩) cap xs) (j : Nat) (hj : j < xs.length) : w.cell? ⟨g, j, none⟩ = some xs[j] := by
  have := World.ownsRow.cellAt h j (by simpa using hj)
  rw [this]
  simp [hj]

theorem mkRefO {w wF : World} {V : Nat → Prop} {L : List Sec} (hle : L.length ≤ 6) (hB : Below w.heap.size w wF) (B1 B2 : Nat) (A0 A1 A2 : Option Addr) (C0 C1 C2 : Nat) (ps qs : List Pt)
    (hp1 : ps.map Pt.bs = L.map Sec.b) (hp2 : ∀ p ∈ ps, Rd8 w p.ao p.n p.cap p.bs ∧ In w V p.ao) (hq1 : qs.map Pt.bs = L.map Sec.s) (hq2 : ∀ p ∈ qs, Rd8 w p.ao p.n p.cap p.bs ∧ In w V p.ao)
    (s0 : Shp L.length A0 C0) (s1 : Shp L.length A1 C1) (s2 : Shp L.length A2 C2)
    (k0 : ps.map Pt.val ≠ [] → ∃ o, A0 = some ⟨o, 0, none⟩ ∧ w.heap.size + 2 ≤ o ∧ o < B1 ∧ OwnS wF o 22 A0 C0 (ps.map Pt.val))
    (k1 : qs.map Pt.val ≠ [] → ∃ o, A1 = some ⟨o, 0, none⟩ ∧ B1 ≤ o ∧ o < B2 ∧ OwnS wF o 22 A1 C1 (qs.map Pt.val))
    (k2 : L.map (fun x => Value.bool x.l) ≠ [] → ∃ o, A2 = some ⟨o, 0, none⟩ ∧ B2 ≤ o ∧ OwnS wF o 4 A2 C2 (L.map fun x => Value.bool x.l)) :
    RefO wF (fun k => V k ∧ k < w.heap.size) w.heap.size A0 C0 A1 C1 A2 C2 L := by
  have hpl : ps.length = L.length := by have := congrArg List.length hp1; simpa using this
  have hql : qs.length = L.length := by have := congrArg List.length hq1; simpa using this
  refine ⟨hle, s0, s1, s2, fun k hk => hk.2, fun hL => ?_⟩
  have hLp : 0 < L.length := List.length_pos_iff.2 hL
  obtain ⟨o0, rfl, b0, l0, w0⟩ := k0 (by intro e; have := congrArg List.length e; rw [List.length_map, List.length_nil] at this; omega)
  obtain ⟨o1, rfl, b1, l1, w1⟩ := k1 (by intro e; have := congrArg List.length e; rw [List.length_map, List.length_nil] at this; omega)
  obtain ⟨o2, rfl, b2, w2⟩ := k2 (by intro e; have := congrArg List.length e; rw [List.length_map, List.length_nil] at this; omega)
  have lt : ∀ {o : Nat} {e : TypeId} {c : Nat} {xs : List Value}, OwnS wF o e (some ⟨o, 0, none⟩) c xs → o < wF.heap.size := fun h => (h.inn ⟨_, 0, none⟩ rfl).2
  refine ⟨o0, o1, o2, rfl, rfl, rfl, ⟨fun i hi => ?_, fun i hi => ?_, fun i hi => ?_, ⟨lt w0, lt w1, lt w2⟩⟩, by omega, by omega, by omega, fun j => World.ownsRow.frozenAt w0 j, fun j => World.ownsRow.frozenAt w1 j, fun j => World.ownsRow.frozenAt w2 j⟩
  · have hi' : i < ps.length := by omega
    have hc := w0.cellAt i (by simpa using hi')
    simp only [List.getElem_map, Pt.val] at hc
    obtain ⟨r1, r2⟩ := hp2 ps[i] (List.getElem_mem _)
    have eb : ps[i].bs = L[i].b := by
      have : (ps.map Pt.bs)[i]? = (L.map Sec.b)[i]? := by rw [hp1]
      simpa [hi, hi'] using this
    rw [← eb]
    exact ⟨_, _, _, hc, r1.below hB, r2.mono hB.size fun k hk hv => ⟨hv, hk⟩⟩
  · have hi' : i < qs.length := by omega
    have hc := w1.cellAt i (by simpa using hi')
    simp only [List.getElem_map, Pt.val] at hc
    obtain ⟨r1, r2⟩ := hq2 qs[i] (List.getElem_mem _)
    have eb : qs[i].bs = L[i].s := by
      have : (qs.map Pt.bs)[i]? = (L.map Sec.s)[i]? := by rw [hq1]
      simpa [hi, hi'] using this
    rw [← eb]
    exact ⟨_, _, _, hc, r1.below hB, r2.mono hB.size fun k hk hv => ⟨hv, hk⟩⟩
  · have hc := w2.cellAt i (by simpa using hi)
    simpa using hc

theorem below_alloc1 {w w' : World} {o : Obj} (h : Below (w.alloc o).heap.size (w.alloc o) w') : Below w.heap.size w w' := below_alloc (h.mono (by simp))

theorem one_slices (ps : List Pt) : ∀ u ∈ ps.map Pt.val, u.oneCell' = true := by
  intro u hu
  obtain ⟨p, _, rfl⟩ := List.mem_map.1 hu
  rfl

theorem one_bools (L : List Sec) : ∀ u ∈ L.map (fun x => Value.bool x.l), u.oneCell' = true := by
  intro u hu
  obtain ⟨p, _, rfl⟩ := List.mem_map.1 hu
  rfl

set_option maxRecDepth 100000 in
set_option maxHeartbeats 6400000 in
theorem refCopied_any (V : Nat → Prop) (a0 a1 a2 : Option Addr) (c0 c1 c2 n : Nat) (L : List Sec) (w : World) (h : Ref w V a0 c0 a1 c1 a2 c2 L) (hn : L.length = n) :
    Calls Try.prog 27 #[.agg #[.slice a0 n c0, .slice a1 n c1, .slice a2 n c2]] w fun e w' => ∃ A0 C0 A1 C1 A2 C2, e = .returned (.agg #[.slice A0 n C0, .slice A1 n C1, .slice A2 n C2]) ∧ RefO w' (fun k => V k ∧ k < w.heap.size) w.heap.size A0 C0 A1 C1 A2 C2 L ∧ Below w.heap.size w w' := by
  obtain ⟨ps, hN, hp1, hp2⟩ := h.now
  obtain ⟨qs, hS1, hq1, hq2⟩ := h.sta
  have hL := h.loo
  have hle := h.le
  have hpl : ps.length = L.length := by have := congrArg List.length hp1; simpa using this
  have hql : qs.length = L.length := by have := congrArg List.length hq1; simpa using this
  have HP : Hid (∀ p ∈ ps, Rd8 w p.ao p.n p.cap p.bs ∧ In w V p.ao) := hp2
  have HQ : Hid (∀ p ∈ qs, Rd8 w p.ao p.n p.cap p.bs ∧ In w V p.ao) := hq2
  have HP1 : Hid (ps.map Pt.bs = L.map Sec.b) := hp1
  have HQ1 : Hid (qs.map Pt.bs = L.map Sec.s) := hq1
  clear hp1 hp2 hq1 hq2
  have hW : Below w.heap.size w ((w.alloc (.cells #[.slice a0 n c0, .slice a1 n c1, .slice a2 n c2] 34)).alloc (.cells #[.slice none 0 0, .slice none 0 0, .slice none 0 0] 34)) := ((Below.refl _ _).alloc (Nat.le_refl _) _).alloc (by simp) _
  have hbx : ((w.alloc (.cells #[.slice a0 n c0, .slice a1 n c1, .slice a2 n c2] 34)).alloc (.cells #[.slice none 0 0, .slice none 0 0, .slice none 0 0] 34)).heap[w.heap.size]? = some (.cells #[.slice a0 n c0, .slice a1 n c1, .slice a2 n c2] 34) := by
    rw [Below.heap_alloc _ _ _ (by simp)]; exact heap_alloc_new w _
  have hrx : ((w.alloc (.cells #[.slice a0 n c0, .slice a1 n c1, .slice a2 n c2] 34)).alloc (.cells #[.slice none 0 0, .slice none 0 0, .slice none 0 0] 34)).heap[w.heap.size + 1]? = some (.cells #[.slice none 0 0, .slice none 0 0, .slice none 0 0] 34) := by
    have := heap_alloc_new (w.alloc (.cells #[.slice a0 n c0, .slice a1 n c1, .slice a2 n c2] 34)) (.cells #[.slice none 0 0, .slice none 0 0, .slice none 0 0] 34)
    simpa using this
  have hC : Hid (∀ W' : World, Below (w.heap.size + 1) ((w.alloc (.cells #[.slice a0 n c0, .slice a1 n c1, .slice a2 n c2] 34)).alloc (.cells #[.slice none 0 0, .slice none 0 0, .slice none 0 0] 34)) W' → W'.cell? ⟨w.heap.size, 0, none⟩ = some (.slice a0 n c0) ∧ W'.cell? ⟨w.heap.size, 1, none⟩ = some (.slice a1 n c1) ∧ W'.cell? ⟨w.heap.size, 2, none⟩ = some (.slice a2 n c2) ∧ Below (w.heap.size + 1) ((w.alloc (.cells #[.slice a0 n c0, .slice a1 n c1, .slice a2 n c2] 34)).alloc (.cells #[.slice none 0 0, .slice none 0 0, .slice none 0 0] 34)) W') := by
    intro W' hb
    have hh := (hb.block w.heap.size (by omega)).trans hbx
    exact ⟨by rw [cell_of_row _ _ _ _ _ _ hh]; rfl, by rw [cell_of_row _ _ _ _ _ _ hh]; rfl, by rw [cell_of_row _ _ _ _ _ _ hh]; rfl, hb⟩
  have HR : Hid (((w.alloc (.cells #[.slice a0 n c0, .slice a1 n c1, .slice a2 n c2] 34)).alloc (.cells #[.slice none 0 0, .slice none 0 0, .slice none 0 0] 34)).heap[w.heap.size + 1]? = some (.cells #[.slice none 0 0, .slice none 0 0, .slice none 0 0] 34)) := hrx
  clear hbx hrx
  go_enter Try.func27, Try.ntmps27
  go_wp2
  go_region_held_law (fun W' => W'.cell? ⟨w.heap.size, 0, none⟩ = some (.slice a0 n c0) ∧ W'.cell? ⟨w.heap.size, 1, none⟩ = some (.slice a1 n c1) ∧ W'.cell? ⟨w.heap.size, 2, none⟩ = some (.slice a2 n c2) ∧ Below (w.heap.size + 1) ((w.alloc (.cells #[.slice a0 n c0, .slice a1 n c1, .slice a2 n c2] 34)).alloc (.cells #[.slice none 0 0, .slice none 0 0, .slice none 0 0] 34)) W')
    (first
      | exact hC.out _ (Below.refl _ _).drew
      | exact hC.out _ ((Below.refl _ _).alloc (by simp) _).drew
      | exact hC.out _ (((Below.refl _ _).alloc (by simp) _).alloc (by simp <;> omega) _).drew
      | exact hC.out _ ((((Below.refl _ _).alloc (by simp) _).alloc (by simp <;> omega) _).alloc (by simp <;> omega) _).drew
      | exact hC.out _ hY2
      | exact hC.out _ hY1
      | exact hC.out _ hY0
      | exact hC.out _ (hY2.alloc (Nat.le_trans (by simp) hY2.size) _)
      | exact hC.out _ (hY1.alloc (Nat.le_trans (by simp) hY1.size) _)
      | exact hC.out _ (hY0.alloc (Nat.le_trans (by simp) hY0.size) _)
      | exact hC.out _ ((hY0.alloc (by omega) _).alloc (by simp <;> omega) _)
      | exact hC.out _ (((hY2.setCell (Nat.le_refl _) _).setCell (Nat.le_refl _) _).setCell (Nat.le_refl _) _)
      | fail)
    ((first
      | (refine step_append_new (m := n) _ (by rfl) (.tmp 3) (.tmp 5) 31 (by rfl) 22 (.slice none 0 0) 24 Try.underlying31 info22 rfl (by rfl) (by rfl) (RdS.viaS hN hW (by assumption)) (by rw [List.length_map]; omega) (one_slices _) (by omega) (by unfold maxLen; omega) ?_; intro A0 C0 w1 hF0; have hb0 := hF0.below; have hK0 := hF0.at (w.heap.size + 2) (by simp <;> omega); have hB0 : Below (w.heap.size + 2) ((w.alloc (.cells #[.slice a0 n c0, .slice a1 n c1, .slice a2 n c2] 34)).alloc (.cells #[.slice none 0 0, .slice none 0 0, .slice none 0 0] 34)) w1 := (by first | exact (((Below.refl _ _).alloc (by simp) _).drew).trans (hb0.mono (by simp)) | exact ((((Below.refl _ _).alloc (by simp) _).alloc (by simp) _).drew).trans (hb0.mono (by simp <;> omega)) | exact (((((Below.refl _ _).alloc (by simp) _).alloc (by simp) _).alloc (by simp <;> omega) _).drew).trans (hb0.mono (by simp <;> omega))); have hY0 : Below (w.heap.size + 1) ((w.alloc (.cells #[.slice a0 n c0, .slice a1 n c1, .slice a2 n c2] 34)).alloc (.cells #[.slice none 0 0, .slice none 0 0, .slice none 0 0] 34)) w1 := hB0.mono (by omega); have hz0 : w.heap.size + 2 ≤ w1.heap.size := (by have := hB0.size; simpa using this))
      | (refine step_append_new (m := n) _ (by rfl) (.tmp 7) (.tmp 9) 31 (by rfl) 22 (.slice none 0 0) 24 Try.underlying31 info22 rfl (by rfl) (by rfl) (RdS.viaS hS1 hW (by assumption)) (by rw [List.length_map]; omega) (one_slices _) (by omega) (by unfold maxLen; omega) ?_; intro A1 C1 w2 hF1; have hb1 := hF1.below; have hK1 := hF1.at w1.heap.size (by first | exact Nat.le_refl _ | (simp <;> omega)); have hB1 : Below w1.heap.size w1 w2 := (by first | exact hb1 | exact below_alloc1 hb1 | exact below_alloc1 (below_alloc1 hb1)); have hY1 : Below (w.heap.size + 1) ((w.alloc (.cells #[.slice a0 n c0, .slice a1 n c1, .slice a2 n c2] 34)).alloc (.cells #[.slice none 0 0, .slice none 0 0, .slice none 0 0] 34)) w2 := hY0.trans (hB1.mono (by omega)); have hz1 := hB1.size)
      | (refine step_append_new (m := n) _ (by rfl) (.tmp 11) (.tmp 13) 32 (by rfl) 4 (.bool false) 1 Try.underlying32 info4 rfl (by rfl) (by rfl) (RdS.viaS hL hW (by assumption)) (by rw [List.length_map]; omega) (one_bools _) (by omega) (by unfold maxLen; omega) ?_; intro A2 C2 w3 hF2; have hb2 := hF2.below; have hK2 := hF2.at w2.heap.size (by first | exact Nat.le_refl _ | (simp <;> omega)); have hB2 : Below w2.heap.size w2 w3 := (by first | exact hb2 | exact below_alloc1 hb2 | exact below_alloc1 (below_alloc1 hb2)); have hY2 : Below (w.heap.size + 1) ((w.alloc (.cells #[.slice a0 n c0, .slice a1 n c1, .slice a2 n c2] 34)).alloc (.cells #[.slice none 0 0, .slice none 0 0, .slice none 0 0] 34)) w3 := hY1.trans (hB2.mono (by omega)); have hz2 := hB2.size; have hR3 := (hB2.block (w.heap.size + 1) (by omega)).trans ((hB1.block (w.heap.size + 1) (by omega)).trans ((hB0.block (w.heap.size + 1) (by omega)).trans HR.out)); have hr0 : w3.cell? ⟨w.heap.size + 1, 0, none⟩ = some (.slice none 0 0) := (by rw [cell_of_row _ _ _ _ _ _ hR3]; rfl); have hr1 : w3.cell? ⟨w.heap.size + 1, 1, none⟩ = some (.slice none 0 0) := (by rw [cell_of_row _ _ _ _ _ _ hR3]; rfl); have hr2 : w3.cell? ⟨w.heap.size + 1, 2, none⟩ = some (.slice none 0 0) := (by rw [cell_of_row _ _ _ _ _ _ hR3]; rfl); have hf0 : w3.frozen? ⟨w.heap.size + 1, 0, none⟩ = false := frozen_of_row _ _ _ _ _ hR3; have hf1 : w3.frozen? ⟨w.heap.size + 1, 1, none⟩ = false := frozen_of_row _ _ _ _ _ hR3; have hf2 : w3.frozen? ⟨w.heap.size + 1, 2, none⟩ = false := frozen_of_row _ _ _ _ _ hR3; clear hR3)))
  all_goals
    have hx0 : (((w3.setCell ⟨w.heap.size + 1, 0, none⟩ (.slice A0 n C0)).setCell ⟨w.heap.size + 1, 1, none⟩ (.slice A1 n C1)).setCell ⟨w.heap.size + 1, 2, none⟩ (.slice A2 n C2)).cell? ⟨w.heap.size + 1, 0, none⟩ = some (.slice A0 n C0) := by
      rw [put_other _ _ _ _ _ (by omega), put_other _ _ _ _ _ (by omega)]; exact World.cell?_setCell_same _ _ _ hr0
    have hx1 : (((w3.setCell ⟨w.heap.size + 1, 0, none⟩ (.slice A0 n C0)).setCell ⟨w.heap.size + 1, 1, none⟩ (.slice A1 n C1)).setCell ⟨w.heap.size + 1, 2, none⟩ (.slice A2 n C2)).cell? ⟨w.heap.size + 1, 1, none⟩ = some (.slice A1 n C1) := by
      rw [put_other _ _ _ _ _ (by omega)]; exact World.cell?_setCell_same _ _ _ ((put_other _ _ _ _ _ (by omega)).trans hr1)
    have hx2 : (((w3.setCell ⟨w.heap.size + 1, 0, none⟩ (.slice A0 n C0)).setCell ⟨w.heap.size + 1, 1, none⟩ (.slice A1 n C1)).setCell ⟨w.heap.size + 1, 2, none⟩ (.slice A2 n C2)).cell? ⟨w.heap.size + 1, 2, none⟩ = some (.slice A2 n C2) :=
      World.cell?_setCell_same _ _ _ ((put_other _ _ _ _ _ (by omega)).trans ((put_other _ _ _ _ _ (by omega)).trans hr2))
    have hBF : Below w.heap.size w (((w3.setCell ⟨w.heap.size + 1, 0, none⟩ (.slice A0 n C0)).setCell ⟨w.heap.size + 1, 1, none⟩ (.slice A1 n C1)).setCell ⟨w.heap.size + 1, 2, none⟩ (.slice A2 n C2)) :=
      hW.trans ((((hY2.mono (Nat.le_succ _)).setCell (Nat.le_succ _) _).setCell (Nat.le_succ _) _).setCell (Nat.le_succ _) _)
    have hRF : RefO (((w3.setCell ⟨w.heap.size + 1, 0, none⟩ (.slice A0 n C0)).setCell ⟨w.heap.size + 1, 1, none⟩ (.slice A1 n C1)).setCell ⟨w.heap.size + 1, 2, none⟩ (.slice A2 n C2)) (fun k => V k ∧ k < w.heap.size) w.heap.size A0 C0 A1 C1 A2 C2 L := by
      refine mkRefO (w := w) hle hBF w1.heap.size w2.heap.size A0 A1 A2 C0 C1 C2 ps qs HP1.out HP.out HQ1.out HQ.out ⟨by have := hF0.le; simp at this; omega, hF0.mx, hF0.nil⟩ ⟨by have := hF1.le; simp at this; omega, hF1.mx, hF1.nil⟩ ⟨by have := hF2.le; simp at this; omega, hF2.mx, hF2.nil⟩ (fun hne => ?_) (fun hne => ?_) (fun hne => ?_)
      · obtain ⟨o, e1, h2, h3, h4⟩ := hK0 hne
        exact ⟨o, e1, h2, h3, ((((h4.below hB1).below hB2).set_below _ _ (show w.heap.size + 1 < o by omega)).set_below _ _ (show w.heap.size + 1 < o by omega)).set_below _ _ (show w.heap.size + 1 < o by omega)⟩
      · obtain ⟨o, e1, h2, h3, h4⟩ := hK1 hne
        exact ⟨o, e1, h2, h3, (((h4.below hB2).set_below _ _ (show w.heap.size + 1 < o by omega)).set_below _ _ (show w.heap.size + 1 < o by omega)).set_below _ _ (show w.heap.size + 1 < o by omega)⟩
      · obtain ⟨o, e1, h2, h3, h4⟩ := hK2 hne
        exact ⟨o, e1, h2, ((h4.set_below _ _ (show w.heap.size + 1 < o by omega)).set_below _ _ (show w.heap.size + 1 < o by omega)).set_below _ _ (show w.heap.size + 1 < o by omega)⟩
    go_wp2
    refine bodyPost_ret (by simp [results, Try.results27, go_sem, hx0, hx1, hx2]; try rfl) rfl ?_
    exact ⟨A0, C0, A1, C1, A2, C2, rfl, hRF, hBF⟩

end Go.Proofs.Ytnapkcejpllmcaa
