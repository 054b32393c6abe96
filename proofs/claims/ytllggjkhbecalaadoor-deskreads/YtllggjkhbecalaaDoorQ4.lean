/- Add and Remove of package queue, walked. -/
import Derived.Test.YtllggjkhbecalaaDoorQ3
import Derived.Test.YtllggjkhbecalaaDoorRh
import Derived.Deep.DeepCutAuto
namespace Go.Proofs.YtllggjkhbecalaaDoor
open Go.RowKit Go.Maps
set_option linter.unusedVariables false
set_option maxRecDepth 8000

theorem Qu.stored {w w6 : World} {A : Nat → Prop} {q : Nat} {ao : Option Addr} {cap b : Nat} {L : List Wt} {C : Cl} {n : Nat} (H : Qu w A q ao cap b L C n) (hg : w.grownBy w6 (ao.map (·.block))) {ao3 : Option Addr} {cap3 m3 : Nat} {L3 : List Wt} (ho : OwR wtC 4 43 w6 ao3 cap3 L3) (hm : L3.length = m3) (hloc : ao3 = ao ∨ ∃ g, ao3 = some ⟨g, 0, none⟩ ∧ w.heap.size ≤ g) :
    Nx w (w6.setCell ⟨q, 0, none⟩ (.slice ao3 m3 cap3)) A q L3 C n := by
  subst hm
  have hq : w6.heap[q]? = some (.cells #[.slice ao L.length cap, .map (some b)] 77 (0, 0)) := by
    refine (hg.block q H.lt ?_).trans H.blk
    intro e
    cases ao with
    | none => cases e
    | some a => exact (H.ner a rfl).1 (by simpa using e.symm)
  have hb : w6.heap[b]? = w.heap[b]? := by
    refine hg.block b H.map.lt ?_
    intro e
    cases ao with
    | none => cases e
    | some a => exact (H.ner a rfl).2 (by simpa using e.symm)
  have hne : ∀ a, ao3 = some a → a.block ≠ q := by
    intro a ha e
    obtain ⟨_, cur, h1⟩ := ho.lt a ha
    rw [e, hq] at h1
    cases h1
  refine ⟨⟨ao3, cap3, b, ⟨?_, ho.keep fun a ha _ => Below.heap_setCell _ _ _ _ (hne a ha), H.map.keep ((Below.heap_setCell _ _ _ _ H.ne).trans hb), .inl H.aq, .inl H.ab, ?_⟩⟩, ?_⟩
  · rw [heap_setCell_same w6 q 0 _ 77 _ hq]; rfl
  · intro a ha
    rcases hloc with rfl | ⟨g, rfl, hgl⟩
    · exact .inl (H.ar a ha)
    · cases ha
      exact .inr hgl
  · refine OffS.setCell (OffS.grown hg fun k hk => ?_) H.aq _
    cases ao with
    | none => cases hk
    | some a =>
      have : a.block = k := by simpa using hk
      rw [← this]
      exact H.ar a rfl

theorem Nx.of_below {w w' : World} {A : Nat → Prop} {q : Nat} {L : List Wt} {C : Cl} {n : Nat} (h : Qw w A q L C n) (hb : Below w.heap.size w w') : Nx w w' A q L C n :=
  ⟨(h.below hb).mono fun k _ hk => .inl hk, .of_below hb⟩
/-- Ahead of a step nothing old has turned. -/
theorem Nx.older {w w1 w' : World} {A : Nat → Prop} {q : Nat} {L : List Wt} {C : Cl} {n : Nat} (hb : Below w.heap.size w w1) (h : Nx w1 w' A q L C n) : Nx w w' A q L C n :=
  ⟨h.1.mono fun k _ hk => hk.imp id fun h' => Nat.le_trans hb.size h', (OffS.of_below hb).trans (h.2.mono fun k hk => .inl hk)⟩

def addB (L : List Wt) (x : Wt) : Bool := cliB x.c && (objB x.p x.o && !decide (0 ≤ plZ L x.c))
def addL (L : List Wt) (x : Wt) : List Wt := if addB L x then L ++ [x] else L

set_option maxHeartbeats 1600000 in
theorem add_any (w : World) (A : Nat → Prop) (q : Nat) (L : List Wt) (C : Cl) (n : Nat) (H : Qw w A q L C n) (hl : L.length ≤ 1000000) (x : Wt) :
    Calls Tryd.prog 15 #[qp q, wtV x] w fun e w' => e = .returned (.bool (addB L x)) ∧ Nx w w' A q (addL L x) C n := by
  have HW : Hid (Qw w A q L C n) := H
  obtain ⟨ao, cap, b, H⟩ := H
  have hb0 : Below w.heap.size w (w.alloc (wtO x)) := (Below.refl _ _).alloc (Nat.le_refl _) _
  have HP : Hid (Calls Tryd.prog 32 #[qp q, .int .i64 x.c] (w.alloc (wtO x)) fun e w' => e = .returned (.int .i64 (plZ L x.c)) ∧ Below w.heap.size w w' ∧ w'.heap[w.heap.size]? = some (wtO x)) := by
    refine (place_any _ A q ao cap b L C n (H.below hb0) hl x.c).mono ?_
    rintro e w' ⟨rfl, hb⟩
    exact ⟨rfl, below_step hb0 hb, (hb.block _ (by simp)).trans (heap_alloc_new w _)⟩
  have HB0 : Hid (Below w.heap.size w (w.alloc (wtO x))) := hb0
  clear hb0
  cases h1 : cliB x.c
  · have e1 : addB L x = false := by simp [addB, h1]
    have e2 : addL L x = L := by simp [addL, e1]
    rw [e1, e2]
    clear e1 e2 H HP
    go_enter Tryd.func15, Tryd.ntmps15
    go_wp2_with (first
      | (go_at_call 30; refine (isClient_any _ _).mono ?_; rw [h1]; rintro e w1 ⟨rfl, hw1⟩; subst w1)
      | fail)
    go_ret
    exact ⟨rfl, Nx.of_below HW.out HB0.out⟩
  cases h2 : objB x.p x.o
  · have e1 : addB L x = false := by simp [addB, h2]
    have e2 : addL L x = L := by simp [addL, e1]
    rw [e1, e2]
    clear e1 e2 H HP
    go_enter Tryd.func15, Tryd.ntmps15
    go_wp2_with (first
      | (go_at_call 31; refine (isObject_any _ _ _).mono ?_; rw [h2]; rintro e w2 ⟨rfl, hw2⟩; subst w2)
      | (go_at_call 30; refine (isClient_any _ _).mono ?_; rw [h1]; rintro e w1 ⟨rfl, hw1⟩; subst w1)
      | fail)
    go_ret
    exact ⟨rfl, Nx.of_below HW.out HB0.out⟩
  obtain ⟨z, hz⟩ : ∃ z, plZ L x.c = z := ⟨_, rfl⟩
  rw [hz] at HP
  by_cases h3 : 0 ≤ z
  · have e1 : addB L x = false := by simp [addB, hz, h3]
    have e2 : addL L x = L := by simp [addL, e1]
    rw [e1, e2]
    clear e1 e2 H hz
    have h3' : decide (z ≥ 0) = true := by simpa using h3
    go_enter Tryd.func15, Tryd.ntmps15
    go_wp2_with (first
      | (go_at_call 32; refine HP.out.mono ?_; rintro e w3 ⟨rfl, hb3, hx3⟩)
      | (go_at_call 31; refine (isObject_any _ _ _).mono ?_; rw [h2]; rintro e w2 ⟨rfl, hw2⟩; subst w2)
      | (go_at_call 30; refine (isClient_any _ _).mono ?_; rw [h1]; rintro e w1 ⟨rfl, hw1⟩; subst w1)
      | fail)
    go_ret
    exact ⟨rfl, Nx.of_below HW.out hb3⟩
  · have e1 : addB L x = true := by simp only [addB, h1, h2, hz, Bool.true_and]; simp; omega
    have e2 : addL L x = L ++ [x] := by simp [addL, e1]
    rw [e1, e2]
    obtain ⟨m, hm⟩ : ∃ m, L.length = m := ⟨_, rfl⟩
    have HM : Hid (L.length = m ∧ Qu w A q ao cap b L C n) := ⟨hm, H⟩
    have hq := H.lt
    rw [hm] at hl
    clear e1 e2 hz H hm HW
    have h3' : decide (z ≥ 0) = false := by simpa using h3
    go_enter Tryd.func15, Tryd.ntmps15
    go_upto_region 3 with (first
      | (go_at_call 32; refine HP.out.mono ?_; rintro e W ⟨rfl, hb3, hx3⟩)
      | (go_at_call 31; refine (isObject_any _ _ _).mono ?_; rw [h2]; rintro e w2 ⟨rfl, hw2⟩; subst w2)
      | (go_at_call 30; refine (isClient_any _ _).mono ?_; rw [h1]; rintro e w1 ⟨rfl, hw1⟩; subst w1)
      | fail)
    have HQ : Hid (Qu W A q ao cap b L C n) := HM.out.2.below hb3
    have HX : Hid (∀ V : World, V.heap[q]? = W.heap[q]? → V.heap[w.heap.size]? = W.heap[w.heap.size]? → V.cell? ⟨q, 0, none⟩ = some (.slice ao m cap) ∧ V.cell? ⟨w.heap.size, 0, none⟩ = some (.int .i64 x.c) ∧ V.cell? ⟨w.heap.size, 1, none⟩ = some (.int .i64 x.p) ∧ V.cell? ⟨w.heap.size, 2, none⟩ = some (.int .i64 x.o) ∧ V.cell? ⟨w.heap.size, 3, none⟩ = some (.bool x.wr) ∧ V.frozen? ⟨q, 0, none⟩ = false) := fun V hV1 hV2 => by
      have a1 := hV1.trans HQ.out.blk
      have a2 := hV2.trans hx3
      rw [HM.out.1] at a1
      refine ⟨?_, ?_, ?_, ?_, ?_, frozen_of_row _ _ _ _ _ a1⟩
      · rw [cell_of_row _ _ _ _ _ _ a1]; rfl
      all_goals rw [cell_of_row _ _ _ _ _ _ a2]; rfl
    have hF0 := HX.out W.drew rfl rfl
    have hbA : Below W.heap.size W (W.alloc (wtO x)).drew := ⟨rfl, rfl, rfl, by simp, fun k hk => Below.heap_alloc W _ k hk⟩
    have hbx : w.heap.size < W.heap.size := (Array.getElem?_eq_some_iff.1 hx3).1
    have hqW : q < W.heap.size := by omega
    have hF1 := HX.out (W.alloc (wtO x)).drew (hbA.block _ hqW) (hbA.block _ hbx)
    refine wp_region_till (fun V => V.cell? ⟨q, 0, none⟩ = some (.slice ao m cap) ∧ V.cell? ⟨w.heap.size, 0, none⟩ = some (.int .i64 x.c) ∧ V.cell? ⟨w.heap.size, 1, none⟩ = some (.int .i64 x.p) ∧ V.cell? ⟨w.heap.size, 2, none⟩ = some (.int .i64 x.o) ∧ V.cell? ⟨w.heap.size, 3, none⟩ = some (.bool x.wr) ∧ V.frozen? ⟨q, 0, none⟩ = false) 10 (by kernel_rfl) ?_
    refine Till.val (i := 0) ?_ 24 rfl rfl rfl (by kernel_rfl) (by decide) (by kernel_rfl) (by kernel_rfl) (by kernel_rfl) (by kernel_rfl) (by rfl) (fun _ _ _ h => h) hF0 ?_ ?_
    rotate_left
    · (intro w hSw; obtain ⟨c1, c2, c3, c4, c5, c6⟩ := hSw; go_simp; first | done | with_reducible rfl)
    simp only [Act.put, List.setIfInBounds_toArray, List.set_cons_zero, List.set_cons_succ]
    refine Till.val (i := 1) ?_ 25 rfl rfl rfl (by kernel_rfl) (by decide) (by kernel_rfl) (by kernel_rfl) (by kernel_rfl) (by kernel_rfl) (by rfl) (fun _ _ _ h => h) hF0 ?_ ?_
    rotate_left
    · (intro w hSw; obtain ⟨c1, c2, c3, c4, c5, c6⟩ := hSw; go_simp; first | done | with_reducible rfl)
    simp only [Act.put, List.setIfInBounds_toArray, List.set_cons_zero, List.set_cons_succ]
    refine Till.val (i := 2) ?_ 26 rfl rfl rfl (by kernel_rfl) (by decide) (by kernel_rfl) (by kernel_rfl) (by kernel_rfl) (by kernel_rfl) (by rfl) (fun _ _ _ h => h) hF0 ?_ ?_
    rotate_left
    · (intro w hSw; obtain ⟨c1, c2, c3, c4, c5, c6⟩ := hSw; go_simp; first | done | with_reducible rfl)
    simp only [Act.put, List.setIfInBounds_toArray, List.set_cons_zero, List.set_cons_succ]
    refine Till.val (i := 3) ?_ 27 rfl rfl rfl (by kernel_rfl) (by decide) (by kernel_rfl) (by kernel_rfl) (by kernel_rfl) (by kernel_rfl) (by rfl) (fun _ _ _ h => h) hF0 ?_ ?_
    rotate_left
    · (intro w hSw; obtain ⟨c1, c2, c3, c4, c5, c6⟩ := hSw; go_simp; first | done | with_reducible rfl)
    simp only [Act.put, List.setIfInBounds_toArray, List.set_cons_zero, List.set_cons_succ]
    refine Till.val (i := 4) ?_ 28 rfl rfl rfl (by kernel_rfl) (by decide) (by kernel_rfl) (by kernel_rfl) (by kernel_rfl) (by kernel_rfl) (by rfl) (fun _ _ _ h => h) hF0 ?_ ?_
    rotate_left
    · (intro w hSw; obtain ⟨c1, c2, c3, c4, c5, c6⟩ := hSw; go_simp; first | done | with_reducible rfl)
    simp only [Act.put, List.setIfInBounds_toArray, List.set_cons_zero, List.set_cons_succ]
    refine Till.val (i := 5) ?_ 29 rfl rfl rfl (by kernel_rfl) (by decide) (by kernel_rfl) (by kernel_rfl) (by kernel_rfl) (by kernel_rfl) (by rfl) (fun _ _ _ h => h) hF0 ?_ ?_
    rotate_left
    · (intro w hSw; obtain ⟨c1, c2, c3, c4, c5, c6⟩ := hSw; go_simp; first | done | with_reducible rfl)
    simp only [Act.put, List.setIfInBounds_toArray, List.set_cons_zero, List.set_cons_succ]
    refine Till.run (i := 6) 30 (.slice (some ⟨W.heap.size, 0, none⟩) 1 1) (W.alloc (wtO x)).drew rfl rfl (by kernel_rfl) (by rfl) (by go_simp) hF1 ?_
    simp only [Act.put, List.setIfInBounds_toArray, List.set_cons_zero, List.set_cons_succ]
    refine till_append_R wtE (i := 7) (n := m) (m := 1) (L := L) (M := [x]) 31 (.tmp 28) (.tmp 30) 38 rfl rfl (by kernel_rfl) (by rfl) rfl 43 _ 32 Tryd.underlying38 info29 rfl rfl rfl ((HQ.out.below hbA).own) (RdR.drew (RdR.built wtE W 43 _ [x] rfl 1 rfl (by unfold maxLen; omega))) HM.out.1 rfl (by omega) (by unfold maxLen; omega) ?_
    intro ao3 cap3 w6 ho6 hg6 ha6
    have hk6 : ∀ k, k < W.heap.size → some k ≠ ao.map (·.block) → w6.heap[k]? = W.heap[k]? := fun k hk hne => (hg6.block k (by have := hbA.size; omega) hne).trans (hbA.block k hk)
    have hnq : some q ≠ ao.map (·.block) := by
      intro e
      cases ao with
      | none => cases e
      | some a => exact (HQ.out.ner a rfl).1 (by simpa using e.symm)
    have hnx : some w.heap.size ≠ ao.map (·.block) := by
      intro e
      cases ao with
      | none => cases e
      | some a =>
        have := (HM.out.2.own.lt a rfl).1
        have e' : w.heap.size = a.block := by simpa using e
        omega
    have hF6 := HX.out w6 (hk6 q hqW hnq) (hk6 _ hbx hnx)
    refine ⟨hF6, ?_⟩
    simp only [Act.put, List.setIfInBounds_toArray, List.set_cons_zero, List.set_cons_succ]
    refine Till.run (i := 8) 32 (qp q) w6 rfl rfl (by kernel_rfl) (by rfl) (by go_simp) hF6 ?_
    simp only [Act.put, List.setIfInBounds_toArray, List.set_cons_zero, List.set_cons_succ]
    refine Till.run (i := 9) 33 (qp q) w6 rfl rfl (by kernel_rfl) (by rfl) (by go_simp) hF6 ?_
    simp only [Act.put, List.setIfInBounds_toArray, List.set_cons_zero, List.set_cons_succ]
    have hN : Nx w (w6.setCell ⟨q, 0, none⟩ (.slice ao3 (m + 1) cap3)) A q (L ++ [x]) C n := by
      refine Nx.older hb3 (HQ.out.stored (w6 := w6) ⟨hg6.os, hg6.tape, hg6.output, Nat.le_trans hbA.size hg6.size, hk6⟩ ho6 (by rw [List.length_append, HM.out.1]; rfl) ?_)
      rcases ha6 with rfl | rfl
      · exact .inl rfl
      · exact .inr ⟨_, rfl, hbA.size⟩
    obtain ⟨f1, f2, f3, f4, f5, f6⟩ := hF6
    refine Till.last (w6.setCell ⟨q, 0, none⟩ (.slice ao3 (m + 1) cap3)) rfl rfl (by kernel_rfl) (by decide) (by rfl) (by go_simp) ?_
    refine Till.done (by kernel_rfl) ?_ _
    have HN : Hid (Nx w (w6.setCell ⟨q, 0, none⟩ (.slice ao3 (m + 1) cap3)) A q (L ++ [x]) C n) := hN
    clear hN hF0 hF1 f1 f2 f3 f4 f5 f6 hk6 hg6 ho6 ha6
    generalize w6.setCell ⟨q, 0, none⟩ (.slice ao3 (m + 1) cap3) = W7 at *
    go_wp2
    go_ret
    exact ⟨rfl, HN.out⟩

def rmL (L : List Wt) (c : Int) : List Wt := L.eraseIdx (plN L c)
def hasB (L : List Wt) (c : Int) : Bool := decide (plN L c < L.length)
theorem plZ_neg {L : List Wt} {c : Int} (h : ¬ plN L c < L.length) : plZ L c = -1 := if_neg h
theorem plZ_pos {L : List Wt} {c : Int} (h : plN L c < L.length) : plZ L c = (plN L c : Int) := if_pos h

set_option maxHeartbeats 1600000 in
theorem remove_any (w : World) (A : Nat → Prop) (q : Nat) (L : List Wt) (C : Cl) (n : Nat) (H : Qw w A q L C n) (hl : L.length ≤ 1000000) (c : Int) :
    Calls Tryd.prog 39 #[qp q, .int .i64 c] w fun e w' => e = .returned (.bool (hasB L c)) ∧ Nx w w' A q (rmL L c) C n := by
  have HW : Hid (Qw w A q L C n) := H
  obtain ⟨ao, cap, b, H⟩ := H
  have HP : Hid (Calls Tryd.prog 32 #[qp q, .int .i64 c] w fun e w' => e = .returned (.int .i64 (plZ L c)) ∧ Below w.heap.size w w') := place_any _ A q ao cap b L C n H hl c
  by_cases hk : plN L c < L.length
  · have e1 : hasB L c = true := by simp [hasB, hk]
    rw [e1]
    rw [plZ_pos hk] at HP
    have HR : Hid (rmL L c = L.take (plN L c) ++ L.drop (plN L c + 1)) := List.eraseIdx_eq_take_drop_succ _ _
    obtain ⟨k, hkk⟩ : ∃ k, plN L c = k := ⟨_, rfl⟩
    obtain ⟨m, hm⟩ : ∃ m, L.length = m := ⟨_, rfl⟩
    rw [hkk] at HP HR hk
    have HM : Hid (L.length = m ∧ Qu w A q ao cap b L C n) := ⟨hm, H⟩
    have hle := H.len
    have hmx := H.own.rd.mx
    have hq := H.lt
    rw [hm] at hk hl hle
    obtain ⟨g, rfl⟩ : ∃ g, ao = some ⟨g, 0, none⟩ := by
      rcases H.own with ⟨_, e, _⟩ | ⟨g, _, e, _⟩
      · omega
      · exact ⟨g, e⟩
    clear H hm hkk e1 HW
    have hcm : cap ≤ 9223372036854775807 := by unfold maxLen at hmx; omega
    have hkc : k ≤ cap := by omega
    have hkc1 : k + 1 ≤ cap := by omega
    have hj63 : IntKind.i64.wrap ((k : Int) + 1) = (k : Int) + 1 := by rw [IntKind.wrap_i64]; omega
    have hjn : (0 : Int) ≤ (k : Int) + 1 ∧ (k : Int) + 1 ≤ (m : Int) := by omega
    have hkm : (0 : Int) ≤ (k : Int) ∧ (k : Int) ≤ (m : Int) := by omega
    have hk0' : ¬ ((k : Int) < 0) := by omega
    obtain ⟨a9, ha9, hb9⟩ : ∃ a9 : Addr, (if cap = k + 1 then some (⟨g, 0, none⟩ : Addr) else some ⟨g, (k + 1) * 4, none⟩) = some a9 ∧ (k + 1 < cap → a9 = ⟨g, (k + 1) * 4, none⟩) := by
      by_cases h : cap = k + 1
      · exact ⟨_, if_pos h, fun h' => by omega⟩
      · exact ⟨_, if_neg h, fun _ => rfl⟩
    go_enter Tryd.func39, Tryd.ntmps39
    go_upto_region 4 with (first
      | (go_at_call 32; refine HP.out.mono ?_; rintro e W ⟨rfl, hb3⟩)
      | fail)
    have HQ : Hid (Qu W A q (some ⟨g, 0, none⟩) cap b L C n) := HM.out.2.below hb3
    have HX : Hid (∀ V : World, V.heap[q]? = W.heap[q]? → V.cell? ⟨q, 0, none⟩ = some (.slice (some ⟨g, 0, none⟩) m cap) ∧ V.frozen? ⟨q, 0, none⟩ = false) := fun V hV1 => by
      have a1 := hV1.trans HQ.out.blk
      rw [HM.out.1] at a1
      refine ⟨?_, frozen_of_row _ _ _ _ _ a1⟩
      rw [cell_of_row _ _ _ _ _ _ a1]; rfl
    have hF0 := HX.out W.drew rfl
    refine wp_region_till (fun V => V.cell? ⟨q, 0, none⟩ = some (.slice (some ⟨g, 0, none⟩) m cap) ∧ V.frozen? ⟨q, 0, none⟩ = false) 18 (by kernel_rfl) ?_
    refine Till.val (i := 0) ?_ 11 rfl rfl rfl (by kernel_rfl) (by decide) (by kernel_rfl) (by kernel_rfl) (by kernel_rfl) (by kernel_rfl) (by rfl) (fun _ _ _ h => h) hF0 ?_ ?_
    rotate_left
    · (intro w hSw; obtain ⟨c1, c2⟩ := hSw; go_simp; first | done | with_reducible rfl)
    simp only [Act.put, List.setIfInBounds_toArray, List.set_cons_zero, List.set_cons_succ]
    refine Till.val (i := 1) ?_ 12 rfl rfl rfl (by kernel_rfl) (by decide) (by kernel_rfl) (by kernel_rfl) (by kernel_rfl) (by kernel_rfl) (by rfl) (fun _ _ _ h => h) hF0 ?_ ?_
    rotate_left
    · (intro w hSw; obtain ⟨c1, c2⟩ := hSw; go_simp; first | done | with_reducible rfl)
    simp only [Act.put, List.setIfInBounds_toArray, List.set_cons_zero, List.set_cons_succ]
    refine Till.val (i := 2) ?_ 13 rfl rfl rfl (by kernel_rfl) (by decide) (by kernel_rfl) (by kernel_rfl) (by kernel_rfl) (by kernel_rfl) (by rfl) (fun _ _ _ h => h) hF0 ?_ ?_
    rotate_left
    · (intro w hSw; obtain ⟨c1, c2⟩ := hSw; go_simp; first | done | with_reducible rfl)
    simp only [Act.put, List.setIfInBounds_toArray, List.set_cons_zero, List.set_cons_succ]
    refine Till.val (i := 3) ?_ 14 rfl rfl rfl (by kernel_rfl) (by decide) (by kernel_rfl) (by kernel_rfl) (by kernel_rfl) (by kernel_rfl) (by rfl) (fun _ _ _ h => h) hF0 ?_ ?_
    rotate_left
    · (intro w hSw; obtain ⟨c1, c2⟩ := hSw; go_simp; first | done | with_reducible rfl)
    simp only [Act.put, List.setIfInBounds_toArray, List.set_cons_zero, List.set_cons_succ]
    refine Till.val (i := 4) ?_ 15 rfl rfl rfl (by kernel_rfl) (by decide) (by kernel_rfl) (by kernel_rfl) (by kernel_rfl) (by kernel_rfl) (by rfl) (fun _ _ _ h => h) hF0 ?_ ?_
    rotate_left
    · (intro w hSw; obtain ⟨c1, c2⟩ := hSw; go_simp; first | done | with_reducible rfl)
    simp only [Act.put, List.setIfInBounds_toArray, List.set_cons_zero, List.set_cons_succ]
    refine Till.val (i := 5) ?_ 16 rfl rfl rfl (by kernel_rfl) (by decide) (by kernel_rfl) (by kernel_rfl) (by kernel_rfl) (by kernel_rfl) (by rfl) (fun _ _ _ h => h) hF0 ?_ ?_
    rotate_left
    · (intro w hSw; obtain ⟨c1, c2⟩ := hSw; go_simp; first | done | with_reducible rfl)
    simp only [Act.put, List.setIfInBounds_toArray, List.set_cons_zero, List.set_cons_succ]
    refine Till.val (i := 6) ?_ 17 rfl rfl rfl (by kernel_rfl) (by decide) (by kernel_rfl) (by kernel_rfl) (by kernel_rfl) (by kernel_rfl) (by rfl) (fun _ _ _ h => h) hF0 ?_ ?_
    rotate_left
    · (intro w hSw; obtain ⟨c1, c2⟩ := hSw; go_simp; first | done | with_reducible rfl)
    simp only [Act.put, List.setIfInBounds_toArray, List.set_cons_zero, List.set_cons_succ]
    refine Till.val (i := 7) (.slice (some ⟨g, 0, none⟩) k k) 18 rfl rfl rfl (by kernel_rfl) (by decide) (by kernel_rfl) (by kernel_rfl) (by kernel_rfl) (by kernel_rfl) (by rfl) (fun _ _ _ h => h) hF0 ?_ ?_
    skip
    · (intro w hSw; obtain ⟨c1, c2⟩ := hSw; go_simp; first | done | with_reducible rfl | (rw [if_pos hkm]; simp) | trace_state)
    simp only [Act.put, List.setIfInBounds_toArray, List.set_cons_zero, List.set_cons_succ]
    refine Till.val (i := 8) ?_ 19 rfl rfl rfl (by kernel_rfl) (by decide) (by kernel_rfl) (by kernel_rfl) (by kernel_rfl) (by kernel_rfl) (by rfl) (fun _ _ _ h => h) hF0 ?_ ?_
    rotate_left
    · (intro w hSw; obtain ⟨c1, c2⟩ := hSw; go_simp; first | done | with_reducible rfl)
    simp only [Act.put, List.setIfInBounds_toArray, List.set_cons_zero, List.set_cons_succ]
    refine Till.val (i := 9) ?_ 20 rfl rfl rfl (by kernel_rfl) (by decide) (by kernel_rfl) (by kernel_rfl) (by kernel_rfl) (by kernel_rfl) (by rfl) (fun _ _ _ h => h) hF0 ?_ ?_
    rotate_left
    · (intro w hSw; obtain ⟨c1, c2⟩ := hSw; go_simp; first | done | with_reducible rfl)
    simp only [Act.put, List.setIfInBounds_toArray, List.set_cons_zero, List.set_cons_succ]
    refine Till.val (i := 10) ?_ 21 rfl rfl rfl (by kernel_rfl) (by decide) (by kernel_rfl) (by kernel_rfl) (by kernel_rfl) (by kernel_rfl) (by rfl) (fun _ _ _ h => h) hF0 ?_ ?_
    rotate_left
    · (intro w hSw; obtain ⟨c1, c2⟩ := hSw; go_simp; first | done | with_reducible rfl)
    simp only [Act.put, List.setIfInBounds_toArray, List.set_cons_zero, List.set_cons_succ]
    refine Till.val (i := 11) ?_ 22 rfl rfl rfl (by kernel_rfl) (by decide) (by kernel_rfl) (by kernel_rfl) (by kernel_rfl) (by kernel_rfl) (by rfl) (fun _ _ _ h => h) hF0 ?_ ?_
    rotate_left
    · (intro w hSw; obtain ⟨c1, c2⟩ := hSw; go_simp; first | done | with_reducible rfl)
    simp only [Act.put, List.setIfInBounds_toArray, List.set_cons_zero, List.set_cons_succ]
    refine Till.val (i := 12) ?_ 23 rfl rfl rfl (by kernel_rfl) (by decide) (by kernel_rfl) (by kernel_rfl) (by kernel_rfl) (by kernel_rfl) (by rfl) (fun _ _ _ h => h) hF0 ?_ ?_
    rotate_left
    · (intro w hSw; obtain ⟨c1, c2⟩ := hSw; go_simp; first | done | with_reducible rfl)
    simp only [Act.put, List.setIfInBounds_toArray, List.set_cons_zero, List.set_cons_succ]
    refine Till.val (i := 13) ?_ 24 rfl rfl rfl (by kernel_rfl) (by decide) (by kernel_rfl) (by kernel_rfl) (by kernel_rfl) (by kernel_rfl) (by rfl) (fun _ _ _ h => h) hF0 ?_ ?_
    rotate_left
    · (intro w hSw; obtain ⟨c1, c2⟩ := hSw; go_simp; first | done | with_reducible rfl)
    simp only [Act.put, List.setIfInBounds_toArray, List.set_cons_zero, List.set_cons_succ]
    refine Till.val (i := 14) (.slice (some a9) (m - (k + 1)) (cap - (k + 1))) 25 rfl rfl rfl (by kernel_rfl) (by decide) (by kernel_rfl) (by kernel_rfl) (by kernel_rfl) (by kernel_rfl) (by rfl) (fun _ _ _ h => h) hF0 ?_ ?_
    skip
    · (intro w hSw; obtain ⟨c1, c2⟩ := hSw; go_simp; first | done | rw [if_pos hjn, ha9] | with_reducible rfl | trace_state)
    simp only [Act.put, List.setIfInBounds_toArray, List.set_cons_zero, List.set_cons_succ]
    have hbA : Below W.heap.size W W.drew := ⟨rfl, rfl, rfl, Nat.le_refl _, fun k hk => rfl⟩
    refine till_append_R wtE (i := 15) (n := k) (m := m - (k + 1)) (L := L.take k) (M := L.drop (k + 1)) 26 (.tmp 18) (.tmp 25) 38 rfl rfl (by kernel_rfl) (by rfl) rfl 43 _ 32 Tryd.underlying38 info29 rfl rfl rfl ((HQ.out.below hbA).own.head wtE k (by have := HM.out.1; omega)) (RdR.tail (off := 0) wtE (HQ.out.below hbA).own.rd (k + 1) (by have := HM.out.1; omega) a9 (fun h => by rw [Nat.zero_add]; exact hb9 (by have := HM.out.1; omega))) (by have := HM.out.1; rw [List.length_take]; omega) (by have := HM.out.1; rw [List.length_drop]; omega) (by omega) (by unfold maxLen; omega) ?_
    intro ao3 cap3 w6 ho6 hg6 ha6
    have hqW : q < W.heap.size := HQ.out.lt
    have hk6 : ∀ j, j < W.heap.size → some j ≠ (some (⟨g, 0, none⟩ : Addr)).map (·.block) → w6.heap[j]? = W.heap[j]? := fun j hj hne => hg6.block j hj hne
    have hnq : some q ≠ (some (⟨g, 0, none⟩ : Addr)).map (·.block) := by
      intro e
      exact (HQ.out.ner _ rfl).1 (by simpa using e.symm)
    have hF6 := HX.out w6 (hk6 q hqW hnq)
    refine ⟨hF6, ?_⟩
    simp only [Act.put, List.setIfInBounds_toArray, List.set_cons_zero, List.set_cons_succ]
    refine Till.run (i := 16) 27 (qp q) w6 rfl rfl (by kernel_rfl) (by rfl) (by go_simp) hF6 ?_
    simp only [Act.put, List.setIfInBounds_toArray, List.set_cons_zero, List.set_cons_succ]
    refine Till.run (i := 17) 28 (qp q) w6 rfl rfl (by kernel_rfl) (by rfl) (by go_simp) hF6 ?_
    simp only [Act.put, List.setIfInBounds_toArray, List.set_cons_zero, List.set_cons_succ]
    obtain ⟨m6, hm6⟩ : ∃ m6, k + (m - (k + 1)) = m6 := ⟨_, rfl⟩
    have hN : Nx w (w6.setCell ⟨q, 0, none⟩ (.slice ao3 m6 cap3)) A q (rmL L c) C n := by
      rw [HR.out]
      refine Nx.older hb3 (HQ.out.stored (w6 := w6) ⟨hg6.os, hg6.tape, hg6.output, hg6.size, hk6⟩ ho6 (by rw [← hm6, List.length_append, List.length_take, List.length_drop]; have := HM.out.1; omega) ?_)
      rcases ha6 with rfl | rfl
      · exact .inl rfl
      · exact .inr ⟨_, rfl, Nat.le_refl _⟩
    rw [hm6]
    obtain ⟨f1, f2⟩ := hF6
    refine Till.last (w6.setCell ⟨q, 0, none⟩ (.slice ao3 m6 cap3)) rfl rfl (by kernel_rfl) (by decide) (by rfl) (by go_simp) ?_
    refine Till.done (by kernel_rfl) ?_ _
    have HN : Hid (Nx w (w6.setCell ⟨q, 0, none⟩ (.slice ao3 m6 cap3)) A q (rmL L c) C n) := hN
    clear hN hF0 f1 f2 hk6 hg6 ho6 ha6
    generalize w6.setCell ⟨q, 0, none⟩ (.slice ao3 m6 cap3) = W7 at *
    go_wp2
    go_ret
    exact ⟨rfl, HN.out⟩
  · have e1 : hasB L c = false := by simp [hasB, hk]
    have e2 : rmL L c = L := List.eraseIdx_of_length_le (by omega)
    rw [e1, e2]
    rw [plZ_neg hk] at HP
    clear H hk e1 e2
    go_enter Tryd.func39, Tryd.ntmps39
    go_wp2_with (first
      | (go_at_call 32; refine HP.out.mono ?_; rintro e W ⟨rfl, hb3⟩)
      | fail)
    go_ret
    exact ⟨rfl, Nx.of_below HW.out hb3⟩

end Go.Proofs.YtllggjkhbecalaaDoor
