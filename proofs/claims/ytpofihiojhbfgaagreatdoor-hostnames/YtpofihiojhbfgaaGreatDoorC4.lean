/- Add and Remove of package queue, walked. Call, Busy, Called, Answer of package queue, walked. Out and Gone of package queue, walked. A queue beside other memory: each call as one contract; the same wants, the same numbers; the chapter's example. Lists of wants: who waits, who is taken out, who is ahead, what is reserved. No walk. -/
import Derived.Test.YtpofihiojhbfgaaGreatDoorC3
import Derived.Test.YtpofihiojhbfgaaGreatDoorB4
import Derived.Deep.DeepCutAuto
namespace Go.Proofs.YtpofihiojhbfgaaGreatDoor.Dsk
open Go.RowKit Go.Maps
set_option linter.unusedVariables false
set_option maxRecDepth 8000

theorem Qu.stored {w w6 : World} {A : Nat → Prop} {q : Nat} {ao : Option Addr} {cap b : Nat} {L : List Wt} {C : Cl} {n : Nat} (H : Qu w A q ao cap b L C n) (hg : w.grownBy w6 (ao.map (·.block))) {ao3 : Option Addr} {cap3 m3 : Nat} {L3 : List Wt} (ho : OwR wtC 4 208 w6 ao3 cap3 L3) (hm : L3.length = m3) (hloc : ao3 = ao ∨ ∃ g, ao3 = some ⟨g, 0, none⟩ ∧ w.heap.size ≤ g) :
    Nx w (w6.setCell ⟨q, 0, none⟩ (.slice ao3 m3 cap3)) A q L3 C n := by
  subst hm
  have hq : w6.heap[q]? = some (.cells #[.slice ao L.length cap, .map (some b)] 176 (0, 0)) := by
    refine (hg.block q H.lt ?_).trans H.blk
    intro e
    cases ao with
    | none => cases e
    | some a => exact (H.ner a rfl).1 (by simpa using e.symm)
  have hb : w6.heap[b]? = w.heap[b]? := by
    refine hg.block b H.map.lt ?_
    intro e
    cases ao with
    | none => cases e
    | some a => exact (H.ner a rfl).2 (by simpa using e.symm)
  have hne : ∀ a, ao3 = some a → a.block ≠ q := by
    intro a ha e
    obtain ⟨_, cur, h1⟩ := ho.lt a ha
    rw [e, hq] at h1
    cases h1
  refine ⟨⟨ao3, cap3, b, ⟨?_, ho.keep fun a ha _ => Below.heap_setCell _ _ _ _ (hne a ha), H.map.keep ((Below.heap_setCell _ _ _ _ H.ne).trans hb), .inl H.aq, .inl H.ab, ?_⟩⟩, ?_⟩
  · rw [heap_setCell_same w6 q 0 _ 176 _ hq]; rfl
  · intro a ha
    rcases hloc with rfl | ⟨g, rfl, hgl⟩
    · exact .inl (H.ar a ha)
    · cases ha
      exact .inr hgl
  · refine OffS.setCell (OffS.grown hg fun k hk => ?_) H.aq _
    cases ao with
    | none => cases hk
    | some a =>
      have : a.block = k := by simpa using hk
      rw [← this]
      exact H.ar a rfl

theorem Nx.of_below {w w' : World} {A : Nat → Prop} {q : Nat} {L : List Wt} {C : Cl} {n : Nat} (h : Qw w A q L C n) (hb : Below w.heap.size w w') : Nx w w' A q L C n :=
  ⟨(h.below hb).mono fun k _ hk => .inl hk, .of_below hb⟩
theorem Nx.older {w w1 w' : World} {A : Nat → Prop} {q : Nat} {L : List Wt} {C : Cl} {n : Nat} (hb : Below w.heap.size w w1) (h : Nx w1 w' A q L C n) : Nx w w' A q L C n :=
  ⟨h.1.mono fun k _ hk => hk.imp id fun h' => Nat.le_trans hb.size h', (OffS.of_below hb).trans (h.2.mono fun k hk => .inl hk)⟩

def addB (L : List Wt) (x : Wt) : Bool := cliB x.c && (objB x.p x.o && !decide (0 ≤ plZ L x.c))
def addL (L : List Wt) (x : Wt) : List Wt := if addB L x then L ++ [x] else L

set_option maxHeartbeats 1600000 in
theorem add_any (w : World) (A : Nat → Prop) (q : Nat) (L : List Wt) (C : Cl) (n : Nat) (H : Qw w A q L C n) (hl : L.length ≤ 1000000) (x : Wt) :
    Calls Tryz.prog 123 #[qp q, wtV x] w fun e w' => e = .returned (.bool (addB L x)) ∧ Nx w w' A q (addL L x) C n := by
  have HW : Hid (Qw w A q L C n) := H
  obtain ⟨ao, cap, b, H⟩ := H
  have hb0 : Below w.heap.size w (w.alloc (wtO x)) := (Below.refl _ _).alloc (Nat.le_refl _) _
  have HP : Hid (Calls Tryz.prog 139 #[qp q, .int .i64 x.c] (w.alloc (wtO x)) fun e w' => e = .returned (.int .i64 (plZ L x.c)) ∧ Below w.heap.size w w' ∧ w'.heap[w.heap.size]? = some (wtO x)) := by
    refine (place_any _ A q ao cap b L C n (H.below hb0) hl x.c).mono ?_
    rintro e w' ⟨rfl, hb⟩
    exact ⟨rfl, below_step hb0 hb, (hb.block _ (by simp)).trans (heap_alloc_new w _)⟩
  have HB0 : Hid (Below w.heap.size w (w.alloc (wtO x))) := hb0
  clear hb0
  cases h1 : cliB x.c
  · have e1 : addB L x = false := by simp [addB, h1]
    have e2 : addL L x = L := by simp [addL, e1]
    rw [e1, e2]
    clear e1 e2 H HP
    go_enter Tryz.func123, Tryz.ntmps123
    go_wp2_with (first
      | (go_at_call 155; refine (isClient_any _ _).mono ?_; rw [h1]; rintro e w1 ⟨rfl, hw1⟩; subst w1)
      | fail)
    go_ret
    exact ⟨rfl, Nx.of_below HW.out HB0.out⟩
  cases h2 : objB x.p x.o
  · have e1 : addB L x = false := by simp [addB, h2]
    have e2 : addL L x = L := by simp [addL, e1]
    rw [e1, e2]
    clear e1 e2 H HP
    go_enter Tryz.func123, Tryz.ntmps123
    go_wp2_with (first
      | (go_at_call 156; refine (isObject_any _ _ _).mono ?_; rw [h2]; rintro e w2 ⟨rfl, hw2⟩; subst w2)
      | (go_at_call 155; refine (isClient_any _ _).mono ?_; rw [h1]; rintro e w1 ⟨rfl, hw1⟩; subst w1)
      | fail)
    go_ret
    exact ⟨rfl, Nx.of_below HW.out HB0.out⟩
  obtain ⟨z, hz⟩ : ∃ z, plZ L x.c = z := ⟨_, rfl⟩
  rw [hz] at HP
  by_cases h3 : 0 ≤ z
  · have e1 : addB L x = false := by simp [addB, hz, h3]
    have e2 : addL L x = L := by simp [addL, e1]
    rw [e1, e2]
    clear e1 e2 H hz
    have h3' : decide (z ≥ 0) = true := by simpa using h3
    go_enter Tryz.func123, Tryz.ntmps123
    go_wp2_with (first
      | (go_at_call 139; refine HP.out.mono ?_; rintro e w3 ⟨rfl, hb3, hx3⟩)
      | (go_at_call 156; refine (isObject_any _ _ _).mono ?_; rw [h2]; rintro e w2 ⟨rfl, hw2⟩; subst w2)
      | (go_at_call 155; refine (isClient_any _ _).mono ?_; rw [h1]; rintro e w1 ⟨rfl, hw1⟩; subst w1)
      | fail)
    go_ret
    exact ⟨rfl, Nx.of_below HW.out hb3⟩
  · have e1 : addB L x = true := by simp only [addB, h1, h2, hz, Bool.true_and]; simp; omega
    have e2 : addL L x = L ++ [x] := by simp [addL, e1]
    rw [e1, e2]
    obtain ⟨m, hm⟩ : ∃ m, L.length = m := ⟨_, rfl⟩
    have HM : Hid (L.length = m ∧ Qu w A q ao cap b L C n) := ⟨hm, H⟩
    have hq := H.lt
    rw [hm] at hl
    clear e1 e2 hz H hm HW
    have h3' : decide (z ≥ 0) = false := by simpa using h3
    go_enter Tryz.func123, Tryz.ntmps123
    go_upto_region 3 with (first
      | (go_at_call 139; refine HP.out.mono ?_; rintro e W ⟨rfl, hb3, hx3⟩)
      | (go_at_call 156; refine (isObject_any _ _ _).mono ?_; rw [h2]; rintro e w2 ⟨rfl, hw2⟩; subst w2)
      | (go_at_call 155; refine (isClient_any _ _).mono ?_; rw [h1]; rintro e w1 ⟨rfl, hw1⟩; subst w1)
      | fail)
    have HQ : Hid (Qu W A q ao cap b L C n) := HM.out.2.below hb3
    have HX : Hid (∀ V : World, V.heap[q]? = W.heap[q]? → V.heap[w.heap.size]? = W.heap[w.heap.size]? → V.cell? ⟨q, 0, none⟩ = some (.slice ao m cap) ∧ V.cell? ⟨w.heap.size, 0, none⟩ = some (.int .i64 x.c) ∧ V.cell? ⟨w.heap.size, 1, none⟩ = some (.int .i64 x.p) ∧ V.cell? ⟨w.heap.size, 2, none⟩ = some (.int .i64 x.o) ∧ V.cell? ⟨w.heap.size, 3, none⟩ = some (.bool x.wr) ∧ V.frozen? ⟨q, 0, none⟩ = false) := fun V hV1 hV2 => by
      have a1 := hV1.trans HQ.out.blk
      have a2 := hV2.trans hx3
      rw [HM.out.1] at a1
      refine ⟨?_, ?_, ?_, ?_, ?_, frozen_of_row _ _ _ _ _ a1⟩
      · rw [cell_of_row _ _ _ _ _ _ a1]; rfl
      all_goals rw [cell_of_row _ _ _ _ _ _ a2]; rfl
    have hF0 := HX.out W.drew rfl rfl
    have hbA : Below W.heap.size W (W.alloc (wtO x)).drew := ⟨rfl, rfl, rfl, by simp, fun k hk => Below.heap_alloc W _ k hk⟩
    have hbx : w.heap.size < W.heap.size := (Array.getElem?_eq_some_iff.1 hx3).1
    have hqW : q < W.heap.size := by omega
    have hF1 := HX.out (W.alloc (wtO x)).drew (hbA.block _ hqW) (hbA.block _ hbx)
    refine wp_region_till (fun V => V.cell? ⟨q, 0, none⟩ = some (.slice ao m cap) ∧ V.cell? ⟨w.heap.size, 0, none⟩ = some (.int .i64 x.c) ∧ V.cell? ⟨w.heap.size, 1, none⟩ = some (.int .i64 x.p) ∧ V.cell? ⟨w.heap.size, 2, none⟩ = some (.int .i64 x.o) ∧ V.cell? ⟨w.heap.size, 3, none⟩ = some (.bool x.wr) ∧ V.frozen? ⟨q, 0, none⟩ = false) 10 (by kernel_rfl) ?_
    refine Till.val (i := 0) ?_ 24 rfl rfl rfl (by kernel_rfl) (by decide) (by kernel_rfl) (by kernel_rfl) (by kernel_rfl) (by kernel_rfl) (by rfl) (fun _ _ _ h => h) hF0 ?_ ?_
    rotate_left
    · (intro w hSw; obtain ⟨c1, c2, c3, c4, c5, c6⟩ := hSw; go_simp; first | done | with_reducible rfl)
    simp only [Act.put, List.setIfInBounds_toArray, List.set_cons_zero, List.set_cons_succ]
    refine Till.val (i := 1) ?_ 25 rfl rfl rfl (by kernel_rfl) (by decide) (by kernel_rfl) (by kernel_rfl) (by kernel_rfl) (by kernel_rfl) (by rfl) (fun _ _ _ h => h) hF0 ?_ ?_
    rotate_left
    · (intro w hSw; obtain ⟨c1, c2, c3, c4, c5, c6⟩ := hSw; go_simp; first | done | with_reducible rfl)
    simp only [Act.put, List.setIfInBounds_toArray, List.set_cons_zero, List.set_cons_succ]
    refine Till.val (i := 2) ?_ 26 rfl rfl rfl (by kernel_rfl) (by decide) (by kernel_rfl) (by kernel_rfl) (by kernel_rfl) (by kernel_rfl) (by rfl) (fun _ _ _ h => h) hF0 ?_ ?_
    rotate_left
    · (intro w hSw; obtain ⟨c1, c2, c3, c4, c5, c6⟩ := hSw; go_simp; first | done | with_reducible rfl)
    simp only [Act.put, List.setIfInBounds_toArray, List.set_cons_zero, List.set_cons_succ]
    refine Till.val (i := 3) ?_ 27 rfl rfl rfl (by kernel_rfl) (by decide) (by kernel_rfl) (by kernel_rfl) (by kernel_rfl) (by kernel_rfl) (by rfl) (fun _ _ _ h => h) hF0 ?_ ?_
    rotate_left
    · (intro w hSw; obtain ⟨c1, c2, c3, c4, c5, c6⟩ := hSw; go_simp; first | done | with_reducible rfl)
    simp only [Act.put, List.setIfInBounds_toArray, List.set_cons_zero, List.set_cons_succ]
    refine Till.val (i := 4) ?_ 28 rfl rfl rfl (by kernel_rfl) (by decide) (by kernel_rfl) (by kernel_rfl) (by kernel_rfl) (by kernel_rfl) (by rfl) (fun _ _ _ h => h) hF0 ?_ ?_
    rotate_left
    · (intro w hSw; obtain ⟨c1, c2, c3, c4, c5, c6⟩ := hSw; go_simp; first | done | with_reducible rfl)
    simp only [Act.put, List.setIfInBounds_toArray, List.set_cons_zero, List.set_cons_succ]
    refine Till.val (i := 5) ?_ 29 rfl rfl rfl (by kernel_rfl) (by decide) (by kernel_rfl) (by kernel_rfl) (by kernel_rfl) (by kernel_rfl) (by rfl) (fun _ _ _ h => h) hF0 ?_ ?_
    rotate_left
    · (intro w hSw; obtain ⟨c1, c2, c3, c4, c5, c6⟩ := hSw; go_simp; first | done | with_reducible rfl)
    simp only [Act.put, List.setIfInBounds_toArray, List.set_cons_zero, List.set_cons_succ]
    refine Till.run (i := 6) 30 (.slice (some ⟨W.heap.size, 0, none⟩) 1 1) (W.alloc (wtO x)).drew rfl rfl (by kernel_rfl) (by rfl) (by go_simp) hF1 ?_
    simp only [Act.put, List.setIfInBounds_toArray, List.set_cons_zero, List.set_cons_succ]
    refine till_append_R wtE (i := 7) (n := m) (m := 1) (L := L) (M := [x]) 31 (.tmp 28) (.tmp 30) 174 rfl rfl (by kernel_rfl) (by rfl) rfl 208 _ 32 Tryz.underlying174 info29 rfl rfl rfl ((HQ.out.below hbA).own) (RdR.drew (RdR.built wtE W 208 _ [x] rfl 1 rfl (by unfold maxLen; omega))) HM.out.1 rfl (by omega) (by unfold maxLen; omega) ?_
    intro ao3 cap3 w6 ho6 hg6 ha6
    have hk6 : ∀ k, k < W.heap.size → some k ≠ ao.map (·.block) → w6.heap[k]? = W.heap[k]? := fun k hk hne => (hg6.block k (by have := hbA.size; omega) hne).trans (hbA.block k hk)
    have hnq : some q ≠ ao.map (·.block) := by
      intro e
      cases ao with
      | none => cases e
      | some a => exact (HQ.out.ner a rfl).1 (by simpa using e.symm)
    have hnx : some w.heap.size ≠ ao.map (·.block) := by
      intro e
      cases ao with
      | none => cases e
      | some a =>
        have := (HM.out.2.own.lt a rfl).1
        have e' : w.heap.size = a.block := by simpa using e
        omega
    have hF6 := HX.out w6 (hk6 q hqW hnq) (hk6 _ hbx hnx)
    refine ⟨hF6, ?_⟩
    simp only [Act.put, List.setIfInBounds_toArray, List.set_cons_zero, List.set_cons_succ]
    refine Till.run (i := 8) 32 (qp q) w6 rfl rfl (by kernel_rfl) (by rfl) (by go_simp) hF6 ?_
    simp only [Act.put, List.setIfInBounds_toArray, List.set_cons_zero, List.set_cons_succ]
    refine Till.run (i := 9) 33 (qp q) w6 rfl rfl (by kernel_rfl) (by rfl) (by go_simp) hF6 ?_
    simp only [Act.put, List.setIfInBounds_toArray, List.set_cons_zero, List.set_cons_succ]
    have hN : Nx w (w6.setCell ⟨q, 0, none⟩ (.slice ao3 (m + 1) cap3)) A q (L ++ [x]) C n := by
      refine Nx.older hb3 (HQ.out.stored (w6 := w6) ⟨hg6.os, hg6.tape, hg6.output, Nat.le_trans hbA.size hg6.size, hk6⟩ ho6 (by rw [List.length_append, HM.out.1]; rfl) ?_)
      rcases ha6 with rfl | rfl
      · exact .inl rfl
      · exact .inr ⟨_, rfl, hbA.size⟩
    obtain ⟨f1, f2, f3, f4, f5, f6⟩ := hF6
    refine Till.last (w6.setCell ⟨q, 0, none⟩ (.slice ao3 (m + 1) cap3)) rfl rfl (by kernel_rfl) (by decide) (by rfl) (by go_simp) ?_
    refine Till.done (by kernel_rfl) ?_ _
    have HN : Hid (Nx w (w6.setCell ⟨q, 0, none⟩ (.slice ao3 (m + 1) cap3)) A q (L ++ [x]) C n) := hN
    clear hN hF0 hF1 f1 f2 f3 f4 f5 f6 hk6 hg6 ho6 ha6
    generalize w6.setCell ⟨q, 0, none⟩ (.slice ao3 (m + 1) cap3) = W7 at *
    go_wp2
    go_ret
    exact ⟨rfl, HN.out⟩

def rmL (L : List Wt) (c : Int) : List Wt := L.eraseIdx (plN L c)
def hasB (L : List Wt) (c : Int) : Bool := decide (plN L c < L.length)
theorem plZ_neg {L : List Wt} {c : Int} (h : ¬ plN L c < L.length) : plZ L c = -1 := if_neg h
theorem plZ_pos {L : List Wt} {c : Int} (h : plN L c < L.length) : plZ L c = (plN L c : Int) := if_pos h

set_option maxHeartbeats 1600000 in
theorem remove_any (w : World) (A : Nat → Prop) (q : Nat) (L : List Wt) (C : Cl) (n : Nat) (H : Qw w A q L C n) (hl : L.length ≤ 1000000) (c : Int) :
    Calls Tryz.prog 109 #[qp q, .int .i64 c] w fun e w' => e = .returned (.bool (hasB L c)) ∧ Nx w w' A q (rmL L c) C n := by
  have HW : Hid (Qw w A q L C n) := H
  obtain ⟨ao, cap, b, H⟩ := H
  have HP : Hid (Calls Tryz.prog 139 #[qp q, .int .i64 c] w fun e w' => e = .returned (.int .i64 (plZ L c)) ∧ Below w.heap.size w w') := place_any _ A q ao cap b L C n H hl c
  by_cases hk : plN L c < L.length
  · have e1 : hasB L c = true := by simp [hasB, hk]
    rw [e1]
    rw [plZ_pos hk] at HP
    have HR : Hid (rmL L c = L.take (plN L c) ++ L.drop (plN L c + 1)) := List.eraseIdx_eq_take_drop_succ _ _
    obtain ⟨k, hkk⟩ : ∃ k, plN L c = k := ⟨_, rfl⟩
    obtain ⟨m, hm⟩ : ∃ m, L.length = m := ⟨_, rfl⟩
    rw [hkk] at HP HR hk
    have HM : Hid (L.length = m ∧ Qu w A q ao cap b L C n) := ⟨hm, H⟩
    have hle := H.len
    have hmx := H.own.rd.mx
    have hq := H.lt
    rw [hm] at hk hl hle
    obtain ⟨g, rfl⟩ : ∃ g, ao = some ⟨g, 0, none⟩ := by
      rcases H.own with ⟨_, e, _⟩ | ⟨g, _, e, _⟩
      · omega
      · exact ⟨g, e⟩
    clear H hm hkk e1 HW
    have hcm : cap ≤ 9223372036854775807 := by unfold maxLen at hmx; omega
    have hkc : k ≤ cap := by omega
    have hkc1 : k + 1 ≤ cap := by omega
    have hj63 : IntKind.i64.wrap ((k : Int) + 1) = (k : Int) + 1 := by rw [IntKind.wrap_i64]; omega
    have hjn : (0 : Int) ≤ (k : Int) + 1 ∧ (k : Int) + 1 ≤ (m : Int) := by omega
    have hkm : (0 : Int) ≤ (k : Int) ∧ (k : Int) ≤ (m : Int) := by omega
    have hk0' : ¬ ((k : Int) < 0) := by omega
    obtain ⟨a9, ha9, hb9⟩ : ∃ a9 : Addr, (if cap = k + 1 then some (⟨g, 0, none⟩ : Addr) else some ⟨g, (k + 1) * 4, none⟩) = some a9 ∧ (k + 1 < cap → a9 = ⟨g, (k + 1) * 4, none⟩) := by
      by_cases h : cap = k + 1
      · exact ⟨_, if_pos h, fun h' => by omega⟩
      · exact ⟨_, if_neg h, fun _ => rfl⟩
    go_enter Tryz.func109, Tryz.ntmps109
    go_upto_region 4 with (first
      | (go_at_call 139; refine HP.out.mono ?_; rintro e W ⟨rfl, hb3⟩)
      | fail)
    have HQ : Hid (Qu W A q (some ⟨g, 0, none⟩) cap b L C n) := HM.out.2.below hb3
    have HX : Hid (∀ V : World, V.heap[q]? = W.heap[q]? → V.cell? ⟨q, 0, none⟩ = some (.slice (some ⟨g, 0, none⟩) m cap) ∧ V.frozen? ⟨q, 0, none⟩ = false) := fun V hV1 => by
      have a1 := hV1.trans HQ.out.blk
      rw [HM.out.1] at a1
      refine ⟨?_, frozen_of_row _ _ _ _ _ a1⟩
      rw [cell_of_row _ _ _ _ _ _ a1]; rfl
    have hF0 := HX.out W.drew rfl
    refine wp_region_till (fun V => V.cell? ⟨q, 0, none⟩ = some (.slice (some ⟨g, 0, none⟩) m cap) ∧ V.frozen? ⟨q, 0, none⟩ = false) 18 (by kernel_rfl) ?_
    refine Till.val (i := 0) ?_ 11 rfl rfl rfl (by kernel_rfl) (by decide) (by kernel_rfl) (by kernel_rfl) (by kernel_rfl) (by kernel_rfl) (by rfl) (fun _ _ _ h => h) hF0 ?_ ?_
    rotate_left
    · (intro w hSw; obtain ⟨c1, c2⟩ := hSw; go_simp; first | done | with_reducible rfl)
    simp only [Act.put, List.setIfInBounds_toArray, List.set_cons_zero, List.set_cons_succ]
    refine Till.val (i := 1) ?_ 12 rfl rfl rfl (by kernel_rfl) (by decide) (by kernel_rfl) (by kernel_rfl) (by kernel_rfl) (by kernel_rfl) (by rfl) (fun _ _ _ h => h) hF0 ?_ ?_
    rotate_left
    · (intro w hSw; obtain ⟨c1, c2⟩ := hSw; go_simp; first | done | with_reducible rfl)
    simp only [Act.put, List.setIfInBounds_toArray, List.set_cons_zero, List.set_cons_succ]
    refine Till.val (i := 2) ?_ 13 rfl rfl rfl (by kernel_rfl) (by decide) (by kernel_rfl) (by kernel_rfl) (by kernel_rfl) (by kernel_rfl) (by rfl) (fun _ _ _ h => h) hF0 ?_ ?_
    rotate_left
    · (intro w hSw; obtain ⟨c1, c2⟩ := hSw; go_simp; first | done | with_reducible rfl)
    simp only [Act.put, List.setIfInBounds_toArray, List.set_cons_zero, List.set_cons_succ]
    refine Till.val (i := 3) ?_ 14 rfl rfl rfl (by kernel_rfl) (by decide) (by kernel_rfl) (by kernel_rfl) (by kernel_rfl) (by kernel_rfl) (by rfl) (fun _ _ _ h => h) hF0 ?_ ?_
    rotate_left
    · (intro w hSw; obtain ⟨c1, c2⟩ := hSw; go_simp; first | done | with_reducible rfl)
    simp only [Act.put, List.setIfInBounds_toArray, List.set_cons_zero, List.set_cons_succ]
    refine Till.val (i := 4) ?_ 15 rfl rfl rfl (by kernel_rfl) (by decide) (by kernel_rfl) (by kernel_rfl) (by kernel_rfl) (by kernel_rfl) (by rfl) (fun _ _ _ h => h) hF0 ?_ ?_
    rotate_left
    · (intro w hSw; obtain ⟨c1, c2⟩ := hSw; go_simp; first | done | with_reducible rfl)
    simp only [Act.put, List.setIfInBounds_toArray, List.set_cons_zero, List.set_cons_succ]
    refine Till.val (i := 5) ?_ 16 rfl rfl rfl (by kernel_rfl) (by decide) (by kernel_rfl) (by kernel_rfl) (by kernel_rfl) (by kernel_rfl) (by rfl) (fun _ _ _ h => h) hF0 ?_ ?_
    rotate_left
    · (intro w hSw; obtain ⟨c1, c2⟩ := hSw; go_simp; first | done | with_reducible rfl)
    simp only [Act.put, List.setIfInBounds_toArray, List.set_cons_zero, List.set_cons_succ]
    refine Till.val (i := 6) ?_ 17 rfl rfl rfl (by kernel_rfl) (by decide) (by kernel_rfl) (by kernel_rfl) (by kernel_rfl) (by kernel_rfl) (by rfl) (fun _ _ _ h => h) hF0 ?_ ?_
    rotate_left
    · (intro w hSw; obtain ⟨c1, c2⟩ := hSw; go_simp; first | done | with_reducible rfl)
    simp only [Act.put, List.setIfInBounds_toArray, List.set_cons_zero, List.set_cons_succ]
    refine Till.val (i := 7) (.slice (some ⟨g, 0, none⟩) k k) 18 rfl rfl rfl (by kernel_rfl) (by decide) (by kernel_rfl) (by kernel_rfl) (by kernel_rfl) (by kernel_rfl) (by rfl) (fun _ _ _ h => h) hF0 ?_ ?_
    skip
    · (intro w hSw; obtain ⟨c1, c2⟩ := hSw; go_simp; first | done | with_reducible rfl | (rw [if_pos hkm]; simp) | trace_state)
    simp only [Act.put, List.setIfInBounds_toArray, List.set_cons_zero, List.set_cons_succ]
    refine Till.val (i := 8) ?_ 19 rfl rfl rfl (by kernel_rfl) (by decide) (by kernel_rfl) (by kernel_rfl) (by kernel_rfl) (by kernel_rfl) (by rfl) (fun _ _ _ h => h) hF0 ?_ ?_
    rotate_left
    · (intro w hSw; obtain ⟨c1, c2⟩ := hSw; go_simp; first | done | with_reducible rfl)
    simp only [Act.put, List.setIfInBounds_toArray, List.set_cons_zero, List.set_cons_succ]
    refine Till.val (i := 9) ?_ 20 rfl rfl rfl (by kernel_rfl) (by decide) (by kernel_rfl) (by kernel_rfl) (by kernel_rfl) (by kernel_rfl) (by rfl) (fun _ _ _ h => h) hF0 ?_ ?_
    rotate_left
    · (intro w hSw; obtain ⟨c1, c2⟩ := hSw; go_simp; first | done | with_reducible rfl)
    simp only [Act.put, List.setIfInBounds_toArray, List.set_cons_zero, List.set_cons_succ]
    refine Till.val (i := 10) ?_ 21 rfl rfl rfl (by kernel_rfl) (by decide) (by kernel_rfl) (by kernel_rfl) (by kernel_rfl) (by kernel_rfl) (by rfl) (fun _ _ _ h => h) hF0 ?_ ?_
    rotate_left
    · (intro w hSw; obtain ⟨c1, c2⟩ := hSw; go_simp; first | done | with_reducible rfl)
    simp only [Act.put, List.setIfInBounds_toArray, List.set_cons_zero, List.set_cons_succ]
    refine Till.val (i := 11) ?_ 22 rfl rfl rfl (by kernel_rfl) (by decide) (by kernel_rfl) (by kernel_rfl) (by kernel_rfl) (by kernel_rfl) (by rfl) (fun _ _ _ h => h) hF0 ?_ ?_
    rotate_left
    · (intro w hSw; obtain ⟨c1, c2⟩ := hSw; go_simp; first | done | with_reducible rfl)
    simp only [Act.put, List.setIfInBounds_toArray, List.set_cons_zero, List.set_cons_succ]
    refine Till.val (i := 12) ?_ 23 rfl rfl rfl (by kernel_rfl) (by decide) (by kernel_rfl) (by kernel_rfl) (by kernel_rfl) (by kernel_rfl) (by rfl) (fun _ _ _ h => h) hF0 ?_ ?_
    rotate_left
    · (intro w hSw; obtain ⟨c1, c2⟩ := hSw; go_simp; first | done | with_reducible rfl)
    simp only [Act.put, List.setIfInBounds_toArray, List.set_cons_zero, List.set_cons_succ]
    refine Till.val (i := 13) ?_ 24 rfl rfl rfl (by kernel_rfl) (by decide) (by kernel_rfl) (by kernel_rfl) (by kernel_rfl) (by kernel_rfl) (by rfl) (fun _ _ _ h => h) hF0 ?_ ?_
    rotate_left
    · (intro w hSw; obtain ⟨c1, c2⟩ := hSw; go_simp; first | done | with_reducible rfl)
    simp only [Act.put, List.setIfInBounds_toArray, List.set_cons_zero, List.set_cons_succ]
    refine Till.val (i := 14) (.slice (some a9) (m - (k + 1)) (cap - (k + 1))) 25 rfl rfl rfl (by kernel_rfl) (by decide) (by kernel_rfl) (by kernel_rfl) (by kernel_rfl) (by kernel_rfl) (by rfl) (fun _ _ _ h => h) hF0 ?_ ?_
    skip
    · (intro w hSw; obtain ⟨c1, c2⟩ := hSw; go_simp; first | done | rw [if_pos hjn, ha9] | with_reducible rfl | trace_state)
    simp only [Act.put, List.setIfInBounds_toArray, List.set_cons_zero, List.set_cons_succ]
    have hbA : Below W.heap.size W W.drew := ⟨rfl, rfl, rfl, Nat.le_refl _, fun k hk => rfl⟩
    refine till_append_R wtE (i := 15) (n := k) (m := m - (k + 1)) (L := L.take k) (M := L.drop (k + 1)) 26 (.tmp 18) (.tmp 25) 174 rfl rfl (by kernel_rfl) (by rfl) rfl 208 _ 32 Tryz.underlying174 info29 rfl rfl rfl ((HQ.out.below hbA).own.head wtE k (by have := HM.out.1; omega)) (RdR.tail (off := 0) wtE (HQ.out.below hbA).own.rd (k + 1) (by have := HM.out.1; omega) a9 (fun h => by rw [Nat.zero_add]; exact hb9 (by have := HM.out.1; omega))) (by have := HM.out.1; rw [List.length_take]; omega) (by have := HM.out.1; rw [List.length_drop]; omega) (by omega) (by unfold maxLen; omega) ?_
    intro ao3 cap3 w6 ho6 hg6 ha6
    have hqW : q < W.heap.size := HQ.out.lt
    have hk6 : ∀ j, j < W.heap.size → some j ≠ (some (⟨g, 0, none⟩ : Addr)).map (·.block) → w6.heap[j]? = W.heap[j]? := fun j hj hne => hg6.block j hj hne
    have hnq : some q ≠ (some (⟨g, 0, none⟩ : Addr)).map (·.block) := by
      intro e
      exact (HQ.out.ner _ rfl).1 (by simpa using e.symm)
    have hF6 := HX.out w6 (hk6 q hqW hnq)
    refine ⟨hF6, ?_⟩
    simp only [Act.put, List.setIfInBounds_toArray, List.set_cons_zero, List.set_cons_succ]
    refine Till.run (i := 16) 27 (qp q) w6 rfl rfl (by kernel_rfl) (by rfl) (by go_simp) hF6 ?_
    simp only [Act.put, List.setIfInBounds_toArray, List.set_cons_zero, List.set_cons_succ]
    refine Till.run (i := 17) 28 (qp q) w6 rfl rfl (by kernel_rfl) (by rfl) (by go_simp) hF6 ?_
    simp only [Act.put, List.setIfInBounds_toArray, List.set_cons_zero, List.set_cons_succ]
    obtain ⟨m6, hm6⟩ : ∃ m6, k + (m - (k + 1)) = m6 := ⟨_, rfl⟩
    have hN : Nx w (w6.setCell ⟨q, 0, none⟩ (.slice ao3 m6 cap3)) A q (rmL L c) C n := by
      rw [HR.out]
      refine Nx.older hb3 (HQ.out.stored (w6 := w6) ⟨hg6.os, hg6.tape, hg6.output, hg6.size, hk6⟩ ho6 (by rw [← hm6, List.length_append, List.length_take, List.length_drop]; have := HM.out.1; omega) ?_)
      rcases ha6 with rfl | rfl
      · exact .inl rfl
      · exact .inr ⟨_, rfl, Nat.le_refl _⟩
    rw [hm6]
    obtain ⟨f1, f2⟩ := hF6
    refine Till.last (w6.setCell ⟨q, 0, none⟩ (.slice ao3 m6 cap3)) rfl rfl (by kernel_rfl) (by decide) (by rfl) (by go_simp) ?_
    refine Till.done (by kernel_rfl) ?_ _
    have HN : Hid (Nx w (w6.setCell ⟨q, 0, none⟩ (.slice ao3 m6 cap3)) A q (rmL L c) C n) := hN
    clear hN hF0 f1 f2 hk6 hg6 ho6 ha6
    generalize w6.setCell ⟨q, 0, none⟩ (.slice ao3 m6 cap3) = W7 at *
    go_wp2
    go_ret
    exact ⟨rfl, HN.out⟩
  · have e1 : hasB L c = false := by simp [hasB, hk]
    have e2 : rmL L c = L := List.eraseIdx_of_length_le (by omega)
    rw [e1, e2]
    rw [plZ_neg hk] at HP
    clear H hk e1 e2
    go_enter Tryz.func109, Tryz.ntmps109
    go_wp2_with (first
      | (go_at_call 139; refine HP.out.mono ?_; rintro e W ⟨rfl, hb3⟩)
      | fail)
    go_ret
    exact ⟨rfl, Nx.of_below HW.out hb3⟩

end Go.Proofs.YtpofihiojhbfgaaGreatDoor.Dsk

namespace Go.Proofs.YtpofihiojhbfgaaGreatDoor.Dsk
open Go.RowKit Go.Maps
set_option linter.unusedVariables false
set_option maxRecDepth 8000

theorem bel0 (w : World) : Below w.heap.size w w.drew := ⟨rfl, rfl, rfl, Nat.le_refl _, fun _ _ => rfl⟩

theorem Qu.turned {w w6 : World} {A : Nat → Prop} {q : Nat} {ao : Option Addr} {cap b : Nat} {L : List Wt} {C C' : Cl} {n n' : Nat} (H : Qu w A q ao cap b L C n) (hg : w.grownBy w6 (some b)) (hm : MapC w6 b n' C') : Nx w w6 A q L C' n' := by
  have hk : ∀ k, k < w.heap.size → k ≠ b → w6.heap[k]? = w.heap[k]? := fun k hk hne => hg.block k hk (by simpa using hne)
  refine ⟨⟨ao, cap, b, ⟨(hk q H.lt H.ne.symm).trans H.blk, H.own.keep fun a ha hl => hk _ hl (H.ner a ha).2, hm, .inl H.aq, .inl H.ab, fun a ha => .inl (H.ar a ha)⟩⟩, OffS.grown hg fun k e => ?_⟩
  cases e
  exact H.ab

section
variable {ops : Array Oper} {rest : List Oper} {o : Oper} {a : Act} {Q : Exit → Act → World → Prop}
theorem exec_delete_C {w : World} (m x : Operand) (hop : o.op = Op.call { callee := Callee.builtin Builtin.delete, args := #[m, x], argTypes := #[173, 189] }) {b : Nat} (hm : a.eval m = .map (some b)) {k : Wt} (hx : a.eval x = wtV k) {w1 : World}
    (hrun : (Builtin.delete_ #[173, 189] o.type #[.map (some b), wtV k]).run Tryz.prog w = .ok (.tuple #[]) w1) : (execOp a.eval o).run Tryz.prog w = .ok (.value (.tuple #[])) w1 := by
  unfold execOp
  simp only [hop, resolve, invoke, builtin, Sem.run_bind, Sem.run_pure, Result.andThen_ok, List.map_toArray, List.map_cons, List.map_nil, hm, hx, hrun]

theorem wpList_delete_C (w : World) (hg : o.guard = none) (m x : Operand) (hop : o.op = Op.call { callee := Callee.builtin Builtin.delete, args := #[m, x], argTypes := #[173, 189] }) {b n : Nat} {C : Cl} (hm : a.eval m = .map (some b)) (h : MapC w b n C) {k : Wt} (hk : k.ok) (hx : a.eval x = wtV k)
    (hK : ∀ w', MapC w' b n (C.set k none) → w.grownBy w' (some b) → wpList Tryz.prog ops Q rest (a.put o.dst (.tuple #[])) w') : wpList Tryz.prog ops Q (o :: rest) a w := by
  refine wpList_plain hg fun _ hKK => ?_
  obtain ⟨w', hrun, h1, h2⟩ := h.del hk o.type
  unfold Oper.wp
  rw [exec_delete_C m x hop hm hx hrun]
  exact hKK _ _ (hK w' h1 h2.grown)

end

abbrev kyOf (h : Int) (x : Wt) : Wt := ⟨h, x.p, x.o, x.wr⟩

theorem look_facts {W : World} {A : Nat → Prop} {q : Nat} {ao : Option Addr} {cap b : Nat} {L : List Wt} {C : Cl} {n : Nat} (H : Qu W A q ao cap b L C n) {k : Wt} (hk : k.ok) {V : World} (hV : Below W.heap.size W V) :
    V.cell? ⟨q, 1, none⟩ = some (.map (some b)) ∧ (Instr.lookup 173 (.map (some b)) (wtV k) true).run Tryz.prog V = .ok (.tuple #[.int .i64 (cnum (C k)), .bool (C k).isSome]) V :=
  ⟨(H.below hV).c1, (H.below hV).map.look hk⟩

theorem wt_cells {W : World} {g : Nat} {t : TypeId} {x : Wt} (h : W.heap[g]? = some (.cells #[.int .i64 x.c, .int .i64 x.p, .int .i64 x.o, .bool x.wr] t)) {V : World} (hV : Below W.heap.size W V) : V.cell? ⟨g, 0, none⟩ = some (.int .i64 x.c) ∧ V.cell? ⟨g, 1, none⟩ = some (.int .i64 x.p) ∧ V.cell? ⟨g, 2, none⟩ = some (.int .i64 x.o) ∧ V.cell? ⟨g, 3, none⟩ = some (.bool x.wr) := by
  have h' := (hV.block g (Array.getElem?_eq_some_iff.1 h).1).trans h
  refine ⟨?_, ?_, ?_, ?_⟩
  all_goals rw [cell_of_row _ _ _ _ _ _ h']; rfl

set_option maxHeartbeats 1600000 in
theorem called_any (w : World) (A : Nat → Prop) (q : Nat) (L : List Wt) (C : Cl) (n : Nat) (H : Qw w A q L C n) (h : Int) (x : Wt) (hk : (kyOf h x).ok) :
    Calls Tryz.prog 146 #[qp q, .int .i64 h, wtV x] w fun e w' => e = .returned (.tuple #[.bool (C (kyOf h x)).isSome, .bool (decide (C (kyOf h x) = some true))]) ∧ Below w.heap.size w w' := by
  obtain ⟨ao, cap, b, H⟩ := H
  have hb0 : Below w.heap.size w (w.alloc (wtO x)) := (Below.refl _ _).alloc (Nat.le_refl _) _
  have HB0 : Hid (Below w.heap.size w (w.alloc (wtO x))) := hb0
  obtain ⟨th, hth⟩ : ∃ th, (C (kyOf h x)).isSome = th := ⟨_, rfl⟩
  obtain ⟨cv, hcv⟩ : ∃ cv, cnum (C (kyOf h x)) = cv := ⟨_, rfl⟩
  have HR : Hid ((C (kyOf h x)).isSome = th ∧ cnum (C (kyOf h x)) = cv ∧ (th = true → (cv == 1) = decide (C (kyOf h x) = some true)) ∧ (th = false → decide (C (kyOf h x) = some true) = false)) := by
    refine ⟨hth, hcv, fun e => ?_, fun e => ?_⟩
    · rw [← hcv]
      rw [← hth] at e
      obtain ⟨u, hu⟩ := Option.isSome_iff_exists.1 e
      rw [hu]
      cases u <;> rfl
    · rw [← hth] at e
      cases hc : C (kyOf h x) with
      | none => rfl
      | some u => rw [hc] at e; cases e
  have HCL : Hid (∀ V : World, Below (w.alloc (wtO x)).heap.size (w.alloc (wtO x)) V → V.cell? ⟨q, 1, none⟩ = some (.map (some b)) ∧ (Instr.lookup 173 (.map (some b)) (wtV (kyOf h x)) true).run Tryz.prog V = .ok (.tuple #[.int .i64 cv, .bool th]) V ∧ V.cell? ⟨w.heap.size, 0, none⟩ = some (.int .i64 x.c) ∧ V.cell? ⟨w.heap.size, 1, none⟩ = some (.int .i64 x.p) ∧ V.cell? ⟨w.heap.size, 2, none⟩ = some (.int .i64 x.o) ∧ V.cell? ⟨w.heap.size, 3, none⟩ = some (.bool x.wr)) := fun V hV => by
    obtain ⟨f1, f2⟩ := look_facts (H.below hb0) hk hV
    rw [hth, hcv] at f2
    exact ⟨f1, f2, wt_cells (heap_alloc_new w _) hV⟩
  have HCF : Hid (∀ V : World, Below (w.alloc (wtO x)).heap.size (w.alloc (wtO x)) V → Calls Tryz.prog 161 #[.int .i64 h, wtV x] V fun e w' => e = .returned (wtV (kyOf h x)) ∧ Below (w.alloc (wtO x)).heap.size (w.alloc (wtO x)) w') := fun V hV => (callFor_any h x V).mono fun e w' ⟨h1, h2⟩ => ⟨h1, below_step hV h2⟩
  clear H hth hcv hb0
  rw [HR.out.1]
  go_enter Tryz.func146, Tryz.ntmps146
  go_upto_region 1 with fail
  have HC0 := HCL.out _ (bel0 _)
  obtain ⟨z1, -, z3, z4, z5, z6⟩ := HC0
  refine wp_region_sure (fun V => Below (w.alloc (wtO x)).heap.size (w.alloc (wtO x)) V) (by kernel_rfl) (bel0 _) ?_
  refine Sure.val (i := 0) ?_ 11 rfl rfl (by kernel_rfl) (by kernel_rfl) (by kernel_rfl) (by rfl) ?_ ?_
  rotate_left
  · (intro w hSw; obtain ⟨c1, c2, c3, c4, c5, c6⟩ := HCL.out w hSw; go_simp; first | done | with_reducible rfl)
  simp only [Act.put, List.setIfInBounds_toArray, List.set_cons_zero, List.set_cons_succ]
  refine Sure.val (i := 1) ?_ 12 rfl rfl (by kernel_rfl) (by kernel_rfl) (by kernel_rfl) (by rfl) ?_ ?_
  rotate_left
  · (intro w hSw; obtain ⟨c1, c2, c3, c4, c5, c6⟩ := HCL.out w hSw; go_simp; first | done | with_reducible rfl)
  simp only [Act.put, List.setIfInBounds_toArray, List.set_cons_zero, List.set_cons_succ]
  refine Sure.val (i := 2) ?_ 13 rfl rfl (by kernel_rfl) (by kernel_rfl) (by kernel_rfl) (by rfl) ?_ ?_
  rotate_left
  · (intro w hSw; obtain ⟨c1, c2, c3, c4, c5, c6⟩ := HCL.out w hSw; go_simp; first | done | with_reducible rfl)
  simp only [Act.put, List.setIfInBounds_toArray, List.set_cons_zero, List.set_cons_succ]
  refine Sure.val (i := 3) ?_ 14 rfl rfl (by kernel_rfl) (by kernel_rfl) (by kernel_rfl) (by rfl) ?_ ?_
  rotate_left
  · (intro w hSw; obtain ⟨c1, c2, c3, c4, c5, c6⟩ := HCL.out w hSw; go_simp; first | done | with_reducible rfl)
  simp only [Act.put, List.setIfInBounds_toArray, List.set_cons_zero, List.set_cons_succ]
  refine Sure.val (i := 4) ?_ 15 rfl rfl (by kernel_rfl) (by kernel_rfl) (by kernel_rfl) (by rfl) ?_ ?_
  rotate_left
  · (intro w hSw; obtain ⟨c1, c2, c3, c4, c5, c6⟩ := HCL.out w hSw; go_simp; first | done | with_reducible rfl)
  simp only [Act.put, List.setIfInBounds_toArray, List.set_cons_zero, List.set_cons_succ]
  refine Sure.val (i := 5) ?_ 16 rfl rfl (by kernel_rfl) (by kernel_rfl) (by kernel_rfl) (by rfl) ?_ ?_
  rotate_left
  · (intro w hSw; obtain ⟨c1, c2, c3, c4, c5, c6⟩ := HCL.out w hSw; go_simp; first | done | with_reducible rfl)
  simp only [Act.put, List.setIfInBounds_toArray, List.set_cons_zero, List.set_cons_succ]
  refine Sure.call (i := 6) (wtV (kyOf h x)) 17 161 #[.int .i64 h, wtV x] rfl rfl (by kernel_rfl) (by kernel_rfl) (by kernel_rfl) (by rfl) (fun w hSw => by simp [go_sem]) HCF.out ?_
  simp only [Act.put, List.setIfInBounds_toArray, List.set_cons_zero, List.set_cons_succ]
  refine Sure.val (i := 7) ?_ 18 rfl rfl (by kernel_rfl) (by kernel_rfl) (by kernel_rfl) (by rfl) ?_ ?_
  rotate_left
  · (intro w hSw; obtain ⟨c1, c2, c3, c4, c5, c6⟩ := HCL.out w hSw; go_simp; first | done | with_reducible rfl)
  simp only [Act.put, List.setIfInBounds_toArray, List.set_cons_zero, List.set_cons_succ]
  refine Sure.val (i := 8) ?_ 10 rfl rfl (by kernel_rfl) (by kernel_rfl) (by kernel_rfl) (by rfl) ?_ ?_
  rotate_left
  · (intro w hSw; obtain ⟨c1, c2, c3, c4, c5, c6⟩ := HCL.out w hSw; go_simp; first | done | with_reducible rfl)
  simp only [Act.put, List.setIfInBounds_toArray, List.set_cons_zero, List.set_cons_succ]
  refine Sure.val (i := 9) ?_ 19 rfl rfl (by kernel_rfl) (by kernel_rfl) (by kernel_rfl) (by rfl) ?_ ?_
  rotate_left
  · (intro w hSw; obtain ⟨c1, c2, c3, c4, c5, c6⟩ := HCL.out w hSw; go_simp; first | done | with_reducible rfl)
  simp only [Act.put, List.setIfInBounds_toArray, List.set_cons_zero, List.set_cons_succ]
  refine Sure.val (i := 10) ?_ 20 rfl rfl (by kernel_rfl) (by kernel_rfl) (by kernel_rfl) (by rfl) ?_ ?_
  rotate_left
  · (intro w hSw; obtain ⟨c1, c2, c3, c4, c5, c6⟩ := HCL.out w hSw; go_simp; first | done | with_reducible rfl)
  simp only [Act.put, List.setIfInBounds_toArray, List.set_cons_zero, List.set_cons_succ]
  refine Sure.val (i := 11) ?_ 8 rfl rfl (by kernel_rfl) (by kernel_rfl) (by kernel_rfl) (by rfl) ?_ ?_
  rotate_left
  · (intro w hSw; obtain ⟨c1, c2, c3, c4, c5, c6⟩ := HCL.out w hSw; go_simp; first | done | with_reducible rfl)
  simp only [Act.put, List.setIfInBounds_toArray, List.set_cons_zero, List.set_cons_succ]
  refine Sure.val (i := 12) ?_ 9 rfl rfl (by kernel_rfl) (by kernel_rfl) (by kernel_rfl) (by rfl) ?_ ?_
  rotate_left
  · (intro w hSw; obtain ⟨c1, c2, c3, c4, c5, c6⟩ := HCL.out w hSw; go_simp; first | done | with_reducible rfl)
  simp only [Act.put, List.setIfInBounds_toArray, List.set_cons_zero, List.set_cons_succ]
  refine Sure.done (by kernel_rfl) ?_ _
  intro w' hSw'
  have HB : Hid (Below w.heap.size w w') := below_step HB0.out hSw'
  clear hSw' z1 z3 z4 z5 z6 HCL HCF
  cases th
  · have HD : Hid (decide (C (kyOf h x) = some true) = false) := HR.out.2.2.2 rfl
    go_wp2
    go_ret2
    exact ⟨by rw [HD.out]; rfl, HB.out⟩
  · have HD : Hid ((cv == 1) = decide (C (kyOf h x) = some true)) := HR.out.2.2.1 rfl
    go_wp2
    go_ret2
    exact ⟨by rw [← HD.out]; rfl, HB.out⟩

set_option maxHeartbeats 800000 in
theorem answer_any (w : World) (A : Nat → Prop) (q : Nat) (L : List Wt) (C : Cl) (n : Nat) (H : Qw w A q L C n) (k : Wt) (hk : k.ok) :
    Calls Tryz.prog 160 #[qp q, .int .i64 k.c, .int .i64 k.p, .int .i64 k.o, .bool k.wr] w fun e w' => e = .returned (.tuple #[]) ∧ Nx w w' A q L (C.set k none) n := by
  obtain ⟨ao, cap, b, H⟩ := H
  have h1 := H.c1
  have HQ : Hid (Qu w A q ao cap b L C n) := H
  clear H
  go_enter Tryz.func160, Tryz.ntmps160
  go_wp2_with (first
    | (at_delete; refine wpList_delete_C _ rfl _ _ rfl rfl HQ.out.map hk rfl ?_; intro w1 hm1 hg1)
    | fail)
  go_end0
  exact ⟨rfl, HQ.out.turned hg1 hm1⟩

def callB (C : Cl) (h : Int) (x : Wt) : Bool := cliB h && (objB x.p x.o && !(C (kyOf h x)).isSome)
def callC (C : Cl) (h : Int) (x : Wt) : Cl := if callB C h x then C.set (kyOf h x) (some false) else C

set_option maxHeartbeats 1600000 in
theorem call_any (w : World) (A : Nat → Prop) (q : Nat) (L : List Wt) (C : Cl) (n : Nat) (H : Qw w A q L C n) (hn : n ≤ 1000000) (h : Int) (x : Wt) :
    Calls Tryz.prog 192 #[qp q, .int .i64 h, wtV x] w fun e w' => e = .returned (.bool (callB C h x)) ∧ Nx w w' A q L (callC C h x) (n + 1) := by
  have HW : Hid (Qw w A q L C (n + 1)) := H.le (by omega)
  obtain ⟨ao, cap, b, H⟩ := H
  have hb0 : Below w.heap.size w (w.alloc (wtO x)) := (Below.refl _ _).alloc (Nat.le_refl _) _
  have HB0 : Hid (Below w.heap.size w (w.alloc (wtO x))) := hb0
  cases h1 : cliB h
  · have e1 : callB C h x = false := by simp [callB, h1]
    have e2 : callC C h x = C := by simp [callC, e1]
    rw [e1, e2]
    clear e1 e2 H hb0
    go_enter Tryz.func192, Tryz.ntmps192
    go_wp2_with (first
      | (go_at_call 155; refine (isClient_any _ _).mono ?_; rw [h1]; rintro e w1 ⟨rfl, hw1⟩; subst w1)
      | fail)
    go_ret
    exact ⟨rfl, Nx.of_below HW.out HB0.out⟩
  cases h2 : objB x.p x.o
  · have e1 : callB C h x = false := by simp [callB, h2]
    have e2 : callC C h x = C := by simp [callC, e1]
    rw [e1, e2]
    clear e1 e2 H hb0
    go_enter Tryz.func192, Tryz.ntmps192
    go_wp2_with (first
      | (go_at_call 156; refine (isObject_any _ _ _).mono ?_; rw [h2]; rintro e w2 ⟨rfl, hw2⟩; subst w2)
      | (go_at_call 155; refine (isClient_any _ _).mono ?_; rw [h1]; rintro e w1 ⟨rfl, hw1⟩; subst w1)
      | fail)
    go_ret
    exact ⟨rfl, Nx.of_below HW.out HB0.out⟩
  have hk : (kyOf h x).ok := by
    simp only [cliB, decide_eq_true_eq] at h1
    simp only [objB, decide_eq_true_eq] at h2
    refine ⟨?_, ?_, ?_⟩ <;> (unfold inR; simp only; omega)
  have HQ : Hid (Qu w A q ao cap b L C n) := H
  obtain ⟨th, hth⟩ : ∃ th, (C (kyOf h x)).isSome = th := ⟨_, rfl⟩
  obtain ⟨cv, hcv⟩ : ∃ cv, cnum (C (kyOf h x)) = cv := ⟨_, rfl⟩
  have HE : Hid (callB C h x = !th ∧ (th = true → callC C h x = C) ∧ (th = false → callC C h x = C.set (kyOf h x) (some false))) := by
    have e1 : callB C h x = !th := by simp [callB, h1, h2, hth]
    refine ⟨e1, fun e => ?_, fun e => ?_⟩
    · unfold callC; rw [e1, e]; rfl
    · unfold callC; rw [e1, e]; rfl
  have HR : Hid ((C (kyOf h x)).isSome = th ∧ cnum (C (kyOf h x)) = cv ∧ (kyOf h x).ok) := ⟨hth, hcv, hk⟩
  rw [HE.out.1]
  clear hth hcv H hb0 hk
  go_enter Tryz.func192, Tryz.ntmps192
  go_upto_region 4 with (first
    | (go_at_call 161; refine (callFor_any h x _).mono ?_; rintro e w3 ⟨rfl, hb3⟩)
    | (go_at_call 156; refine (isObject_any _ _ _).mono ?_; rw [h2]; rintro e w2 ⟨rfl, hw2⟩; subst w2)
    | (go_at_call 155; refine (isClient_any _ _).mono ?_; rw [h1]; rintro e w1 ⟨rfl, hw1⟩; subst w1)
    | fail)
  have hb4 : Below w.heap.size w (w3.alloc (caO (kyOf h x))) := below_step (below_step HB0.out hb3) ((Below.refl _ _).alloc (Nat.le_refl _) _)
  have hg4 : (w3.alloc (caO (kyOf h x))).heap[w3.heap.size]? = some (caO (kyOf h x)) := heap_alloc_new w3 _
  obtain ⟨g4, hg⟩ : ∃ g, w3.heap.size = g := ⟨_, rfl⟩
  rw [hg] at hg4 ⊢
  have HB4 : Hid (Below w.heap.size w (w3.alloc (caO (kyOf h x)))) := hb4
  clear hb3 hb4 hg
  show Code.wp _ _ _ _ (w3.alloc (caO (kyOf h x)))
  generalize w3.alloc (caO (kyOf h x)) = W at *
  have HQW : Hid (Qu W A q ao cap b L C n) := HQ.out.below HB4.out
  have HCL : Hid (∀ V : World, Below W.heap.size W V → V.cell? ⟨q, 1, none⟩ = some (.map (some b)) ∧ (Instr.lookup 173 (.map (some b)) (wtV (kyOf h x)) true).run Tryz.prog V = .ok (.tuple #[.int .i64 cv, .bool th]) V ∧ V.cell? ⟨g4, 0, none⟩ = some (.int .i64 h) ∧ V.cell? ⟨g4, 1, none⟩ = some (.int .i64 x.p) ∧ V.cell? ⟨g4, 2, none⟩ = some (.int .i64 x.o) ∧ V.cell? ⟨g4, 3, none⟩ = some (.bool x.wr)) := fun V hV => by
    obtain ⟨f1, f2⟩ := look_facts HQW.out HR.out.2.2 hV
    rw [HR.out.1, HR.out.2.1] at f2
    exact ⟨f1, f2, wt_cells (x := kyOf h x) hg4 hV⟩
  clear hg4
  refine wp_region_sure (fun V => Below W.heap.size W V) (by kernel_rfl) (bel0 _) ?_
  refine Sure.val (i := 0) ?_ 25 rfl rfl (by kernel_rfl) (by kernel_rfl) (by kernel_rfl) (by rfl) ?_ ?_
  rotate_left
  · (intro w hSw; obtain ⟨c1, c2, c3, c4, c5, c6⟩ := HCL.out w hSw; go_simp; first | done | with_reducible rfl)
  simp only [Act.put, List.setIfInBounds_toArray, List.set_cons_zero, List.set_cons_succ]
  refine Sure.val (i := 1) ?_ 26 rfl rfl (by kernel_rfl) (by kernel_rfl) (by kernel_rfl) (by rfl) ?_ ?_
  rotate_left
  · (intro w hSw; obtain ⟨c1, c2, c3, c4, c5, c6⟩ := HCL.out w hSw; go_simp; first | done | with_reducible rfl)
  simp only [Act.put, List.setIfInBounds_toArray, List.set_cons_zero, List.set_cons_succ]
  refine Sure.val (i := 2) ?_ 27 rfl rfl (by kernel_rfl) (by kernel_rfl) (by kernel_rfl) (by rfl) ?_ ?_
  rotate_left
  · (intro w hSw; obtain ⟨c1, c2, c3, c4, c5, c6⟩ := HCL.out w hSw; go_simp; first | done | with_reducible rfl)
  simp only [Act.put, List.setIfInBounds_toArray, List.set_cons_zero, List.set_cons_succ]
  refine Sure.val (i := 3) ?_ 28 rfl rfl (by kernel_rfl) (by kernel_rfl) (by kernel_rfl) (by rfl) ?_ ?_
  rotate_left
  · (intro w hSw; obtain ⟨c1, c2, c3, c4, c5, c6⟩ := HCL.out w hSw; go_simp; first | done | with_reducible rfl)
  simp only [Act.put, List.setIfInBounds_toArray, List.set_cons_zero, List.set_cons_succ]
  refine Sure.val (i := 4) ?_ 29 rfl rfl (by kernel_rfl) (by kernel_rfl) (by kernel_rfl) (by rfl) ?_ ?_
  rotate_left
  · (intro w hSw; obtain ⟨c1, c2, c3, c4, c5, c6⟩ := HCL.out w hSw; go_simp; first | done | with_reducible rfl)
  simp only [Act.put, List.setIfInBounds_toArray, List.set_cons_zero, List.set_cons_succ]
  refine Sure.val (i := 5) ?_ 30 rfl rfl (by kernel_rfl) (by kernel_rfl) (by kernel_rfl) (by rfl) ?_ ?_
  rotate_left
  · (intro w hSw; obtain ⟨c1, c2, c3, c4, c5, c6⟩ := HCL.out w hSw; go_simp; first | done | with_reducible rfl)
  simp only [Act.put, List.setIfInBounds_toArray, List.set_cons_zero, List.set_cons_succ]
  refine Sure.val (i := 6) ?_ 24 rfl rfl (by kernel_rfl) (by kernel_rfl) (by kernel_rfl) (by rfl) ?_ ?_
  rotate_left
  · (intro w hSw; obtain ⟨c1, c2, c3, c4, c5, c6⟩ := HCL.out w hSw; go_simp; first | done | with_reducible rfl)
  simp only [Act.put, List.setIfInBounds_toArray, List.set_cons_zero, List.set_cons_succ]
  refine Sure.val (i := 7) ?_ 31 rfl rfl (by kernel_rfl) (by kernel_rfl) (by kernel_rfl) (by rfl) ?_ ?_
  rotate_left
  · (intro w hSw; obtain ⟨c1, c2, c3, c4, c5, c6⟩ := HCL.out w hSw; go_simp; first | done | with_reducible rfl)
  simp only [Act.put, List.setIfInBounds_toArray, List.set_cons_zero, List.set_cons_succ]
  refine Sure.val (i := 8) ?_ 32 rfl rfl (by kernel_rfl) (by kernel_rfl) (by kernel_rfl) (by rfl) ?_ ?_
  rotate_left
  · (intro w hSw; obtain ⟨c1, c2, c3, c4, c5, c6⟩ := HCL.out w hSw; go_simp; first | done | with_reducible rfl)
  simp only [Act.put, List.setIfInBounds_toArray, List.set_cons_zero, List.set_cons_succ]
  refine Sure.val (i := 9) ?_ 8 rfl rfl (by kernel_rfl) (by kernel_rfl) (by kernel_rfl) (by rfl) ?_ ?_
  rotate_left
  · (intro w hSw; obtain ⟨c1, c2, c3, c4, c5, c6⟩ := HCL.out w hSw; go_simp; first | done | with_reducible rfl)
  simp only [Act.put, List.setIfInBounds_toArray, List.set_cons_zero, List.set_cons_succ]
  refine Sure.val (i := 10) ?_ 9 rfl rfl (by kernel_rfl) (by kernel_rfl) (by kernel_rfl) (by rfl) ?_ ?_
  rotate_left
  · (intro w hSw; obtain ⟨c1, c2, c3, c4, c5, c6⟩ := HCL.out w hSw; go_simp; first | done | with_reducible rfl)
  simp only [Act.put, List.setIfInBounds_toArray, List.set_cons_zero, List.set_cons_succ]
  refine Sure.done (by kernel_rfl) ?_ _
  intro W5 hSw'
  have HB5 : Hid (Below W.heap.size W W5) := hSw'
  clear hSw'
  cases th
  · have HD : Hid (callC C h x = C.set (kyOf h x) (some false)) := HE.out.2.2 rfl
    go_upto_region 7 with fail
    have HQ5 : Hid (Qu W5 A q ao cap b L C n) := HQW.out.below HB5.out
    have hF0 : W5.drew.cell? ⟨q, 1, none⟩ = some (.map (some b)) ∧ W5.drew.cell? ⟨g4, 0, none⟩ = some (.int .i64 h) ∧ W5.drew.cell? ⟨g4, 1, none⟩ = some (.int .i64 x.p) ∧ W5.drew.cell? ⟨g4, 2, none⟩ = some (.int .i64 x.o) ∧ W5.drew.cell? ⟨g4, 3, none⟩ = some (.bool x.wr) := by
      obtain ⟨f1, -, f3, f4, f5, f6⟩ := HCL.out W5.drew (below_step HB5.out (bel0 _))
      exact ⟨f1, f3, f4, f5, f6⟩
    obtain ⟨w7, hrun7, hm7, ht7⟩ := (HQ5.out.below (bel0 _)).map.put (by unfold maxLen; omega) HR.out.2.2 false
    have hrun7' : (Instr.mapUpdate 173 (.map (some b)) (.agg #[.int .i64 h, .int .i64 x.p, .int .i64 x.o, .bool x.wr]) (.int .i64 0)).run Tryz.prog W5.drew = .ok () w7 := hrun7
    have HN : Hid (Nx w w7 A q L (C.set (kyOf h x) (some false)) (n + 1)) := Nx.older (below_step (below_step HB4.out HB5.out) (bel0 _)) ((HQ5.out.below (bel0 _)).turned ht7.grown hm7)
    clear hrun7 hm7 ht7
    refine wp_region_till (fun V => V.cell? ⟨q, 1, none⟩ = some (.map (some b)) ∧ V.cell? ⟨g4, 0, none⟩ = some (.int .i64 h) ∧ V.cell? ⟨g4, 1, none⟩ = some (.int .i64 x.p) ∧ V.cell? ⟨g4, 2, none⟩ = some (.int .i64 x.o) ∧ V.cell? ⟨g4, 3, none⟩ = some (.bool x.wr)) 5 (by kernel_rfl) ?_
    refine Till.val (i := 0) ?_ 34 rfl rfl rfl (by kernel_rfl) (by decide) (by kernel_rfl) (by kernel_rfl) (by kernel_rfl) (by kernel_rfl) (by rfl) (fun _ _ _ h => h) hF0 ?_ ?_
    rotate_left
    · (intro w hSw; obtain ⟨c1, c2, c3, c4, c5⟩ := hSw; go_simp; first | done | with_reducible rfl)
    simp only [Act.put, List.setIfInBounds_toArray, List.set_cons_zero, List.set_cons_succ]
    refine Till.val (i := 1) ?_ 35 rfl rfl rfl (by kernel_rfl) (by decide) (by kernel_rfl) (by kernel_rfl) (by kernel_rfl) (by kernel_rfl) (by rfl) (fun _ _ _ h => h) hF0 ?_ ?_
    rotate_left
    · (intro w hSw; obtain ⟨c1, c2, c3, c4, c5⟩ := hSw; go_simp; first | done | with_reducible rfl)
    simp only [Act.put, List.setIfInBounds_toArray, List.set_cons_zero, List.set_cons_succ]
    refine Till.val (i := 2) ?_ 36 rfl rfl rfl (by kernel_rfl) (by decide) (by kernel_rfl) (by kernel_rfl) (by kernel_rfl) (by kernel_rfl) (by rfl) (fun _ _ _ h => h) hF0 ?_ ?_
    rotate_left
    · (intro w hSw; obtain ⟨c1, c2, c3, c4, c5⟩ := hSw; go_simp; first | done | with_reducible rfl)
    simp only [Act.put, List.setIfInBounds_toArray, List.set_cons_zero, List.set_cons_succ]
    refine Till.val (i := 3) ?_ 37 rfl rfl rfl (by kernel_rfl) (by decide) (by kernel_rfl) (by kernel_rfl) (by kernel_rfl) (by kernel_rfl) (by rfl) (fun _ _ _ h => h) hF0 ?_ ?_
    rotate_left
    · (intro w hSw; obtain ⟨c1, c2, c3, c4, c5⟩ := hSw; go_simp; first | done | with_reducible rfl)
    simp only [Act.put, List.setIfInBounds_toArray, List.set_cons_zero, List.set_cons_succ]
    refine Till.val (i := 4) ?_ 38 rfl rfl rfl (by kernel_rfl) (by decide) (by kernel_rfl) (by kernel_rfl) (by kernel_rfl) (by kernel_rfl) (by rfl) (fun _ _ _ h => h) hF0 ?_ ?_
    rotate_left
    · (intro w hSw; obtain ⟨c1, c2, c3, c4, c5⟩ := hSw; go_simp; first | done | with_reducible rfl)
    simp only [Act.put, List.setIfInBounds_toArray, List.set_cons_zero, List.set_cons_succ]
    refine Till.last w7 rfl rfl (by kernel_rfl) (by decide) (by rfl) (by go_simp) ?_
    refine Till.done (by kernel_rfl) ?_ _
    clear hF0 hrun7'
    go_wp2
    go_ret
    exact ⟨rfl, by rw [HD.out]; exact HN.out⟩
  · have HD : Hid (callC C h x = C) := HE.out.2.1 rfl
    go_wp2
    go_ret
    exact ⟨rfl, by rw [HD.out]; exact Nx.of_below HW.out (below_step HB4.out HB5.out)⟩

def busyC (C : Cl) (h : Int) (x : Wt) : Cl := if (C (kyOf h x)).isSome then C.set (kyOf h x) (some true) else C

set_option maxHeartbeats 1600000 in
theorem busy_any (w : World) (A : Nat → Prop) (q : Nat) (L : List Wt) (C : Cl) (n : Nat) (H : Qw w A q L C n) (hn : n ≤ 1000000) (h : Int) (x : Wt) (hk : (kyOf h x).ok) :
    Calls Tryz.prog 126 #[qp q, .int .i64 h, wtV x] w fun e w' => e = .returned (.bool (C (kyOf h x)).isSome) ∧ Nx w w' A q L (busyC C h x) (n + 1) := by
  have HW : Hid (Qw w A q L C (n + 1)) := H.le (by omega)
  obtain ⟨ao, cap, b, H⟩ := H
  have hb0 : Below w.heap.size w (w.alloc (wtO x)) := (Below.refl _ _).alloc (Nat.le_refl _) _
  have HB0 : Hid (Below w.heap.size w (w.alloc (wtO x))) := hb0
  have HQ : Hid (Qu w A q ao cap b L C n) := H
  obtain ⟨th, hth⟩ : ∃ th, (C (kyOf h x)).isSome = th := ⟨_, rfl⟩
  obtain ⟨cv, hcv⟩ : ∃ cv, cnum (C (kyOf h x)) = cv := ⟨_, rfl⟩
  have HE : Hid ((th = false → busyC C h x = C) ∧ (th = true → busyC C h x = C.set (kyOf h x) (some true))) := by
    refine ⟨fun e => ?_, fun e => ?_⟩
    · unfold busyC; rw [hth, e]; rfl
    · unfold busyC; rw [hth, e]; rfl
  have HR : Hid ((C (kyOf h x)).isSome = th ∧ cnum (C (kyOf h x)) = cv ∧ (kyOf h x).ok) := ⟨hth, hcv, hk⟩
  rw [HR.out.1]
  clear hth hcv H hb0 hk
  go_enter Tryz.func126, Tryz.ntmps126
  go_upto_region 2 with (first
    | (go_at_call 161; refine (callFor_any h x _).mono ?_; rintro e w3 ⟨rfl, hb3⟩)
    | fail)
  have hb4 : Below w.heap.size w (w3.alloc (caO (kyOf h x))) := below_step (below_step HB0.out hb3) ((Below.refl _ _).alloc (Nat.le_refl _) _)
  have hg4 : (w3.alloc (caO (kyOf h x))).heap[w3.heap.size]? = some (caO (kyOf h x)) := heap_alloc_new w3 _
  obtain ⟨g4, hg⟩ : ∃ g, w3.heap.size = g := ⟨_, rfl⟩
  rw [hg] at hg4 ⊢
  have HB4 : Hid (Below w.heap.size w (w3.alloc (caO (kyOf h x)))) := hb4
  clear hb3 hb4 hg
  show Code.wp _ _ _ _ (w3.alloc (caO (kyOf h x)))
  generalize w3.alloc (caO (kyOf h x)) = W at *
  have HQW : Hid (Qu W A q ao cap b L C n) := HQ.out.below HB4.out
  have HCL : Hid (∀ V : World, Below W.heap.size W V → V.cell? ⟨q, 1, none⟩ = some (.map (some b)) ∧ (Instr.lookup 173 (.map (some b)) (wtV (kyOf h x)) true).run Tryz.prog V = .ok (.tuple #[.int .i64 cv, .bool th]) V ∧ V.cell? ⟨g4, 0, none⟩ = some (.int .i64 h) ∧ V.cell? ⟨g4, 1, none⟩ = some (.int .i64 x.p) ∧ V.cell? ⟨g4, 2, none⟩ = some (.int .i64 x.o) ∧ V.cell? ⟨g4, 3, none⟩ = some (.bool x.wr)) := fun V hV => by
    obtain ⟨f1, f2⟩ := look_facts HQW.out HR.out.2.2 hV
    rw [HR.out.1, HR.out.2.1] at f2
    exact ⟨f1, f2, wt_cells (x := kyOf h x) hg4 hV⟩
  clear hg4
  refine wp_region_sure (fun V => Below W.heap.size W V) (by kernel_rfl) (bel0 _) ?_
  refine Sure.val (i := 0) ?_ 14 rfl rfl (by kernel_rfl) (by kernel_rfl) (by kernel_rfl) (by rfl) ?_ ?_
  rotate_left
  · (intro w hSw; obtain ⟨c1, c2, c3, c4, c5, c6⟩ := HCL.out w hSw; go_simp; first | done | with_reducible rfl)
  simp only [Act.put, List.setIfInBounds_toArray, List.set_cons_zero, List.set_cons_succ]
  refine Sure.val (i := 1) ?_ 15 rfl rfl (by kernel_rfl) (by kernel_rfl) (by kernel_rfl) (by rfl) ?_ ?_
  rotate_left
  · (intro w hSw; obtain ⟨c1, c2, c3, c4, c5, c6⟩ := HCL.out w hSw; go_simp; first | done | with_reducible rfl)
  simp only [Act.put, List.setIfInBounds_toArray, List.set_cons_zero, List.set_cons_succ]
  refine Sure.val (i := 2) ?_ 16 rfl rfl (by kernel_rfl) (by kernel_rfl) (by kernel_rfl) (by rfl) ?_ ?_
  rotate_left
  · (intro w hSw; obtain ⟨c1, c2, c3, c4, c5, c6⟩ := HCL.out w hSw; go_simp; first | done | with_reducible rfl)
  simp only [Act.put, List.setIfInBounds_toArray, List.set_cons_zero, List.set_cons_succ]
  refine Sure.val (i := 3) ?_ 17 rfl rfl (by kernel_rfl) (by kernel_rfl) (by kernel_rfl) (by rfl) ?_ ?_
  rotate_left
  · (intro w hSw; obtain ⟨c1, c2, c3, c4, c5, c6⟩ := HCL.out w hSw; go_simp; first | done | with_reducible rfl)
  simp only [Act.put, List.setIfInBounds_toArray, List.set_cons_zero, List.set_cons_succ]
  refine Sure.val (i := 4) ?_ 18 rfl rfl (by kernel_rfl) (by kernel_rfl) (by kernel_rfl) (by rfl) ?_ ?_
  rotate_left
  · (intro w hSw; obtain ⟨c1, c2, c3, c4, c5, c6⟩ := HCL.out w hSw; go_simp; first | done | with_reducible rfl)
  simp only [Act.put, List.setIfInBounds_toArray, List.set_cons_zero, List.set_cons_succ]
  refine Sure.val (i := 5) ?_ 19 rfl rfl (by kernel_rfl) (by kernel_rfl) (by kernel_rfl) (by rfl) ?_ ?_
  rotate_left
  · (intro w hSw; obtain ⟨c1, c2, c3, c4, c5, c6⟩ := HCL.out w hSw; go_simp; first | done | with_reducible rfl)
  simp only [Act.put, List.setIfInBounds_toArray, List.set_cons_zero, List.set_cons_succ]
  refine Sure.val (i := 6) ?_ 13 rfl rfl (by kernel_rfl) (by kernel_rfl) (by kernel_rfl) (by rfl) ?_ ?_
  rotate_left
  · (intro w hSw; obtain ⟨c1, c2, c3, c4, c5, c6⟩ := HCL.out w hSw; go_simp; first | done | with_reducible rfl)
  simp only [Act.put, List.setIfInBounds_toArray, List.set_cons_zero, List.set_cons_succ]
  refine Sure.val (i := 7) ?_ 20 rfl rfl (by kernel_rfl) (by kernel_rfl) (by kernel_rfl) (by rfl) ?_ ?_
  rotate_left
  · (intro w hSw; obtain ⟨c1, c2, c3, c4, c5, c6⟩ := HCL.out w hSw; go_simp; first | done | with_reducible rfl)
  simp only [Act.put, List.setIfInBounds_toArray, List.set_cons_zero, List.set_cons_succ]
  refine Sure.val (i := 8) ?_ 21 rfl rfl (by kernel_rfl) (by kernel_rfl) (by kernel_rfl) (by rfl) ?_ ?_
  rotate_left
  · (intro w hSw; obtain ⟨c1, c2, c3, c4, c5, c6⟩ := HCL.out w hSw; go_simp; first | done | with_reducible rfl)
  simp only [Act.put, List.setIfInBounds_toArray, List.set_cons_zero, List.set_cons_succ]
  refine Sure.val (i := 9) ?_ 8 rfl rfl (by kernel_rfl) (by kernel_rfl) (by kernel_rfl) (by rfl) ?_ ?_
  rotate_left
  · (intro w hSw; obtain ⟨c1, c2, c3, c4, c5, c6⟩ := HCL.out w hSw; go_simp; first | done | with_reducible rfl)
  simp only [Act.put, List.setIfInBounds_toArray, List.set_cons_zero, List.set_cons_succ]
  refine Sure.val (i := 10) ?_ 9 rfl rfl (by kernel_rfl) (by kernel_rfl) (by kernel_rfl) (by rfl) ?_ ?_
  rotate_left
  · (intro w hSw; obtain ⟨c1, c2, c3, c4, c5, c6⟩ := HCL.out w hSw; go_simp; first | done | with_reducible rfl)
  simp only [Act.put, List.setIfInBounds_toArray, List.set_cons_zero, List.set_cons_succ]
  refine Sure.done (by kernel_rfl) ?_ _
  intro W5 hSw'
  have HB5 : Hid (Below W.heap.size W W5) := hSw'
  clear hSw'
  cases th
  · have HD : Hid (busyC C h x = C) := HE.out.1 rfl
    go_wp2
    go_ret
    exact ⟨rfl, by rw [HD.out]; exact Nx.of_below HW.out (below_step HB4.out HB5.out)⟩
  · have HD : Hid (busyC C h x = C.set (kyOf h x) (some true)) := HE.out.2 rfl
    go_upto_region 4 with fail
    have HQ5 : Hid (Qu W5 A q ao cap b L C n) := HQW.out.below HB5.out
    have hF0 : W5.drew.cell? ⟨q, 1, none⟩ = some (.map (some b)) ∧ W5.drew.cell? ⟨g4, 0, none⟩ = some (.int .i64 h) ∧ W5.drew.cell? ⟨g4, 1, none⟩ = some (.int .i64 x.p) ∧ W5.drew.cell? ⟨g4, 2, none⟩ = some (.int .i64 x.o) ∧ W5.drew.cell? ⟨g4, 3, none⟩ = some (.bool x.wr) := by
      obtain ⟨f1, -, f3, f4, f5, f6⟩ := HCL.out W5.drew (below_step HB5.out (bel0 _))
      exact ⟨f1, f3, f4, f5, f6⟩
    obtain ⟨w7, hrun7, hm7, ht7⟩ := (HQ5.out.below (bel0 _)).map.put (by unfold maxLen; omega) HR.out.2.2 true
    have hrun7' : (Instr.mapUpdate 173 (.map (some b)) (.agg #[.int .i64 h, .int .i64 x.p, .int .i64 x.o, .bool x.wr]) (.int .i64 1)).run Tryz.prog W5.drew = .ok () w7 := hrun7
    have HN : Hid (Nx w w7 A q L (C.set (kyOf h x) (some true)) (n + 1)) := Nx.older (below_step (below_step HB4.out HB5.out) (bel0 _)) ((HQ5.out.below (bel0 _)).turned ht7.grown hm7)
    clear hrun7 hm7 ht7
    refine wp_region_till (fun V => V.cell? ⟨q, 1, none⟩ = some (.map (some b)) ∧ V.cell? ⟨g4, 0, none⟩ = some (.int .i64 h) ∧ V.cell? ⟨g4, 1, none⟩ = some (.int .i64 x.p) ∧ V.cell? ⟨g4, 2, none⟩ = some (.int .i64 x.o) ∧ V.cell? ⟨g4, 3, none⟩ = some (.bool x.wr)) 5 (by kernel_rfl) ?_
    refine Till.val (i := 0) ?_ 23 rfl rfl rfl (by kernel_rfl) (by decide) (by kernel_rfl) (by kernel_rfl) (by kernel_rfl) (by kernel_rfl) (by rfl) (fun _ _ _ h => h) hF0 ?_ ?_
    rotate_left
    · (intro w hSw; obtain ⟨c1, c2, c3, c4, c5⟩ := hSw; go_simp; first | done | with_reducible rfl)
    simp only [Act.put, List.setIfInBounds_toArray, List.set_cons_zero, List.set_cons_succ]
    refine Till.val (i := 1) ?_ 24 rfl rfl rfl (by kernel_rfl) (by decide) (by kernel_rfl) (by kernel_rfl) (by kernel_rfl) (by kernel_rfl) (by rfl) (fun _ _ _ h => h) hF0 ?_ ?_
    rotate_left
    · (intro w hSw; obtain ⟨c1, c2, c3, c4, c5⟩ := hSw; go_simp; first | done | with_reducible rfl)
    simp only [Act.put, List.setIfInBounds_toArray, List.set_cons_zero, List.set_cons_succ]
    refine Till.val (i := 2) ?_ 25 rfl rfl rfl (by kernel_rfl) (by decide) (by kernel_rfl) (by kernel_rfl) (by kernel_rfl) (by kernel_rfl) (by rfl) (fun _ _ _ h => h) hF0 ?_ ?_
    rotate_left
    · (intro w hSw; obtain ⟨c1, c2, c3, c4, c5⟩ := hSw; go_simp; first | done | with_reducible rfl)
    simp only [Act.put, List.setIfInBounds_toArray, List.set_cons_zero, List.set_cons_succ]
    refine Till.val (i := 3) ?_ 26 rfl rfl rfl (by kernel_rfl) (by decide) (by kernel_rfl) (by kernel_rfl) (by kernel_rfl) (by kernel_rfl) (by rfl) (fun _ _ _ h => h) hF0 ?_ ?_
    rotate_left
    · (intro w hSw; obtain ⟨c1, c2, c3, c4, c5⟩ := hSw; go_simp; first | done | with_reducible rfl)
    simp only [Act.put, List.setIfInBounds_toArray, List.set_cons_zero, List.set_cons_succ]
    refine Till.val (i := 4) ?_ 27 rfl rfl rfl (by kernel_rfl) (by decide) (by kernel_rfl) (by kernel_rfl) (by kernel_rfl) (by kernel_rfl) (by rfl) (fun _ _ _ h => h) hF0 ?_ ?_
    rotate_left
    · (intro w hSw; obtain ⟨c1, c2, c3, c4, c5⟩ := hSw; go_simp; first | done | with_reducible rfl)
    simp only [Act.put, List.setIfInBounds_toArray, List.set_cons_zero, List.set_cons_succ]
    refine Till.last w7 rfl rfl (by kernel_rfl) (by decide) (by rfl) (by go_simp) ?_
    refine Till.done (by kernel_rfl) ?_ _
    clear hF0 hrun7'
    go_wp2
    go_ret
    exact ⟨rfl, by rw [HD.out]; exact HN.out⟩

end Go.Proofs.YtpofihiojhbfgaaGreatDoor.Dsk

namespace Go.Proofs.YtpofihiojhbfgaaGreatDoor.Dsk
open Go.RowKit Go.Maps
set_option linter.unusedVariables false
set_option maxRecDepth 8000

def outP (C : Cl) (h p : Int) : Prop := ∃ k : Wt, C k = some false ∧ k.c = h ∧ k.p = p
open Classical in
noncomputable def outB (C : Cl) (h p : Int) : Bool := decide (outP C h p)

theorem outB_true {C : Cl} {h p : Int} (x : outP C h p) : outB C h p = true := by classical exact decide_eq_true x
theorem outB_false {C : Cl} {h p : Int} (x : ¬ outP C h p) : outB C h p = false := by classical exact decide_eq_false x

set_option maxHeartbeats 1600000 in
theorem out_any (w : World) (A : Nat → Prop) (q : Nat) (L : List Wt) (C : Cl) (n : Nat) (H : Qw w A q L C n) (h p : Int) :
    Calls Tryz.prog 173 #[qp q, .int .i64 h, .int .i64 p] w fun e w' => e = .returned (.bool (outB C h p)) ∧ Below w.heap.size w w' := by
  obtain ⟨ao, cap, b, H⟩ := H
  have h1 := H.c1
  have HM : Hid (MapC w b n C ∧ b < w.heap.size) := ⟨H.map, H.map.lt⟩
  clear H
  go_enter Tryz.func173, Tryz.ntmps173
  go_wp2_with (first
    | (at_range; refine wpList_range_C _ rfl _ rfl rfl HM.out.1 ?_; intro w1 cnt1 hr1 hb1 hs1)
    | fail)
  go_frame
  go_loopw [15] (fun _ wr => ∃ (lf : Wt → Bool) (cnt : Nat), Hid (RanC wr b w.heap.size n C lf cnt ∧ ∀ k, C k = some false → k.c = h → k.p = p → lf k = true) ∧ Below w.heap.size w wr) (fun _ wr => wr.rangeLeft b w.heap.size)
  case atStart => exact ⟨_, cnt1, ⟨hr1, fun k hk _ _ => by simp [hk]⟩, hb1⟩
  case round =>
    clear hr1 hb1 hs1
    obtain ⟨lf, cnt, HR, hbel⟩ := hrel
    rename World => wr
    go_wp2_with (first
      | (at_next; refine wpList_next_C _ rfl _ rfl rfl HR.out.1 ?_ ?_)
      | fail)
    · intro hl0
      have HL : Hid (∀ k, lf k = false) := hl0
      clear hl0
      go_wp2
      go_ret
      refine ⟨ret_bool (Eq.symm (outB_false ?_)), hbel⟩
      rintro ⟨k, hk1, hk2, hk3⟩
      have := HR.out.2 k hk1 hk2 hk3
      rw [HL.out k] at this
      cases this
    · intro k c w2 cnt2 hok hlf hc hcu hr2 hlt hg2 hs2 hen
      have HK : Hid (k.ok ∧ lf k = true ∧ C k = some (decide (c = 1)) ∧ (c = 0 ∨ c = 1) ∧ RanC w2 b w.heap.size n C (strike lf k) cnt2 ∧ cnt2 < cnt) := ⟨hok, hlf, hcu, hc, hr2, hlt⟩
      have hb2 : Below w.heap.size w w2 := hbel.grown hg2 hbel.size (fun j hj => by cases hj; exact Nat.le_refl _)
      have HQ : Hid (∀ j, C j = some false → j.c = h → j.p = p → lf j = true) := HR.out.2
      have HLt : Hid (wr.rangeLeft b w.heap.size = cnt) := HR.out.1.left_eq
      have HB2 : Hid (Below w.heap.size w w2 ∧ b < w.heap.size ∧ w.heap.size < w2.heap.size) := ⟨hb2, HM.out.2, hr2.lt⟩
      have HS : Hid (∀ V : World, Below w2.heap.size w2 V → (k.c ≠ h ∨ k.p ≠ p ∨ c = 1) → (RanC V b w.heap.size n C (strike lf k) cnt2 ∧ ∀ j, C j = some false → j.c = h → j.p = p → strike lf k j = true)) := fun V hV hne => by
        refine ⟨hr2.kept hV.size (hV.block _ (by have := HB2.out; omega)) (hV.block _ HB2.out.2.2), fun j h1 h2 h3 => ?_⟩
        unfold strike
        rw [HQ.out j h1 h2 h3]
        have : ¬ (j.c = k.c ∧ j.p = k.p ∧ j.o = k.o ∧ j.wr = k.wr) := by
          intro e
          have e' := wt_eq.1 e
          subst e'
          rw [hcu] at h1
          rcases hne with e1 | e1 | e1
          · exact e1 h2
          · exact e1 h3
          · rw [e1] at h1; cases h1
        simp [this]
      clear hok hlf hcu hr2 hlt hg2 hs2 hb2 HR
      obtain ⟨kc, kp, ko, kw⟩ := k
      simp only [wtV] at hen
      have hbA : Below w2.heap.size w2 (w2.alloc (caO ⟨kc, kp, ko, kw⟩)) := (Below.refl _ _).alloc (Nat.le_refl _) _
      have HBA : Hid (Below w2.heap.size w2 (w2.alloc (caO ⟨kc, kp, ko, kw⟩)) ∧ Below w.heap.size w (w2.alloc (caO ⟨kc, kp, ko, kw⟩))) := ⟨hbA, below_step HB2.out.1 hbA⟩
      clear hbA
      cases e1 : (kc == h)
      · have hn9 : kc ≠ h := by simpa using e1
        have HN : Hid (kc ≠ h) := hn9
        clear hn9
        clear hc
        go_wp2
        go_roundw
        case rel => exact ⟨_, cnt2, HS.out _ HBA.out.1 (.inl HN.out), HBA.out.2⟩
        case measure => rw [(HS.out _ HBA.out.1 (.inl HN.out)).1.left_eq, HLt.out]; exact HK.out.2.2.2.2.2
      · have hn9 : kc = h := by simpa using e1
        have HE1 : Hid (kc = h) := hn9
        clear hn9
        cases e2 : (kp == p)
        · have hn9 : kp ≠ p := by simpa using e2
          have HN : Hid (kp ≠ p) := hn9
          clear hn9
          clear hc
          go_wp2
          go_roundw
          case rel => exact ⟨_, cnt2, HS.out _ HBA.out.1 (.inr (.inl HN.out)), HBA.out.2⟩
          case measure => rw [(HS.out _ HBA.out.1 (.inr (.inl HN.out))).1.left_eq, HLt.out]; exact HK.out.2.2.2.2.2
        · have hn9 : kp = p := by simpa using e2
          have HE2 : Hid (kp = p) := hn9
          clear hn9
          rcases hc with hc0 | hc0
          · have hc1 : (c == 0) = true := by rw [hc0]; rfl
            have HO : Hid (outP C h p) := ⟨⟨kc, kp, ko, kw⟩, by rw [HK.out.2.2.1, hc0]; rfl, HE1.out, HE2.out⟩
            clear hc0
            go_wp2
            go_ret
            exact ⟨ret_bool (outB_true HO.out).symm, HBA.out.2⟩
          · have hc1 : (c == 0) = false := by rw [hc0]; rfl
            have HC1 : Hid (c = 1) := hc0
            clear hc0
            go_wp2
            go_roundw
            case rel => exact ⟨_, cnt2, HS.out _ HBA.out.1 (.inr (.inr HC1.out)), HBA.out.2⟩
            case measure => rw [(HS.out _ HBA.out.1 (.inr (.inr HC1.out))).1.left_eq, HLt.out]; exact HK.out.2.2.2.2.2

end Go.Proofs.YtpofihiojhbfgaaGreatDoor.Dsk

namespace Go.Proofs.YtpofihiojhbfgaaGreatDoor.Dsk
open Go.RowKit Go.Maps
set_option linter.unusedVariables false
set_option maxRecDepth 8000

def Qx (B : Nat) (V : Nat → Prop) (W : World) (q : Nat) (L : List Wt) (C : Cl) (n : Nat) : Prop := Qw W (fun k => B ≤ k ∧ k < W.heap.size ∧ ¬ V k) q L C n

structure Sx (B : Nat) (V : Nat → Prop) (W W' : World) (q : Nat) (L : List Wt) (C : Cl) (n : Nat) : Prop where
  qx : Qx B V W' q L C n
  keep : ∀ k, V k → W'.heap[k]? = W.heap[k]?
  bel : Below B W W'

section
variable {B : Nat} {V : Nat → Prop} {W W' : World} {q : Nat} {L : List Wt} {C : Cl} {n : Nat}

theorem Qx.le {m : Nat} (h : Qx B V W q L C n) (hm : n ≤ m) : Qx B V W q L C m := Qw.le h hm

theorem Nx.sx (hV : ∀ k, V k → k < W.heap.size) (hB : B ≤ W.heap.size) (h : Nx W W' (fun k => B ≤ k ∧ k < W.heap.size ∧ ¬ V k) q L C n) : Sx B V W W' q L C n :=
  ⟨h.1.mono fun k hk ha => by
      rcases ha with ha | ha
      · exact ⟨ha.1, hk, ha.2.2⟩
      · exact ⟨by omega, hk, fun h' => by have := hV k h'; omega⟩,
    fun k hk => h.2.block k (hV k hk) fun ha => ha.2.2 hk, h.2.below (fun k ha => ha.1) hB⟩

theorem Sx.size (h : Sx B V W W' q L C n) : W.heap.size ≤ W'.heap.size := h.bel.size

end

theorem newX (w : World) : Calls Tryz.prog 59 #[] w fun e w' => ∃ q, e = .returned (qp q) ∧ Qx w.heap.size (fun _ => False) w' q [] (fun _ => none) 0 ∧ Below w.heap.size w w' :=
  (new_any w).mono fun e w' ⟨h1, h2, h3⟩ => ⟨_, h1, h2.mono fun k hk ha => ⟨ha, hk, fun h => h⟩, h3⟩

section
variable {B : Nat} {V : Nat → Prop} {W : World} {q : Nat} {L : List Wt} {C : Cl} {n : Nat}

theorem addX (H : Qx B V W q L C n) (hV : ∀ k, V k → k < W.heap.size) (hB : B ≤ W.heap.size) (hl : L.length ≤ 1000000) (x : Wt) :
    Calls Tryz.prog 123 #[qp q, wtV x] W fun e w' => e = .returned (.bool (addB L x)) ∧ Sx B V W w' q (addL L x) C n :=
  (add_any W _ q L C n H hl x).mono fun e w' ⟨h1, h2⟩ => ⟨h1, h2.sx hV hB⟩

theorem removeX (H : Qx B V W q L C n) (hV : ∀ k, V k → k < W.heap.size) (hB : B ≤ W.heap.size) (hl : L.length ≤ 1000000) (c : Int) :
    Calls Tryz.prog 109 #[qp q, .int .i64 c] W fun e w' => e = .returned (.bool (hasB L c)) ∧ Sx B V W w' q (rmL L c) C n :=
  (remove_any W _ q L C n H hl c).mono fun e w' ⟨h1, h2⟩ => ⟨h1, h2.sx hV hB⟩

theorem callX (H : Qx B V W q L C n) (hV : ∀ k, V k → k < W.heap.size) (hB : B ≤ W.heap.size) (hn : n ≤ 1000000) (h : Int) (x : Wt) :
    Calls Tryz.prog 192 #[qp q, .int .i64 h, wtV x] W fun e w' => e = .returned (.bool (callB C h x)) ∧ Sx B V W w' q L (callC C h x) (n + 1) :=
  (call_any W _ q L C n H hn h x).mono fun e w' ⟨h1, h2⟩ => ⟨h1, h2.sx hV hB⟩

theorem busyX (H : Qx B V W q L C n) (hV : ∀ k, V k → k < W.heap.size) (hB : B ≤ W.heap.size) (hn : n ≤ 1000000) (h : Int) (x : Wt) (hk : (kyOf h x).ok) :
    Calls Tryz.prog 126 #[qp q, .int .i64 h, wtV x] W fun e w' => e = .returned (.bool (C (kyOf h x)).isSome) ∧ Sx B V W w' q L (busyC C h x) (n + 1) :=
  (busy_any W _ q L C n H hn h x hk).mono fun e w' ⟨h1, h2⟩ => ⟨h1, h2.sx hV hB⟩

theorem answerX (H : Qx B V W q L C n) (hV : ∀ k, V k → k < W.heap.size) (hB : B ≤ W.heap.size) (k : Wt) (hk : k.ok) :
    Calls Tryz.prog 160 #[qp q, .int .i64 k.c, .int .i64 k.p, .int .i64 k.o, .bool k.wr] W fun e w' => e = .returned (.tuple #[]) ∧ Sx B V W w' q L (C.set k none) n :=
  (answer_any W _ q L C n H k hk).mono fun e w' ⟨h1, h2⟩ => ⟨h1, h2.sx hV hB⟩

end

end Go.Proofs.YtpofihiojhbfgaaGreatDoor.Dsk

namespace Go.Proofs.YtpofihiojhbfgaaGreatDoor.Dsk
open Go.RowKit Go.Maps
set_option linter.unusedVariables false
set_option maxRecDepth 8000

theorem hasB_any (L : List Wt) (c : Int) : hasB L c = L.any (fun x => x.c == c) := by
  unfold hasB plN
  rw [Bool.eq_iff_iff, decide_eq_true_eq, List.findIdx_lt_length, List.any_eq_true]

theorem plZ_iff (L : List Wt) (c : Int) : decide (0 ≤ plZ L c) = hasB L c := by
  unfold hasB plZ
  by_cases h : plN L c < L.length
  · rw [if_pos h]
    simp [h]
  · rw [if_neg h]
    simp [h]

theorem addB_eq (L : List Wt) (x : Wt) : addB L x = (cliB x.c && (objB x.p x.o && !hasB L x.c)) := by
  unfold addB
  rw [plZ_iff]

theorem hasB_false {L : List Wt} {c : Int} : hasB L c = false ↔ ∀ y ∈ L, y.c ≠ c := by
  rw [hasB_any, List.any_eq_false]
  simp

theorem hasB_true {L : List Wt} {c : Int} : hasB L c = true ↔ ∃ y ∈ L, y.c = c := by
  rw [hasB_any, List.any_eq_true]
  simp

structure Nice (L : List Wt) : Prop where
  rt : ∀ x ∈ L, Rt x
  ap : L.Pairwise (fun a b => a.c ≠ b.c)

theorem Nice.nil : Nice [] := ⟨by simp, List.Pairwise.nil⟩

theorem addB_facts {L : List Wt} {x : Wt} (h : addB L x = true) : Rt x ∧ ∀ y ∈ L, y.c ≠ x.c := by
  rw [addB_eq] at h
  simp only [Bool.and_eq_true, Bool.not_eq_true', cliB, objB, decide_eq_true_eq] at h
  exact ⟨⟨h.1, h.2.1⟩, hasB_false.1 h.2.2⟩

theorem Nice.add {L : List Wt} (h : Nice L) (x : Wt) : Nice (addL L x) := by
  unfold addL
  cases e : addB L x
  · exact h
  · obtain ⟨h1, h2⟩ := addB_facts e
    simp only [if_true]
    refine ⟨fun y hy => ?_, List.pairwise_append.2 ⟨h.ap, by simp, fun a ha b hb => ?_⟩⟩
    · rcases List.mem_append.1 hy with hy | hy
      · exact h.rt y hy
      · simp only [List.mem_singleton] at hy
        subst hy; exact h1
    · simp only [List.mem_singleton] at hb
      subst hb
      exact h2 a ha

theorem Nice.tail {y : Wt} {L : List Wt} (h : Nice (y :: L)) : Nice L ∧ ∀ z ∈ L, z.c ≠ y.c := by
  obtain ⟨h1, h2⟩ := List.pairwise_cons.1 h.ap
  exact ⟨⟨fun x hx => h.rt x (by simp [hx]), h2⟩, fun z hz => (h1 z hz).symm⟩

def hn (L : List Wt) (j : Int) : Nat := if L.any (fun x => x.c == j) then 1 else 0

theorem nice_count : ∀ (L : List Wt), Nice L → L.length = hn L 0 + hn L 1 + hn L 2 + hn L 3
  | [], _ => rfl
  | y :: L, h => by
    obtain ⟨hL, hy⟩ := h.tail
    have ih := nice_count L hL
    have hr := (h.rt y (by simp)).1
    have hc : ∀ j, hn (y :: L) j = if y.c = j then 1 else hn L j := by
      intro j
      unfold hn
      rw [List.any_cons]
      by_cases e : y.c = j
      · simp [e]
      · simp [e]
    have h0 : hn L y.c = 0 := by
      unfold hn
      rw [List.any_eq_false.2 (fun z hz => by simpa using hy z hz)]
      rfl
    rw [List.length_cons, ih, hc, hc, hc, hc]
    rcases (by omega : y.c = 0 ∨ y.c = 1 ∨ y.c = 2 ∨ y.c = 3) with e | e | e | e
    all_goals
      rw [e] at h0
      rw [e, h0]
      simp
      try omega

theorem Nice.le4 {L : List Wt} (h : Nice L) : L.length ≤ 4 := by
  rw [nice_count L h]
  have hh : ∀ j, hn L j ≤ 1 := fun j => by unfold hn; split <;> omega
  have := hh 0
  have := hh 1
  have := hh 2
  have := hh 3
  omega

def noC (L : List Wt) (c : Int) : List Wt := L.filter (fun y => !(y.c == c))

theorem noC_same {L : List Wt} {c : Int} (h : ∀ y ∈ L, y.c ≠ c) : noC L c = L := by
  unfold noC
  rw [List.filter_eq_self]
  intro y hy
  simpa using h y hy

theorem rm_noC : ∀ {L : List Wt} (c : Int), Nice L → rmL L c = noC L c
  | [], c, _ => rfl
  | y :: L, c, h => by
    obtain ⟨hL, hy⟩ := h.tail
    have ih := rm_noC c hL
    unfold rmL plN at ih ⊢
    unfold noC at ih ⊢
    by_cases e : y.c = c
    · have h1 : (y :: L).findIdx (fun x => x.c == c) = 0 := by simp [List.findIdx_cons, e]
      rw [h1, List.filter_cons]
      have h2 := noC_same (L := L) (c := c) (fun z hz => by rw [← e]; exact hy z hz)
      unfold noC at h2
      simp [e, h2]
    · have h1 : (y :: L).findIdx (fun x => x.c == c) = L.findIdx (fun x => x.c == c) + 1 := by
        rw [List.findIdx_cons]
        have : (y.c == c) = false := by simpa using e
        simp [this]
      rw [h1, List.filter_cons]
      have : (y.c == c) = false := by simpa using e
      simp only [this, Bool.not_false, if_true, List.eraseIdx_cons_succ, ih]

theorem noC_mem {L : List Wt} {c : Int} {y : Wt} : y ∈ noC L c ↔ y ∈ L ∧ y.c ≠ c := by
  unfold noC
  rw [List.mem_filter]
  simp

theorem Nice.noC {L : List Wt} (h : Nice L) (c : Int) : Nice (noC L c) :=
  ⟨fun x hx => h.rt x (noC_mem.1 hx).1, h.ap.filter _⟩
theorem Nice.rm {L : List Wt} (h : Nice L) (c : Int) : Nice (rmL L c) := by rw [rm_noC c h]; exact h.noC c

/-! ### Who is ahead -/

end Go.Proofs.YtpofihiojhbfgaaGreatDoor.Dsk
