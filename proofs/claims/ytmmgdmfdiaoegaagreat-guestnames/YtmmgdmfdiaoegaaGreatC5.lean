/- fill of package cache, walked. -/
import Derived.Test.YtmmgdmfdiaoegaaGreatC4
namespace Go.Proofs.YtmmgdmfdiaoegaaGreat
open Go.RowKit
set_option linter.unusedVariables false
set_option maxRecDepth 8000

section
variable {w : World} {A : Nat → Prop} {c : Nat} {room : Int} {g cap q o7 : Nat} {M : List En} {y : En}
/-- The cells of the last one. -/
theorem Ca.last (H : Ca w A c room (some ⟨g, 0, none⟩) cap (M ++ [y])) (hq : M.length = q) (h7 : q * 7 = o7) : (∀ j u, (enC y)[j]? = some u → w.cell? ⟨g, o7 + j, none⟩ = some u) ∧ ∀ j, w.frozen? ⟨g, j, none⟩ = false := by
  subst hq h7
  refine ⟨?_, fun j => ?_⟩
  · obtain ⟨b, off, e, -, hcc⟩ := H.own.rd.at enE (t := M.length) (by simp)
    cases e
    simpa using hcc
  · obtain ⟨_, cur, hh⟩ := H.own.lt _ rfl
    exact frozen_of_row _ _ _ _ _ hh
/-- One cell of the last one is written. -/
theorem Ca.put (H : Ca w A c room (some ⟨g, 0, none⟩) cap (M ++ [y])) (hq : M.length = q) (h7 : q * 7 = o7) (j : Nat) (hj : j < 7) (u : Value) (y' : En) (hy : enC y' = (enC y).set j u) :
    Ca (w.setCell ⟨g, o7 + j, none⟩ u) A c room (some ⟨g, 0, none⟩) cap (M ++ [y']) ∧ OffS A w (w.setCell ⟨g, o7 + j, none⟩ u) := by
  subst hq h7
  refine ⟨⟨?_, ?_, H.ac, H.ar⟩, (OffS.refl A w).setCell (a := ⟨g, M.length * 7 + j, none⟩) (H.ar ⟨g, 0, none⟩ rfl) _⟩
  · rw [Below.heap_setCell _ _ _ _ (fun e => H.ne _ rfl (by simpa using e.symm)), H.blk]
    simp
  · have h := H.own.put enE M.length (by simp) j hj u y' (by simpa using hy)
    simpa using h
end

def fillE (x : En) (c o : Nat) (v : Nat → Nat × Nat) : En := ⟨x.p, c, o, fun j => if c.testBit j then v j else x.v j⟩
def partE (x : En) (c o : Nat) (v : Nat → Nat × Nat) (k : Nat) : En := ⟨x.p, c, o, fun j => if j < k ∧ c.testBit j then v j else x.v j⟩
theorem partE_four (x : En) (c o : Nat) (v : Nat → Nat × Nat) (hc : c < 16) : partE x c o v 4 = fillE x c o v := by
  unfold partE fillE
  congr 1
  funext j
  by_cases h : j < 4
  · simp [h]
  · have : c.testBit j = false := Nat.testBit_lt_two_pow (Nat.lt_of_lt_of_le hc (Nat.pow_le_pow_right (n := 2) (by omega) (show 4 ≤ j by omega)))
    simp [this]
theorem partE_zero (x : En) (c o : Nat) (v : Nat → Nat × Nat) : partE x c o v 0 = ⟨x.p, c, o, x.v⟩ := by
  unfold partE
  simp
theorem partE_no (x : En) (c o : Nat) (v : Nat → Nat × Nat) (k : Nat) (h : c.testBit k = false) : partE x c o v (k + 1) = partE x c o v k := by
  unfold partE
  congr 1
  funext j
  by_cases e : j = k
  · subst e; simp [h]
  · have : j < k + 1 ↔ j < k := by omega
    simp [this]
theorem partE_yes (x : En) (c o : Nat) (v : Nat → Nat × Nat) (k : Nat) (hk : k < 4) (h : c.testBit k = true) : enC (partE x c o v (k + 1)) = (enC (partE x c o v k)).set (3 + k) (.complex .f64 (v k).1 (v k).2) := by
  have e : (partE x c o v (k + 1)).v = fun j => if j = k then v k else (partE x c o v k).v j := by
    unfold partE
    funext j
    by_cases e : j = k
    · subst e; simp [h]
    · have : j < k + 1 ↔ j < k := by omega
      simp [this, e]
  have e1 : (partE x c o v (k + 1)).p = (partE x c o v k).p := rfl
  have e2 : (partE x c o v (k + 1)).c = (partE x c o v k).c := rfl
  have e3 : (partE x c o v (k + 1)).o = (partE x c o v k).o := rfl
  unfold enC
  rw [e, e1, e2, e3]
  rcases (by omega : k = 0 ∨ k = 1 ∨ k = 2 ∨ k = 3) with rfl | rfl | rfl | rfl <;> rfl

set_option maxHeartbeats 1600000 in
theorem fill_any (w : World) (A : Nat → Prop) (c : Nat) (room : Int) (g cap : Nat) (M : List En) (x : En) (H : Ca w A c room (some ⟨g, 0, none⟩) cap (M ++ [x])) (q o7 : Nat) (hq : M.length = q) (h7 : q * 7 = o7) (cm om : Nat) (hcm : cm < 16) (v : Nat → Nat × Nat) :
    Calls Tryz.prog 98 #[.pointer (some ⟨g, o7, none⟩), .int .i64 (cm : Int), .int .i64 (om : Int), vaV v] w fun e w' => e = .returned (.tuple #[]) ∧ Ca w' A c room (some ⟨g, 0, none⟩) cap (M ++ [fillE x cm om v]) ∧ OffS A w w' := by
  have hst := fun (ad : Addr) (re im : Nat) (W : World) => run_store Tryz.prog W ad (.complex .f64 re im) .plain rfl
  have hb0 : Below w.heap.size w (w.alloc (vaO v)) := (Below.refl _ _).alloc (Nat.le_refl _) _
  have HQ : Hid (M.length = q ∧ q * 7 = o7 ∧ cm < 16) := ⟨hq, h7, hcm⟩
  have H0 := H.below hb0
  obtain ⟨hc0, hf0⟩ := H0.last hq h7
  have c1 := hc0 1 _ rfl
  have c2 := hc0 2 _ rfl
  have f1 := hf0 (o7 + 1)
  have f2 := hf0 (o7 + 2)
  obtain ⟨k1, o1⟩ := H0.put hq h7 1 (by omega) (.int .i64 (cm : Int)) ⟨x.p, cm, x.o, x.v⟩ rfl
  obtain ⟨k2, o2⟩ := k1.put hq h7 2 (by omega) (.int .i64 (om : Int)) ⟨x.p, cm, om, x.v⟩ rfl
  have hgl := (H.own.lt _ rfl).1
  simp only at hgl
  have HS : Hid (Ca (((w.alloc (vaO v)).setCell ⟨g, o7 + 1, none⟩ (.int .i64 (cm : Int))).setCell ⟨g, o7 + 2, none⟩ (.int .i64 (om : Int))) A c room (some ⟨g, 0, none⟩) cap (M ++ [partE x cm om v 0]) ∧ OffS A w (((w.alloc (vaO v)).setCell ⟨g, o7 + 1, none⟩ (.int .i64 (cm : Int))).setCell ⟨g, o7 + 2, none⟩ (.int .i64 (om : Int))) ∧ (((w.alloc (vaO v)).setCell ⟨g, o7 + 1, none⟩ (.int .i64 (cm : Int))).setCell ⟨g, o7 + 2, none⟩ (.int .i64 (om : Int))).heap[w.heap.size]? = some (vaO v)) := by
    refine ⟨by rw [partE_zero]; exact k2, ((OffS.of_below hb0).trans (o1.mono fun _ h => .inl h)).trans (o2.mono fun _ h => .inl h), ?_⟩
    rw [Below.heap_setCell _ _ _ _ (by simp only; omega), Below.heap_setCell _ _ _ _ (by simp only; omega)]
    exact heap_alloc_new w _
  clear hc0 hf0 k1 k2 o1 o2 H0 hb0 H hq h7
  go_enter Tryz.func98, Tryz.ntmps98
  go_upto_region 1 with fail
  generalize w.alloc (vaO v) = Wa at *
  obtain ⟨n7, hn7⟩ : ∃ n, w.heap.size = n := ⟨_, rfl⟩
  rw [hn7] at HS ⊢
  go_upto_region 2 with fail
  generalize (Wa.setCell ⟨g, o7 + 1, none⟩ (.int .i64 (cm : Int))).setCell ⟨g, o7 + 2, none⟩ (.int .i64 (om : Int)) = W0 at *
  have v0 : W0.cell? ⟨n7, 0, none⟩ = some (.complex .f64 (v 0).1 (v 0).2) := by rw [cell_of_row _ _ _ _ _ _ HS.out.2.2]; rfl
  have v1 : W0.cell? ⟨n7, 1, none⟩ = some (.complex .f64 (v 1).1 (v 1).2) := by rw [cell_of_row _ _ _ _ _ _ HS.out.2.2]; rfl
  have v2 : W0.cell? ⟨n7, 2, none⟩ = some (.complex .f64 (v 2).1 (v 2).2) := by rw [cell_of_row _ _ _ _ _ _ HS.out.2.2]; rfl
  have v3 : W0.cell? ⟨n7, 3, none⟩ = some (.complex .f64 (v 3).1 (v 3).2) := by rw [cell_of_row _ _ _ _ _ _ HS.out.2.2]; rfl
  clear c1 c2 f1 f2 hn7
  go_wp2
  clear v0 v1 v2 v3
  go_loopw [19] (fun i wr => ∃ k : Nat, k ≤ 4 ∧ i = .int .i64 k ∧ Hid (Ca wr A c room (some ⟨g, 0, none⟩) cap (M ++ [partE x cm om v k]) ∧ OffS A w wr)) (fun i _ => 4 - (intOf i).toNat)
  case atStart => exact ⟨0, Nat.zero_le _, rfl, HS.out.1, HS.out.2.1⟩
  case round =>
    obtain ⟨k, hk, rfl, HI⟩ := hrel
    rename World => wr
    by_cases hlt : k < 4
    · have HH : Hid (Calls Tryz.prog 99 #[.int .i64 (cm : Int), .int .i64 (k : Int)] wr fun e w' => e = .returned (.bool (cm.testBit k)) ∧ w' = wr) := has_nat cm k HQ.out.2.2 hlt wr
      obtain ⟨hc0, hf0⟩ := HI.out.1.last HQ.out.1 HQ.out.2.1
      have f3 := hf0 (o7 + 3 + k)
      have c3 : ∃ u, wr.cell? ⟨g, o7 + 3 + k, none⟩ = some u := by
        rw [Nat.add_assoc]
        have : 3 + k < (enC (partE x cm om v k)).length := by rw [enE.len]; omega
        exact ⟨_, hc0 (3 + k) _ (List.getElem?_eq_getElem this)⟩
      obtain ⟨u3, c3⟩ := c3
      have hix : ∀ W : World, (Instr.index 49 (vaV v) (.int .i64 (k : Int))).run Tryz.prog W = .ok (.complex .f64 (v k).1 (v k).2) W := by
        rcases (by omega : k = 0 ∨ k = 1 ∨ k = 2 ∨ k = 3) with rfl | rfl | rfl | rfl <;> exact fun _ => rfl
      have e4 : decide ((k : Int) < 4) = true := by simp; omega
      have HB : Hid (k < 4) := hlt
      have hk0 : ¬ (k : Int) < 0 := by omega
      have hk4 : (k : Int) < 4 := by omega
      have HP : Hid (cm.testBit k = true → Ca (wr.setCell ⟨g, o7 + 3 + k, none⟩ (.complex .f64 (v k).1 (v k).2)) A c room (some ⟨g, 0, none⟩) cap (M ++ [partE x cm om v (k + 1)]) ∧ OffS A w (wr.setCell ⟨g, o7 + 3 + k, none⟩ (.complex .f64 (v k).1 (v k).2))) := fun hb => by
        obtain ⟨k1, o1⟩ := HI.out.1.put HQ.out.1 HQ.out.2.1 (3 + k) (by omega) _ _ (partE_yes x cm om v k hlt hb)
        rw [← Nat.add_assoc] at k1 o1
        exact ⟨k1, HI.out.2.trans (o1.mono fun _ h => .inl h)⟩
      clear hc0 hf0
      cases hbit : cm.testBit k
      · have HZ : Hid (partE x cm om v (k + 1) = partE x cm om v k) := partE_no x cm om v k hbit
        go_wp2_with (first
          | (go_at_call 99; refine HH.out.mono ?_; rw [hbit]; rintro e w1 ⟨rfl, hw⟩; subst w1)
          | fail)
        go_roundw
        case rel => exact ⟨k + 1, by have := HB.out; omega, by go_num, by rw [HZ.out]; exact HI.out⟩
        case measure => have := HB.out; simp [intOf]; omega
      · go_wp2_with (first
          | (go_at_call 99; refine HH.out.mono ?_; rw [hbit]; rintro e w1 ⟨rfl, hw⟩; subst w1)
          | fail)
        go_roundw
        case rel => exact ⟨k + 1, by have := HB.out; omega, by go_num, HP.out hbit⟩
        case measure => have := HB.out; simp [intOf]; omega
    · obtain rfl : k = 4 := by omega
      have HE : Hid (partE x cm om v 4 = fillE x cm om v) := partE_four x cm om v HQ.out.2.2
      go_wp2
      go_end0
      exact ⟨rfl, by rw [← HE.out]; exact HI.out.1, HI.out.2⟩

end Go.Proofs.YtmmgdmfdiaoegaaGreat
