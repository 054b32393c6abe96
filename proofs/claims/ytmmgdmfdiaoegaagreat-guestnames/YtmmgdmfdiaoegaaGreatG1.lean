/- Package guest, walked: New, Epoch, Boot, Agent, hello, isMeant; Do and Tick without a session; pumpRest of an empty outbox. -/
import Derived.Test.YtmmgdmfdiaoegaaGreatG0
import Derived.Test.YtmmgdmfdiaoegaaGreatB3
import Derived.RegionTactic
import Derived.BigRegion
import Derived.Deep.QuietTactic
import Derived.BigQuiet
namespace Go.Proofs.YtmmgdmfdiaoegaaGreat
open Go.RowKit
set_option linter.unusedVariables false
set_option maxRecDepth 8000

theorem gu_cells {w : World} {g : Nat} {cl ep : Int} {a : Nat} {lk : Option Addr} {bo : Int} {xo : Option Addr} {n xc : Nat} (h : w.heap[g]? = some (guO cl ep a lk bo xo n xc)) : w.cell? ⟨g, 0, none⟩ = some (.int .i64 cl) ∧ w.cell? ⟨g, 1, none⟩ = some (.int .i64 ep) ∧ w.cell? ⟨g, 2, none⟩ = some (cp a) ∧ w.cell? ⟨g, 3, none⟩ = some (.pointer lk) ∧ w.cell? ⟨g, 4, none⟩ = some (.int .i64 bo) ∧ w.cell? ⟨g, 5, none⟩ = some (.slice xo n xc) := by
  refine ⟨?_, ?_, ?_, ?_, ?_, ?_⟩
  all_goals rw [cell_of_row _ _ _ _ _ _ h]; rfl
theorem gu_fz {w : World} {g : Nat} {cl ep : Int} {a : Nat} {lk : Option Addr} {bo : Int} {xo : Option Addr} {n xc : Nat} (h : w.heap[g]? = some (guO cl ep a lk bo xo n xc)) (j : Nat) : w.frozen? ⟨g, j, none⟩ = false := frozen_of_row _ _ _ _ _ h

set_option maxHeartbeats 1600000 in
theorem gnew (cl ep many : Int) (w : World) : Calls Tryz.prog 4 #[.int .i64 cl, .int .i64 ep, .int .i64 many] w fun e w' => ∃ g G, e = .returned (cp g) ∧ Gn w' G g cl ep (newS many) ∧ (∀ k, G k → w.heap.size ≤ k) ∧ Below w.heap.size w w' := by
  have HN : Hid (Calls Tryz.prog 10 #[.int .i64 many] w fun e w' => ∃ a, e = .returned (cp a) ∧ Hid (∃ A, Aw w' A a (newS many) ∧ (∀ k, A k → w.heap.size ≤ k) ∧ Below w.heap.size w w')) := by
    refine (new_agent many w).mono ?_
    rintro e w' ⟨a, A, rfl, h1, h2, h3⟩
    exact ⟨a, rfl, A, h1, h2, h3⟩
  go_enter Tryz.func4, Tryz.ntmps4
  go_wp2_with (first
    | (go_at_call 10; refine HN.out.mono ?_; rintro e w1 ⟨a, rfl, H1⟩)
    | fail)
  go_ret
  have hb : ∀ o, Below w1.heap.size w1 (w1.alloc o) := fun o => (Below.refl _ _).alloc (Nat.le_refl _) _
  have key : ∀ o, o = guO cl ep a none 0 none 0 0 → ∃ g G, Ending.returned (cp w1.heap.size) = .returned (cp g) ∧ Gn (w1.alloc o) G g cl ep (newS many) ∧ (∀ k, G k → w.heap.size ≤ k) ∧ Below w.heap.size w (w1.alloc o) := by
    rintro o rfl
    obtain ⟨A, h1, h2, h3⟩ := H1.out
    refine ⟨w1.heap.size, fun k => A k ∨ k = w1.heap.size, rfl, ⟨A, a, heap_alloc_new w1 _, h1.below (hb _), fun e => ?_, .inr rfl, fun k hk => .inl hk, fun k hk => ?_⟩, fun k hk => ?_, below_step h3 (hb _)⟩
    · have := h1.lt _ e
      omega
    · rcases hk with hk | rfl
      · have := h1.lt _ hk
        simp; omega
      · simp
    · rcases hk with hk | rfl
      · exact h2 k hk
      · exact h3.size
  exact key _ rfl

section
variable {w : World} {g : Nat} {cl ep : Int} {a : Nat} {lk : Option Addr} {bo : Int} {xo : Option Addr} {n xc : Nat}
theorem gepoch (h : w.heap[g]? = some (guO cl ep a lk bo xo n xc)) : Calls Tryz.prog 6 #[cp g] w fun e w' => e = .returned (.int .i64 ep) ∧ w' = w := by
  obtain ⟨c0, c1, c2, c3, c4, c5⟩ := gu_cells h
  clear h
  go_enter Tryz.func6, Tryz.ntmps6
  go_wp2
  go_ret
  exact ⟨rfl, rfl⟩
theorem gboot (h : w.heap[g]? = some (guO cl ep a lk bo xo n xc)) : Calls Tryz.prog 7 #[cp g] w fun e w' => e = .returned (.int .i64 bo) ∧ w' = w := by
  obtain ⟨c0, c1, c2, c3, c4, c5⟩ := gu_cells h
  clear h
  go_enter Tryz.func7, Tryz.ntmps7
  go_wp2
  go_ret
  exact ⟨rfl, rfl⟩
theorem gagent (h : w.heap[g]? = some (guO cl ep a lk bo xo n xc)) : Calls Tryz.prog 8 #[cp g] w fun e w' => e = .returned (cp a) ∧ w' = w := by
  obtain ⟨c0, c1, c2, c3, c4, c5⟩ := gu_cells h
  clear h
  go_enter Tryz.func8, Tryz.ntmps8
  go_wp2
  go_ret
  exact ⟨rfl, rfl⟩

/-- The packet that asks for a session. -/
abbrev hiP (cl ep : Int) : Lnk.PkG := ⟨cl, ep, 0, 0, 0, false, []⟩

set_option maxHeartbeats 1600000 in
theorem ghello (h : w.heap[g]? = some (guO cl ep a lk bo xo n xc)) : Calls Tryz.prog 17 #[cp g] w fun e w' => ∃ b, e = .returned (.slice (some ⟨b, 0, none⟩) 1 1) ∧ Lnk.PkIn w' b 0 (hiP cl ep) (.slice none 0 0) ∧ w.heap.size ≤ b ∧ Below w.heap.size w w' := by
  obtain ⟨c0, c1, c2, c3, c4, c5⟩ := gu_cells h
  clear h
  go_enter Tryz.func17, Tryz.ntmps17
  go_wp2
  go_region
  go_wp2
  go_ret
  refine ⟨_, rfl, ?_, ?_, ?_⟩
  · exact (Lnk.PkIn.new w (hiP cl ep) (.slice none 0 0)).keep rfl
  · go_grown
  · go_grown

theorem pumpRest_no (h : w.heap[g]? = some (guO cl ep a lk bo xo 0 xc)) : Calls Tryz.prog 35 #[cp g] w fun e w' => e = .returned (.slice none 0 0) ∧ w' = w := by
  obtain ⟨c0, c1, c2, c3, c4, c5⟩ := gu_cells h
  clear h
  go_enter Tryz.func35, Tryz.ntmps35
  go_wp2
  go_ret
  exact ⟨rfl, rfl⟩

theorem gtick_no (h : w.heap[g]? = some (guO cl ep a none bo xo n xc)) : Calls Tryz.prog 12 #[cp g] w fun e w' => ∃ b, e = .returned (.slice (some ⟨b, 0, none⟩) 1 1) ∧ Lnk.PkIn w' b 0 (hiP cl ep) (.slice none 0 0) ∧ w.heap.size ≤ b ∧ Below w.heap.size w w' := by
  have HH : Hid (Calls Tryz.prog 17 #[cp g] w fun e w' => ∃ b, e = .returned (.slice (some ⟨b, 0, none⟩) 1 1) ∧ Hid (Lnk.PkIn w' b 0 (hiP cl ep) (.slice none 0 0) ∧ w.heap.size ≤ b ∧ Below w.heap.size w w')) := by
    refine (ghello h).mono ?_
    rintro e w' ⟨b, rfl, h1⟩
    exact ⟨b, rfl, h1⟩
  obtain ⟨c0, c1, c2, c3, c4, c5⟩ := gu_cells h
  clear h
  go_enter Tryz.func12, Tryz.ntmps12
  go_wp2_with (first
    | (go_at_call 17; refine HH.out.mono ?_; rintro e w1 ⟨b, rfl, H1⟩)
    | fail)
  go_ret
  exact ⟨b, rfl, H1.out⟩

set_option maxHeartbeats 1600000 in
theorem gdo_no (h : w.heap[g]? = some (guO cl ep a none bo xo n xc)) (x : Og) : Calls Tryz.prog 11 #[cp g, opV x] w fun e w' => e = .returned (.tuple #[.slice none 0 0, anV 181 z2 false]) ∧ Below w.heap.size w w' := by
  have hst := fun (ad : Addr) (re im : Nat) (W : World) => run_store Tryz.prog W ad (.complex .f64 re im) .plain rfl
  obtain ⟨xk, xp, xy, xv⟩ := x
  have HW : Hid _ := al2n w (opO ⟨xk, xp, xy, xv⟩) anZ
  have HA : Hid (w.heap[g]? = some (guO cl ep a none bo xo n xc)) := h
  clear h
  go_enter Tryz.func11, Tryz.ntmps11
  go_upto_region 1 with fail
  show Code.wp _ _ _ _ ((w.alloc (opO ⟨xk, xp, xy, xv⟩)).alloc anZ)
  generalize (w.alloc (opO ⟨xk, xp, xy, xv⟩)).alloc anZ = W at *
  obtain ⟨g4, hg4⟩ : ∃ g, w.heap.size + 1 = g := ⟨_, rfl⟩
  have HL : Hid (W.heap[g4]? = some anZ) := hg4 ▸ HW.out.2.1
  have HG : Hid (w.heap.size + 1 = g4 ∧ Below w.heap.size w W) := ⟨hg4, HW.out.2.2⟩
  have hgW : W.heap[g]? = some (guO cl ep a none bo xo n xc) := (HW.out.2.2.block g (Array.getElem?_eq_some_iff.1 HA.out).1).trans HA.out
  rw [hg4]
  clear hg4 HW
  obtain ⟨c0, c1, c2, c3, c4, c5⟩ := gu_cells hgW
  clear hgW
  obtain ⟨z0, z1, z2⟩ := an_cells HL.out
  have zf := an_fz HL.out
  go_wp2
  refine bodyPost_ret (by simp [results, Tryz.results11, go_sem, z0, z1, z2]; try rfl) rfl ?_
  refine ⟨rfl, off_below (g := g4) HG.out.2 (by have := HG.out; omega) ?_⟩
  repeat (first | (with_reducible exact OffS.refl _ _) | (with_reducible refine OffS.setCell (A := fun k => k = g4) ?_ rfl _))

set_option maxHeartbeats 1600000 in
theorem meant (h : w.heap[g]? = some (guO cl ep a lk bo xo n xc)) (pb sq ak : Int) (bs : List Nat) (u : Value) (h1 : 0 ≤ pb) (h2 : pb ≤ 16777215) : Calls Tryz.prog 19 #[cp g, Lnk.pkV ⟨cl, ep, pb, sq, ak, true, bs⟩ u] w fun e w' => e = .returned (.bool true) ∧ Below w.heap.size w w' := by
  have h' : (w.alloc (Lnk.pkO ⟨cl, ep, pb, sq, ak, true, bs⟩ u)).heap[g]? = some (guO cl ep a lk bo xo n xc) := (heap_alloc_old w _ (Array.getElem?_eq_some_iff.1 h).1).trans h
  obtain ⟨c0, c1, c2, c3, c4, c5⟩ := gu_cells h'
  clear h h'
  have HFI : Hid (∀ j, Below w.heap.size w ((w.alloc (Lnk.pkO ⟨cl, ep, pb, sq, ak, true, bs⟩ u)).drewN j)) := fun j => ⟨rfl, rfl, rfl, by simp, fun k hk => heap_alloc_old w _ hk⟩
  go_enter Tryz.func19, Tryz.ntmps19
  go_wp2
  go_quiet (fail)
  go_wp2
  go_ret
  exact ⟨Lnk.ret_bool (by simp), HFI.out _⟩
end

end Go.Proofs.YtmmgdmfdiaoegaaGreat
