/- forget of package agent, walked: what a transaction did is cleared. -/
import Derived.Test.YtmognpjkccienaaA1
namespace Go.Proofs.Ytmognpjkccienaa
open Go.RowKit
set_option linter.unusedVariables false
set_option maxRecDepth 8000

abbrev zD : Value := .agg #[.int .i64 0, .int .i64 0, .complex .f64 0 0, .complex .f64 0 0, .complex .f64 0 0, .complex .f64 0 0]
theorem info39 : (Try.prog.info? 39).map (fun i => (i.zero, i.size, i.bytes)) = some (some zD, 6, 80) := by kernel_rfl

def z6 : List Value := [.int .i64 0, .int .i64 0, .complex .f64 0 0, .complex .f64 0 0, .complex .f64 0 0, .complex .f64 0 0]
def z36 : List Value := z6 ++ (z6 ++ (z6 ++ (z6 ++ (z6 ++ z6))))

/-- Cells one behind the other. -/
def writeL (l : List Value) : Nat → List Value → List Value
  | _, [] => l
  | o, u :: us => writeL (l.set o u) (o + 1) us

theorem heap_setCells : ∀ (us : List Value) (w : World) (g o : Nat) (l : List Value) (ty : TypeId), w.heap[g]? = some (.cells l.toArray ty (0, 0)) → (w.setCells g o us).heap[g]? = some (.cells (writeL l o us).toArray ty (0, 0)) ∧ w.grownBy (w.setCells g o us) (some g)
  | [], w, g, o, l, ty, h => ⟨h, grown_refl w _⟩
  | u :: us, w, g, o, l, ty, h => by
    have h1 := heap_setCell_same w g o _ ty u h
    rw [List.setIfInBounds_toArray] at h1
    obtain ⟨k1, k2⟩ := heap_setCells us (w.setCell ⟨g, o, none⟩ u) g (o + 1) (l.set o u) ty h1
    exact ⟨k1, grown_trans (grown_setCell w g o u) k2⟩

/-- clear of six. -/
theorem run_clear6 (w : World) (ty : TypeId) {g c : Nat} {l : List Value} {t : TypeId} (hh : w.heap[g]? = some (.cells l.toArray t (0, 0))) (hl : 39 ≤ l.length) :
    (Builtin.clear_ #[68] ty #[.slice (some ⟨g, 3, none⟩) 6 c]).run Try.prog w = .ok (.tuple #[]) (w.setCells g 3 z36) := by
  have hzc : (Builtin.zeroCells zD.cells 6).toList = z36 := by kernel_rfl
  have hst := run_storeCells_cells (P := Try.prog) g 3 z36 0 w (by
    intro j hj
    have hj' : j < 36 := hj
    rw [cell_of_row _ _ _ _ _ _ hh]
    simp
    omega) (by
    intro j hj
    exact frozen_of_row _ _ _ _ _ hh) (by intro v hv; simp only [z36, z6, List.cons_append, List.nil_append, List.mem_cons, List.not_mem_nil, or_false] at hv; repeat (first | (rcases hv with rfl | hv; rfl) | (subst hv; rfl)))
  simp only [Nat.add_zero] at hst
  simp only [Builtin.clear_]
  simp [run_underlying Try.underlying68, hzc, hst]

theorem wipe_L (c : Nat) (pq ko : Option Addr) (kc : Nat) (s : As) : writeL (agL c pq ko kc s) 3 z36 = agL c pq ko kc { s with d := fun _ => deZ } := by kernel_rfl

section
variable {w w' : World} {A : Nat → Prop} {a c : Nat} {pq ko : Option Addr} {kc : Nat} {s : As}
/-- All that was done is forgotten. -/
theorem Ag.wipe (h : Ag w A a c pq ko kc s) : Ag (w.setCells a 3 z36) A a c pq ko kc { s with d := fun _ => deZ } ∧ OffS (fun k => k = a) w (w.setCells a 3 z36) := by
  obtain ⟨k1, k2⟩ := heap_setCells z36 w a 3 _ 43 h.blk
  have ho : OffS (fun k => k = a) w (w.setCells a 3 z36) := OffS.grown k2 fun k hk => by cases hk; rfl
  have hb : ∀ k, A k → k ≠ a → (w.setCells a 3 z36).heap[k]? = w.heap[k]? := fun k hA hk => ho.block k (h.lt k hA) hk
  refine ⟨⟨?_, ?_, h.q.keep fun p hp => hb _ (h.aq p hp) (h.ne_q p hp), h.k.keep fun p hp _ => hb _ (h.ak p hp) (h.ne_k p hp), h.aa, h.aq, h.ak, fun k hA => Nat.lt_of_lt_of_le (h.lt k hA) ho.size, h.es, fun p => ⟨show 0 < 16 by decide, show 0 < 16 by decide⟩, h.rl, h.ll⟩, ho⟩
  · rw [k1, wipe_L]
  · obtain ⟨ao, cap, h5⟩ := h.ca
    exact ⟨ao, cap, h5.keep fun k ha _ => hb k ha.1 ha.2.1⟩
end

/-- What is left of the transaction. -/
def forS (s : As) : As := { s with op := false, q := none, d := fun _ => deZ }

set_option maxHeartbeats 800000 in
theorem forget_any {w : World} {A : Nat → Prop} {a c : Nat} {pq ko : Option Addr} {kc : Nat} {s : As} (H : Ag w A a c pq ko kc s) : Calls Try.prog 22 #[cp a] w fun e w' => e = .returned (.tuple #[]) ∧ Ag w' A a c none ko kc (forS s) ∧ OffS (fun k => k = a) w w' := by
  have hc2 := H.c2
  have hcq := H.cq
  have hf2 := H.fz 2
  have hfq := H.fz 39
  have h1 : Ag (w.setCell ⟨a, 2, none⟩ (.bool false)) A a c pq ko kc { s with op := false } := H.write 2 (.bool false) _ rfl rfl rfl rfl rfl H.dm
  have h2 := h1.unask
  have ho : OffS (fun k => k = a) w ((w.setCell ⟨a, 2, none⟩ (.bool false)).setCell ⟨a, 39, none⟩ (.pointer none)) := ((OffS.refl (fun k => k = a) w).setCell (a := ⟨a, 2, none⟩) rfl _).setCell (a := ⟨a, 39, none⟩) rfl _
  have HA : Hid (Ag ((w.setCell ⟨a, 2, none⟩ (.bool false)).setCell ⟨a, 39, none⟩ (.pointer none)) A a c none ko kc { s with op := false, q := none } ∧ OffS (fun k => k = a) w ((w.setCell ⟨a, 2, none⟩ (.bool false)).setCell ⟨a, 39, none⟩ (.pointer none))) := ⟨h2, ho⟩
  clear h1 h2 ho H
  go_enter Try.func22, Try.ntmps22
  go_upto_region 1 with fail
  generalize (w.setCell ⟨a, 2, none⟩ (.bool false)).setCell ⟨a, 39, none⟩ (.pointer none) = W at *
  have hcl := run_clear6 W 0 (c := 6) HA.out.1.blk (show 39 ≤ 41 by decide)
  go_wp2
  go_end0
  obtain ⟨k1, k2⟩ := HA.out.1.wipe
  exact ⟨rfl, k1, HA.out.2.trans (k2.mono fun k hk => .inl hk)⟩

end Go.Proofs.Ytmognpjkccienaa
