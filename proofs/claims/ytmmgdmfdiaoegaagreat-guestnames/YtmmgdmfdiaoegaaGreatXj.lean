/- The short functions of package agent, walked. forget of package agent, walked: what a transaction did is cleared. -/
import Derived.Test.YtmmgdmfdiaoegaaGreatA0
namespace Go.Proofs.YtmmgdmfdiaoegaaGreat
open Go.RowKit
set_option linter.unusedVariables false
set_option maxRecDepth 8000

theorem ahas_nat (m o : Nat) (hm : m < 16) (ho : o < 4) (w : World) : Calls Tryz.prog 40 #[.int .i64 (m : Int), .int .i64 (o : Int)] w fun e w' => e = .returned (.bool (m.testBit o)) ∧ w' = w := by
  go_enter Tryz.func40, Tryz.ntmps40
  go_wp2
  go_ret
  exact ⟨ret_bool (shr16 m hm o ho), rfl⟩

/-- Is there such a kind, of those without a place? -/
def kindB (k : Int) : Bool := decide (0 ≤ k) && decide (k ≤ 4)

theorem isPlace_rw (x : Og) (hk : x.k = 1 ∨ x.k = 2) (hp : 0 ≤ x.p ∧ x.p < 6) (ho : 0 ≤ x.o ∧ x.o < 4) (w : World) : Calls Tryz.prog 23 #[opV x] w fun e w' => e = .returned (.bool true) ∧ Below w.heap.size w w' := by
  have hst := fun (ad : Addr) (re im : Nat) (W : World) => run_store Tryz.prog W ad (.complex .f64 re im) .plain rfl
  obtain ⟨k, p, o, v⟩ := x
  simp only at hk hp ho
  obtain ⟨hp1, hp2⟩ := hp
  obtain ⟨ho1, ho2⟩ := ho
  rcases hk with rfl | rfl
  all_goals
    go_enter Tryz.func23, Tryz.ntmps23
    go_wp2
    go_ret
    exact ⟨rfl, (Below.refl _ _).alloc (Nat.le_refl _) _⟩

theorem isPlace_k (x : Og) (h1 : x.k ≠ 1) (h2 : x.k ≠ 2) (w : World) : Calls Tryz.prog 23 #[opV x] w fun e w' => e = .returned (.bool (kindB x.k)) ∧ Below w.heap.size w w' := by
  have hst := fun (ad : Addr) (re im : Nat) (W : World) => run_store Tryz.prog W ad (.complex .f64 re im) .plain rfl
  obtain ⟨k, p, o, v⟩ := x
  simp only at h1 h2
  have e1 : (k == 1) = false := by simpa using h1
  have e2 : (k == 2) = false := by simpa using h2
  have HE : Hid (kindB k = (decide (0 ≤ k) && decide (k ≤ 4))) := rfl
  clear h1 h2
  cases hd : decide (0 ≤ k)
  all_goals
    have h' := hd
    simp only [decide_eq_true_eq, decide_eq_false_iff_not] at h'
    go_enter Tryz.func23, Tryz.ntmps23
    go_wp2
    go_ret
    exact ⟨ret_bool (by show _ = kindB k; rw [HE.out, hd]; simp), (Below.refl _ _).alloc (Nat.le_refl _) _⟩

section
variable {w : World} {A : Nat → Prop} {a c : Nat} {pq ko : Option Addr} {kc : Nat} {s : As}
/-- Does it wait? -/
def wtB (s : As) : Bool := s.q.isSome
theorem AskAt.isSome (h : AskAt w pq s.q) : pq.isSome = wtB s := by
  unfold wtB
  rcases h with ⟨h1, h2⟩ | ⟨g, o, h1, h2, _⟩ <;> rw [h1, h2] <;> rfl

theorem waits_any (H : Ag w A a c pq ko kc s) : Calls Tryz.prog 38 #[cp a] w fun e w' => e = .returned (.bool (wtB s)) ∧ w' = w := by
  have hc := H.cq
  have HS : Hid (pq.isSome = wtB s) := AskAt.isSome H.q
  clear H
  cases pq with
  | none =>
    go_enter Tryz.func38, Tryz.ntmps38
    go_wp2
    go_ret
    exact ⟨ret_bool HS.out, rfl⟩
  | some p =>
    go_enter Tryz.func38, Tryz.ntmps38
    go_wp2
    go_ret
    exact ⟨ret_bool HS.out, rfl⟩

theorem open_any (H : Ag w A a c pq ko kc s) : Calls Tryz.prog 9 #[cp a] w fun e w' => e = .returned (.bool s.op) ∧ w' = w := by
  have hc := H.c2
  clear H
  go_enter Tryz.func9, Tryz.ntmps9
  go_wp2
  go_ret
  exact ⟨rfl, rfl⟩

/-- Can it be asked now? -/
def mayB (s : As) (k : Int) : Bool := if k = 0 then !s.op && decide (s.t < 16777215) else s.op && !wtB s

theorem mayDo_any (H : Ag w A a c pq ko kc s) (k : Int) : Calls Tryz.prog 24 #[cp a, .int .i64 k] w fun e w' => e = .returned (.bool (mayB s k)) ∧ w' = w := by
  have hc1 := H.c1
  have hc2 := H.c2
  have HW : Hid (Calls Tryz.prog 38 #[cp a] w fun e w' => e = .returned (.bool (wtB s)) ∧ w' = w) := waits_any H
  clear H
  by_cases h : k = 0
  · subst h
    have HE : Hid (mayB s 0 = (!s.op && decide (s.t < 16777215))) := rfl
    cases ho : s.op
    all_goals
      rw [ho] at hc2
      go_enter Tryz.func24, Tryz.ntmps24
      go_wp2
      go_ret
      exact ⟨ret_bool (by rw [HE.out, ho]; rfl), rfl⟩
  · have hk : (k == 0) = false := by simpa using h
    have HE : Hid (mayB s k = (s.op && !wtB s)) := by unfold Hid mayB; rw [if_neg h]
    clear h
    cases ho : s.op
    all_goals
      rw [ho] at hc2
      go_enter Tryz.func24, Tryz.ntmps24
      go_wp2_with (first
        | (go_at_call 38; refine HW.out.mono ?_; rintro e w1 ⟨rfl, hw⟩; subst w1)
        | fail)
      go_ret
      exact ⟨ret_bool (by rw [HE.out, ho]; rfl), rfl⟩

end

end Go.Proofs.YtmmgdmfdiaoegaaGreat

namespace Go.Proofs.YtmmgdmfdiaoegaaGreat
open Go.RowKit
set_option linter.unusedVariables false
set_option maxRecDepth 8000

abbrev zD : Value := .agg #[.int .i64 0, .int .i64 0, .complex .f64 0 0, .complex .f64 0 0, .complex .f64 0 0, .complex .f64 0 0]
theorem info39 : (Tryz.prog.info? 51).map (fun i => (i.zero, i.size, i.bytes)) = some (some zD, 6, 80) := by kernel_rfl

def z6 : List Value := [.int .i64 0, .int .i64 0, .complex .f64 0 0, .complex .f64 0 0, .complex .f64 0 0, .complex .f64 0 0]
def z36 : List Value := z6 ++ (z6 ++ (z6 ++ (z6 ++ (z6 ++ z6))))

/-- Cells one behind the other. -/
def writeL (l : List Value) : Nat → List Value → List Value
  | _, [] => l
  | o, u :: us => writeL (l.set o u) (o + 1) us

theorem heap_setCells : ∀ (us : List Value) (w : World) (g o : Nat) (l : List Value) (ty : TypeId), w.heap[g]? = some (.cells l.toArray ty (0, 0)) → (w.setCells g o us).heap[g]? = some (.cells (writeL l o us).toArray ty (0, 0)) ∧ w.grownBy (w.setCells g o us) (some g)
  | [], w, g, o, l, ty, h => ⟨h, grown_refl w _⟩
  | u :: us, w, g, o, l, ty, h => by
    have h1 := heap_setCell_same w g o _ ty u h
    rw [List.setIfInBounds_toArray] at h1
    obtain ⟨k1, k2⟩ := heap_setCells us (w.setCell ⟨g, o, none⟩ u) g (o + 1) (l.set o u) ty h1
    exact ⟨k1, grown_trans (grown_setCell w g o u) k2⟩

/-- clear of six. -/
theorem run_clear6 (w : World) (ty : TypeId) {g c : Nat} {l : List Value} {t : TypeId} (hh : w.heap[g]? = some (.cells l.toArray t (0, 0))) (hl : 39 ≤ l.length) :
    (Builtin.clear_ #[110] ty #[.slice (some ⟨g, 3, none⟩) 6 c]).run Tryz.prog w = .ok (.tuple #[]) (w.setCells g 3 z36) := by
  have hzc : (Builtin.zeroCells zD.cells 6).toList = z36 := by kernel_rfl
  have hst := run_storeCells_cells (P := Tryz.prog) g 3 z36 0 w (by
    intro j hj
    have hj' : j < 36 := hj
    rw [cell_of_row _ _ _ _ _ _ hh]
    simp
    omega) (by
    intro j hj
    exact frozen_of_row _ _ _ _ _ hh) (by intro v hv; simp only [z36, z6, List.cons_append, List.nil_append, List.mem_cons, List.not_mem_nil, or_false] at hv; repeat (first | (rcases hv with rfl | hv; rfl) | (subst hv; rfl)))
  simp only [Nat.add_zero] at hst
  simp only [Builtin.clear_]
  simp [run_underlying Tryz.underlying110, hzc, hst]

theorem wipe_L (c : Nat) (pq ko : Option Addr) (kc : Nat) (s : As) : writeL (agL c pq ko kc s) 3 z36 = agL c pq ko kc { s with d := fun _ => deZ } := by kernel_rfl

section
variable {w w' : World} {A : Nat → Prop} {a c : Nat} {pq ko : Option Addr} {kc : Nat} {s : As}
/-- All that was done is forgotten. -/
theorem Ag.wipe (h : Ag w A a c pq ko kc s) : Ag (w.setCells a 3 z36) A a c pq ko kc { s with d := fun _ => deZ } ∧ OffS (fun k => k = a) w (w.setCells a 3 z36) := by
  obtain ⟨k1, k2⟩ := heap_setCells z36 w a 3 _ 56 h.blk
  have ho : OffS (fun k => k = a) w (w.setCells a 3 z36) := OffS.grown k2 fun k hk => by cases hk; rfl
  have hb : ∀ k, A k → k ≠ a → (w.setCells a 3 z36).heap[k]? = w.heap[k]? := fun k hA hk => ho.block k (h.lt k hA) hk
  refine ⟨⟨?_, ?_, h.q.keep fun p hp => hb _ (h.aq p hp) (h.ne_q p hp), h.k.keep fun p hp _ => hb _ (h.ak p hp) (h.ne_k p hp), h.aa, h.aq, h.ak, fun k hA => Nat.lt_of_lt_of_le (h.lt k hA) ho.size, h.es, fun p => ⟨show 0 < 16 by decide, show 0 < 16 by decide⟩, h.rl, h.ll⟩, ho⟩
  · rw [k1, wipe_L]
  · obtain ⟨ao, cap, h5⟩ := h.ca
    exact ⟨ao, cap, h5.keep fun k ha _ => hb k ha.1 ha.2.1⟩
end

/-- What is left of the transaction. -/
def forS (s : As) : As := { s with op := false, q := none, d := fun _ => deZ }

set_option maxHeartbeats 800000 in
theorem forget_any {w : World} {A : Nat → Prop} {a c : Nat} {pq ko : Option Addr} {kc : Nat} {s : As} (H : Ag w A a c pq ko kc s) : Calls Tryz.prog 41 #[cp a] w fun e w' => e = .returned (.tuple #[]) ∧ Ag w' A a c none ko kc (forS s) ∧ OffS (fun k => k = a) w w' := by
  have hc2 := H.c2
  have hcq := H.cq
  have hf2 := H.fz 2
  have hfq := H.fz 39
  have h1 : Ag (w.setCell ⟨a, 2, none⟩ (.bool false)) A a c pq ko kc { s with op := false } := H.write 2 (.bool false) _ rfl rfl rfl rfl rfl H.dm
  have h2 := h1.unask
  have ho : OffS (fun k => k = a) w ((w.setCell ⟨a, 2, none⟩ (.bool false)).setCell ⟨a, 39, none⟩ (.pointer none)) := ((OffS.refl (fun k => k = a) w).setCell (a := ⟨a, 2, none⟩) rfl _).setCell (a := ⟨a, 39, none⟩) rfl _
  have HA : Hid (Ag ((w.setCell ⟨a, 2, none⟩ (.bool false)).setCell ⟨a, 39, none⟩ (.pointer none)) A a c none ko kc { s with op := false, q := none } ∧ OffS (fun k => k = a) w ((w.setCell ⟨a, 2, none⟩ (.bool false)).setCell ⟨a, 39, none⟩ (.pointer none))) := ⟨h2, ho⟩
  clear h1 h2 ho H
  go_enter Tryz.func41, Tryz.ntmps41
  go_upto_region 1 with fail
  generalize (w.setCell ⟨a, 2, none⟩ (.bool false)).setCell ⟨a, 39, none⟩ (.pointer none) = W at *
  have hcl := run_clear6 W 0 (c := 6) HA.out.1.blk (show 39 ≤ 41 by decide)
  go_wp2
  go_end0
  obtain ⟨k1, k2⟩ := HA.out.1.wipe
  exact ⟨rfl, k1, HA.out.2.trans (k2.mono fun k hk => .inl hk)⟩

end Go.Proofs.YtmmgdmfdiaoegaaGreat
