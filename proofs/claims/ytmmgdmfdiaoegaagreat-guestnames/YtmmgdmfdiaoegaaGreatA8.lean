/- read of package agent, walked. -/
import Derived.Test.YtmmgdmfdiaoegaaGreatA7
namespace Go.Proofs.YtmmgdmfdiaoegaaGreat
open Go.RowKit
set_option linter.unusedVariables false
set_option maxRecDepth 8000

theorem wsh2 : ∀ o < 4, wrap64 ((2 : Int) ^ o) = ((2 ^ o : Nat) : Int) := by decide +kernel
abbrev anZ : Obj := anO 0 z2 false
/-- What an asked-for thing's block holds. -/
theorem op_cells {w : World} {b : Nat} {x : Og} (h : w.heap[b]? = some (opO x)) : w.cell? ⟨b, 0, none⟩ = some (.int .i64 x.k) ∧ w.cell? ⟨b, 1, none⟩ = some (.int .i64 x.p) ∧ w.cell? ⟨b, 2, none⟩ = some (.int .i64 x.o) ∧ w.cell? ⟨b, 3, none⟩ = some (.complex .f64 x.v.1 x.v.2) := by
  refine ⟨?_, ?_, ?_, ?_⟩
  all_goals rw [cell_of_row _ _ _ _ _ _ h]; rfl
theorem an_cells {w : World} {b : Nat} {e : Int} {v : Nat × Nat} {t : Bool} (h : w.heap[b]? = some (anO e v t)) : w.cell? ⟨b, 0, none⟩ = some (.int .i64 e) ∧ w.cell? ⟨b, 1, none⟩ = some (.complex .f64 v.1 v.2) ∧ w.cell? ⟨b, 2, none⟩ = some (.bool t) := by
  refine ⟨?_, ?_, ?_⟩
  all_goals rw [cell_of_row _ _ _ _ _ _ h]; rfl
theorem an_fz {w : World} {b : Nat} {e : Int} {v : Nat × Nat} {t : Bool} (h : w.heap[b]? = some (anO e v t)) (j : Nat) : w.frozen? ⟨b, j, none⟩ = false := frozen_of_row _ _ _ _ _ h

/-- The value of an object in the cache; the entries behind its use. -/
def gotV (L : List En) (p : Int) (o : Nat) : Nat × Nat := (L[plN L p]?.map (·.v o)).getD (0, 0)
def useL (L : List En) (p : Int) : List En := match L[plN L p]? with
  | none => L
  | some x => L.take (plN L p) ++ L.drop (plN L p + 1) ++ [x]
theorem EsOk.useL {L : List En} (h : EsOk L) (p : Int) : EsOk (useL L p) := by
  unfold Go.Proofs.YtmmgdmfdiaoegaaGreat.useL
  split
  · exact h
  · rename_i x hx
    exact ((h.take _).append (h.drop _)).append (EsOk.one (h x (List.mem_of_getElem? hx)))
theorem useL_len (L : List En) (p : Int) : (useL L p).length = L.length := by
  unfold useL
  split
  · rfl
  · rename_i x hx
    have := (List.getElem?_eq_some_iff.1 hx).1
    simp only [List.length_append, List.length_take, List.length_drop, List.length_cons, List.length_nil]
    omega
theorem get_yesA {w : World} {A : Nat → Prop} {c : Nat} {rm : Int} {L : List En} (H : Cw w A c rm L) (hl : L.length ≤ 1000000) (hE : EsOk L) (p : Int) (o : Nat) (ho : o < 4) (hn : (cpN L p).testBit o = true) :
    Calls Tryz.prog 82 #[cp c, .int .i64 p, .int .i64 (o : Int)] w fun e w' => e = .returned (.tuple #[.complex .f64 (gotV L p o).1 (gotV L p o).2, .bool true]) ∧ Nx w w' A c rm (useL L p) := by
  obtain ⟨ao, cap, h⟩ := H
  cases hx : L[plN L p]? with
  | none =>
    unfold cpN at hn
    rw [hx] at hn
    simp at hn
  | some x =>
    obtain ⟨g, rfl⟩ := h.some_of (by have := (List.getElem?_eq_some_iff.1 hx).1; omega)
    have hc : cpN L p = x.c := by unfold cpN; rw [hx]; rfl
    rw [hc] at hn
    refine (get_yes w A c rm g cap L h hl p _ x hx rfl o ho (hE x (List.mem_of_getElem? hx)).1 hn).mono ?_
    rintro e w' ⟨rfl, u1, u2⟩
    have e1 : gotV L p o = x.v o := by unfold gotV; rw [hx]; rfl
    have e2 : useL L p = L.take (plN L p) ++ L.drop (plN L p + 1) ++ [x] := by unfold useL; rw [hx]
    rw [e1, e2]
    exact ⟨rfl, Nx.of_ca u1 u2⟩
theorem get_noA {w : World} {A : Nat → Prop} {c : Nat} {rm : Int} {L : List En} (H : Cw w A c rm L) (hl : L.length ≤ 1000000) (hE : EsOk L) (p : Int) (o : Nat) (ho : o < 4) (hn : (cpN L p).testBit o = false) :
    Calls Tryz.prog 82 #[cp c, .int .i64 p, .int .i64 (o : Int)] w fun e w' => e = .returned (.tuple #[.complex .f64 0 0, .bool false]) ∧ Below w.heap.size w w' := by
  obtain ⟨ao, cap, h⟩ := H
  exact get_no w A c rm ao cap L h hl hE p o (by unfold hasB; rw [Int.toNat_natCast, hn]; simp)

/-- The agent behind reading a copy. -/
def rdS (s : As) (p o : Nat) : As := { s with L := useL s.L p, d := updD s.d p ⟨(s.d p).r ||| 2 ^ o, (s.d p).w, (s.d p).v⟩ }

section
variable {w w' : World} {A : Nat → Prop} {a c : Nat} {pq ko : Option Addr} {kc : Nat} {s : As}
/-- What is read is marked. -/
theorem Ag.mark (h : Ag w A a c pq ko kc s) (p o : Nat) (hp : p < 6) (ho : o < 4) : Ag (w.setCell ⟨a, 3 + p * 6, none⟩ (.int .i64 (((s.d p).r ||| 2 ^ o : Nat) : Int))) A a c pq ko kc { s with d := updD s.d p ⟨(s.d p).r ||| 2 ^ o, (s.d p).w, (s.d p).v⟩ } := by
  refine h.write _ _ _ ?_ rfl rfl rfl rfl ?_
  · rcases six hp with rfl | rfl | rfl | rfl | rfl | rfl <;> rfl
  · intro j
    unfold updD
    simp only
    split
    · exact ⟨(or16c _ (h.dm p).1 _ (two16 o ho)).2, (h.dm p).2⟩
    · exact h.dm j
end

theorem off_below {w W1 w' : World} {g : Nat} (hb : Below w.heap.size w W1) (hg : w.heap.size ≤ g) (h : OffS (fun k => k = g) W1 w') : Below w.heap.size w w' :=
  ⟨h.os.trans hb.os, h.tape.trans hb.tape, h.output.trans hb.output, Nat.le_trans hb.size h.size, fun k hk => (h.block k (Nat.lt_of_lt_of_le hk hb.size) (by intro e; have e' : k = g := e; omega)).trans (hb.block k hk)⟩

set_option maxHeartbeats 3200000 in
theorem read_own {w : World} {A : Nat → Prop} {a c : Nat} {pq ko : Option Addr} {kc : Nat} {s : As} (H : Ag w A a c pq ko kc s) (x : Og) (p o : Nat) (hp : p < 6) (ho : o < 4) (e1 : x.p = p) (e2 : x.o = o) (hw : Hid ((s.d p).w.testBit o = true)) : Calls Tryz.prog 62 #[cp a, opV x] w fun e w' => e = .returned (.tuple #[anV 0 ((s.d p).v o) false, .bool true]) ∧ Below w.heap.size w w' := by
  have hst := fun (ad : Addr) (re im : Nat) (W : World) => run_store Tryz.prog W ad (.complex .f64 re im) .plain rfl
  obtain ⟨xk, xp, xo, xv⟩ := x
  simp only at e1 e2
  subst e1 e2
  have hp0 : ¬ (p : Int) < 0 := by omega
  have hp6 : (p : Int) < 6 := by omega
  have ho0 : ¬ (o : Int) < 0 := by omega
  have ho4 : (o : Int) < 4 := by omega
  have HW : Hid _ := al2n w (opO ⟨xk, (p : Int), (o : Int), xv⟩) anZ
  have HA : Hid (Ag w A a c pq ko kc s ∧ p < 6 ∧ o < 4) := ⟨H, hp, ho⟩
  clear H hp ho
  go_enter Tryz.func62, Tryz.ntmps62
  go_upto_region 1 with fail
  show Code.wp _ _ _ _ ((w.alloc (opO ⟨xk, (p : Int), (o : Int), xv⟩)).alloc anZ)
  generalize (w.alloc (opO ⟨xk, (p : Int), (o : Int), xv⟩)).alloc anZ = W at *
  obtain ⟨g3, hg3⟩ : ∃ g, w.heap.size = g := ⟨_, rfl⟩
  obtain ⟨g4, hg4⟩ : ∃ g, w.heap.size + 1 = g := ⟨_, rfl⟩
  have HG : Hid (w.heap.size = g3 ∧ w.heap.size + 1 = g4 ∧ Below w.heap.size w W) := ⟨hg3, hg4, HW.out.2.2⟩
  have HL : Hid (W.heap[g3]? = some (opO ⟨xk, (p : Int), (o : Int), xv⟩) ∧ W.heap[g4]? = some anZ) := ⟨hg3 ▸ HW.out.1, hg4 ▸ HW.out.2.1⟩
  rw [hg4, hg3]
  clear hg3 hg4 HW
  have HN : Hid (∀ U, Below W.heap.size W U → Ag U A a c pq ko kc s ∧ U.heap[g3]? = some (opO ⟨xk, (p : Int), (o : Int), xv⟩) ∧ U.heap[g4]? = some anZ) := fun U hU =>
    ⟨(HA.out.1.below HG.out.2.2).below hU, (hU.block g3 (Array.getElem?_eq_some_iff.1 HL.out.1).1).trans HL.out.1, (hU.block g4 (Array.getElem?_eq_some_iff.1 HL.out.2).1).trans HL.out.2⟩
  obtain ⟨y0, y1, y2, y3⟩ := op_cells HL.out.1
  simp only at y0 y1 y2 y3
  go_region
  clear y0 y1 y2 y3
  go_upto_region 2 with fail
  have HD : Hid (Below W.heap.size W W.drew) := bel0 W
  generalize W.drew = W1 at *
  have HC : Hid (∀ U : World, Below W.heap.size W U → U.cell? ⟨a, 3 + p * 6 + 1, none⟩ = some (.int .i64 ((s.d p).w : Int)) ∧ U.cell? ⟨g3, 2, none⟩ = some (.int .i64 (o : Int)) ∧ U.cell? ⟨a, 0, none⟩ = some (cp c) ∧ U.cell? ⟨g3, 1, none⟩ = some (.int .i64 (p : Int))) := fun U hU =>
    ⟨(HN.out U hU).1.cw p HA.out.2.1, (op_cells (HN.out U hU).2.1).2.2.1, (HN.out U hU).1.c0, (op_cells (HN.out U hU).2.1).2.1⟩
  have HH : Hid (Calls Tryz.prog 40 #[.int .i64 ((s.d p).w : Int), .int .i64 (o : Int)] W1.drew fun e w' => e = .returned (.bool true) ∧ Below W.heap.size W w') := by
    refine (ahas_nat _ o (HA.out.1.dm p).2 HA.out.2.2 W1.drew).mono ?_
    rintro e w' ⟨rfl, rfl⟩
    exact ⟨by rw [hw.out], below_step HD.out (bel0 W1)⟩
  refine wp_region_held (S := fun U => Below W.heap.size W U) (by kernel_rfl) ?_
  have hS : Below W.heap.size W W1.drew := below_step HD.out (bel0 W1)
  refine held_val (i := 0) ?_ 15 rfl rfl (by kernel_rfl) (by kernel_rfl) (by kernel_rfl) (by rfl) (fun _ _ _ h => h) hS ?_ ?_
  rotate_left
  · (intro w hSw; go_simp; first | done | with_reducible rfl)
  simp only [Act.put, List.setIfInBounds_toArray, List.set_cons_zero, List.set_cons_succ]
  refine held_val (i := 1) ?_ 16 rfl rfl (by kernel_rfl) (by kernel_rfl) (by kernel_rfl) (by rfl) (fun _ _ _ h => h) hS ?_ ?_
  rotate_left
  · (intro w hSw; go_simp; first | done | with_reducible rfl)
  simp only [Act.put, List.setIfInBounds_toArray, List.set_cons_zero, List.set_cons_succ]
  refine held_val (i := 2) ?_ 17 rfl rfl (by kernel_rfl) (by kernel_rfl) (by kernel_rfl) (by rfl) (fun _ _ _ h => h) hS ?_ ?_
  rotate_left
  · (intro w hSw; go_simp; first | done | with_reducible rfl)
  simp only [Act.put, List.setIfInBounds_toArray, List.set_cons_zero, List.set_cons_succ]
  refine held_val (i := 3) ?_ 18 rfl rfl (by kernel_rfl) (by kernel_rfl) (by kernel_rfl) (by rfl) (fun _ _ _ h => h) hS ?_ ?_
  rotate_left
  · (intro w hSw; obtain ⟨k0, k1, k2, k3⟩ := HC.out w hSw; go_simp; first | done | with_reducible rfl)
  simp only [Act.put, List.setIfInBounds_toArray, List.set_cons_zero, List.set_cons_succ]
  refine held_val (i := 4) ?_ 19 rfl rfl (by kernel_rfl) (by kernel_rfl) (by kernel_rfl) (by rfl) (fun _ _ _ h => h) hS ?_ ?_
  rotate_left
  · (intro w hSw; go_simp; first | done | with_reducible rfl)
  simp only [Act.put, List.setIfInBounds_toArray, List.set_cons_zero, List.set_cons_succ]
  refine held_val (i := 5) ?_ 20 rfl rfl (by kernel_rfl) (by kernel_rfl) (by kernel_rfl) (by rfl) (fun _ _ _ h => h) hS ?_ ?_
  rotate_left
  · (intro w hSw; obtain ⟨k0, k1, k2, k3⟩ := HC.out w hSw; go_simp; first | done | with_reducible rfl)
  simp only [Act.put, List.setIfInBounds_toArray, List.set_cons_zero, List.set_cons_succ]
  refine held_call (i := 6) 21 40 #[.int .i64 ((s.d p).w : Int), .int .i64 (o : Int)] rfl rfl (by kernel_rfl) (by rfl) (by simp [go_sem]) HH.out ?_
  rintro e w6 ⟨rfl, hS6⟩
  refine ⟨_, rfl, hS6, ?_⟩
  have hS6 := hS6
  simp only [Act.put, List.setIfInBounds_toArray, List.set_cons_zero, List.set_cons_succ]
  refine wpAnyH_done (by kernel_rfl) ?_ _
  have HB6 : Hid (Below W.heap.size W w6) := hS6
  clear hS hS6 HH HD
  obtain ⟨k0, k1, k2, k3⟩ := HC.out w6 HB6.out
  have x1 := (HN.out _ HB6.out).1.cv p HA.out.2.1 o HA.out.2.2
  obtain ⟨z0, z1, z2⟩ := an_cells (HN.out _ HB6.out).2.2
  have zf := an_fz (HN.out _ HB6.out).2.2
  obtain ⟨v, hv⟩ : ∃ v, (s.d p).v o = v := ⟨_, rfl⟩
  rw [hv] at x1
  have HV : Hid ((s.d p).v o = v) := hv
  clear hv
  go_upto_region 3 with fail
  go_region
  go_wp2
  refine bodyPost_ret (by simp [results, Tryz.results62, go_sem, z0, z1, z2]; try rfl) rfl ?_
  refine ⟨by rw [HV.out], off_below (g := g4) (below_step HG.out.2.2 HB6.out) (by have := HG.out; omega) ?_⟩
  refine OffS.trans (b := _) ?_ (OffS.of_below (bel0 _))
  repeat (first | (with_reducible exact OffS.refl _ _) | (with_reducible refine OffS.setCell (A := fun k => k = g4) ?_ rfl _))

set_option maxHeartbeats 3200000 in
theorem read_no {w : World} {A : Nat → Prop} {a c : Nat} {pq ko : Option Addr} {kc : Nat} {s : As} (H : Ag w A a c pq ko kc s) (x : Og) (p o : Nat) (hp : p < 6) (ho : o < 4) (e1 : x.p = p) (e2 : x.o = o) (hw : Hid ((s.d p).w.testBit o = false)) (hc : Hid ((cpN s.L p).testBit o = false)) : Calls Tryz.prog 62 #[cp a, opV x] w fun e w' => e = .returned (.tuple #[anV 0 z2 false, .bool false]) ∧ Below w.heap.size w w' := by
  have hst := fun (ad : Addr) (re im : Nat) (W : World) => run_store Tryz.prog W ad (.complex .f64 re im) .plain rfl
  obtain ⟨xk, xp, xo, xv⟩ := x
  simp only at e1 e2
  subst e1 e2
  have hp0 : ¬ (p : Int) < 0 := by omega
  have hp6 : (p : Int) < 6 := by omega
  have ho0 : ¬ (o : Int) < 0 := by omega
  have ho4 : (o : Int) < 4 := by omega
  have HW : Hid _ := al2n w (opO ⟨xk, (p : Int), (o : Int), xv⟩) anZ
  have HA : Hid (Ag w A a c pq ko kc s ∧ p < 6 ∧ o < 4) := ⟨H, hp, ho⟩
  clear H hp ho
  go_enter Tryz.func62, Tryz.ntmps62
  go_upto_region 1 with fail
  show Code.wp _ _ _ _ ((w.alloc (opO ⟨xk, (p : Int), (o : Int), xv⟩)).alloc anZ)
  generalize (w.alloc (opO ⟨xk, (p : Int), (o : Int), xv⟩)).alloc anZ = W at *
  obtain ⟨g3, hg3⟩ : ∃ g, w.heap.size = g := ⟨_, rfl⟩
  obtain ⟨g4, hg4⟩ : ∃ g, w.heap.size + 1 = g := ⟨_, rfl⟩
  have HG : Hid (w.heap.size = g3 ∧ w.heap.size + 1 = g4 ∧ Below w.heap.size w W) := ⟨hg3, hg4, HW.out.2.2⟩
  have HL : Hid (W.heap[g3]? = some (opO ⟨xk, (p : Int), (o : Int), xv⟩) ∧ W.heap[g4]? = some anZ) := ⟨hg3 ▸ HW.out.1, hg4 ▸ HW.out.2.1⟩
  rw [hg4, hg3]
  clear hg3 hg4 HW
  have HN : Hid (∀ U, Below W.heap.size W U → Ag U A a c pq ko kc s ∧ U.heap[g3]? = some (opO ⟨xk, (p : Int), (o : Int), xv⟩) ∧ U.heap[g4]? = some anZ) := fun U hU =>
    ⟨(HA.out.1.below HG.out.2.2).below hU, (hU.block g3 (Array.getElem?_eq_some_iff.1 HL.out.1).1).trans HL.out.1, (hU.block g4 (Array.getElem?_eq_some_iff.1 HL.out.2).1).trans HL.out.2⟩
  obtain ⟨y0, y1, y2, y3⟩ := op_cells HL.out.1
  simp only at y0 y1 y2 y3
  go_region
  clear y0 y1 y2 y3
  go_upto_region 2 with fail
  have HD : Hid (Below W.heap.size W W.drew) := bel0 W
  generalize W.drew = W1 at *
  have HC : Hid (∀ U : World, Below W.heap.size W U → U.cell? ⟨a, 3 + p * 6 + 1, none⟩ = some (.int .i64 ((s.d p).w : Int)) ∧ U.cell? ⟨g3, 2, none⟩ = some (.int .i64 (o : Int)) ∧ U.cell? ⟨a, 0, none⟩ = some (cp c) ∧ U.cell? ⟨g3, 1, none⟩ = some (.int .i64 (p : Int))) := fun U hU =>
    ⟨(HN.out U hU).1.cw p HA.out.2.1, (op_cells (HN.out U hU).2.1).2.2.1, (HN.out U hU).1.c0, (op_cells (HN.out U hU).2.1).2.1⟩
  have HH : Hid (Calls Tryz.prog 40 #[.int .i64 ((s.d p).w : Int), .int .i64 (o : Int)] W1.drew fun e w' => e = .returned (.bool false) ∧ Below W.heap.size W w') := by
    refine (ahas_nat _ o (HA.out.1.dm p).2 HA.out.2.2 W1.drew).mono ?_
    rintro e w' ⟨rfl, rfl⟩
    exact ⟨by rw [hw.out], below_step HD.out (bel0 W1)⟩
  refine wp_region_held (S := fun U => Below W.heap.size W U) (by kernel_rfl) ?_
  have hS : Below W.heap.size W W1.drew := below_step HD.out (bel0 W1)
  refine held_val (i := 0) ?_ 15 rfl rfl (by kernel_rfl) (by kernel_rfl) (by kernel_rfl) (by rfl) (fun _ _ _ h => h) hS ?_ ?_
  rotate_left
  · (intro w hSw; go_simp; first | done | with_reducible rfl)
  simp only [Act.put, List.setIfInBounds_toArray, List.set_cons_zero, List.set_cons_succ]
  refine held_val (i := 1) ?_ 16 rfl rfl (by kernel_rfl) (by kernel_rfl) (by kernel_rfl) (by rfl) (fun _ _ _ h => h) hS ?_ ?_
  rotate_left
  · (intro w hSw; go_simp; first | done | with_reducible rfl)
  simp only [Act.put, List.setIfInBounds_toArray, List.set_cons_zero, List.set_cons_succ]
  refine held_val (i := 2) ?_ 17 rfl rfl (by kernel_rfl) (by kernel_rfl) (by kernel_rfl) (by rfl) (fun _ _ _ h => h) hS ?_ ?_
  rotate_left
  · (intro w hSw; go_simp; first | done | with_reducible rfl)
  simp only [Act.put, List.setIfInBounds_toArray, List.set_cons_zero, List.set_cons_succ]
  refine held_val (i := 3) ?_ 18 rfl rfl (by kernel_rfl) (by kernel_rfl) (by kernel_rfl) (by rfl) (fun _ _ _ h => h) hS ?_ ?_
  rotate_left
  · (intro w hSw; obtain ⟨k0, k1, k2, k3⟩ := HC.out w hSw; go_simp; first | done | with_reducible rfl)
  simp only [Act.put, List.setIfInBounds_toArray, List.set_cons_zero, List.set_cons_succ]
  refine held_val (i := 4) ?_ 19 rfl rfl (by kernel_rfl) (by kernel_rfl) (by kernel_rfl) (by rfl) (fun _ _ _ h => h) hS ?_ ?_
  rotate_left
  · (intro w hSw; go_simp; first | done | with_reducible rfl)
  simp only [Act.put, List.setIfInBounds_toArray, List.set_cons_zero, List.set_cons_succ]
  refine held_val (i := 5) ?_ 20 rfl rfl (by kernel_rfl) (by kernel_rfl) (by kernel_rfl) (by rfl) (fun _ _ _ h => h) hS ?_ ?_
  rotate_left
  · (intro w hSw; obtain ⟨k0, k1, k2, k3⟩ := HC.out w hSw; go_simp; first | done | with_reducible rfl)
  simp only [Act.put, List.setIfInBounds_toArray, List.set_cons_zero, List.set_cons_succ]
  refine held_call (i := 6) 21 40 #[.int .i64 ((s.d p).w : Int), .int .i64 (o : Int)] rfl rfl (by kernel_rfl) (by rfl) (by simp [go_sem]) HH.out ?_
  rintro e w6 ⟨rfl, hS6⟩
  refine ⟨_, rfl, hS6, ?_⟩
  have hS6 := hS6
  simp only [Act.put, List.setIfInBounds_toArray, List.set_cons_zero, List.set_cons_succ]
  refine wpAnyH_done (by kernel_rfl) ?_ _
  have HB6 : Hid (Below W.heap.size W w6) := hS6
  clear hS hS6 HH HD
  go_upto_region 4 with fail
  have HGt : Hid (Calls Tryz.prog 82 #[cp c, .int .i64 (p : Int), .int .i64 (o : Int)] w6.drew fun e w' => e = .returned (.tuple #[.complex .f64 0 0, .bool false]) ∧ Below W.heap.size W w') := by
    have h := (HN.out _ (below_step HB6.out (bel0 _))).1
    refine (get_noA h.ca (by have := h.ll; omega) h.es p o HA.out.2.2 hc.out).mono ?_
    rintro e w' ⟨rfl, hb⟩
    exact ⟨rfl, below_step (below_step HB6.out (bel0 _)) hb⟩
  refine wp_region_held (S := fun U => Below W.heap.size W U) (by kernel_rfl) ?_
  have hS : Below W.heap.size W w6.drew := below_step HB6.out (bel0 w6)
  refine held_val (i := 0) ?_ 31 rfl rfl (by kernel_rfl) (by kernel_rfl) (by kernel_rfl) (by rfl) (fun _ _ _ h => h) hS ?_ ?_
  rotate_left
  · (intro w hSw; go_simp; first | done | with_reducible rfl)
  simp only [Act.put, List.setIfInBounds_toArray, List.set_cons_zero, List.set_cons_succ]
  refine held_val (i := 1) ?_ 32 rfl rfl (by kernel_rfl) (by kernel_rfl) (by kernel_rfl) (by rfl) (fun _ _ _ h => h) hS ?_ ?_
  rotate_left
  · (intro w hSw; go_simp; first | done | with_reducible rfl)
  simp only [Act.put, List.setIfInBounds_toArray, List.set_cons_zero, List.set_cons_succ]
  refine held_val (i := 2) ?_ 33 rfl rfl (by kernel_rfl) (by kernel_rfl) (by kernel_rfl) (by rfl) (fun _ _ _ h => h) hS ?_ ?_
  rotate_left
  · (intro w hSw; go_simp; first | done | with_reducible rfl)
  simp only [Act.put, List.setIfInBounds_toArray, List.set_cons_zero, List.set_cons_succ]
  refine held_val (i := 3) ?_ 34 rfl rfl (by kernel_rfl) (by kernel_rfl) (by kernel_rfl) (by rfl) (fun _ _ _ h => h) hS ?_ ?_
  rotate_left
  · (intro w hSw; obtain ⟨k0, k1, k2, k3⟩ := HC.out w hSw; go_simp; first | done | with_reducible rfl)
  simp only [Act.put, List.setIfInBounds_toArray, List.set_cons_zero, List.set_cons_succ]
  refine held_val (i := 4) ?_ 35 rfl rfl (by kernel_rfl) (by kernel_rfl) (by kernel_rfl) (by rfl) (fun _ _ _ h => h) hS ?_ ?_
  rotate_left
  · (intro w hSw; go_simp; first | done | with_reducible rfl)
  simp only [Act.put, List.setIfInBounds_toArray, List.set_cons_zero, List.set_cons_succ]
  refine held_val (i := 5) ?_ 36 rfl rfl (by kernel_rfl) (by kernel_rfl) (by kernel_rfl) (by rfl) (fun _ _ _ h => h) hS ?_ ?_
  rotate_left
  · (intro w hSw; obtain ⟨k0, k1, k2, k3⟩ := HC.out w hSw; go_simp; first | done | with_reducible rfl)
  simp only [Act.put, List.setIfInBounds_toArray, List.set_cons_zero, List.set_cons_succ]
  refine held_val (i := 6) ?_ 37 rfl rfl (by kernel_rfl) (by kernel_rfl) (by kernel_rfl) (by rfl) (fun _ _ _ h => h) hS ?_ ?_
  rotate_left
  · (intro w hSw; go_simp; first | done | with_reducible rfl)
  simp only [Act.put, List.setIfInBounds_toArray, List.set_cons_zero, List.set_cons_succ]
  refine held_val (i := 7) ?_ 38 rfl rfl (by kernel_rfl) (by kernel_rfl) (by kernel_rfl) (by rfl) (fun _ _ _ h => h) hS ?_ ?_
  rotate_left
  · (intro w hSw; obtain ⟨k0, k1, k2, k3⟩ := HC.out w hSw; go_simp; first | done | with_reducible rfl)
  simp only [Act.put, List.setIfInBounds_toArray, List.set_cons_zero, List.set_cons_succ]
  refine held_call (i := 8) 39 82 #[cp c, .int .i64 (p : Int), .int .i64 (o : Int)] rfl rfl (by kernel_rfl) (by rfl) (by simp [go_sem]) HGt.out ?_
  rintro e w8 ⟨rfl, hS8⟩
  refine ⟨_, rfl, hS8, ?_⟩
  have hS8 := hS8
  simp only [Act.put, List.setIfInBounds_toArray, List.set_cons_zero, List.set_cons_succ]
  refine held_val (i := 9) ?_ 30 rfl rfl (by kernel_rfl) (by kernel_rfl) (by kernel_rfl) (by rfl) (fun _ _ _ h => h) hS8 ?_ ?_
  rotate_left
  · (intro w hSw; go_simp; first | done | with_reducible rfl)
  simp only [Act.put, List.setIfInBounds_toArray, List.set_cons_zero, List.set_cons_succ]
  refine held_val (i := 10) ?_ 40 rfl rfl (by kernel_rfl) (by kernel_rfl) (by kernel_rfl) (by rfl) (fun _ _ _ h => h) hS8 ?_ ?_
  rotate_left
  · (intro w hSw; go_simp; first | done | with_reducible rfl)
  simp only [Act.put, List.setIfInBounds_toArray, List.set_cons_zero, List.set_cons_succ]
  refine held_val (i := 11) ?_ 41 rfl rfl (by kernel_rfl) (by kernel_rfl) (by kernel_rfl) (by rfl) (fun _ _ _ h => h) hS8 ?_ ?_
  rotate_left
  · (intro w hSw; go_simp; first | done | with_reducible rfl)
  simp only [Act.put, List.setIfInBounds_toArray, List.set_cons_zero, List.set_cons_succ]
  refine held_val (i := 12) ?_ 7 rfl rfl (by kernel_rfl) (by kernel_rfl) (by kernel_rfl) (by rfl) (fun _ _ _ h => h) hS8 ?_ ?_
  rotate_left
  · (intro w hSw; go_simp; first | done | with_reducible rfl)
  simp only [Act.put, List.setIfInBounds_toArray, List.set_cons_zero, List.set_cons_succ]
  refine held_val (i := 13) ?_ 8 rfl rfl (by kernel_rfl) (by kernel_rfl) (by kernel_rfl) (by rfl) (fun _ _ _ h => h) hS8 ?_ ?_
  rotate_left
  · (intro w hSw; go_simp; first | done | with_reducible rfl)
  simp only [Act.put, List.setIfInBounds_toArray, List.set_cons_zero, List.set_cons_succ]
  refine wpAnyH_done (by kernel_rfl) ?_ _
  have HB8 : Hid (Below W.heap.size W w8) := hS8
  clear hS hS8 HGt
  obtain ⟨z0, z1, z2⟩ := an_cells (HN.out _ HB8.out).2.2
  have zf := an_fz (HN.out _ HB8.out).2.2
  go_wp2
  refine bodyPost_ret (by simp [results, Tryz.results62, go_sem, z0, z1, z2]; try rfl) rfl ?_
  refine ⟨rfl, off_below (g := g4) (below_step HG.out.2.2 HB8.out) (by have := HG.out; omega) ?_⟩
  repeat (first | (with_reducible exact OffS.refl _ _) | (with_reducible refine OffS.setCell (A := fun k => k = g4) ?_ rfl _))

set_option maxHeartbeats 3200000 in
theorem read_yes {w : World} {A : Nat → Prop} {a c : Nat} {pq ko : Option Addr} {kc : Nat} {s : As} (H : Ag w A a c pq ko kc s) (x : Og) (p o : Nat) (hp : p < 6) (ho : o < 4) (e1 : x.p = p) (e2 : x.o = o) (hw : Hid ((s.d p).w.testBit o = false)) (hc : Hid ((cpN s.L p).testBit o = true)) : Calls Tryz.prog 62 #[cp a, opV x] w fun e w' => e = .returned (.tuple #[anV 0 (gotV s.L p o) false, .bool true]) ∧ Ng w w' A a (rdS s p o) Rn := by
  have hst := fun (ad : Addr) (re im : Nat) (W : World) => run_store Tryz.prog W ad (.complex .f64 re im) .plain rfl
  obtain ⟨xk, xp, xo, xv⟩ := x
  simp only at e1 e2
  subst e1 e2
  have hp0 : ¬ (p : Int) < 0 := by omega
  have hp6 : (p : Int) < 6 := by omega
  have ho0 : ¬ (o : Int) < 0 := by omega
  have ho4 : (o : Int) < 4 := by omega
  have HW : Hid _ := al2n w (opO ⟨xk, (p : Int), (o : Int), xv⟩) anZ
  have HA : Hid (Ag w A a c pq ko kc s ∧ p < 6 ∧ o < 4) := ⟨H, hp, ho⟩
  clear H hp ho
  obtain ⟨T2, hT⟩ : ∃ z : Int, ((2 ^ o : Nat) : Int) = z := ⟨_, rfl⟩
  have hsh : wrap64 ((2 : Int) ^ min o 64) = T2 := (wsh o HA.out.2.2).trans hT
  have hsh2 : wrap64 ((2 : Int) ^ o) = T2 := (wsh2 o HA.out.2.2).trans hT
  obtain ⟨RN, hRN⟩ : ∃ z : Int, (((s.d p).r ||| 2 ^ o : Nat) : Int) = z := ⟨_, rfl⟩
  have hor : bits .or .i64 ((s.d p).r : Int) T2 = RN := by
    rw [← hT, ← hRN]
    exact (or16c _ (HA.out.1.dm p).1 _ (two16 o HA.out.2.2)).1
  have HRN : Hid ((((s.d p).r ||| 2 ^ o : Nat) : Int) = RN) := hRN
  clear hT hRN
  go_enter Tryz.func62, Tryz.ntmps62
  go_upto_region 1 with fail
  show Code.wp _ _ _ _ ((w.alloc (opO ⟨xk, (p : Int), (o : Int), xv⟩)).alloc anZ)
  generalize (w.alloc (opO ⟨xk, (p : Int), (o : Int), xv⟩)).alloc anZ = W at *
  obtain ⟨g3, hg3⟩ : ∃ g, w.heap.size = g := ⟨_, rfl⟩
  obtain ⟨g4, hg4⟩ : ∃ g, w.heap.size + 1 = g := ⟨_, rfl⟩
  have HG : Hid (w.heap.size = g3 ∧ w.heap.size + 1 = g4 ∧ Below w.heap.size w W) := ⟨hg3, hg4, HW.out.2.2⟩
  have HL : Hid (W.heap[g3]? = some (opO ⟨xk, (p : Int), (o : Int), xv⟩) ∧ W.heap[g4]? = some anZ) := ⟨hg3 ▸ HW.out.1, hg4 ▸ HW.out.2.1⟩
  rw [hg4, hg3]
  clear hg3 hg4 HW
  have HN : Hid (∀ U, Below W.heap.size W U → Ag U A a c pq ko kc s ∧ U.heap[g3]? = some (opO ⟨xk, (p : Int), (o : Int), xv⟩) ∧ U.heap[g4]? = some anZ) := fun U hU =>
    ⟨(HA.out.1.below HG.out.2.2).below hU, (hU.block g3 (Array.getElem?_eq_some_iff.1 HL.out.1).1).trans HL.out.1, (hU.block g4 (Array.getElem?_eq_some_iff.1 HL.out.2).1).trans HL.out.2⟩
  obtain ⟨y0, y1, y2, y3⟩ := op_cells HL.out.1
  simp only at y0 y1 y2 y3
  go_region
  clear y0 y1 y2 y3
  go_upto_region 2 with fail
  have HD : Hid (Below W.heap.size W W.drew) := bel0 W
  generalize W.drew = W1 at *
  have HC : Hid (∀ U : World, Below W.heap.size W U → U.cell? ⟨a, 3 + p * 6 + 1, none⟩ = some (.int .i64 ((s.d p).w : Int)) ∧ U.cell? ⟨g3, 2, none⟩ = some (.int .i64 (o : Int)) ∧ U.cell? ⟨a, 0, none⟩ = some (cp c) ∧ U.cell? ⟨g3, 1, none⟩ = some (.int .i64 (p : Int))) := fun U hU =>
    ⟨(HN.out U hU).1.cw p HA.out.2.1, (op_cells (HN.out U hU).2.1).2.2.1, (HN.out U hU).1.c0, (op_cells (HN.out U hU).2.1).2.1⟩
  have HH : Hid (Calls Tryz.prog 40 #[.int .i64 ((s.d p).w : Int), .int .i64 (o : Int)] W1.drew fun e w' => e = .returned (.bool false) ∧ Below W.heap.size W w') := by
    refine (ahas_nat _ o (HA.out.1.dm p).2 HA.out.2.2 W1.drew).mono ?_
    rintro e w' ⟨rfl, rfl⟩
    exact ⟨by rw [hw.out], below_step HD.out (bel0 W1)⟩
  refine wp_region_held (S := fun U => Below W.heap.size W U) (by kernel_rfl) ?_
  have hS : Below W.heap.size W W1.drew := below_step HD.out (bel0 W1)
  refine held_val (i := 0) ?_ 15 rfl rfl (by kernel_rfl) (by kernel_rfl) (by kernel_rfl) (by rfl) (fun _ _ _ h => h) hS ?_ ?_
  rotate_left
  · (intro w hSw; go_simp; first | done | with_reducible rfl)
  simp only [Act.put, List.setIfInBounds_toArray, List.set_cons_zero, List.set_cons_succ]
  refine held_val (i := 1) ?_ 16 rfl rfl (by kernel_rfl) (by kernel_rfl) (by kernel_rfl) (by rfl) (fun _ _ _ h => h) hS ?_ ?_
  rotate_left
  · (intro w hSw; go_simp; first | done | with_reducible rfl)
  simp only [Act.put, List.setIfInBounds_toArray, List.set_cons_zero, List.set_cons_succ]
  refine held_val (i := 2) ?_ 17 rfl rfl (by kernel_rfl) (by kernel_rfl) (by kernel_rfl) (by rfl) (fun _ _ _ h => h) hS ?_ ?_
  rotate_left
  · (intro w hSw; go_simp; first | done | with_reducible rfl)
  simp only [Act.put, List.setIfInBounds_toArray, List.set_cons_zero, List.set_cons_succ]
  refine held_val (i := 3) ?_ 18 rfl rfl (by kernel_rfl) (by kernel_rfl) (by kernel_rfl) (by rfl) (fun _ _ _ h => h) hS ?_ ?_
  rotate_left
  · (intro w hSw; obtain ⟨k0, k1, k2, k3⟩ := HC.out w hSw; go_simp; first | done | with_reducible rfl)
  simp only [Act.put, List.setIfInBounds_toArray, List.set_cons_zero, List.set_cons_succ]
  refine held_val (i := 4) ?_ 19 rfl rfl (by kernel_rfl) (by kernel_rfl) (by kernel_rfl) (by rfl) (fun _ _ _ h => h) hS ?_ ?_
  rotate_left
  · (intro w hSw; go_simp; first | done | with_reducible rfl)
  simp only [Act.put, List.setIfInBounds_toArray, List.set_cons_zero, List.set_cons_succ]
  refine held_val (i := 5) ?_ 20 rfl rfl (by kernel_rfl) (by kernel_rfl) (by kernel_rfl) (by rfl) (fun _ _ _ h => h) hS ?_ ?_
  rotate_left
  · (intro w hSw; obtain ⟨k0, k1, k2, k3⟩ := HC.out w hSw; go_simp; first | done | with_reducible rfl)
  simp only [Act.put, List.setIfInBounds_toArray, List.set_cons_zero, List.set_cons_succ]
  refine held_call (i := 6) 21 40 #[.int .i64 ((s.d p).w : Int), .int .i64 (o : Int)] rfl rfl (by kernel_rfl) (by rfl) (by simp [go_sem]) HH.out ?_
  rintro e w6 ⟨rfl, hS6⟩
  refine ⟨_, rfl, hS6, ?_⟩
  have hS6 := hS6
  simp only [Act.put, List.setIfInBounds_toArray, List.set_cons_zero, List.set_cons_succ]
  refine wpAnyH_done (by kernel_rfl) ?_ _
  have HB6 : Hid (Below W.heap.size W w6) := hS6
  clear hS hS6 HH HD
  go_upto_region 4 with fail
  obtain ⟨gv, hgv⟩ : ∃ v, gotV s.L p o = v := ⟨_, rfl⟩
  have HGV : Hid (gotV s.L p o = gv) := hgv
  clear hgv
  have hlt4 : g4 < W.heap.size := (Array.getElem?_eq_some_iff.1 HL.out.2).1
  have HL4 : Hid (g4 < W.heap.size) := hlt4
  clear hlt4
  have HS : Hid (∀ U : World, (∀ k, k = a ∨ k = g3 ∨ k = g4 → U.heap[k]? = W.heap[k]?) → U.cell? ⟨a, 3 + p * 6, none⟩ = some (.int .i64 ((s.d p).r : Int)) ∧ U.cell? ⟨g3, 2, none⟩ = some (.int .i64 (o : Int)) ∧ U.cell? ⟨a, 0, none⟩ = some (cp c) ∧ U.cell? ⟨g3, 1, none⟩ = some (.int .i64 (p : Int)) ∧ U.frozen? ⟨a, 3 + p * 6, none⟩ = false ∧ U.heap[g4]? = some anZ) := by
    intro U hU
    have h0 := HN.out W (Below.refl _ _)
    have ha := hU a (.inl rfl)
    have h3 := op_cells ((hU g3 (.inr (.inl rfl))).trans h0.2.1)
    exact ⟨(World.cell?_of_block (w := W) (w' := U) (a := ⟨a, 3 + p * 6, none⟩) ha).trans (h0.1.cr p HA.out.2.1), h3.2.2.1, (World.cell?_of_block (w := W) (w' := U) (a := ⟨a, 0, none⟩) ha).trans h0.1.c0, h3.2.1, (World.frozen?_of_block (w := W) (a := ⟨a, 3 + p * 6, none⟩) ha).trans (h0.1.fz _), (hU g4 (.inr (.inr rfl))).trans h0.2.2⟩
  have HGt : Hid (Calls Tryz.prog 82 #[cp c, .int .i64 (p : Int), .int .i64 (o : Int)] w6.drew fun e w' => e = .returned (.tuple #[.complex .f64 gv.1 gv.2, .bool true]) ∧ (∀ k, k = a ∨ k = g3 ∨ k = g4 → w'.heap[k]? = W.heap[k]?) ∧ Hid (Ag w' (nwA A W w') a c pq ko kc { s with L := useL s.L p } ∧ OffS A W w')) := by
    have hb6 := below_step HB6.out (bel0 w6)
    have h := (HN.out _ hb6).1
    refine (get_yesA h.ca (by have := h.ll; omega) h.es p o HA.out.2.2 hc.out).mono ?_
    rw [HGV.out]
    rintro e w' ⟨rfl, hx⟩
    have ho : OffS A W w' := ⟨hx.2.os.trans hb6.os, hx.2.tape.trans hb6.tape, hx.2.output.trans hb6.output, Nat.le_trans hb6.size hx.2.size, fun k hk hn => (hx.2.block k (Nat.lt_of_lt_of_le hk hb6.size) fun e => hn e.1).trans (hb6.block k hk)⟩
    have hG := HG.out
    have hl4 := HL4.out
    have hsz := HA.out.1.sz
    have hs0 := hG.2.2.size
    have hk := h.cache hx (h.es.useL _) (by rw [useL_len]; exact h.ll)
    refine ⟨rfl, ?_, hk.mono ?_ ?_, ho⟩
    · intro k hk
      have hkl : k < W.heap.size := by omega
      refine (hx.2.block k (Nat.lt_of_lt_of_le hkl hb6.size) ?_).trans (hb6.block k hkl)
      intro e
      rcases hk with rfl | hk
      · exact e.2.1 rfl
      · have := HA.out.1.lt k e.1
        omega
    · intro k hk
      have := hb6.size
      rcases hk with hk | hk
      · exact .inl hk
      · exact .inr ⟨by omega, hk.2⟩
    · intro k hk
      have := ho.size
      rcases hk with hk | hk
      · have := HA.out.1.lt k hk; omega
      · exact hk.2
  refine wp_region_held (S := fun U => ∀ k, k = a ∨ k = g3 ∨ k = g4 → U.heap[k]? = W.heap[k]?) (by kernel_rfl) ?_
  have hS : ∀ k, k = a ∨ k = g3 ∨ k = g4 → w6.drew.heap[k]? = W.heap[k]? := by
    intro k hk
    refine HB6.out.block k ?_
    have hG := HG.out
    have hl4 := HL4.out
    have hsz := HA.out.1.sz
    have hs0 := hG.2.2.size
    omega
  refine held_val (i := 0) ?_ 31 rfl rfl (by kernel_rfl) (by kernel_rfl) (by kernel_rfl) (by rfl) (fun _ _ _ h => h) hS ?_ ?_
  rotate_left
  · (intro w hSw; go_simp; first | done | with_reducible rfl)
  simp only [Act.put, List.setIfInBounds_toArray, List.set_cons_zero, List.set_cons_succ]
  refine held_val (i := 1) ?_ 32 rfl rfl (by kernel_rfl) (by kernel_rfl) (by kernel_rfl) (by rfl) (fun _ _ _ h => h) hS ?_ ?_
  rotate_left
  · (intro w hSw; go_simp; first | done | with_reducible rfl)
  simp only [Act.put, List.setIfInBounds_toArray, List.set_cons_zero, List.set_cons_succ]
  refine held_val (i := 2) ?_ 33 rfl rfl (by kernel_rfl) (by kernel_rfl) (by kernel_rfl) (by rfl) (fun _ _ _ h => h) hS ?_ ?_
  rotate_left
  · (intro w hSw; go_simp; first | done | with_reducible rfl)
  simp only [Act.put, List.setIfInBounds_toArray, List.set_cons_zero, List.set_cons_succ]
  refine held_val (i := 3) ?_ 34 rfl rfl (by kernel_rfl) (by kernel_rfl) (by kernel_rfl) (by rfl) (fun _ _ _ h => h) hS ?_ ?_
  rotate_left
  · (intro w hSw; obtain ⟨k0, k1, k2, k3, k4, k5⟩ := HS.out w hSw; go_simp; first | done | with_reducible rfl)
  simp only [Act.put, List.setIfInBounds_toArray, List.set_cons_zero, List.set_cons_succ]
  refine held_val (i := 4) ?_ 35 rfl rfl (by kernel_rfl) (by kernel_rfl) (by kernel_rfl) (by rfl) (fun _ _ _ h => h) hS ?_ ?_
  rotate_left
  · (intro w hSw; go_simp; first | done | with_reducible rfl)
  simp only [Act.put, List.setIfInBounds_toArray, List.set_cons_zero, List.set_cons_succ]
  refine held_val (i := 5) ?_ 36 rfl rfl (by kernel_rfl) (by kernel_rfl) (by kernel_rfl) (by rfl) (fun _ _ _ h => h) hS ?_ ?_
  rotate_left
  · (intro w hSw; obtain ⟨k0, k1, k2, k3, k4, k5⟩ := HS.out w hSw; go_simp; first | done | with_reducible rfl)
  simp only [Act.put, List.setIfInBounds_toArray, List.set_cons_zero, List.set_cons_succ]
  refine held_val (i := 6) ?_ 37 rfl rfl (by kernel_rfl) (by kernel_rfl) (by kernel_rfl) (by rfl) (fun _ _ _ h => h) hS ?_ ?_
  rotate_left
  · (intro w hSw; go_simp; first | done | with_reducible rfl)
  simp only [Act.put, List.setIfInBounds_toArray, List.set_cons_zero, List.set_cons_succ]
  refine held_val (i := 7) ?_ 38 rfl rfl (by kernel_rfl) (by kernel_rfl) (by kernel_rfl) (by rfl) (fun _ _ _ h => h) hS ?_ ?_
  rotate_left
  · (intro w hSw; obtain ⟨k0, k1, k2, k3, k4, k5⟩ := HS.out w hSw; go_simp; first | done | with_reducible rfl)
  simp only [Act.put, List.setIfInBounds_toArray, List.set_cons_zero, List.set_cons_succ]
  refine held_call (i := 8) 39 82 #[cp c, .int .i64 (p : Int), .int .i64 (o : Int)] rfl rfl (by kernel_rfl) (by rfl) (by simp [go_sem]) HGt.out ?_
  rintro e w8 ⟨rfl, hS8, HD8⟩
  refine ⟨_, rfl, hS8, ?_⟩
  have hS8 := hS8
  simp only [Act.put, List.setIfInBounds_toArray, List.set_cons_zero, List.set_cons_succ]
  refine held_val (i := 9) ?_ 30 rfl rfl (by kernel_rfl) (by kernel_rfl) (by kernel_rfl) (by rfl) (fun _ _ _ h => h) hS8 ?_ ?_
  rotate_left
  · (intro w hSw; go_simp; first | done | with_reducible rfl)
  simp only [Act.put, List.setIfInBounds_toArray, List.set_cons_zero, List.set_cons_succ]
  refine held_val (i := 10) ?_ 40 rfl rfl (by kernel_rfl) (by kernel_rfl) (by kernel_rfl) (by rfl) (fun _ _ _ h => h) hS8 ?_ ?_
  rotate_left
  · (intro w hSw; go_simp; first | done | with_reducible rfl)
  simp only [Act.put, List.setIfInBounds_toArray, List.set_cons_zero, List.set_cons_succ]
  refine held_val (i := 11) ?_ 41 rfl rfl (by kernel_rfl) (by kernel_rfl) (by kernel_rfl) (by rfl) (fun _ _ _ h => h) hS8 ?_ ?_
  rotate_left
  · (intro w hSw; go_simp; first | done | with_reducible rfl)
  simp only [Act.put, List.setIfInBounds_toArray, List.set_cons_zero, List.set_cons_succ]
  refine held_val (i := 12) ?_ 7 rfl rfl (by kernel_rfl) (by kernel_rfl) (by kernel_rfl) (by rfl) (fun _ _ _ h => h) hS8 ?_ ?_
  rotate_left
  · (intro w hSw; go_simp; first | done | with_reducible rfl)
  simp only [Act.put, List.setIfInBounds_toArray, List.set_cons_zero, List.set_cons_succ]
  refine held_val (i := 13) ?_ 8 rfl rfl (by kernel_rfl) (by kernel_rfl) (by kernel_rfl) (by rfl) (fun _ _ _ h => h) hS8 ?_ ?_
  rotate_left
  · (intro w hSw; go_simp; first | done | with_reducible rfl)
  simp only [Act.put, List.setIfInBounds_toArray, List.set_cons_zero, List.set_cons_succ]
  refine wpAnyH_done (by kernel_rfl) ?_ _
  have HS8 : Hid (∀ k, k = a ∨ k = g3 ∨ k = g4 → w8.heap[k]? = W.heap[k]?) := hS8
  clear hS hS8 HGt
  obtain ⟨k0, k1, k2, k3, k4, k5⟩ := HS.out w8 HS8.out
  have K5 : Hid (w8.heap[g4]? = some anZ) := k5
  clear k5
  go_upto_region 6 with fail
  go_region
  have HZ : Hid (Ag (w8.setCell ⟨a, 3 + p * 6, none⟩ (.int .i64 RN)).drew (nwA A W w8) a c pq ko kc (rdS s p o) ∧ OffS A w (w8.setCell ⟨a, 3 + p * 6, none⟩ (.int .i64 RN)).drew ∧ (w8.setCell ⟨a, 3 + p * 6, none⟩ (.int .i64 RN)).drew.heap[g4]? = some anZ) := by
    have h1 := HD8.out.1.mark p o HA.out.2.1 HA.out.2.2
    have h1' : Ag (w8.setCell ⟨a, 3 + p * 6, none⟩ (.int .i64 RN)) (nwA A W w8) a c pq ko kc (rdS s p o) := by
      rw [← HRN.out]
      exact h1
    refine ⟨h1'.below (bel0 _), ?_, ?_⟩
    · have h2 : OffS A w w8 := (OffS.of_below HG.out.2.2).trans (HD8.out.2.mono fun k hk => .inl hk)
      exact (h2.setCell (a := ⟨a, 3 + p * 6, none⟩) HA.out.1.aa _).trans (OffS.of_below (bel0 _))
    · show (w8.setCell ⟨a, 3 + p * 6, none⟩ (.int .i64 RN)).heap[g4]? = some anZ
      rw [Below.heap_setCell _ _ _ _ (by have := HG.out; have := HA.out.1.sz; show g4 ≠ a; omega)]
      exact K5.out
  go_upto_region 7 with fail
  generalize (w8.setCell ⟨a, 3 + p * 6, none⟩ (.int .i64 RN)).drew = W9 at *
  obtain ⟨z0, z1, z2⟩ := an_cells HZ.out.2.2
  have zf := an_fz HZ.out.2.2
  clear k0 k1 k2 k3 k4
  go_wp2
  refine bodyPost_ret (by simp [results, Tryz.results62, go_sem, z0, z1, z2]; try rfl) rfl ?_
  refine ⟨by rw [HGV.out], busy_end (g := g4) HA.out.1.lt (by have := HG.out; omega) HZ.out.1 ?_ HZ.out.2.1 ?_⟩
  · intro k hk
    have hG := HG.out
    have hl4 := HL4.out
    rcases hk with hk | hk
    · exact .inl hk
    · exact .inr ⟨by omega, by omega⟩
  · repeat (first | (with_reducible exact OffS.refl _ _) | (with_reducible refine OffS.setCell (A := fun k => k = g4) ?_ rfl _))

end Go.Proofs.YtmmgdmfdiaoegaaGreat
