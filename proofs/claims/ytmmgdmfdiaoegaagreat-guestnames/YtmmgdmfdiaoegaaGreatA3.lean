/- Messages in blocks; regions that draw: an operation whose guard says no; a whole struct into its block. -/
import Derived.Test.YtmmgdmfdiaoegaaGreatXj
import Derived.Laws.Tables
import Derived.RegionTactic
import Derived.Deep.QuietTactic
namespace Go.Proofs.YtmmgdmfdiaoegaaGreat
open Go.RowKit
set_option linter.unusedVariables false
set_option maxRecDepth 8000

section
variable {P : Program} {ops : Array Oper} {Q : Exit → Act → World → Prop} {md : Region.Mode} {S : World → Prop}
/-- An operation whose guard says no. -/
theorem held_skip {i : Nat} {oi : Oper} (d : Nat) {fuel : Nat} {listed : Array Bool} {a : Act} {w : World} (hi : ops[i]? = some oi) (hd : oi.dst = some d) (hs : Region.noSelect ops = true) (hf : Region.free md ops listed i = true) (hr : (Region.ready md ops listed).contains i = true)
    (hw : Region.wanted oi (yielded ops a.tmps) = false) (hQ : ∀ c a w, Q (.panic c) (a.put oi.dst undef) w → Q (.panic c) a w) (hS : S w) (h : wpAnyH P md ops Q S fuel (listed.setIfInBounds i true) (a.put (some d) undef) w) : wpAnyH P md ops Q S (fuel + 1) listed a w :=
  wpAnyH_take hi hs hf hr hQ (.inr ⟨hw, rfl⟩) hS (hd ▸ h)
end

theorem bel0 (w : World) : Below w.heap.size w w.drew := ⟨rfl, rfl, rfl, Nat.le_refl _, fun _ _ => rfl⟩
theorem orp16 : ∀ a < 16, ∀ o < 4, bits .or .i64 ((a : Nat) : Int) ((2 : Int) ^ o) = ((a ||| 2 ^ o : Nat) : Int) := by decide +kernel
theorem shl16 : ∀ o < 4, IntKind.i64.wrap ((2 : Int) ^ o) = (2 : Int) ^ o := by decide +kernel
theorem wsh : ∀ o < 4, wrap64 ((2 : Int) ^ min o 64) = ((2 ^ o : Nat) : Int) := by decide +kernel
theorem two16 : ∀ o < 4, 2 ^ o < 16 := by decide

abbrev z2 : Nat × Nat := (0, 0)
abbrev mZ : Mg := ⟨0, 0, 0, 0, 0, 0, false, [], z2, z2, z2, z2⟩

/-- The numbers of a message in a block. -/
def MgW (w : World) (b : Nat) (M : Mg) : Prop :=
  w.cell? ⟨b, 0, none⟩ = some (.int .i64 M.k) ∧ w.cell? ⟨b, 1, none⟩ = some (.int .i64 M.p) ∧ w.cell? ⟨b, 2, none⟩ = some (.int .i64 M.o) ∧ w.cell? ⟨b, 3, none⟩ = some (.int .i64 M.t) ∧ w.cell? ⟨b, 4, none⟩ = some (.int .i64 M.c) ∧ w.cell? ⟨b, 5, none⟩ = some (.int .i64 M.n) ∧ w.cell? ⟨b, 6, none⟩ = some (.bool M.wr) ∧ w.cell? ⟨b, 7, none⟩ = some (.slice none 0 0) ∧ w.cell? ⟨b, 8, none⟩ = some (.complex .f64 M.v0.1 M.v0.2) ∧ w.cell? ⟨b, 9, none⟩ = some (.complex .f64 M.v1.1 M.v1.2) ∧ w.cell? ⟨b, 10, none⟩ = some (.complex .f64 M.v2.1 M.v2.2) ∧ w.cell? ⟨b, 11, none⟩ = some (.complex .f64 M.v3.1 M.v3.2)
theorem mg_cells {w : World} {b : Nat} {M : Mg} (h : w.heap[b]? = some (mgO M)) : MgW w b M := by
  refine ⟨?_, ?_, ?_, ?_, ?_, ?_, ?_, ?_, ?_, ?_, ?_, ?_⟩
  all_goals rw [cell_of_row _ _ _ _ _ _ h]; rfl
theorem mg_fz {w : World} {b : Nat} {M : Mg} (h : w.heap[b]? = some (mgO M)) (j : Nat) : w.frozen? ⟨b, j, none⟩ = false := frozen_of_row _ _ _ _ _ h
theorem mg_set4 {w : World} {b : Nat} {M : Mg} (h : w.heap[b]? = some (mgO M)) (z : Int) : (w.setCell ⟨b, 4, none⟩ (.int .i64 z)).heap[b]? = some (mgO { M with c := z }) := by
  rw [heap_setCell_same w b _ _ 73 _ h]; rfl
theorem mg_set5 {w : World} {b : Nat} {M : Mg} (h : w.heap[b]? = some (mgO M)) (z : Int) : (w.setCell ⟨b, 5, none⟩ (.int .i64 z)).heap[b]? = some (mgO { M with n := z }) := by
  rw [heap_setCell_same w b _ _ 73 _ h]; rfl

/-- Three new blocks. -/
theorem al3 (w : World) (o1 o2 o3 : Obj) : (((w.alloc o1).alloc o2).alloc o3).drew.heap[w.heap.size]? = some o1 ∧ (((w.alloc o1).alloc o2).alloc o3).drew.heap[w.heap.size + 1]? = some o2 ∧ (((w.alloc o1).alloc o2).alloc o3).drew.heap[w.heap.size + 1 + 1]? = some o3 ∧ Below w.heap.size w (((w.alloc o1).alloc o2).alloc o3).drew ∧ w.heap.size + 1 + 1 < (((w.alloc o1).alloc o2).alloc o3).drew.heap.size := by
  have b1 : Below w.heap.size w (w.alloc o1) := (Below.refl _ _).alloc (Nat.le_refl _) _
  have b2 : Below (w.alloc o1).heap.size (w.alloc o1) ((w.alloc o1).alloc o2) := (Below.refl _ _).alloc (Nat.le_refl _) _
  have b3 : Below ((w.alloc o1).alloc o2).heap.size ((w.alloc o1).alloc o2) (((w.alloc o1).alloc o2).alloc o3) := (Below.refl _ _).alloc (Nat.le_refl _) _
  have e1 : (w.alloc o1).heap.size = w.heap.size + 1 := by simp
  have e2 : ((w.alloc o1).alloc o2).heap.size = w.heap.size + 1 + 1 := by simp
  have n1 := heap_alloc_new w o1
  have n2 := heap_alloc_new (w.alloc o1) o2
  have n3 := heap_alloc_new ((w.alloc o1).alloc o2) o3
  rw [e1] at n2
  rw [e2] at n3
  refine ⟨(b3.block _ (by omega)).trans ((b2.block _ (by omega)).trans n1), (b3.block _ (by omega)).trans n2, n3, below_step (below_step b1 b2) (below_step b3 (bel0 _)), ?_⟩
  show _ < (((w.alloc o1).alloc o2).alloc o3).heap.size
  simp

section
variable {w w' : World} {A A2 : Nat → Prop} {a c : Nat} {pq ko : Option Addr} {kc : Nat} {s : As}
theorem Ag.mono (h : Ag w A a c pq ko kc s) (hA : ∀ k, A k → A2 k) (hl : ∀ k, A2 k → k < w.heap.size) : Ag w A2 a c pq ko kc s :=
  ⟨h.blk, h.ca.mono fun k _ ha => ⟨hA k ha.1, ha.2⟩, h.q, h.k, hA a h.aa, fun p hp => hA _ (h.aq p hp), fun p hp => hA _ (h.ak p hp), hl, h.es, h.dm, h.rl, h.ll⟩
end
/-- The elder blocks, and those that are new. -/
def nwA (A : Nat → Prop) (w w' : World) : Nat → Prop := fun k => A k ∨ (w.heap.size ≤ k ∧ k < w'.heap.size)

/-- A block of the function's own is written behind a step. -/
theorem Ag.closeLoc {w Y w1 w' : World} {A : Nat → Prop} {a c : Nat} {pq ko : Option Addr} {kc : Nat} {s : As} {g : Nat} (hlt : ∀ k, A k → k < w.heap.size) (hb : Below w.heap.size w Y) (hg : w.heap.size ≤ g ∧ g < Y.heap.size) (h1 : Ag w1 (nwA A Y w1) a c pq ko kc s) (h2 : OffS A Y w1) (h3 : OffS (fun k => k = g) w1 w') :
    Ag w' (nwA A w w') a c pq ko kc s ∧ OffS A w w' := by
  have s1 := hb.size
  have s2 := h2.size
  have s3 := h3.size
  refine ⟨(h1.keep s3 fun k hk => h3.block k (h1.lt k hk) ?_).mono ?_ ?_, ((OffS.of_below hb).trans (h2.mono fun k hk => .inl hk)).trans (h3.mono fun k hk => .inr (by have : k = g := hk; omega))⟩
  · intro e
    have e' : k = g := e
    rcases hk with hk | hk
    · have := hlt k hk; omega
    · omega
  · intro k hk
    rcases hk with hk | hk
    · exact .inl hk
    · exact .inr ⟨by omega, by omega⟩
  · intro k hk
    rcases hk with hk | hk
    · have := hlt k hk; omega
    · exact hk.2

theorem drL_le (L : List En) (p : Int) (cm om : Nat) : (drL L p cm om).length ≤ L.length := by
  unfold drL
  split
  · exact Nat.le_refl _
  · split
    · rw [List.length_append, List.length_take, List.length_drop]; omega
    · rw [List.length_set]; exact Nat.le_refl _

def gvC (wr : Bool) (o : Nat) : Nat := if wr then 2 ^ o else 0
def gvN (s : As) (p o : Nat) : Nat := if owN s.L p = 15 then sub16 15 (s.d p).w else 2 ^ o
def gvM (s : As) (p o : Nat) (wr : Bool) : Mg := ⟨3, p, 0, 0, gvC wr o, gvN s p o, false, [], z2, z2, z2, z2⟩
def gvS (s : As) (p o : Nat) (wr : Bool) : As := { s with L := drL s.L p (gvC wr o) (gvN s p o) }

set_option maxHeartbeats 3200000 in
theorem giveWay_any {w : World} {A : Nat → Prop} {a c : Nat} {pq ko : Option Addr} {kc : Nat} {s : As} (H : Ag w A a c pq ko kc s) (M : Mg) (p o : Nat) (hp : p < 6) (ho : o < 4) (hMp : M.p = p) (hMo : M.o = o) : Calls Tryz.prog 42 #[cp a, mgV M] w fun e w' => e = .returned (mgV (gvM s p o M.wr)) ∧ Ag w' (nwA A w w') a c pq ko kc (gvS s p o M.wr) ∧ OffS A w w' := by
  have hst := fun (ad : Addr) (re im : Nat) (W : World) => run_store Tryz.prog W ad (.complex .f64 re im) .plain rfl
  obtain ⟨mk, mp, mo, mt, mc, mn, wr, ps, v0, v1, v2, v3⟩ := M
  simp only at hMp hMo
  subst hMp hMo
  have ho0 : ¬ (o : Int) < 0 := by omega
  have hp0 : ¬ (p : Int) < 0 := by omega
  have hp6 : (p : Int) < 6 := by omega
  obtain ⟨T2, hT⟩ : ∃ z : Int, ((2 ^ o : Nat) : Int) = z := ⟨_, rfl⟩
  have hsh : wrap64 ((2 : Int) ^ min o 64) = T2 := (wsh o ho).trans hT
  obtain ⟨ow, how⟩ : ∃ n, owN s.L p = n := ⟨_, rfl⟩
  have HA : Hid (Ag w A a c pq ko kc s ∧ p < 6 ∧ o < 4 ∧ ((2 ^ o : Nat) : Int) = T2 ∧ owN s.L p = ow) := ⟨H, hp, ho, hT, how⟩
  have HW := al3 w (mgO ⟨mk, (p : Int), (o : Int), mt, mc, mn, wr, ps, v0, v1, v2, v3⟩) (mgO mZ) (mgO ⟨3, (p : Int), 0, 0, 0, T2, false, [], z2, z2, z2, z2⟩)
  have HW' : Hid (_ ∧ _ ∧ _) := ⟨HW.1, HW.2.1, HW.2.2.1⟩
  have HBW : Hid (_ ∧ _) := HW.2.2.2
  clear H hp ho hT HW how
  go_enter Tryz.func42, Tryz.ntmps42
  go_upto_region 1 with fail
  go_region
  obtain ⟨g3, hg3⟩ : ∃ g, w.heap.size = g := ⟨_, rfl⟩
  obtain ⟨g4, hg4⟩ : ∃ g, w.heap.size + 1 = g := ⟨_, rfl⟩
  obtain ⟨g5, hg5⟩ : ∃ g, w.heap.size + 1 + 1 = g := ⟨_, rfl⟩
  show Exit.then _ _ _ _ (((w.alloc (mgO ⟨mk, (p : Int), (o : Int), mt, mc, mn, wr, ps, v0, v1, v2, v3⟩)).alloc (mgO mZ)).alloc (mgO ⟨3, (p : Int), 0, 0, 0, T2, false, [], z2, z2, z2, z2⟩)).drew
  generalize (((w.alloc (mgO ⟨mk, (p : Int), (o : Int), mt, mc, mn, wr, ps, v0, v1, v2, v3⟩)).alloc (mgO mZ)).alloc (mgO ⟨3, (p : Int), 0, 0, 0, T2, false, [], z2, z2, z2, z2⟩)).drew = W at *
  have HG : Hid (w.heap.size = g3 ∧ w.heap.size + 1 = g4 ∧ w.heap.size + 1 + 1 = g5) := ⟨hg3, hg4, hg5⟩
  rw [hg5, hg4, hg3] at HW'
  rw [hg5, hg4, hg3]
  clear hg3 hg4 hg5
  cases wr
  · by_cases hoy : ow = 15
    · subst hoy
      have q6 := (mg_cells HW'.out.1).2.2.2.2.2.2.1
      have q2 := (mg_cells HW'.out.1).2.2.1
      have r4 := (mg_cells HW'.out.2.2).2.2.2.2.1
      have r4f := mg_fz HW'.out.2.2 4
      simp only at q2 q6 r4
      go_upto_region 4 with fail
      have HL : Hid (W.heap[g3]? = some (mgO ⟨mk, (p : Int), (o : Int), mt, mc, mn, false, ps, v0, v1, v2, v3⟩) ∧ W.heap[g4]? = some (mgO mZ) ∧ W.heap[g5]? = some (mgO ⟨3, (p : Int), 0, 0, 0, T2, false, [], z2, z2, z2, z2⟩) ∧ Below w.heap.size w W ∧ g5 < W.heap.size) := ⟨HW'.out.1, HW'.out.2.1, HW'.out.2.2, HBW.out.1, by have := HBW.out.2; have := HG.out; omega⟩
      generalize W = V at *
      clear HW' HBW q2 q6 r4 r4f
      have HV : Hid (∀ U, Below V.heap.size V U → U.cell? ⟨a, 0, none⟩ = some (cp c) ∧ U.cell? ⟨g3, 1, none⟩ = some (.int .i64 (p : Int))) := fun U hU =>
        ⟨((HA.out.1.below HL.out.2.2.2.1).below hU).c0, (mg_cells ((hU.block g3 (by have := HG.out; have := HL.out.2.2.2.2; omega)).trans HL.out.1)).2.1⟩
      have HC : Hid (Calls Tryz.prog 63 #[cp c, .int .i64 (p : Int)] V.drew fun e w' => e = .returned (.int .i64 15) ∧ Below V.heap.size V w') := by
        obtain ⟨ao, cap, h⟩ := ((HA.out.1.below HL.out.2.2.2.1).below (bel0 V)).ca
        refine (own_any V.drew _ c _ ao cap _ h (by have := HA.out.1.ll; omega) p).mono ?_
        rintro e w' ⟨rfl, hb⟩
        exact ⟨by first | (rw [HA.out.2.2.2.2]; done) | (rw [HA.out.2.2.2.2]; rfl), below_step (bel0 V) hb⟩
      refine wp_region_held (S := fun U => Below V.heap.size V U) (by kernel_rfl) ?_
      have hS : Below V.heap.size V V.drew := bel0 V
      refine held_val (i := 0) ?_ 18 rfl rfl (by kernel_rfl) (by kernel_rfl) (by kernel_rfl) (by rfl) (fun _ _ _ h => h) hS ?_ ?_
      rotate_left
      · (intro w hSw; go_simp; first | done | with_reducible rfl)
      simp only [Act.put, List.setIfInBounds_toArray, List.set_cons_zero, List.set_cons_succ]
      refine held_val (i := 1) ?_ 19 rfl rfl (by kernel_rfl) (by kernel_rfl) (by kernel_rfl) (by rfl) (fun _ _ _ h => h) hS ?_ ?_
      rotate_left
      · (intro w hSw; go_simp; first | done | with_reducible rfl)
      simp only [Act.put, List.setIfInBounds_toArray, List.set_cons_zero, List.set_cons_succ]
      refine held_val (i := 2) ?_ 20 rfl rfl (by kernel_rfl) (by kernel_rfl) (by kernel_rfl) (by rfl) (fun _ _ _ h => h) hS ?_ ?_
      rotate_left
      · (intro w hSw; go_simp; first | done | with_reducible rfl)
      simp only [Act.put, List.setIfInBounds_toArray, List.set_cons_zero, List.set_cons_succ]
      refine held_val (i := 3) ?_ 21 rfl rfl (by kernel_rfl) (by kernel_rfl) (by kernel_rfl) (by rfl) (fun _ _ _ h => h) hS ?_ ?_
      rotate_left
      · (intro w hSw; obtain ⟨k0, k1⟩ := HV.out w hSw; go_simp; first | done | with_reducible rfl)
      simp only [Act.put, List.setIfInBounds_toArray, List.set_cons_zero, List.set_cons_succ]
      refine held_val (i := 4) ?_ 22 rfl rfl (by kernel_rfl) (by kernel_rfl) (by kernel_rfl) (by rfl) (fun _ _ _ h => h) hS ?_ ?_
      rotate_left
      · (intro w hSw; go_simp; first | done | with_reducible rfl)
      simp only [Act.put, List.setIfInBounds_toArray, List.set_cons_zero, List.set_cons_succ]
      refine held_val (i := 5) ?_ 23 rfl rfl (by kernel_rfl) (by kernel_rfl) (by kernel_rfl) (by rfl) (fun _ _ _ h => h) hS ?_ ?_
      rotate_left
      · (intro w hSw; obtain ⟨k0, k1⟩ := HV.out w hSw; go_simp; first | done | with_reducible rfl)
      simp only [Act.put, List.setIfInBounds_toArray, List.set_cons_zero, List.set_cons_succ]
      refine held_call (i := 6) 24 63 #[cp c, .int .i64 (p : Int)] rfl rfl (by kernel_rfl) (by rfl) (by simp [go_sem]) HC.out ?_
      rintro e w6 ⟨rfl, hS6⟩
      refine ⟨_, rfl, hS6, ?_⟩
      have hS6 := hS6
      simp only [Act.put, List.setIfInBounds_toArray, List.set_cons_zero, List.set_cons_succ]
      refine held_val (i := 7) (.bool true) 25 rfl rfl (by kernel_rfl) (by kernel_rfl) (by kernel_rfl) (by rfl) (fun _ _ _ h => h) hS6 ?_ ?_
      · (intro w hSw; go_simp; first | done | with_reducible rfl)
      simp only [Act.put, List.setIfInBounds_toArray, List.set_cons_zero, List.set_cons_succ]
      refine wpAnyH_done (by kernel_rfl) ?_ _
      have HB : Hid (Below V.heap.size V w6) := hS6
      clear hS hS6 HC HV
      have HL6 : Hid (w6.heap[g3]? = some (mgO ⟨mk, (p : Int), (o : Int), mt, mc, mn, false, ps, v0, v1, v2, v3⟩) ∧ w6.heap[g4]? = some (mgO mZ) ∧ w6.heap[g5]? = some (mgO ⟨3, (p : Int), 0, 0, 0, T2, false, [], z2, z2, z2, z2⟩) ∧ Below w.heap.size w w6 ∧ g5 < w6.heap.size) := by
        have e := HG.out
        have e5 := HL.out.2.2.2.2
        exact ⟨(HB.out.block g3 (by omega)).trans HL.out.1, (HB.out.block g4 (by omega)).trans HL.out.2.1, (HB.out.block g5 (by omega)).trans HL.out.2.2.1, below_step HL.out.2.2.2.1 HB.out, by have := HB.out.size; omega⟩
      clear HB HL
      obtain ⟨NI, hNI⟩ : ∃ z : Int, ((sub16 15 (s.d p).w : Nat) : Int) = z := ⟨_, rfl⟩
      have HN : Hid (NI = ((gvN s p o : Nat) : Int)) := by unfold Hid gvN; rw [HA.out.2.2.2.2, if_pos rfl]; exact hNI.symm
      have bn : bits .andNot .i64 15 ((s.d p).w : Int) = NI := ((not16c 15 (by decide) _ (HA.out.1.dm p).2).1).trans hNI
      clear hNI
      have x1 := ((HA.out.1.below HL6.out.2.2.2.1).cw p HA.out.2.1)
      have x2 := (mg_cells HL6.out.1).2.1
      have x3 := (mg_cells HL6.out.2.2.1).2.2.2.2.2.1
      have x4 := mg_fz HL6.out.2.2.1 5
      simp only at x2 x3
      go_upto_region 5 with fail
      go_region
      have HL7 : Hid ((w6.setCell ⟨g5, 5, none⟩ (.int .i64 NI)).drew.heap[g4]? = some (mgO mZ) ∧ (w6.setCell ⟨g5, 5, none⟩ (.int .i64 NI)).drew.heap[g5]? = some (mgO ⟨3, (p : Int), 0, 0, 0, NI, false, [], z2, z2, z2, z2⟩) ∧ Below w.heap.size w (w6.setCell ⟨g5, 5, none⟩ (.int .i64 NI)).drew ∧ g5 < (w6.setCell ⟨g5, 5, none⟩ (.int .i64 NI)).drew.heap.size) := by
        have e := HG.out
        refine ⟨?_, mg_set5 HL6.out.2.2.1 NI, below_step (HL6.out.2.2.2.1.setCell (p := ⟨g5, 5, none⟩) (by show w.heap.size ≤ g5; omega) _) (bel0 _), by have := HL6.out.2.2.2.2; show g5 < (w6.setCell ⟨g5, 5, none⟩ (.int .i64 NI)).heap.size; simpa using this⟩
        show (w6.setCell ⟨g5, 5, none⟩ (.int .i64 NI)).heap[g4]? = _
        rw [Below.heap_setCell _ _ _ _ (show g4 ≠ g5 by omega)]; exact HL6.out.2.1
      go_upto_region 6 with fail
      generalize (w6.setCell ⟨g5, 5, none⟩ (.int .i64 NI)).drew = Y at *
      clear x1 x2 x3 x4 bn HL6
      have HCC : Hid ((0 : Int) = ((gvC false o : Nat) : Int) ∧ gvC false o < 16 ∧ gvN s p o < 16) := by
        refine ⟨rfl, show 0 < 16 by decide, ?_⟩
        unfold gvN
        split
        · exact (not16c 15 (by decide) _ (HA.out.1.dm p).2).2
        · exact two16 o HA.out.2.2.1
      have HS : Hid (∀ U : World, (∀ k, k = a ∨ k = g5 → U.heap[k]? = Y.heap[k]?) → U.cell? ⟨a, 0, none⟩ = some (cp c) ∧ U.cell? ⟨g5, 1, none⟩ = some (.int .i64 (p : Int)) ∧ U.cell? ⟨g5, 4, none⟩ = some (.int .i64 0) ∧ U.cell? ⟨g5, 5, none⟩ = some (.int .i64 NI)) := by
        intro U hU
        have h5 := mg_cells ((hU g5 (.inr rfl)).trans HL7.out.2.1)
        exact ⟨(World.cell?_of_block (w := Y) (w' := U) (a := ⟨a, 0, none⟩) (hU a (.inl rfl))).trans (HA.out.1.below HL7.out.2.2.1).c0, h5.2.1, h5.2.2.2.2.1, h5.2.2.2.2.2.1⟩
      have HC : Hid (Calls Tryz.prog 64 #[cp c, .int .i64 (p : Int), .int .i64 0, .int .i64 NI] Y.drew fun e w' => e = .returned (.tuple #[]) ∧ (∀ k, k = a ∨ k = g5 → w'.heap[k]? = Y.heap[k]?) ∧ Hid (Ag w' (nwA A Y w') a c pq ko kc (gvS s p o false) ∧ OffS A Y w')) := by
        have hY := (HA.out.1.below HL7.out.2.2.1).below (bel0 Y)
        obtain ⟨ao, cap, h⟩ := hY.ca
        have hd := drop_any Y.drew _ c _ ao cap _ h (by have := HA.out.1.ll; omega) HA.out.1.es p (gvC false o) (gvN s p o) HCC.out.2.1 HCC.out.2.2
        rw [← HCC.out.1, ← HN.out] at hd
        refine hd.mono ?_
        rintro e w' ⟨rfl, h1, h2⟩
        have hx : Nx Y.drew w' (acS A a pq ko) c s.rm (drL s.L p (gvC false o) (gvN s p o)) := ⟨⟨ao, cap, h1.mono fun _ _ h => .inl h⟩, h2⟩
        have hg5 : ¬ A g5 := fun e => by have := HA.out.1.lt g5 e; have := HG.out; omega
        have hlen : (drL s.L p (gvC false o) (gvN s p o)).length ≤ 6 := Nat.le_trans (drL_le _ _ _ _) HA.out.1.ll
        refine ⟨rfl, ?_, hY.cache hx (HA.out.1.es.drL _ _ _ HCC.out.2.1 HCC.out.2.2) hlen, ⟨h2.os, h2.tape, h2.output, h2.size, fun k hk hn => h2.block k hk fun e => hn e.1⟩⟩
        rintro k (rfl | rfl)
        · exact h2.block k (Nat.lt_of_lt_of_le HA.out.1.sz HL7.out.2.2.1.size) fun e => e.2.1 rfl
        · exact h2.block k HL7.out.2.2.2 fun e => hg5 e.1
      refine wp_region_held (S := fun U => ∀ k, k = a ∨ k = g5 → U.heap[k]? = Y.heap[k]?) (by kernel_rfl) ?_
      have hS : ∀ k, k = a ∨ k = g5 → Y.drew.heap[k]? = Y.heap[k]? := fun _ _ => rfl
      refine held_val (i := 0) ?_ 36 rfl rfl (by kernel_rfl) (by kernel_rfl) (by kernel_rfl) (by rfl) (fun _ _ _ h => h) hS ?_ ?_
      rotate_left
      · (intro w hSw; go_simp; first | done | with_reducible rfl)
      simp only [Act.put, List.setIfInBounds_toArray, List.set_cons_zero, List.set_cons_succ]
      refine held_val (i := 1) ?_ 37 rfl rfl (by kernel_rfl) (by kernel_rfl) (by kernel_rfl) (by rfl) (fun _ _ _ h => h) hS ?_ ?_
      rotate_left
      · (intro w hSw; go_simp; first | done | with_reducible rfl)
      simp only [Act.put, List.setIfInBounds_toArray, List.set_cons_zero, List.set_cons_succ]
      refine held_val (i := 2) ?_ 38 rfl rfl (by kernel_rfl) (by kernel_rfl) (by kernel_rfl) (by rfl) (fun _ _ _ h => h) hS ?_ ?_
      rotate_left
      · (intro w hSw; go_simp; first | done | with_reducible rfl)
      simp only [Act.put, List.setIfInBounds_toArray, List.set_cons_zero, List.set_cons_succ]
      refine held_val (i := 3) ?_ 39 rfl rfl (by kernel_rfl) (by kernel_rfl) (by kernel_rfl) (by rfl) (fun _ _ _ h => h) hS ?_ ?_
      rotate_left
      · (intro w hSw; obtain ⟨k0, k1, k2, k3⟩ := HS.out w hSw; go_simp; first | done | with_reducible rfl)
      simp only [Act.put, List.setIfInBounds_toArray, List.set_cons_zero, List.set_cons_succ]
      refine held_val (i := 4) ?_ 40 rfl rfl (by kernel_rfl) (by kernel_rfl) (by kernel_rfl) (by rfl) (fun _ _ _ h => h) hS ?_ ?_
      rotate_left
      · (intro w hSw; go_simp; first | done | with_reducible rfl)
      simp only [Act.put, List.setIfInBounds_toArray, List.set_cons_zero, List.set_cons_succ]
      refine held_val (i := 5) ?_ 41 rfl rfl (by kernel_rfl) (by kernel_rfl) (by kernel_rfl) (by rfl) (fun _ _ _ h => h) hS ?_ ?_
      rotate_left
      · (intro w hSw; obtain ⟨k0, k1, k2, k3⟩ := HS.out w hSw; go_simp; first | done | with_reducible rfl)
      simp only [Act.put, List.setIfInBounds_toArray, List.set_cons_zero, List.set_cons_succ]
      refine held_val (i := 6) ?_ 42 rfl rfl (by kernel_rfl) (by kernel_rfl) (by kernel_rfl) (by rfl) (fun _ _ _ h => h) hS ?_ ?_
      rotate_left
      · (intro w hSw; go_simp; first | done | with_reducible rfl)
      simp only [Act.put, List.setIfInBounds_toArray, List.set_cons_zero, List.set_cons_succ]
      refine held_val (i := 7) ?_ 43 rfl rfl (by kernel_rfl) (by kernel_rfl) (by kernel_rfl) (by rfl) (fun _ _ _ h => h) hS ?_ ?_
      rotate_left
      · (intro w hSw; obtain ⟨k0, k1, k2, k3⟩ := HS.out w hSw; go_simp; first | done | with_reducible rfl)
      simp only [Act.put, List.setIfInBounds_toArray, List.set_cons_zero, List.set_cons_succ]
      refine held_val (i := 8) ?_ 44 rfl rfl (by kernel_rfl) (by kernel_rfl) (by kernel_rfl) (by rfl) (fun _ _ _ h => h) hS ?_ ?_
      rotate_left
      · (intro w hSw; go_simp; first | done | with_reducible rfl)
      simp only [Act.put, List.setIfInBounds_toArray, List.set_cons_zero, List.set_cons_succ]
      refine held_val (i := 9) ?_ 45 rfl rfl (by kernel_rfl) (by kernel_rfl) (by kernel_rfl) (by rfl) (fun _ _ _ h => h) hS ?_ ?_
      rotate_left
      · (intro w hSw; obtain ⟨k0, k1, k2, k3⟩ := HS.out w hSw; go_simp; first | done | with_reducible rfl)
      simp only [Act.put, List.setIfInBounds_toArray, List.set_cons_zero, List.set_cons_succ]
      refine held_call (i := 10) 46 64 #[cp c, .int .i64 (p : Int), .int .i64 0, .int .i64 NI] rfl rfl (by kernel_rfl) (by rfl) (by simp [go_sem]) HC.out ?_
      rintro e w10 ⟨rfl, hS10, HD⟩
      refine ⟨_, rfl, hS10, ?_⟩
      have hS10 := hS10
      simp only [Act.put, List.setIfInBounds_toArray, List.set_cons_zero, List.set_cons_succ]
      refine wpAnyH_done (by kernel_rfl) ?_ _
      clear hS hS10 HC HS
      have HLz : Hid (w10.heap[g4]? = some (mgO mZ) ∧ w10.heap[g5]? = some (mgO ⟨3, (p : Int), 0, 0, 0, NI, false, [], z2, z2, z2, z2⟩)) := by
        have e := HG.out
        have hlt := HA.out.1.lt
        have e5 := HL7.out.2.2.2
        exact ⟨(HD.out.2.block g4 (by omega) (fun h => by have := hlt g4 h; omega)).trans HL7.out.1, (HD.out.2.block g5 e5 (fun h => by have := hlt g5 h; omega)).trans HL7.out.2.1⟩
      obtain ⟨u0, u1, u2, u3, u4, u5, u6, u7, u8, u9, uA, uB⟩ := mg_cells HLz.out.2
      obtain ⟨x0, x1, x2, x3, x4, x5, x6, x7, x8, x9, xA, xB⟩ := mg_cells HLz.out.1
      have xf := mg_fz HLz.out.1
      simp only at u0 u1 u2 u3 u4 u5 u6 u8 u9 uA uB x0 x1 x2 x3 x4 x5 x6 x8 x9 xA xB
      go_wp2
      refine bodyPost_ret (by simp [results, Tryz.results42, go_sem, x0, x1, x2, x3, x4, x5, x6, x7, x8, x9, xA, xB]; try rfl) rfl ?_
      have eM : gvM s p o false = ⟨3, (p : Int), 0, 0, 0, NI, false, [], z2, z2, z2, z2⟩ := by unfold gvM; rw [← HN.out, ← HCC.out.1]
      refine ⟨?_, Ag.closeLoc HA.out.1.lt HL7.out.2.2.1 (g := g4) (by have := HG.out; have := HL7.out.2.2.2; omega) HD.out.1 HD.out.2 ?_⟩
      · show _ = Ending.returned (mgV (gvM s p o false))
        rw [eM]
      · repeat (first | (with_reducible exact OffS.refl _ _) | (with_reducible refine OffS.setCell (A := fun k => k = g4) ?_ rfl _))
    · have how : Hid (¬ ow = 15) := hoy
      have e15 : ((ow : Int) == 15) = false := by simp; omega
      clear hoy
      have q6 := (mg_cells HW'.out.1).2.2.2.2.2.2.1
      have q2 := (mg_cells HW'.out.1).2.2.1
      have r4 := (mg_cells HW'.out.2.2).2.2.2.2.1
      have r4f := mg_fz HW'.out.2.2 4
      simp only at q2 q6 r4
      go_upto_region 4 with fail
      have HL : Hid (W.heap[g3]? = some (mgO ⟨mk, (p : Int), (o : Int), mt, mc, mn, false, ps, v0, v1, v2, v3⟩) ∧ W.heap[g4]? = some (mgO mZ) ∧ W.heap[g5]? = some (mgO ⟨3, (p : Int), 0, 0, 0, T2, false, [], z2, z2, z2, z2⟩) ∧ Below w.heap.size w W ∧ g5 < W.heap.size) := ⟨HW'.out.1, HW'.out.2.1, HW'.out.2.2, HBW.out.1, by have := HBW.out.2; have := HG.out; omega⟩
      generalize W = V at *
      clear HW' HBW q2 q6 r4 r4f
      have HV : Hid (∀ U, Below V.heap.size V U → U.cell? ⟨a, 0, none⟩ = some (cp c) ∧ U.cell? ⟨g3, 1, none⟩ = some (.int .i64 (p : Int))) := fun U hU =>
        ⟨((HA.out.1.below HL.out.2.2.2.1).below hU).c0, (mg_cells ((hU.block g3 (by have := HG.out; have := HL.out.2.2.2.2; omega)).trans HL.out.1)).2.1⟩
      have HC : Hid (Calls Tryz.prog 63 #[cp c, .int .i64 (p : Int)] V.drew fun e w' => e = .returned (.int .i64 (ow : Int)) ∧ Below V.heap.size V w') := by
        obtain ⟨ao, cap, h⟩ := ((HA.out.1.below HL.out.2.2.2.1).below (bel0 V)).ca
        refine (own_any V.drew _ c _ ao cap _ h (by have := HA.out.1.ll; omega) p).mono ?_
        rintro e w' ⟨rfl, hb⟩
        exact ⟨by first | (rw [HA.out.2.2.2.2]; done) | (rw [HA.out.2.2.2.2]; rfl), below_step (bel0 V) hb⟩
      refine wp_region_held (S := fun U => Below V.heap.size V U) (by kernel_rfl) ?_
      have hS : Below V.heap.size V V.drew := bel0 V
      refine held_val (i := 0) ?_ 18 rfl rfl (by kernel_rfl) (by kernel_rfl) (by kernel_rfl) (by rfl) (fun _ _ _ h => h) hS ?_ ?_
      rotate_left
      · (intro w hSw; go_simp; first | done | with_reducible rfl)
      simp only [Act.put, List.setIfInBounds_toArray, List.set_cons_zero, List.set_cons_succ]
      refine held_val (i := 1) ?_ 19 rfl rfl (by kernel_rfl) (by kernel_rfl) (by kernel_rfl) (by rfl) (fun _ _ _ h => h) hS ?_ ?_
      rotate_left
      · (intro w hSw; go_simp; first | done | with_reducible rfl)
      simp only [Act.put, List.setIfInBounds_toArray, List.set_cons_zero, List.set_cons_succ]
      refine held_val (i := 2) ?_ 20 rfl rfl (by kernel_rfl) (by kernel_rfl) (by kernel_rfl) (by rfl) (fun _ _ _ h => h) hS ?_ ?_
      rotate_left
      · (intro w hSw; go_simp; first | done | with_reducible rfl)
      simp only [Act.put, List.setIfInBounds_toArray, List.set_cons_zero, List.set_cons_succ]
      refine held_val (i := 3) ?_ 21 rfl rfl (by kernel_rfl) (by kernel_rfl) (by kernel_rfl) (by rfl) (fun _ _ _ h => h) hS ?_ ?_
      rotate_left
      · (intro w hSw; obtain ⟨k0, k1⟩ := HV.out w hSw; go_simp; first | done | with_reducible rfl)
      simp only [Act.put, List.setIfInBounds_toArray, List.set_cons_zero, List.set_cons_succ]
      refine held_val (i := 4) ?_ 22 rfl rfl (by kernel_rfl) (by kernel_rfl) (by kernel_rfl) (by rfl) (fun _ _ _ h => h) hS ?_ ?_
      rotate_left
      · (intro w hSw; go_simp; first | done | with_reducible rfl)
      simp only [Act.put, List.setIfInBounds_toArray, List.set_cons_zero, List.set_cons_succ]
      refine held_val (i := 5) ?_ 23 rfl rfl (by kernel_rfl) (by kernel_rfl) (by kernel_rfl) (by rfl) (fun _ _ _ h => h) hS ?_ ?_
      rotate_left
      · (intro w hSw; obtain ⟨k0, k1⟩ := HV.out w hSw; go_simp; first | done | with_reducible rfl)
      simp only [Act.put, List.setIfInBounds_toArray, List.set_cons_zero, List.set_cons_succ]
      refine held_call (i := 6) 24 63 #[cp c, .int .i64 (p : Int)] rfl rfl (by kernel_rfl) (by rfl) (by simp [go_sem]) HC.out ?_
      rintro e w6 ⟨rfl, hS6⟩
      refine ⟨_, rfl, hS6, ?_⟩
      have hS6 := hS6
      simp only [Act.put, List.setIfInBounds_toArray, List.set_cons_zero, List.set_cons_succ]
      refine held_val (i := 7) (.bool false) 25 rfl rfl (by kernel_rfl) (by kernel_rfl) (by kernel_rfl) (by rfl) (fun _ _ _ h => h) hS6 ?_ ?_
      · (intro w hSw; go_simp; first | done | with_reducible rfl)
      simp only [Act.put, List.setIfInBounds_toArray, List.set_cons_zero, List.set_cons_succ]
      refine wpAnyH_done (by kernel_rfl) ?_ _
      have HB : Hid (Below V.heap.size V w6) := hS6
      clear hS hS6 HC HV
      have HL6 : Hid (w6.heap[g3]? = some (mgO ⟨mk, (p : Int), (o : Int), mt, mc, mn, false, ps, v0, v1, v2, v3⟩) ∧ w6.heap[g4]? = some (mgO mZ) ∧ w6.heap[g5]? = some (mgO ⟨3, (p : Int), 0, 0, 0, T2, false, [], z2, z2, z2, z2⟩) ∧ Below w.heap.size w w6 ∧ g5 < w6.heap.size) := by
        have e := HG.out
        have e5 := HL.out.2.2.2.2
        exact ⟨(HB.out.block g3 (by omega)).trans HL.out.1, (HB.out.block g4 (by omega)).trans HL.out.2.1, (HB.out.block g5 (by omega)).trans HL.out.2.2.1, below_step HL.out.2.2.2.1 HB.out, by have := HB.out.size; omega⟩
      clear HB HL
      have HN : Hid (T2 = ((gvN s p o : Nat) : Int)) := by unfold Hid gvN; rw [HA.out.2.2.2.2, if_neg how.out]; exact HA.out.2.2.2.1.symm
      have HL7 : Hid (w6.heap[g4]? = some (mgO mZ) ∧ w6.heap[g5]? = some (mgO ⟨3, (p : Int), 0, 0, 0, T2, false, [], z2, z2, z2, z2⟩) ∧ Below w.heap.size w w6 ∧ g5 < w6.heap.size) := HL6.out.2
      go_upto_region 6 with fail
      generalize w6 = Y at *
      clear HL6
      have HCC : Hid ((0 : Int) = ((gvC false o : Nat) : Int) ∧ gvC false o < 16 ∧ gvN s p o < 16) := by
        refine ⟨rfl, show 0 < 16 by decide, ?_⟩
        unfold gvN
        split
        · exact (not16c 15 (by decide) _ (HA.out.1.dm p).2).2
        · exact two16 o HA.out.2.2.1
      have HS : Hid (∀ U : World, (∀ k, k = a ∨ k = g5 → U.heap[k]? = Y.heap[k]?) → U.cell? ⟨a, 0, none⟩ = some (cp c) ∧ U.cell? ⟨g5, 1, none⟩ = some (.int .i64 (p : Int)) ∧ U.cell? ⟨g5, 4, none⟩ = some (.int .i64 0) ∧ U.cell? ⟨g5, 5, none⟩ = some (.int .i64 T2)) := by
        intro U hU
        have h5 := mg_cells ((hU g5 (.inr rfl)).trans HL7.out.2.1)
        exact ⟨(World.cell?_of_block (w := Y) (w' := U) (a := ⟨a, 0, none⟩) (hU a (.inl rfl))).trans (HA.out.1.below HL7.out.2.2.1).c0, h5.2.1, h5.2.2.2.2.1, h5.2.2.2.2.2.1⟩
      have HC : Hid (Calls Tryz.prog 64 #[cp c, .int .i64 (p : Int), .int .i64 0, .int .i64 T2] Y.drew fun e w' => e = .returned (.tuple #[]) ∧ (∀ k, k = a ∨ k = g5 → w'.heap[k]? = Y.heap[k]?) ∧ Hid (Ag w' (nwA A Y w') a c pq ko kc (gvS s p o false) ∧ OffS A Y w')) := by
        have hY := (HA.out.1.below HL7.out.2.2.1).below (bel0 Y)
        obtain ⟨ao, cap, h⟩ := hY.ca
        have hd := drop_any Y.drew _ c _ ao cap _ h (by have := HA.out.1.ll; omega) HA.out.1.es p (gvC false o) (gvN s p o) HCC.out.2.1 HCC.out.2.2
        rw [← HCC.out.1, ← HN.out] at hd
        refine hd.mono ?_
        rintro e w' ⟨rfl, h1, h2⟩
        have hx : Nx Y.drew w' (acS A a pq ko) c s.rm (drL s.L p (gvC false o) (gvN s p o)) := ⟨⟨ao, cap, h1.mono fun _ _ h => .inl h⟩, h2⟩
        have hg5 : ¬ A g5 := fun e => by have := HA.out.1.lt g5 e; have := HG.out; omega
        have hlen : (drL s.L p (gvC false o) (gvN s p o)).length ≤ 6 := Nat.le_trans (drL_le _ _ _ _) HA.out.1.ll
        refine ⟨rfl, ?_, hY.cache hx (HA.out.1.es.drL _ _ _ HCC.out.2.1 HCC.out.2.2) hlen, ⟨h2.os, h2.tape, h2.output, h2.size, fun k hk hn => h2.block k hk fun e => hn e.1⟩⟩
        rintro k (rfl | rfl)
        · exact h2.block k (Nat.lt_of_lt_of_le HA.out.1.sz HL7.out.2.2.1.size) fun e => e.2.1 rfl
        · exact h2.block k HL7.out.2.2.2 fun e => hg5 e.1
      refine wp_region_held (S := fun U => ∀ k, k = a ∨ k = g5 → U.heap[k]? = Y.heap[k]?) (by kernel_rfl) ?_
      have hS : ∀ k, k = a ∨ k = g5 → Y.drew.heap[k]? = Y.heap[k]? := fun _ _ => rfl
      refine held_val (i := 0) ?_ 36 rfl rfl (by kernel_rfl) (by kernel_rfl) (by kernel_rfl) (by rfl) (fun _ _ _ h => h) hS ?_ ?_
      rotate_left
      · (intro w hSw; go_simp; first | done | with_reducible rfl)
      simp only [Act.put, List.setIfInBounds_toArray, List.set_cons_zero, List.set_cons_succ]
      refine held_val (i := 1) ?_ 37 rfl rfl (by kernel_rfl) (by kernel_rfl) (by kernel_rfl) (by rfl) (fun _ _ _ h => h) hS ?_ ?_
      rotate_left
      · (intro w hSw; go_simp; first | done | with_reducible rfl)
      simp only [Act.put, List.setIfInBounds_toArray, List.set_cons_zero, List.set_cons_succ]
      refine held_val (i := 2) ?_ 38 rfl rfl (by kernel_rfl) (by kernel_rfl) (by kernel_rfl) (by rfl) (fun _ _ _ h => h) hS ?_ ?_
      rotate_left
      · (intro w hSw; go_simp; first | done | with_reducible rfl)
      simp only [Act.put, List.setIfInBounds_toArray, List.set_cons_zero, List.set_cons_succ]
      refine held_val (i := 3) ?_ 39 rfl rfl (by kernel_rfl) (by kernel_rfl) (by kernel_rfl) (by rfl) (fun _ _ _ h => h) hS ?_ ?_
      rotate_left
      · (intro w hSw; obtain ⟨k0, k1, k2, k3⟩ := HS.out w hSw; go_simp; first | done | with_reducible rfl)
      simp only [Act.put, List.setIfInBounds_toArray, List.set_cons_zero, List.set_cons_succ]
      refine held_val (i := 4) ?_ 40 rfl rfl (by kernel_rfl) (by kernel_rfl) (by kernel_rfl) (by rfl) (fun _ _ _ h => h) hS ?_ ?_
      rotate_left
      · (intro w hSw; go_simp; first | done | with_reducible rfl)
      simp only [Act.put, List.setIfInBounds_toArray, List.set_cons_zero, List.set_cons_succ]
      refine held_val (i := 5) ?_ 41 rfl rfl (by kernel_rfl) (by kernel_rfl) (by kernel_rfl) (by rfl) (fun _ _ _ h => h) hS ?_ ?_
      rotate_left
      · (intro w hSw; obtain ⟨k0, k1, k2, k3⟩ := HS.out w hSw; go_simp; first | done | with_reducible rfl)
      simp only [Act.put, List.setIfInBounds_toArray, List.set_cons_zero, List.set_cons_succ]
      refine held_val (i := 6) ?_ 42 rfl rfl (by kernel_rfl) (by kernel_rfl) (by kernel_rfl) (by rfl) (fun _ _ _ h => h) hS ?_ ?_
      rotate_left
      · (intro w hSw; go_simp; first | done | with_reducible rfl)
      simp only [Act.put, List.setIfInBounds_toArray, List.set_cons_zero, List.set_cons_succ]
      refine held_val (i := 7) ?_ 43 rfl rfl (by kernel_rfl) (by kernel_rfl) (by kernel_rfl) (by rfl) (fun _ _ _ h => h) hS ?_ ?_
      rotate_left
      · (intro w hSw; obtain ⟨k0, k1, k2, k3⟩ := HS.out w hSw; go_simp; first | done | with_reducible rfl)
      simp only [Act.put, List.setIfInBounds_toArray, List.set_cons_zero, List.set_cons_succ]
      refine held_val (i := 8) ?_ 44 rfl rfl (by kernel_rfl) (by kernel_rfl) (by kernel_rfl) (by rfl) (fun _ _ _ h => h) hS ?_ ?_
      rotate_left
      · (intro w hSw; go_simp; first | done | with_reducible rfl)
      simp only [Act.put, List.setIfInBounds_toArray, List.set_cons_zero, List.set_cons_succ]
      refine held_val (i := 9) ?_ 45 rfl rfl (by kernel_rfl) (by kernel_rfl) (by kernel_rfl) (by rfl) (fun _ _ _ h => h) hS ?_ ?_
      rotate_left
      · (intro w hSw; obtain ⟨k0, k1, k2, k3⟩ := HS.out w hSw; go_simp; first | done | with_reducible rfl)
      simp only [Act.put, List.setIfInBounds_toArray, List.set_cons_zero, List.set_cons_succ]
      refine held_call (i := 10) 46 64 #[cp c, .int .i64 (p : Int), .int .i64 0, .int .i64 T2] rfl rfl (by kernel_rfl) (by rfl) (by simp [go_sem]) HC.out ?_
      rintro e w10 ⟨rfl, hS10, HD⟩
      refine ⟨_, rfl, hS10, ?_⟩
      have hS10 := hS10
      simp only [Act.put, List.setIfInBounds_toArray, List.set_cons_zero, List.set_cons_succ]
      refine wpAnyH_done (by kernel_rfl) ?_ _
      clear hS hS10 HC HS
      have HLz : Hid (w10.heap[g4]? = some (mgO mZ) ∧ w10.heap[g5]? = some (mgO ⟨3, (p : Int), 0, 0, 0, T2, false, [], z2, z2, z2, z2⟩)) := by
        have e := HG.out
        have hlt := HA.out.1.lt
        have e5 := HL7.out.2.2.2
        exact ⟨(HD.out.2.block g4 (by omega) (fun h => by have := hlt g4 h; omega)).trans HL7.out.1, (HD.out.2.block g5 e5 (fun h => by have := hlt g5 h; omega)).trans HL7.out.2.1⟩
      obtain ⟨u0, u1, u2, u3, u4, u5, u6, u7, u8, u9, uA, uB⟩ := mg_cells HLz.out.2
      obtain ⟨x0, x1, x2, x3, x4, x5, x6, x7, x8, x9, xA, xB⟩ := mg_cells HLz.out.1
      have xf := mg_fz HLz.out.1
      simp only at u0 u1 u2 u3 u4 u5 u6 u8 u9 uA uB x0 x1 x2 x3 x4 x5 x6 x8 x9 xA xB
      go_wp2
      refine bodyPost_ret (by simp [results, Tryz.results42, go_sem, x0, x1, x2, x3, x4, x5, x6, x7, x8, x9, xA, xB]; try rfl) rfl ?_
      have eM : gvM s p o false = ⟨3, (p : Int), 0, 0, 0, T2, false, [], z2, z2, z2, z2⟩ := by unfold gvM; rw [← HN.out, ← HCC.out.1]
      refine ⟨?_, Ag.closeLoc HA.out.1.lt HL7.out.2.2.1 (g := g4) (by have := HG.out; have := HL7.out.2.2.2; omega) HD.out.1 HD.out.2 ?_⟩
      · show _ = Ending.returned (mgV (gvM s p o false))
        rw [eM]
      · repeat (first | (with_reducible exact OffS.refl _ _) | (with_reducible refine OffS.setCell (A := fun k => k = g4) ?_ rfl _))
  · by_cases hoy : ow = 15
    · subst hoy
      have q6 := (mg_cells HW'.out.1).2.2.2.2.2.2.1
      have q2 := (mg_cells HW'.out.1).2.2.1
      have r4 := (mg_cells HW'.out.2.2).2.2.2.2.1
      have r4f := mg_fz HW'.out.2.2 4
      simp only at q2 q6 r4
      go_upto_region 4 with fail
      have HL : Hid ((W.setCell ⟨g5, 4, none⟩ (.int .i64 T2)).heap[g3]? = some (mgO ⟨mk, (p : Int), (o : Int), mt, mc, mn, true, ps, v0, v1, v2, v3⟩) ∧ (W.setCell ⟨g5, 4, none⟩ (.int .i64 T2)).heap[g4]? = some (mgO mZ) ∧ (W.setCell ⟨g5, 4, none⟩ (.int .i64 T2)).heap[g5]? = some (mgO ⟨3, (p : Int), 0, 0, T2, T2, false, [], z2, z2, z2, z2⟩) ∧ Below w.heap.size w (W.setCell ⟨g5, 4, none⟩ (.int .i64 T2)) ∧ g5 < (W.setCell ⟨g5, 4, none⟩ (.int .i64 T2)).heap.size) := by
        have e := HG.out
        refine ⟨?_, ?_, mg_set4 HW'.out.2.2 T2, HBW.out.1.setCell (p := ⟨g5, 4, none⟩) (by show w.heap.size ≤ g5; omega) _, by have := HBW.out.2; simp; omega⟩
        · rw [Below.heap_setCell _ _ _ _ (show g3 ≠ g5 by omega)]; exact HW'.out.1
        · rw [Below.heap_setCell _ _ _ _ (show g4 ≠ g5 by omega)]; exact HW'.out.2.1
      generalize W.setCell ⟨g5, 4, none⟩ (.int .i64 T2) = V at *
      clear HW' HBW q2 q6 r4 r4f
      have HV : Hid (∀ U, Below V.heap.size V U → U.cell? ⟨a, 0, none⟩ = some (cp c) ∧ U.cell? ⟨g3, 1, none⟩ = some (.int .i64 (p : Int))) := fun U hU =>
        ⟨((HA.out.1.below HL.out.2.2.2.1).below hU).c0, (mg_cells ((hU.block g3 (by have := HG.out; have := HL.out.2.2.2.2; omega)).trans HL.out.1)).2.1⟩
      have HC : Hid (Calls Tryz.prog 63 #[cp c, .int .i64 (p : Int)] V.drew fun e w' => e = .returned (.int .i64 15) ∧ Below V.heap.size V w') := by
        obtain ⟨ao, cap, h⟩ := ((HA.out.1.below HL.out.2.2.2.1).below (bel0 V)).ca
        refine (own_any V.drew _ c _ ao cap _ h (by have := HA.out.1.ll; omega) p).mono ?_
        rintro e w' ⟨rfl, hb⟩
        exact ⟨by first | (rw [HA.out.2.2.2.2]; done) | (rw [HA.out.2.2.2.2]; rfl), below_step (bel0 V) hb⟩
      refine wp_region_held (S := fun U => Below V.heap.size V U) (by kernel_rfl) ?_
      have hS : Below V.heap.size V V.drew := bel0 V
      refine held_val (i := 0) ?_ 18 rfl rfl (by kernel_rfl) (by kernel_rfl) (by kernel_rfl) (by rfl) (fun _ _ _ h => h) hS ?_ ?_
      rotate_left
      · (intro w hSw; go_simp; first | done | with_reducible rfl)
      simp only [Act.put, List.setIfInBounds_toArray, List.set_cons_zero, List.set_cons_succ]
      refine held_val (i := 1) ?_ 19 rfl rfl (by kernel_rfl) (by kernel_rfl) (by kernel_rfl) (by rfl) (fun _ _ _ h => h) hS ?_ ?_
      rotate_left
      · (intro w hSw; go_simp; first | done | with_reducible rfl)
      simp only [Act.put, List.setIfInBounds_toArray, List.set_cons_zero, List.set_cons_succ]
      refine held_val (i := 2) ?_ 20 rfl rfl (by kernel_rfl) (by kernel_rfl) (by kernel_rfl) (by rfl) (fun _ _ _ h => h) hS ?_ ?_
      rotate_left
      · (intro w hSw; go_simp; first | done | with_reducible rfl)
      simp only [Act.put, List.setIfInBounds_toArray, List.set_cons_zero, List.set_cons_succ]
      refine held_val (i := 3) ?_ 21 rfl rfl (by kernel_rfl) (by kernel_rfl) (by kernel_rfl) (by rfl) (fun _ _ _ h => h) hS ?_ ?_
      rotate_left
      · (intro w hSw; obtain ⟨k0, k1⟩ := HV.out w hSw; go_simp; first | done | with_reducible rfl)
      simp only [Act.put, List.setIfInBounds_toArray, List.set_cons_zero, List.set_cons_succ]
      refine held_val (i := 4) ?_ 22 rfl rfl (by kernel_rfl) (by kernel_rfl) (by kernel_rfl) (by rfl) (fun _ _ _ h => h) hS ?_ ?_
      rotate_left
      · (intro w hSw; go_simp; first | done | with_reducible rfl)
      simp only [Act.put, List.setIfInBounds_toArray, List.set_cons_zero, List.set_cons_succ]
      refine held_val (i := 5) ?_ 23 rfl rfl (by kernel_rfl) (by kernel_rfl) (by kernel_rfl) (by rfl) (fun _ _ _ h => h) hS ?_ ?_
      rotate_left
      · (intro w hSw; obtain ⟨k0, k1⟩ := HV.out w hSw; go_simp; first | done | with_reducible rfl)
      simp only [Act.put, List.setIfInBounds_toArray, List.set_cons_zero, List.set_cons_succ]
      refine held_call (i := 6) 24 63 #[cp c, .int .i64 (p : Int)] rfl rfl (by kernel_rfl) (by rfl) (by simp [go_sem]) HC.out ?_
      rintro e w6 ⟨rfl, hS6⟩
      refine ⟨_, rfl, hS6, ?_⟩
      have hS6 := hS6
      simp only [Act.put, List.setIfInBounds_toArray, List.set_cons_zero, List.set_cons_succ]
      refine held_val (i := 7) (.bool true) 25 rfl rfl (by kernel_rfl) (by kernel_rfl) (by kernel_rfl) (by rfl) (fun _ _ _ h => h) hS6 ?_ ?_
      · (intro w hSw; go_simp; first | done | with_reducible rfl)
      simp only [Act.put, List.setIfInBounds_toArray, List.set_cons_zero, List.set_cons_succ]
      refine wpAnyH_done (by kernel_rfl) ?_ _
      have HB : Hid (Below V.heap.size V w6) := hS6
      clear hS hS6 HC HV
      have HL6 : Hid (w6.heap[g3]? = some (mgO ⟨mk, (p : Int), (o : Int), mt, mc, mn, true, ps, v0, v1, v2, v3⟩) ∧ w6.heap[g4]? = some (mgO mZ) ∧ w6.heap[g5]? = some (mgO ⟨3, (p : Int), 0, 0, T2, T2, false, [], z2, z2, z2, z2⟩) ∧ Below w.heap.size w w6 ∧ g5 < w6.heap.size) := by
        have e := HG.out
        have e5 := HL.out.2.2.2.2
        exact ⟨(HB.out.block g3 (by omega)).trans HL.out.1, (HB.out.block g4 (by omega)).trans HL.out.2.1, (HB.out.block g5 (by omega)).trans HL.out.2.2.1, below_step HL.out.2.2.2.1 HB.out, by have := HB.out.size; omega⟩
      clear HB HL
      obtain ⟨NI, hNI⟩ : ∃ z : Int, ((sub16 15 (s.d p).w : Nat) : Int) = z := ⟨_, rfl⟩
      have HN : Hid (NI = ((gvN s p o : Nat) : Int)) := by unfold Hid gvN; rw [HA.out.2.2.2.2, if_pos rfl]; exact hNI.symm
      have bn : bits .andNot .i64 15 ((s.d p).w : Int) = NI := ((not16c 15 (by decide) _ (HA.out.1.dm p).2).1).trans hNI
      clear hNI
      have x1 := ((HA.out.1.below HL6.out.2.2.2.1).cw p HA.out.2.1)
      have x2 := (mg_cells HL6.out.1).2.1
      have x3 := (mg_cells HL6.out.2.2.1).2.2.2.2.2.1
      have x4 := mg_fz HL6.out.2.2.1 5
      simp only at x2 x3
      go_upto_region 5 with fail
      go_region
      have HL7 : Hid ((w6.setCell ⟨g5, 5, none⟩ (.int .i64 NI)).drew.heap[g4]? = some (mgO mZ) ∧ (w6.setCell ⟨g5, 5, none⟩ (.int .i64 NI)).drew.heap[g5]? = some (mgO ⟨3, (p : Int), 0, 0, T2, NI, false, [], z2, z2, z2, z2⟩) ∧ Below w.heap.size w (w6.setCell ⟨g5, 5, none⟩ (.int .i64 NI)).drew ∧ g5 < (w6.setCell ⟨g5, 5, none⟩ (.int .i64 NI)).drew.heap.size) := by
        have e := HG.out
        refine ⟨?_, mg_set5 HL6.out.2.2.1 NI, below_step (HL6.out.2.2.2.1.setCell (p := ⟨g5, 5, none⟩) (by show w.heap.size ≤ g5; omega) _) (bel0 _), by have := HL6.out.2.2.2.2; show g5 < (w6.setCell ⟨g5, 5, none⟩ (.int .i64 NI)).heap.size; simpa using this⟩
        show (w6.setCell ⟨g5, 5, none⟩ (.int .i64 NI)).heap[g4]? = _
        rw [Below.heap_setCell _ _ _ _ (show g4 ≠ g5 by omega)]; exact HL6.out.2.1
      go_upto_region 6 with fail
      generalize (w6.setCell ⟨g5, 5, none⟩ (.int .i64 NI)).drew = Y at *
      clear x1 x2 x3 x4 bn HL6
      have HCC : Hid ((T2 : Int) = ((gvC true o : Nat) : Int) ∧ gvC true o < 16 ∧ gvN s p o < 16) := by
        refine ⟨HA.out.2.2.2.1.symm, two16 o HA.out.2.2.1, ?_⟩
        unfold gvN
        split
        · exact (not16c 15 (by decide) _ (HA.out.1.dm p).2).2
        · exact two16 o HA.out.2.2.1
      have HS : Hid (∀ U : World, (∀ k, k = a ∨ k = g5 → U.heap[k]? = Y.heap[k]?) → U.cell? ⟨a, 0, none⟩ = some (cp c) ∧ U.cell? ⟨g5, 1, none⟩ = some (.int .i64 (p : Int)) ∧ U.cell? ⟨g5, 4, none⟩ = some (.int .i64 T2) ∧ U.cell? ⟨g5, 5, none⟩ = some (.int .i64 NI)) := by
        intro U hU
        have h5 := mg_cells ((hU g5 (.inr rfl)).trans HL7.out.2.1)
        exact ⟨(World.cell?_of_block (w := Y) (w' := U) (a := ⟨a, 0, none⟩) (hU a (.inl rfl))).trans (HA.out.1.below HL7.out.2.2.1).c0, h5.2.1, h5.2.2.2.2.1, h5.2.2.2.2.2.1⟩
      have HC : Hid (Calls Tryz.prog 64 #[cp c, .int .i64 (p : Int), .int .i64 T2, .int .i64 NI] Y.drew fun e w' => e = .returned (.tuple #[]) ∧ (∀ k, k = a ∨ k = g5 → w'.heap[k]? = Y.heap[k]?) ∧ Hid (Ag w' (nwA A Y w') a c pq ko kc (gvS s p o true) ∧ OffS A Y w')) := by
        have hY := (HA.out.1.below HL7.out.2.2.1).below (bel0 Y)
        obtain ⟨ao, cap, h⟩ := hY.ca
        have hd := drop_any Y.drew _ c _ ao cap _ h (by have := HA.out.1.ll; omega) HA.out.1.es p (gvC true o) (gvN s p o) HCC.out.2.1 HCC.out.2.2
        rw [← HCC.out.1, ← HN.out] at hd
        refine hd.mono ?_
        rintro e w' ⟨rfl, h1, h2⟩
        have hx : Nx Y.drew w' (acS A a pq ko) c s.rm (drL s.L p (gvC true o) (gvN s p o)) := ⟨⟨ao, cap, h1.mono fun _ _ h => .inl h⟩, h2⟩
        have hg5 : ¬ A g5 := fun e => by have := HA.out.1.lt g5 e; have := HG.out; omega
        have hlen : (drL s.L p (gvC true o) (gvN s p o)).length ≤ 6 := Nat.le_trans (drL_le _ _ _ _) HA.out.1.ll
        refine ⟨rfl, ?_, hY.cache hx (HA.out.1.es.drL _ _ _ HCC.out.2.1 HCC.out.2.2) hlen, ⟨h2.os, h2.tape, h2.output, h2.size, fun k hk hn => h2.block k hk fun e => hn e.1⟩⟩
        rintro k (rfl | rfl)
        · exact h2.block k (Nat.lt_of_lt_of_le HA.out.1.sz HL7.out.2.2.1.size) fun e => e.2.1 rfl
        · exact h2.block k HL7.out.2.2.2 fun e => hg5 e.1
      refine wp_region_held (S := fun U => ∀ k, k = a ∨ k = g5 → U.heap[k]? = Y.heap[k]?) (by kernel_rfl) ?_
      have hS : ∀ k, k = a ∨ k = g5 → Y.drew.heap[k]? = Y.heap[k]? := fun _ _ => rfl
      refine held_val (i := 0) ?_ 36 rfl rfl (by kernel_rfl) (by kernel_rfl) (by kernel_rfl) (by rfl) (fun _ _ _ h => h) hS ?_ ?_
      rotate_left
      · (intro w hSw; go_simp; first | done | with_reducible rfl)
      simp only [Act.put, List.setIfInBounds_toArray, List.set_cons_zero, List.set_cons_succ]
      refine held_val (i := 1) ?_ 37 rfl rfl (by kernel_rfl) (by kernel_rfl) (by kernel_rfl) (by rfl) (fun _ _ _ h => h) hS ?_ ?_
      rotate_left
      · (intro w hSw; go_simp; first | done | with_reducible rfl)
      simp only [Act.put, List.setIfInBounds_toArray, List.set_cons_zero, List.set_cons_succ]
      refine held_val (i := 2) ?_ 38 rfl rfl (by kernel_rfl) (by kernel_rfl) (by kernel_rfl) (by rfl) (fun _ _ _ h => h) hS ?_ ?_
      rotate_left
      · (intro w hSw; go_simp; first | done | with_reducible rfl)
      simp only [Act.put, List.setIfInBounds_toArray, List.set_cons_zero, List.set_cons_succ]
      refine held_val (i := 3) ?_ 39 rfl rfl (by kernel_rfl) (by kernel_rfl) (by kernel_rfl) (by rfl) (fun _ _ _ h => h) hS ?_ ?_
      rotate_left
      · (intro w hSw; obtain ⟨k0, k1, k2, k3⟩ := HS.out w hSw; go_simp; first | done | with_reducible rfl)
      simp only [Act.put, List.setIfInBounds_toArray, List.set_cons_zero, List.set_cons_succ]
      refine held_val (i := 4) ?_ 40 rfl rfl (by kernel_rfl) (by kernel_rfl) (by kernel_rfl) (by rfl) (fun _ _ _ h => h) hS ?_ ?_
      rotate_left
      · (intro w hSw; go_simp; first | done | with_reducible rfl)
      simp only [Act.put, List.setIfInBounds_toArray, List.set_cons_zero, List.set_cons_succ]
      refine held_val (i := 5) ?_ 41 rfl rfl (by kernel_rfl) (by kernel_rfl) (by kernel_rfl) (by rfl) (fun _ _ _ h => h) hS ?_ ?_
      rotate_left
      · (intro w hSw; obtain ⟨k0, k1, k2, k3⟩ := HS.out w hSw; go_simp; first | done | with_reducible rfl)
      simp only [Act.put, List.setIfInBounds_toArray, List.set_cons_zero, List.set_cons_succ]
      refine held_val (i := 6) ?_ 42 rfl rfl (by kernel_rfl) (by kernel_rfl) (by kernel_rfl) (by rfl) (fun _ _ _ h => h) hS ?_ ?_
      rotate_left
      · (intro w hSw; go_simp; first | done | with_reducible rfl)
      simp only [Act.put, List.setIfInBounds_toArray, List.set_cons_zero, List.set_cons_succ]
      refine held_val (i := 7) ?_ 43 rfl rfl (by kernel_rfl) (by kernel_rfl) (by kernel_rfl) (by rfl) (fun _ _ _ h => h) hS ?_ ?_
      rotate_left
      · (intro w hSw; obtain ⟨k0, k1, k2, k3⟩ := HS.out w hSw; go_simp; first | done | with_reducible rfl)
      simp only [Act.put, List.setIfInBounds_toArray, List.set_cons_zero, List.set_cons_succ]
      refine held_val (i := 8) ?_ 44 rfl rfl (by kernel_rfl) (by kernel_rfl) (by kernel_rfl) (by rfl) (fun _ _ _ h => h) hS ?_ ?_
      rotate_left
      · (intro w hSw; go_simp; first | done | with_reducible rfl)
      simp only [Act.put, List.setIfInBounds_toArray, List.set_cons_zero, List.set_cons_succ]
      refine held_val (i := 9) ?_ 45 rfl rfl (by kernel_rfl) (by kernel_rfl) (by kernel_rfl) (by rfl) (fun _ _ _ h => h) hS ?_ ?_
      rotate_left
      · (intro w hSw; obtain ⟨k0, k1, k2, k3⟩ := HS.out w hSw; go_simp; first | done | with_reducible rfl)
      simp only [Act.put, List.setIfInBounds_toArray, List.set_cons_zero, List.set_cons_succ]
      refine held_call (i := 10) 46 64 #[cp c, .int .i64 (p : Int), .int .i64 T2, .int .i64 NI] rfl rfl (by kernel_rfl) (by rfl) (by simp [go_sem]) HC.out ?_
      rintro e w10 ⟨rfl, hS10, HD⟩
      refine ⟨_, rfl, hS10, ?_⟩
      have hS10 := hS10
      simp only [Act.put, List.setIfInBounds_toArray, List.set_cons_zero, List.set_cons_succ]
      refine wpAnyH_done (by kernel_rfl) ?_ _
      clear hS hS10 HC HS
      have HLz : Hid (w10.heap[g4]? = some (mgO mZ) ∧ w10.heap[g5]? = some (mgO ⟨3, (p : Int), 0, 0, T2, NI, false, [], z2, z2, z2, z2⟩)) := by
        have e := HG.out
        have hlt := HA.out.1.lt
        have e5 := HL7.out.2.2.2
        exact ⟨(HD.out.2.block g4 (by omega) (fun h => by have := hlt g4 h; omega)).trans HL7.out.1, (HD.out.2.block g5 e5 (fun h => by have := hlt g5 h; omega)).trans HL7.out.2.1⟩
      obtain ⟨u0, u1, u2, u3, u4, u5, u6, u7, u8, u9, uA, uB⟩ := mg_cells HLz.out.2
      obtain ⟨x0, x1, x2, x3, x4, x5, x6, x7, x8, x9, xA, xB⟩ := mg_cells HLz.out.1
      have xf := mg_fz HLz.out.1
      simp only at u0 u1 u2 u3 u4 u5 u6 u8 u9 uA uB x0 x1 x2 x3 x4 x5 x6 x8 x9 xA xB
      go_wp2
      refine bodyPost_ret (by simp [results, Tryz.results42, go_sem, x0, x1, x2, x3, x4, x5, x6, x7, x8, x9, xA, xB]; try rfl) rfl ?_
      have eM : gvM s p o true = ⟨3, (p : Int), 0, 0, T2, NI, false, [], z2, z2, z2, z2⟩ := by unfold gvM; rw [← HN.out, ← HCC.out.1]
      refine ⟨?_, Ag.closeLoc HA.out.1.lt HL7.out.2.2.1 (g := g4) (by have := HG.out; have := HL7.out.2.2.2; omega) HD.out.1 HD.out.2 ?_⟩
      · show _ = Ending.returned (mgV (gvM s p o true))
        rw [eM]
      · repeat (first | (with_reducible exact OffS.refl _ _) | (with_reducible refine OffS.setCell (A := fun k => k = g4) ?_ rfl _))
    · have how : Hid (¬ ow = 15) := hoy
      have e15 : ((ow : Int) == 15) = false := by simp; omega
      clear hoy
      have q6 := (mg_cells HW'.out.1).2.2.2.2.2.2.1
      have q2 := (mg_cells HW'.out.1).2.2.1
      have r4 := (mg_cells HW'.out.2.2).2.2.2.2.1
      have r4f := mg_fz HW'.out.2.2 4
      simp only at q2 q6 r4
      go_upto_region 4 with fail
      have HL : Hid ((W.setCell ⟨g5, 4, none⟩ (.int .i64 T2)).heap[g3]? = some (mgO ⟨mk, (p : Int), (o : Int), mt, mc, mn, true, ps, v0, v1, v2, v3⟩) ∧ (W.setCell ⟨g5, 4, none⟩ (.int .i64 T2)).heap[g4]? = some (mgO mZ) ∧ (W.setCell ⟨g5, 4, none⟩ (.int .i64 T2)).heap[g5]? = some (mgO ⟨3, (p : Int), 0, 0, T2, T2, false, [], z2, z2, z2, z2⟩) ∧ Below w.heap.size w (W.setCell ⟨g5, 4, none⟩ (.int .i64 T2)) ∧ g5 < (W.setCell ⟨g5, 4, none⟩ (.int .i64 T2)).heap.size) := by
        have e := HG.out
        refine ⟨?_, ?_, mg_set4 HW'.out.2.2 T2, HBW.out.1.setCell (p := ⟨g5, 4, none⟩) (by show w.heap.size ≤ g5; omega) _, by have := HBW.out.2; simp; omega⟩
        · rw [Below.heap_setCell _ _ _ _ (show g3 ≠ g5 by omega)]; exact HW'.out.1
        · rw [Below.heap_setCell _ _ _ _ (show g4 ≠ g5 by omega)]; exact HW'.out.2.1
      generalize W.setCell ⟨g5, 4, none⟩ (.int .i64 T2) = V at *
      clear HW' HBW q2 q6 r4 r4f
      have HV : Hid (∀ U, Below V.heap.size V U → U.cell? ⟨a, 0, none⟩ = some (cp c) ∧ U.cell? ⟨g3, 1, none⟩ = some (.int .i64 (p : Int))) := fun U hU =>
        ⟨((HA.out.1.below HL.out.2.2.2.1).below hU).c0, (mg_cells ((hU.block g3 (by have := HG.out; have := HL.out.2.2.2.2; omega)).trans HL.out.1)).2.1⟩
      have HC : Hid (Calls Tryz.prog 63 #[cp c, .int .i64 (p : Int)] V.drew fun e w' => e = .returned (.int .i64 (ow : Int)) ∧ Below V.heap.size V w') := by
        obtain ⟨ao, cap, h⟩ := ((HA.out.1.below HL.out.2.2.2.1).below (bel0 V)).ca
        refine (own_any V.drew _ c _ ao cap _ h (by have := HA.out.1.ll; omega) p).mono ?_
        rintro e w' ⟨rfl, hb⟩
        exact ⟨by first | (rw [HA.out.2.2.2.2]; done) | (rw [HA.out.2.2.2.2]; rfl), below_step (bel0 V) hb⟩
      refine wp_region_held (S := fun U => Below V.heap.size V U) (by kernel_rfl) ?_
      have hS : Below V.heap.size V V.drew := bel0 V
      refine held_val (i := 0) ?_ 18 rfl rfl (by kernel_rfl) (by kernel_rfl) (by kernel_rfl) (by rfl) (fun _ _ _ h => h) hS ?_ ?_
      rotate_left
      · (intro w hSw; go_simp; first | done | with_reducible rfl)
      simp only [Act.put, List.setIfInBounds_toArray, List.set_cons_zero, List.set_cons_succ]
      refine held_val (i := 1) ?_ 19 rfl rfl (by kernel_rfl) (by kernel_rfl) (by kernel_rfl) (by rfl) (fun _ _ _ h => h) hS ?_ ?_
      rotate_left
      · (intro w hSw; go_simp; first | done | with_reducible rfl)
      simp only [Act.put, List.setIfInBounds_toArray, List.set_cons_zero, List.set_cons_succ]
      refine held_val (i := 2) ?_ 20 rfl rfl (by kernel_rfl) (by kernel_rfl) (by kernel_rfl) (by rfl) (fun _ _ _ h => h) hS ?_ ?_
      rotate_left
      · (intro w hSw; go_simp; first | done | with_reducible rfl)
      simp only [Act.put, List.setIfInBounds_toArray, List.set_cons_zero, List.set_cons_succ]
      refine held_val (i := 3) ?_ 21 rfl rfl (by kernel_rfl) (by kernel_rfl) (by kernel_rfl) (by rfl) (fun _ _ _ h => h) hS ?_ ?_
      rotate_left
      · (intro w hSw; obtain ⟨k0, k1⟩ := HV.out w hSw; go_simp; first | done | with_reducible rfl)
      simp only [Act.put, List.setIfInBounds_toArray, List.set_cons_zero, List.set_cons_succ]
      refine held_val (i := 4) ?_ 22 rfl rfl (by kernel_rfl) (by kernel_rfl) (by kernel_rfl) (by rfl) (fun _ _ _ h => h) hS ?_ ?_
      rotate_left
      · (intro w hSw; go_simp; first | done | with_reducible rfl)
      simp only [Act.put, List.setIfInBounds_toArray, List.set_cons_zero, List.set_cons_succ]
      refine held_val (i := 5) ?_ 23 rfl rfl (by kernel_rfl) (by kernel_rfl) (by kernel_rfl) (by rfl) (fun _ _ _ h => h) hS ?_ ?_
      rotate_left
      · (intro w hSw; obtain ⟨k0, k1⟩ := HV.out w hSw; go_simp; first | done | with_reducible rfl)
      simp only [Act.put, List.setIfInBounds_toArray, List.set_cons_zero, List.set_cons_succ]
      refine held_call (i := 6) 24 63 #[cp c, .int .i64 (p : Int)] rfl rfl (by kernel_rfl) (by rfl) (by simp [go_sem]) HC.out ?_
      rintro e w6 ⟨rfl, hS6⟩
      refine ⟨_, rfl, hS6, ?_⟩
      have hS6 := hS6
      simp only [Act.put, List.setIfInBounds_toArray, List.set_cons_zero, List.set_cons_succ]
      refine held_val (i := 7) (.bool false) 25 rfl rfl (by kernel_rfl) (by kernel_rfl) (by kernel_rfl) (by rfl) (fun _ _ _ h => h) hS6 ?_ ?_
      · (intro w hSw; go_simp; first | done | with_reducible rfl)
      simp only [Act.put, List.setIfInBounds_toArray, List.set_cons_zero, List.set_cons_succ]
      refine wpAnyH_done (by kernel_rfl) ?_ _
      have HB : Hid (Below V.heap.size V w6) := hS6
      clear hS hS6 HC HV
      have HL6 : Hid (w6.heap[g3]? = some (mgO ⟨mk, (p : Int), (o : Int), mt, mc, mn, true, ps, v0, v1, v2, v3⟩) ∧ w6.heap[g4]? = some (mgO mZ) ∧ w6.heap[g5]? = some (mgO ⟨3, (p : Int), 0, 0, T2, T2, false, [], z2, z2, z2, z2⟩) ∧ Below w.heap.size w w6 ∧ g5 < w6.heap.size) := by
        have e := HG.out
        have e5 := HL.out.2.2.2.2
        exact ⟨(HB.out.block g3 (by omega)).trans HL.out.1, (HB.out.block g4 (by omega)).trans HL.out.2.1, (HB.out.block g5 (by omega)).trans HL.out.2.2.1, below_step HL.out.2.2.2.1 HB.out, by have := HB.out.size; omega⟩
      clear HB HL
      have HN : Hid (T2 = ((gvN s p o : Nat) : Int)) := by unfold Hid gvN; rw [HA.out.2.2.2.2, if_neg how.out]; exact HA.out.2.2.2.1.symm
      have HL7 : Hid (w6.heap[g4]? = some (mgO mZ) ∧ w6.heap[g5]? = some (mgO ⟨3, (p : Int), 0, 0, T2, T2, false, [], z2, z2, z2, z2⟩) ∧ Below w.heap.size w w6 ∧ g5 < w6.heap.size) := HL6.out.2
      go_upto_region 6 with fail
      generalize w6 = Y at *
      clear HL6
      have HCC : Hid ((T2 : Int) = ((gvC true o : Nat) : Int) ∧ gvC true o < 16 ∧ gvN s p o < 16) := by
        refine ⟨HA.out.2.2.2.1.symm, two16 o HA.out.2.2.1, ?_⟩
        unfold gvN
        split
        · exact (not16c 15 (by decide) _ (HA.out.1.dm p).2).2
        · exact two16 o HA.out.2.2.1
      have HS : Hid (∀ U : World, (∀ k, k = a ∨ k = g5 → U.heap[k]? = Y.heap[k]?) → U.cell? ⟨a, 0, none⟩ = some (cp c) ∧ U.cell? ⟨g5, 1, none⟩ = some (.int .i64 (p : Int)) ∧ U.cell? ⟨g5, 4, none⟩ = some (.int .i64 T2) ∧ U.cell? ⟨g5, 5, none⟩ = some (.int .i64 T2)) := by
        intro U hU
        have h5 := mg_cells ((hU g5 (.inr rfl)).trans HL7.out.2.1)
        exact ⟨(World.cell?_of_block (w := Y) (w' := U) (a := ⟨a, 0, none⟩) (hU a (.inl rfl))).trans (HA.out.1.below HL7.out.2.2.1).c0, h5.2.1, h5.2.2.2.2.1, h5.2.2.2.2.2.1⟩
      have HC : Hid (Calls Tryz.prog 64 #[cp c, .int .i64 (p : Int), .int .i64 T2, .int .i64 T2] Y.drew fun e w' => e = .returned (.tuple #[]) ∧ (∀ k, k = a ∨ k = g5 → w'.heap[k]? = Y.heap[k]?) ∧ Hid (Ag w' (nwA A Y w') a c pq ko kc (gvS s p o true) ∧ OffS A Y w')) := by
        have hY := (HA.out.1.below HL7.out.2.2.1).below (bel0 Y)
        obtain ⟨ao, cap, h⟩ := hY.ca
        have hd := drop_any Y.drew _ c _ ao cap _ h (by have := HA.out.1.ll; omega) HA.out.1.es p (gvC true o) (gvN s p o) HCC.out.2.1 HCC.out.2.2
        rw [← HCC.out.1, ← HN.out] at hd
        refine hd.mono ?_
        rintro e w' ⟨rfl, h1, h2⟩
        have hx : Nx Y.drew w' (acS A a pq ko) c s.rm (drL s.L p (gvC true o) (gvN s p o)) := ⟨⟨ao, cap, h1.mono fun _ _ h => .inl h⟩, h2⟩
        have hg5 : ¬ A g5 := fun e => by have := HA.out.1.lt g5 e; have := HG.out; omega
        have hlen : (drL s.L p (gvC true o) (gvN s p o)).length ≤ 6 := Nat.le_trans (drL_le _ _ _ _) HA.out.1.ll
        refine ⟨rfl, ?_, hY.cache hx (HA.out.1.es.drL _ _ _ HCC.out.2.1 HCC.out.2.2) hlen, ⟨h2.os, h2.tape, h2.output, h2.size, fun k hk hn => h2.block k hk fun e => hn e.1⟩⟩
        rintro k (rfl | rfl)
        · exact h2.block k (Nat.lt_of_lt_of_le HA.out.1.sz HL7.out.2.2.1.size) fun e => e.2.1 rfl
        · exact h2.block k HL7.out.2.2.2 fun e => hg5 e.1
      refine wp_region_held (S := fun U => ∀ k, k = a ∨ k = g5 → U.heap[k]? = Y.heap[k]?) (by kernel_rfl) ?_
      have hS : ∀ k, k = a ∨ k = g5 → Y.drew.heap[k]? = Y.heap[k]? := fun _ _ => rfl
      refine held_val (i := 0) ?_ 36 rfl rfl (by kernel_rfl) (by kernel_rfl) (by kernel_rfl) (by rfl) (fun _ _ _ h => h) hS ?_ ?_
      rotate_left
      · (intro w hSw; go_simp; first | done | with_reducible rfl)
      simp only [Act.put, List.setIfInBounds_toArray, List.set_cons_zero, List.set_cons_succ]
      refine held_val (i := 1) ?_ 37 rfl rfl (by kernel_rfl) (by kernel_rfl) (by kernel_rfl) (by rfl) (fun _ _ _ h => h) hS ?_ ?_
      rotate_left
      · (intro w hSw; go_simp; first | done | with_reducible rfl)
      simp only [Act.put, List.setIfInBounds_toArray, List.set_cons_zero, List.set_cons_succ]
      refine held_val (i := 2) ?_ 38 rfl rfl (by kernel_rfl) (by kernel_rfl) (by kernel_rfl) (by rfl) (fun _ _ _ h => h) hS ?_ ?_
      rotate_left
      · (intro w hSw; go_simp; first | done | with_reducible rfl)
      simp only [Act.put, List.setIfInBounds_toArray, List.set_cons_zero, List.set_cons_succ]
      refine held_val (i := 3) ?_ 39 rfl rfl (by kernel_rfl) (by kernel_rfl) (by kernel_rfl) (by rfl) (fun _ _ _ h => h) hS ?_ ?_
      rotate_left
      · (intro w hSw; obtain ⟨k0, k1, k2, k3⟩ := HS.out w hSw; go_simp; first | done | with_reducible rfl)
      simp only [Act.put, List.setIfInBounds_toArray, List.set_cons_zero, List.set_cons_succ]
      refine held_val (i := 4) ?_ 40 rfl rfl (by kernel_rfl) (by kernel_rfl) (by kernel_rfl) (by rfl) (fun _ _ _ h => h) hS ?_ ?_
      rotate_left
      · (intro w hSw; go_simp; first | done | with_reducible rfl)
      simp only [Act.put, List.setIfInBounds_toArray, List.set_cons_zero, List.set_cons_succ]
      refine held_val (i := 5) ?_ 41 rfl rfl (by kernel_rfl) (by kernel_rfl) (by kernel_rfl) (by rfl) (fun _ _ _ h => h) hS ?_ ?_
      rotate_left
      · (intro w hSw; obtain ⟨k0, k1, k2, k3⟩ := HS.out w hSw; go_simp; first | done | with_reducible rfl)
      simp only [Act.put, List.setIfInBounds_toArray, List.set_cons_zero, List.set_cons_succ]
      refine held_val (i := 6) ?_ 42 rfl rfl (by kernel_rfl) (by kernel_rfl) (by kernel_rfl) (by rfl) (fun _ _ _ h => h) hS ?_ ?_
      rotate_left
      · (intro w hSw; go_simp; first | done | with_reducible rfl)
      simp only [Act.put, List.setIfInBounds_toArray, List.set_cons_zero, List.set_cons_succ]
      refine held_val (i := 7) ?_ 43 rfl rfl (by kernel_rfl) (by kernel_rfl) (by kernel_rfl) (by rfl) (fun _ _ _ h => h) hS ?_ ?_
      rotate_left
      · (intro w hSw; obtain ⟨k0, k1, k2, k3⟩ := HS.out w hSw; go_simp; first | done | with_reducible rfl)
      simp only [Act.put, List.setIfInBounds_toArray, List.set_cons_zero, List.set_cons_succ]
      refine held_val (i := 8) ?_ 44 rfl rfl (by kernel_rfl) (by kernel_rfl) (by kernel_rfl) (by rfl) (fun _ _ _ h => h) hS ?_ ?_
      rotate_left
      · (intro w hSw; go_simp; first | done | with_reducible rfl)
      simp only [Act.put, List.setIfInBounds_toArray, List.set_cons_zero, List.set_cons_succ]
      refine held_val (i := 9) ?_ 45 rfl rfl (by kernel_rfl) (by kernel_rfl) (by kernel_rfl) (by rfl) (fun _ _ _ h => h) hS ?_ ?_
      rotate_left
      · (intro w hSw; obtain ⟨k0, k1, k2, k3⟩ := HS.out w hSw; go_simp; first | done | with_reducible rfl)
      simp only [Act.put, List.setIfInBounds_toArray, List.set_cons_zero, List.set_cons_succ]
      refine held_call (i := 10) 46 64 #[cp c, .int .i64 (p : Int), .int .i64 T2, .int .i64 T2] rfl rfl (by kernel_rfl) (by rfl) (by simp [go_sem]) HC.out ?_
      rintro e w10 ⟨rfl, hS10, HD⟩
      refine ⟨_, rfl, hS10, ?_⟩
      have hS10 := hS10
      simp only [Act.put, List.setIfInBounds_toArray, List.set_cons_zero, List.set_cons_succ]
      refine wpAnyH_done (by kernel_rfl) ?_ _
      clear hS hS10 HC HS
      have HLz : Hid (w10.heap[g4]? = some (mgO mZ) ∧ w10.heap[g5]? = some (mgO ⟨3, (p : Int), 0, 0, T2, T2, false, [], z2, z2, z2, z2⟩)) := by
        have e := HG.out
        have hlt := HA.out.1.lt
        have e5 := HL7.out.2.2.2
        exact ⟨(HD.out.2.block g4 (by omega) (fun h => by have := hlt g4 h; omega)).trans HL7.out.1, (HD.out.2.block g5 e5 (fun h => by have := hlt g5 h; omega)).trans HL7.out.2.1⟩
      obtain ⟨u0, u1, u2, u3, u4, u5, u6, u7, u8, u9, uA, uB⟩ := mg_cells HLz.out.2
      obtain ⟨x0, x1, x2, x3, x4, x5, x6, x7, x8, x9, xA, xB⟩ := mg_cells HLz.out.1
      have xf := mg_fz HLz.out.1
      simp only at u0 u1 u2 u3 u4 u5 u6 u8 u9 uA uB x0 x1 x2 x3 x4 x5 x6 x8 x9 xA xB
      go_wp2
      refine bodyPost_ret (by simp [results, Tryz.results42, go_sem, x0, x1, x2, x3, x4, x5, x6, x7, x8, x9, xA, xB]; try rfl) rfl ?_
      have eM : gvM s p o true = ⟨3, (p : Int), 0, 0, T2, T2, false, [], z2, z2, z2, z2⟩ := by unfold gvM; rw [← HN.out, ← HCC.out.1]
      refine ⟨?_, Ag.closeLoc HA.out.1.lt HL7.out.2.2.1 (g := g4) (by have := HG.out; have := HL7.out.2.2.2; omega) HD.out.1 HD.out.2 ?_⟩
      · show _ = Ending.returned (mgV (gvM s p o true))
        rw [eM]
      · repeat (first | (with_reducible exact OffS.refl _ _) | (with_reducible refine OffS.setCell (A := fun k => k = g4) ?_ rfl _))
end Go.Proofs.YtmmgdmfdiaoegaaGreat
